import Derived.Test.YtfbmmcnpjhmjaaaGreatDoorM03
import Derived.Maps.AppendAt
import Derived.Laws.Bits64b
set_option maxRecDepth 100000
set_option maxHeartbeats 8000000
open Go.IntKind renaming i64 -> Z9, u64 -> Z8
open Go.Value renaming int -> Z7, slice -> Z6
open Go.Obj renaming cells -> Z5
open Go.Ending renaming returned -> Z4
open Option renaming none -> Z3, some -> Z2
open Go renaming World -> Z1, Value -> Z0
open List renaming getElem?_eq_getElem -> Tm, length_drop -> Tp, drop_drop -> Tq, getD_eq_getElem?_getD -> Tu, length_take -> Tv, mem_of_mem_take -> Tx, append_assoc -> Ty, take_add_one -> TB, take_length -> TC, eq_nil_of_length_eq_zero -> TD, getElem?_map -> TE
open Nat renaming lt_of_lt_of_le -> Tn, add_assoc -> To, mod_lt -> Tr, mod_eq_of_lt -> Ts, le_refl -> Tt, le_trans -> Tw, xor_lt_two_pow -> Tz, pow_le_pow_right -> TA
open Go.Proofs.Tryz renaming prog -> ZZ
namespace Go.Proofs.YtfbmmcnpjhmjaaaGreatDoor
open Go.RowKit Go.Deep
variable {vals:Array Z0} {l:List Nat} {b off c q:Nat} {w w0:Z1}
theorem bU (a b:List Nat):aH (a++b)=aH a++aH b:=by simp [aH]
theorem D4 (n:Nat):∀ (s k:Nat),k<s->(be n s).take (s-k)=(be n s).take (s-(k+1))++[n/256^k%256]
 | 0,k,h=>absurd h (by omega)
 | s+1,k,h=>by
  by_cases e:k=s
  . subst e;rw [show k+1-k=1 by omega,Nat.sub_self];simp [be]
  . have ih:=D4 n s k (by omega);rw [show s+1-k=(s-k)+1 by omega,show s+1-(k+1)=(s-(k+1))+1 by omega];simp only [be,List.take_succ_cons,List.cons_append,ih]
theorem Lf (n k:Nat):((n:Int)/2^(8*k)%256)=((n/256^k%256:Nat):Int):=by
 have e:(2:Nat)^(8*k)=256^k:=by rw [Nat.pow_mul]
 have a:((2:Int)^(8*k))=((256^k:Nat):Int):=by rw [<- e];norm_cast
 rw [a];omega
theorem rC (w:Z1) (x:Z0) (t:TypeId):∀ j u,[x][j]?=Z2 u->(w.alloc (Z5 #[x] t)).cell? ((⟨w.heap.size,0,Z3⟩:Addr).add j)=Z2 u:=by
 intro j u h;rw [mw];match j,h with
 | 0,h=>simp at h;subst h;simp only [World.cell?,blk_alloc_new w (Z5 #[x] t)];rfl
 | j+1,h=>simp at h
def Qa (w:Z1) (base:Nat) (n s k0:Nat) (xs:List Z0) (v0:Z0) (b i:Z0) (wr:Z1):Prop:=
 ∃ (k:Nat) (v:Z0),k<=s/\i=Z7 Z9 ((k:Int)-1)/\b=v/\wr.ownsRow base 5 1 v (k0+(s-k)) (xs++aH ((be n s).take (s-k)))/\aa (λj=>v0.ownBlock=Z2 j) w wr/\(∀ j,v.ownBlock=Z2 j->v0.ownBlock=Z2 j\/w.heap.size<=j)
theorem eR (base:Nat) (d:Z0) (c:Nat) (xs:List Z0) (n s:Nat) (w:Z1) (z:w.ownsRow base 5 1 d c xs) (x:base<=w.heap.size) (q:s<=8) (K:c<=1000000000) :
 Calls ZZ 149 #[d,Z7 Z8 n,Z7 Z9 s] w λe w'=>∃ l,e=Z4 l/\w'.ownsRow base 5 1 l (c+s) (xs++aH (be n s))/\aa (λj=>d.ownBlock=Z2 j) w w'/\(∀ j,l.ownBlock=Z2 j->d.ownBlock=Z2 j\/w.heap.size<=j):=by
 obtain ⟨G,B,D,E,F⟩:=info_parts Tryz.infoByte;go_enter Tryz.func149,Tryz.ntmps149;go_wp2;go_loopw [0,7] (λb i wr=>Qa w base n s c xs d b i wr) (λ_ i _=>(intOf i+1).toNat)
 case atStart=>exact ⟨s,d,Tt _,by go_num,rfl,by rw [Nat.sub_self];simpa [aH] using z,aa.refl _ _,λj h=>.inl h⟩
 case round=>
  obtain ⟨k,v,L,rfl,rfl,m,a,f⟩:=hrel;cases k with
  | zero=>
   have p:((0:Nat):Int)-1=-1:=(by omega);rw [p];have t:=hide3 m a f;clear m a f;go_wp2;go_ret;obtain ⟨m,a,f⟩:=t.out;refine ⟨_,rfl,?_,a,f⟩;rwa [Nat.sub_zero,List.take_of_length_le (by rw [bT];exact Tt _)] at m
  | succ k=>
   have p:((k+1:Nat):Int)-1=(k:Int):=(by omega);rw [p];have I:¬ (8*(k:Int))<0:=(by omega);have J:=Tw x a.size;go_wp2_with (at_builtin;refine wpList_append_own_at _ rfl (.tmp 14) (.tmp 20) 34 rfl base 5 G (Z7 .u8 0) 1 1 Tryz.underlying34 B D E F rfl (by decide) u0 (c+(s-(k+1))) _ rfl (m.alloc _) ⟨wr.heap.size,0,Z3⟩ 1 1 _ rfl rfl (rC wr _ _) (by intro u r;simp at r;subst r;rfl) (by unfold maxLen;omega) (by omega) (by simp;omega) ?_;intro l w' ho o H A);have C:(wr.alloc (Z5 #[Z7 .u8 ((n:Int)/2^(8*k)%256)] 5)).heap.size=wr.heap.size+1:=(by simp);have M:=a.size;have y:∀ j,l.ownBlock=Z2 j->d.ownBlock=Z2 j\/w.heap.size<=j:=λj g=>by
    rcases A with e|e
    . exact f j (e▸g)
    . rw [e] at g;cases g;rw [C];exact .inr (by omega)
   refine ⟨⟨k,l,by omega,by go_num,rfl,?_,?_,y⟩,by simp [intOf]⟩
   . rw [Lf] at ho;rw [D4 n s k (by omega),bU,<- Ty,show c+(s-k)=c+(s-(k+1))+1 by omega];exact ho
   . exact (a.later (aa.alloc (S:=λ_=>False) _ _) (λ_ _ h=>h.elim)).later (T:=λj=>u0.ownBlock=Z2 j) ⟨o.os,o.tape,o.output,o.size,λj g q=>o.block j g (λe=>q e.symm)⟩ (λj g h=>by
      rcases f j h with e|e
      . exact e
      . omega)
theorem Nc (n x:Nat) (c:x<256):bits .or .u64 (IntKind.u64.wrap ((n:Int)*256)) (x:Int)=(((n*256+x)%18446744073709551616:Nat):Int):=by
 have a:IntKind.u64.wrap ((n:Int)*256)=((n*256%18446744073709551616:Nat):Int):=by rw [IntKind.wrap_u64];omega
 rw [a,bits_or_u64_nat _ _ (Tr _ (by decide)) (by omega)];congr 1;have b:n*256%18446744073709551616=2^8*(n%72057594037927936):=by omega
 rw [b,<- Nat.two_pow_add_eq_or_of_lt (i:=8) (by omega)];omega
theorem D5 (a b:Nat) (c:a<4294967296) (d:b<4294967296):bits .xor .u32 (a:Int) (b:Int)=((a^^^b:Nat):Int):=by
 have e:a%2^IntKind.u32.bits=a:=Ts c;have f:b%2^IntKind.u32.bits=b:=Ts d;have g:a^^^b<2^32:=Tz c d;simp only [bits,BitVec.ofInt_natCast,BitVec.toNat_xor,BitVec.toNat_ofNat,e,f];rw [IntKind.wrap_u32];omega
theorem Nd (r:Nat) (a:r<4294967296):bits .xor .u32 IntKind.u32.max (r:Int)=((4294967295-r:Nat):Int):=by
 have e:IntKind.u32.max=((4294967295:Nat):Int):=rfl;rw [e,D5 _ _ (by decide) a];congr 1;refine Nat.eq_of_testBit_eq λi=>?_;have c:=Nat.testBit_two_pow_sub_succ (n:=32) (x:=r) a i;have d:=Nat.testBit_two_pow_sub_one 32 i;rw [Nat.testBit_xor,show (4294967295:Nat)-r=2^32-(r+1) by omega,c,show (4294967295:Nat)=2^32-1 from rfl,d];by_cases b:i<32
 . simp [b]
 . have:r.testBit i=false:=Nat.testBit_lt_two_pow (Tn a (by have:=TA (n:=2) (by decide) (show 32<=i by omega);omega));simp [b,this]
theorem MK (a b:Nat) (c:a<4294967296) (d:b<4294967296):bits .and .u32 (a:Int) (b:Int)=((a &&& b:Nat):Int):=(bits_nat .u32 32 (by decide) (λn e f=>by rw [IntKind.wrap_u32];omega) a b c d).1
theorem O7 (a:Nat):a &&& 15=a%16:=Nat.and_two_pow_sub_one_eq_mod a 4
theorem ES (l:List Nat) (k:Nat) (h:k<l.length):ew (l.take (k+1))=lT (ew (l.take k)) (l.getD k 0):=by
 rw [TB,Tm h];unfold ew;rw [List.foldl_append,Tu,Tm h];rfl
theorem Hw (l:List Nat) (k:Nat) (h:k<l.length):gy (l.take (k+1))=(gy (l.take k)*256+l.getD k 0)%18446744073709551616:=by
 rw [TB,Tm h,Tu,Tm h];exact zl _ _
def O8 (w:Z1) (l:List Nat) (n i _x:Z0) (wr:Z1):Prop:=∃ k:Nat,k<=l.length/\n=Z7 Z8 (gy (l.take k):Nat)/\i=Z7 Z9 k/\wr=w
theorem Nf (v:Z0) (l:List Nat) (w:Z1) (h:Bs w v l):Calls ZZ 177 #[v] w λe w'=>e=Z4 (Z7 Z8 (gy l:Nat))/\w'=w:=by
 obtain ⟨q,c,rfl,r,t,p,d⟩:=h;go_enter Tryz.func177,Tryz.ntmps177;go_wp2;go_loopw [3,8,5] (λn i x wr=>O8 w l n i x wr) (λ_ i _ _=>l.length-(intOf i).toNat)
 case atStart=>exact ⟨0,Nat.zero_le _,rfl,rfl,rfl⟩
 case round=>
  obtain ⟨k,s,rfl,rfl,rfl⟩:=hrel;by_cases a:k<l.length
  . obtain ⟨b,off,rfl,f⟩:=d (by intro e;rw [e] at a;simp at a);have c1:=f k a;have ho:O8 wr l (Z7 Z8 (((gy (l.take k)*256+l.getD k 0)%18446744073709551616:Nat):Int)) (Z7 Z9 ((k:Int)+1)) (Z7 .u8 (l.getD k 0:Nat)) wr:=⟨k+1,by omega,by rw [Hw l k a],rfl,rfl⟩;have o:l.getD k 0<256:=eA p k;have g:=Nc (gy (l.take k)) (l.getD k 0) o;rw [<- g] at ho;have j:=hide ho;clear ho g d f;generalize l.getD k 0=x at *;generalize gy (l.take k)=n at *;go_wp2;exact ⟨j.out,by simp [intOf];omega⟩
  . have m:k=l.length:=(by omega);subst m;rw [TC];clear d;go_wp2;go_ret;exact ⟨rfl,rfl⟩
def bj (w:Z1):Prop:=∀ j,j<16->w.cell? ⟨2,j,Z3⟩=Z2 (Z7 .u32 ((dS.getD j 0:Nat):Int))
def QU (w:Z1) (l:List Nat) (n i _x:Z0) (wr:Z1):Prop:=∃ k:Nat,k<=l.length/\n=Z7 .u32 (ew (l.take k):Nat)/\i=Z7 Z9 k/\wr=w
theorem Lg (v:Z0) (l:List Nat) (w:Z1) (h:Bs w v l) (y:bj w):Calls ZZ 175 #[v] w λe w'=>e=Z4 (Z7 .u32 (Hn l:Nat))/\w'=w:=by
 obtain ⟨K,c,rfl,O,Q,p,o⟩:=h;go_enter Tryz.func175,Tryz.ntmps175;go_wp2;go_loopw [3,8,5] (λn i x wr=>QU w l n i x wr) (λ_ i _ _=>l.length-(intOf i).toNat)
 case atStart=>exact ⟨0,Nat.zero_le _,rfl,rfl,rfl⟩
 case round=>
  obtain ⟨k,P,rfl,rfl,rfl⟩:=hrel;by_cases g:k<l.length
  . obtain ⟨b,off,rfl,q⟩:=o (by intro e;rw [e] at g;simp at g);have c1:=q k g;have ho:QU wr l (Z7 .u32 ((lT (ew (l.take k)) (l.getD k 0):Nat):Int)) (Z7 Z9 ((k:Int)+1)) (Z7 .u8 (l.getD k 0:Nat)) wr:=⟨k+1,by omega,by rw [ES l k g],rfl,rfl⟩;have N:l.getD k 0<256:=eA p k;have j:ew (l.take k)<4294967296:=rB (λx h=>p x (Tx h));unfold lT at ho;clear o q;generalize l.getD k 0=x at *;generalize ew (l.take k)=r at *;have z:(x:Int)%4294967296=(x:Int):=(by omega);have U:=D5 r x j (by omega);have m:r^^^x<4294967296:=Tz (n:=32) j (by omega);generalize r^^^x=a at *;have V:bits .and .u32 (a:Int) 15=((a%16:Nat):Int):=(by have:=MK a 15 m (by decide);rw [O7] at this;exact this);have W:(a:Int)/16=((a/16:Nat):Int):=(by omega);have F:=y (a%16) (Tr _ (by decide));have s:=oT (a%16);have I:=D5 (a/16) (dS.getD (a%16) 0) (by omega) s;have u:fp a<4294967296:=lf m;have f:a/16^^^dS.getD (a%16) 0=fp a:=rfl;rw [f] at I;have R:a%16<16:=Tr _ (by decide);clear f;generalize fp a=d at *;generalize dS.getD (a%16) 0=L at *;generalize a%16=B at *;generalize a/16=b1 at *;have X:bits .and .u32 (d:Int) 15=((d%16:Nat):Int):=(by have:=MK d 15 u (by decide);rw [O7] at this;exact this);have Y:(d:Int)/16=((d/16:Nat):Int):=(by omega);have G:=y (d%16) (Tr _ (by decide));have t:=oT (d%16);have J:=D5 (d/16) (dS.getD (d%16) 0) (by omega) t;have f:d/16^^^dS.getD (d%16) 0=fp d:=rfl;rw [f] at J;have S:d%16<16:=Tr _ (by decide);clear f;generalize fp d=T at *;generalize dS.getD (d%16) 0=M at *;generalize d%16=D at *;generalize d/16=b2 at *;have A:=hide ho;have C:(B:Int)<16:=(by omega);have E:(D:Int)<16:=(by omega);clear ho m u s t;go_wp2;exact ⟨A.out,by simp [intOf];omega⟩
  . have H:k=l.length:=(by omega);subst H;rw [TC];have j:ew l<4294967296:=rB p;clear o;have z:=Nd (ew l) j;rw [show 4294967295-ew l=Hn l from rfl] at z;generalize ew l=r at *;go_wp2;go_ret;exact ⟨rfl,rfl⟩
def aQ (D L G t f n:Nat):Array Z0:=#[Z7 Z9 D,Z7 Z9 L,Z7 Z9 G,Z7 Z8 t,Z7 Z9 f,Z7 Z9 n]
theorem Bs.of_owns {base:Nat} {v:Z0} {n:Nat} (h:w.ownsRow base 5 1 v n (aH l)) (c:∀ x∈l,x<256) (p:l.length<=1000000):Bs w v l:=by
 have b:l.length=n:=by have:=h.1;rw [bm] at this;omega
 rcases h.2 with ⟨rfl,d⟩|⟨g,cap,cur,rfl,e,f,i,j,m,o⟩
 . subst d;have:l=[]:=TD b;subst this;exact ⟨Z3,0,rfl,by simp,by simp,c,λh=>absurd rfl h⟩
 . refine ⟨Z2 ⟨g,0,Z3⟩,cap,by rw [b],by omega,by omega,c,λ_=>⟨g,0,rfl,λk a=>?_⟩⟩;have:=h.cells (g:=g) rfl k (Z7 .u8 ((l.getD k 0:Nat):Int)) (by unfold aH;rw [TE,Tm a,Tu,Tm a];rfl);rw [mw] at this;rw [Nat.zero_add];exact this
theorem EZ (w:Z1) (a b c d:Nat):(w.alloc (Z5 #[Z7 .u8 (a:Int),Z7 .u8 (b:Int),Z7 .u8 (c:Int),Z7 .u8 (d:Int)] 5)).ownsRow w.heap.size 5 1 (Z6 (Z2 ⟨w.heap.size,0,Z3⟩) 4 4) 4 (aH [a,b,c,d]):=
 ⟨rfl,.inr ⟨w.heap.size,4,_,rfl,Tt _,blk_alloc_new _ _,Tt _,by unfold maxLen;omega,rfl,rfl⟩⟩
theorem BW (w:Z1):Calls ZZ 252 #[.agg #[]] w λe w'=>e=Z4 (Z6 Z3 0 0)/\Below w.heap.size w w':=by
 go_enter Tryz.func252,Tryz.ntmps252;go_wp2;go_ret;exact ⟨rfl,bA w _⟩
theorem E0 (D L G t f n:Nat) (w:Z1) (Z:(aW.root D L G t f n).ok) :
 Calls ZZ 238 #[.agg (aQ D L G t f n)] w λe w'=>∃ v,e=Z4 v/\Bs w' v (aW.root D L G t f n).body/\Below w.heap.size w w':=by
 obtain ⟨m,o,p,C,E,F⟩:=Z;have N:(w.alloc (Z5 (aQ D L G t f n) 117)).heap[w.heap.size]?=Z2 (Z5 (aQ D L G t f n) 117 (0,0)):=blk_alloc_new _ _;have S:(w.alloc (Z5 (aQ D L G t f n) 117)).heap.size=w.heap.size+1:=by simp
 have z:=EZ (w.alloc (Z5 (aQ D L G t f n) 117)) 1 D L G;have j:((w.alloc (Z5 (aQ D L G t f n) 117)).alloc (Z5 #[Z7 .u8 1,Z7 .u8 (D:Int),Z7 .u8 (L:Int),Z7 .u8 (G:Int)] 5)).heap[w.heap.size]?=Z2 (Z5 (aQ D L G t f n) 117 (0,0)):=(blk_alloc_lt _ _ _ (by simp)).trans N;have y:Below w.heap.size w ((w.alloc (Z5 (aQ D L G t f n) 117)).alloc (Z5 #[Z7 .u8 1,Z7 .u8 (D:Int),Z7 .u8 (L:Int),Z7 .u8 (G:Int)] 5)):=(bA w _).alloc (by simp) _;have B:((w.alloc (Z5 (aQ D L G t f n) 117)).alloc (Z5 #[Z7 .u8 1,Z7 .u8 (D:Int),Z7 .u8 (L:Int),Z7 .u8 (G:Int)] 5)).heap.size=w.heap.size+2:=by simp
 rw [S] at z;unfold aQ at *;obtain ⟨w1,A⟩:=nM ((w.alloc (Z5 #[Z7 Z9 D,Z7 Z9 L,Z7 Z9 G,Z7 Z8 t,Z7 Z9 f,Z7 Z9 n] 117)).alloc (Z5 #[Z7 .u8 1,Z7 .u8 (D:Int),Z7 .u8 (L:Int),Z7 .u8 (G:Int)] 5));have K:w1.ownsRow (w.heap.size+1) 5 1 (Z6 (Z2 ⟨w.heap.size+1,0,Z3⟩) 4 4) 4 (aH [1,D,L,G]):=by rw [<- A];exact z
 rw [A] at j y B;have c1:w1.cell? ⟨w.heap.size,3,Z3⟩=Z2 (Z7 Z8 t):=by simp [World.cell?,j]
 have a:=hide4 K j y B;clear z K j y N S B;go_enter Tryz.func238,Tryz.ntmps238;go_wp2_with fail;refine (eR (w.heap.size+1) _ 4 (aH [1,D,L,G]) t 8 w1 a.out.1 (by have:=a.out.2.2.2;omega) (by decide) (by decide)).mono ?_;rintro e w2 ⟨v2,rfl,O,h,H⟩;have q:w2.heap[w.heap.size]?=Z2 (Z5 #[Z7 Z9 D,Z7 Z9 L,Z7 Z9 G,Z7 Z8 t,Z7 Z9 f,Z7 Z9 n] 117 (0,0)):=(h.block _ (by have:=a.out.2.2.2;omega) (λe=>by simp [Value.ownBlock] at e)).trans a.out.2.1;have I:Below w.heap.size w w2:=a.out.2.2.1.trans (h.below λk x=>⟨by have:=a.out.2.2.2;omega,λe=>by simp [Value.ownBlock] at e;omega⟩);have Q:=h.size;have U:w2.cell? ⟨w.heap.size,4,Z3⟩=Z2 (Z7 Z9 f):=by simp [World.cell?,q]
 have b:=hide5 O q I Q H;clear O h H q I Q A;go_wp2_with fail;refine (eR (w.heap.size+1) _ (4+8) (aH [1,D,L,G]++aH (be t 8)) f 4 w2 b.out.1 (by have:=a.out.2.2.2;have:=b.out.2.2.2.1;omega) (by decide) (by decide)).mono ?_;rintro e l ⟨v3,rfl,P,i,X⟩;have u:∀ k,k<=w.heap.size->¬ v2.ownBlock=Z2 k:=λk x e=>by have:=(b.out.1.lt k e).1;omega
 have s:l.heap[w.heap.size]?=Z2 (Z5 #[Z7 Z9 D,Z7 Z9 L,Z7 Z9 G,Z7 Z8 t,Z7 Z9 f,Z7 Z9 n] 117 (0,0)):=(i.block _ (by have:=a.out.2.2.2;have:=b.out.2.2.2.1;omega) (u _ lR)).trans b.out.2.1;have J:Below w.heap.size w l:=b.out.2.2.1.trans (i.below λk x=>⟨by have:=a.out.2.2.2;have:=b.out.2.2.2.1;omega,u k (by omega)⟩);have R:=Tw b.out.2.2.2.1 i.size;have V:l.cell? ⟨w.heap.size,5,Z3⟩=Z2 (Z7 Z9 n):=by simp [World.cell?,s]
 have c:=hide4 P s J R;clear P i X s J R U u;go_wp2_with fail;refine (eR (w.heap.size+1) _ (4+8+4) (aH [1,D,L,G]++aH (be t 8)++aH (be f 4)) n 4 l c.out.1 (by have:=a.out.2.2.2;have:=c.out.2.2.2;omega) (by decide) (by decide)).mono ?_;rintro e w4 ⟨v4,rfl,d,M,Y⟩;have g:Below w.heap.size w w4:=c.out.2.2.1.trans (M.below λk x=>⟨by have:=a.out.2.2.2;have:=c.out.2.2.2;omega,λe=>by have:=(c.out.1.lt k e).1;omega⟩);have T:=hide2 d g;clear d M Y g V;go_wp2;go_ret;obtain ⟨d,g⟩:=T.out;refine ⟨v4,rfl,?_,g⟩;have W:aH [1,D,L,G]++aH (be t 8)++aH (be f 4)++aH (be n 4)=aH (aW.root D L G t f n).body:=by
  rw [<- bU,<- bU,<- bU];simp only [aW.body,Ts m,Ts o,Ts p,Ty]
 rw [W] at d;exact Bs.of_owns d (lU (r:=.root D L G t f n) ⟨m,o,p,C,E,F⟩) (Tw (jB (r:=.root D L G t f n) ⟨m,o,p,C,E,F⟩) (by decide))
theorem Bs.mid (d:l.length<=c) (f:l.length<=1000000) (e:∀ x∈l,x<256) (h:w.rangeAt b off (aH l)):Bs w (Z6 (Z2 ⟨b,off,Z3⟩) l.length c) l:=
 ⟨_,c,rfl,d,by omega,e,λ_=>⟨b,off,rfl,λk a=>h k _ (by unfold aH;rw [TE,Tm a,Tu,Tm a];rfl)⟩⟩
theorem mW (s:Nat) (h:w.rangeAt b off (aH l)):w.rangeAt b off (aH (l.take s)):=λj v a=>by
 unfold aH at a;rw [List.map_take,List.getElem?_take] at a;split at a
 . exact h j v a
 . cases a
theorem fI (s:Nat) (h:w.rangeAt b off (aH l)):w.rangeAt b (off+s) (aH (l.drop s)):=λj v a=>by
 unfold aH at a;rw [List.map_drop,List.getElem?_drop] at a;rw [To];exact h (s+j) v a
theorem jE (q b off c s:Nat) (l:List Nat) (w:Z1) (d:w.heap[q]?=Z2 (Z5 #[Z6 (Z2 ⟨b,off,Z3⟩) l.length c] 34 (0,0))) (m:c<=1000) (g:∀ x∈l,x<256) (f:w.rangeAt b off (aH l)) (i:s<=l.length) (o:s<c) :
 Calls ZZ 201 #[Z7 Z9 s,.pointer (Z2 ⟨q,0,Z3⟩)] w λe w'=>e=Z4 (Z7 Z8 (gy (l.take s):Nat))/\w'=w.setCell ⟨q,0,Z3⟩ (Z6 (Z2 ⟨b,off+s,Z3⟩) (l.length-s) (c-s)):=by
 have a:Bs w (Z6 (Z2 ⟨b,off,Z3⟩) (l.take s).length c) (l.take s):=Bs.mid (by rw [Tv];omega) (by rw [Tv];omega) (λx h=>g x (Tx h)) (mW s f);rw [Tv,Nat.min_eq_left i] at a;have j:w.cell? ⟨q,0,Z3⟩=Z2 (Z6 (Z2 ⟨b,off,Z3⟩) l.length c):=by simp [World.cell?,d]
 have k:w.frozen? ⟨q,0,Z3⟩=false:=by simp [World.frozen?,d]
 go_enter Tryz.func201,Tryz.ntmps201;go_wp2_with fail;refine (Nf _ (l.take s) w a).mono ?_;rintro e w' ⟨rfl,rfl⟩;have n:¬ c=s:=by omega
 clear a f g;go_wp2;go_ret;exact ⟨rfl,rfl⟩
structure E1 (w0 w:Z1) (q b off c:Nat) (l:List Nat) (vals:Array Z0):Prop where
 box:w.heap[q]?=Z2 (Z5 #[Z6 (Z2 ⟨b,off,Z3⟩) l.length c] 34 (0,0))
 res:w.heap[q+1]?=Z2 (Z5 #[Z7 Z9 0,Z7 Z9 0,Z7 Z9 0,Z7 Z8 0,Z7 Z9 0,Z7 Z9 0] 117 (0,0))
 rv:w.heap[q+1+1]?=Z2 (Z5 vals 117 (0,0))
 below:Below q w0 w
 rng:w.rangeAt b off (aH l)
 lt:b<q
theorem aj {j:Nat} {cs:Array Z0} {t:TypeId} (h:w.heap[b]?=Z2 (Z5 cs t (0,0))) (v:Z0):(w.setCell ⟨b,j,Z3⟩ v).heap[b]?=Z2 (Z5 (cs.setIfInBounds j v) t (0,0)):=by
 simp [World.setCell,Array.getElem?_modify,h]
theorem uO {l:List Z0} (h:w.rangeAt b off l) {a:Addr} (c:b≠a.block) (v:Z0):(w.setCell a v).rangeAt b off l:=λj u d=>by
 have:=h j u d;rw [<- this];exact World.cell?_of_block (blk_setCell_other _ _ _ _ c)
theorem E1.step (h:E1 w0 w q b off c l vals) (s j:Nat) (v:Z0) :
 E1 w0 ((w.setCell ⟨q,0,Z3⟩ (Z6 (Z2 ⟨b,off+s,Z3⟩) (l.length-s) (c-s))).setCell ⟨q+1+1,j,Z3⟩ v) q b (off+s) (c-s) (l.drop s) (vals.setIfInBounds j v):=by
 obtain ⟨a,d,e,f,g,i⟩:=h;refine ⟨?_,?_,?_,?_,?_,i⟩
 . rw [blk_setCell_other _ _ _ _ (by show q≠q+1+1;omega),aj a,Tp];rfl
 . rw [blk_setCell_other _ _ _ _ (by show q+1≠q+1+1;omega),blk_setCell_other _ _ _ _ (by show q+1≠q;omega)];exact d
 . exact aj ((blk_setCell_other _ _ _ _ (by show q+1+1≠q;omega)).trans e) v
 . exact (f.setCell (p:=⟨q,0,Z3⟩) lR _).setCell (p:=⟨q+1+1,j,Z3⟩) (by show q<=q+1+1;omega) _
 . exact uO (uO (fI s g) (by show b≠q;omega) _) (by show b≠q+1+1;omega) _
theorem E1.cells (h:E1 w0 w q b off c l vals) (s j:Nat) (u:Z0) (a:vals[j]?=Z2 u) :
 (w.setCell ⟨q,0,Z3⟩ (Z6 (Z2 ⟨b,off+s,Z3⟩) (l.length-s) (c-s))).cell? ⟨q+1+1,j,Z3⟩=Z2 u/\(w.setCell ⟨q,0,Z3⟩ (Z6 (Z2 ⟨b,off+s,Z3⟩) (l.length-s) (c-s))).frozen? ⟨q+1+1,j,Z3⟩=false:=by
 have e:(w.setCell ⟨q,0,Z3⟩ (Z6 (Z2 ⟨b,off+s,Z3⟩) (l.length-s) (c-s))).heap[q+1+1]?=_:=(blk_setCell_other _ _ _ _ (by show q+1+1≠q;omega)).trans h.rv;exact ⟨by simp [World.cell?,e,a],by simp [World.frozen?,e]⟩
theorem E2:∀ (l:List Nat),l.length<=7->(∀ x∈l,x<256)->gy l<256^l.length:=by
 intro l d a;induction hn:l.length generalizing l with
 | zero=>
  have:l=[]:=TD hn;subst this;decide
 | succ n ih=>
  rcases List.eq_nil_or_concat l with rfl|⟨b,x,rfl⟩
  . simp at hn
  . rw [List.concat_eq_append] at *;simp at hn;have c:b.length<=7:=(by simp at d;omega);have f:=ih b c (λy e=>a y (by simp [e])) hn;have g:=a x (by simp);rw [zl,Nat.pow_succ];exact Nat.lt_of_le_of_lt (Nat.mod_le _ _) (by omega)
theorem BX (b off:Nat) (l:List Nat) (w:Z1) (hl:l.length=59) (hx:∀ x∈l,x<256) (hr:w.rangeAt b off (aH l)) (hb:b<w.heap.size) :
 Calls ZZ 191 #[Z6 (Z2 ⟨b,off,Z3⟩) l.length 59] w λe w'=>e=Z4 (.agg (aQ (gy (l.take 1)) (gy ((l.drop 1).take 1)) (gy ((l.drop 2).take 1)) (gy ((l.drop 3).take 8)) (gy ((l.drop 11).take 4)) (gy ((l.drop 15).take 4))))/\Below w.heap.size w w':=by
 have ko:∀ (fn:Fn) (first cap:Array Z0) (w:Z1),(Instr.makeFunc fn first cap).run ZZ w=.ok (.func fn first cap) w:=λ_ _ _ _=>rfl;have V:∀ s,∀ x∈l.drop s,x<256:=λs x h=>hx x (List.mem_of_mem_drop h);have k5:∀ s k,k<=7->gy ((l.drop s).take k)<256^k:=λs k hk=>by
  have hf:((l.drop s).take k).length<=k:=by rw [Tv];omega
  exact Tn (E2 _ (by omega) (λx h=>V s x (Tx h))) (TA (by decide) hf)
 have U:E1 w (((w.alloc (Z5 #[Z6 (Z2 ⟨b,off,Z3⟩) l.length 59] 34)).alloc (Z5 #[Z7 Z9 0,Z7 Z9 0,Z7 Z9 0,Z7 Z8 0,Z7 Z9 0,Z7 Z9 0] 117)).alloc (Z5 #[Z7 Z9 0,Z7 Z9 0,Z7 Z9 0,Z7 Z8 0,Z7 Z9 0,Z7 Z9 0] 117)) w.heap.size b off 59 l #[Z7 Z9 0,Z7 Z9 0,Z7 Z9 0,Z7 Z8 0,Z7 Z9 0,Z7 Z9 0]:=by
  refine ⟨?_,?_,?_,((bA w _).alloc (by simp) _).alloc (by simp;omega) _,World.rangeAt_alloc (World.rangeAt_alloc (World.rangeAt_alloc hr _) _) _,hb⟩
  . rw [blk_alloc_lt _ _ _ (by simp;omega),blk_alloc_lt _ _ _ (by simp)];exact blk_alloc_new _ _
  . rw [blk_alloc_lt _ _ _ (by simp)];have:=blk_alloc_new (w.alloc (Z5 #[Z6 (Z2 ⟨b,off,Z3⟩) l.length 59] 34)) (Z5 #[Z7 Z9 0,Z7 Z9 0,Z7 Z9 0,Z7 Z8 0,Z7 Z9 0,Z7 Z9 0] 117);simpa using this
  . have:=blk_alloc_new ((w.alloc (Z5 #[Z6 (Z2 ⟨b,off,Z3⟩) l.length 59] 34)).alloc (Z5 #[Z7 Z9 0,Z7 Z9 0,Z7 Z9 0,Z7 Z8 0,Z7 Z9 0,Z7 Z9 0] 117)) (Z5 #[Z7 Z9 0,Z7 Z9 0,Z7 Z9 0,Z7 Z8 0,Z7 Z9 0,Z7 Z9 0] 117);simpa using this
 obtain ⟨w1,k6⟩:=nM (((w.alloc (Z5 #[Z6 (Z2 ⟨b,off,Z3⟩) l.length 59] 34)).alloc (Z5 #[Z7 Z9 0,Z7 Z9 0,Z7 Z9 0,Z7 Z8 0,Z7 Z9 0,Z7 Z9 0] 117)).alloc (Z5 #[Z7 Z9 0,Z7 Z9 0,Z7 Z9 0,Z7 Z8 0,Z7 Z9 0,Z7 Z9 0] 117));rw [k6] at U;have a:=hide3 V k5 hl;have H0:Hid (E1 w w1 w.heap.size b (off+0) 59 (l.drop 0) #[Z7 Z9 0,Z7 Z9 0,Z7 Z9 0,Z7 Z8 0,Z7 Z9 0,Z7 Z9 0]):=U;clear U hr hx V k5 hl hb;go_enter Tryz.func191,Tryz.ntmps191;go_wp2_with fail;obtain ⟨f,W⟩:∃ x,gy ((l.drop 0).take 1)=x:=⟨_,rfl⟩;have b0:f<4294967296:=Tn (W▸a.out.2.1 0 1 (by decide)) (by decide);have M:=H0.out;refine (jE w.heap.size b (off+0) 59 1 (l.drop 0) w1 M.box (by decide) (a.out.1 0) M.rng (by rw [Tp,a.out.2.2];decide) (by decide)).mono ?_;rintro e y0 ⟨rfl,ke⟩;rw [W];have G:=M.step 1 0 (Z7 Z9 (f:Nat));obtain ⟨r,B⟩:=M.cells 1 0 _ rfl;rw [<- ke] at G r B;clear ke;obtain ⟨w2,k7⟩:∃ z,y0.setCell ⟨w.heap.size+1+1,0,Z3⟩ (Z7 Z9 (f:Nat))=z:=⟨_,rfl⟩;rw [k7] at G;have hq:E1 w w2 w.heap.size b (off+1) 58 (l.drop 1) #[Z7 Z9 (f:Nat),Z7 Z9 0,Z7 Z9 0,Z7 Z8 0,Z7 Z9 0,Z7 Z9 0]:=by
  rw [Tq,To off] at G;exact G
 have H1:=hide hq;clear M G hq;go_wp2_with fail;obtain ⟨g,X⟩:∃ x,gy ((l.drop 1).take 1)=x:=⟨_,rfl⟩;have b1:g<4294967296:=Tn (X▸a.out.2.1 1 1 (by decide)) (by decide);have N:=H1.out;refine (jE w.heap.size b (off+1) 58 1 (l.drop 1) w2 N.box (by decide) (a.out.1 1) N.rng (by rw [Tp,a.out.2.2];decide) (by decide)).mono ?_;rintro e y1 ⟨rfl,kf⟩;rw [X];have H:=N.step 1 1 (Z7 Z9 (g:Nat));obtain ⟨t,C⟩:=N.cells 1 1 _ rfl;rw [<- kf] at H t C;clear kf;obtain ⟨w3,k8⟩:∃ z,y1.setCell ⟨w.heap.size+1+1,1,Z3⟩ (Z7 Z9 (g:Nat))=z:=⟨_,rfl⟩;rw [k8] at H;have hs:E1 w w3 w.heap.size b (off+2) 57 (l.drop 2) #[Z7 Z9 (f:Nat),Z7 Z9 (g:Nat),Z7 Z9 0,Z7 Z8 0,Z7 Z9 0,Z7 Z9 0]:=by
  rw [Tq,To off] at H;exact H
 have H2:=hide hs;clear N H hs;go_wp2_with fail;obtain ⟨i,Y⟩:∃ x,gy ((l.drop 2).take 1)=x:=⟨_,rfl⟩;have b2:i<4294967296:=Tn (Y▸a.out.2.1 2 1 (by decide)) (by decide);have O:=H2.out;refine (jE w.heap.size b (off+2) 57 1 (l.drop 2) w3 O.box (by decide) (a.out.1 2) O.rng (by rw [Tp,a.out.2.2];decide) (by decide)).mono ?_;rintro e y2 ⟨rfl,kg⟩;rw [Y];have I:=O.step 1 2 (Z7 Z9 (i:Nat));obtain ⟨u,D⟩:=O.cells 1 2 _ rfl;rw [<- kg] at I u D;clear kg;obtain ⟨w4,k9⟩:∃ z,y2.setCell ⟨w.heap.size+1+1,2,Z3⟩ (Z7 Z9 (i:Nat))=z:=⟨_,rfl⟩;rw [k9] at I;have hv:E1 w w4 w.heap.size b (off+3) 56 (l.drop 3) #[Z7 Z9 (f:Nat),Z7 Z9 (g:Nat),Z7 Z9 (i:Nat),Z7 Z8 0,Z7 Z9 0,Z7 Z9 0]:=by
  rw [Tq,To off] at I;exact I
 have H3:=hide hv;clear O I hv;go_wp2_with fail;obtain ⟨m,kc⟩:∃ x,gy ((l.drop 3).take 8)=x:=⟨_,rfl⟩;have P:=H3.out;refine (jE w.heap.size b (off+3) 56 8 (l.drop 3) w4 P.box (by decide) (a.out.1 3) P.rng (by rw [Tp,a.out.2.2];decide) (by decide)).mono ?_;rintro e y3 ⟨rfl,kh⟩;rw [kc];have J:=P.step 8 3 (Z7 Z8 (m:Nat));obtain ⟨y,E⟩:=P.cells 8 3 _ rfl;rw [<- kh] at J y E;clear kh;obtain ⟨w5,ka⟩:∃ z,y3.setCell ⟨w.heap.size+1+1,3,Z3⟩ (Z7 Z8 (m:Nat))=z:=⟨_,rfl⟩;rw [ka] at J;have hy:E1 w w5 w.heap.size b (off+11) 48 (l.drop 11) #[Z7 Z9 (f:Nat),Z7 Z9 (g:Nat),Z7 Z9 (i:Nat),Z7 Z8 (m:Nat),Z7 Z9 0,Z7 Z9 0]:=by
  rw [Tq,To off] at J;exact J
 have H4:=hide hy;clear P J hy;go_wp2_with fail;obtain ⟨n,Z⟩:∃ x,gy ((l.drop 11).take 4)=x:=⟨_,rfl⟩;have b4:n<4294967296:=Tn (Z▸a.out.2.1 11 4 (by decide)) (by decide);have Q:=H4.out;refine (jE w.heap.size b (off+11) 48 4 (l.drop 11) w5 Q.box (by decide) (a.out.1 11) Q.rng (by rw [Tp,a.out.2.2];decide) (by decide)).mono ?_;rintro e y4 ⟨rfl,ki⟩;rw [Z];have K:=Q.step 4 4 (Z7 Z9 (n:Nat));obtain ⟨A,F⟩:=Q.cells 4 4 _ rfl;rw [<- ki] at K A F;clear ki;obtain ⟨w6,kb⟩:∃ z,y4.setCell ⟨w.heap.size+1+1,4,Z3⟩ (Z7 Z9 (n:Nat))=z:=⟨_,rfl⟩;rw [kb] at K;have hz:E1 w w6 w.heap.size b (off+15) 44 (l.drop 15) #[Z7 Z9 (f:Nat),Z7 Z9 (g:Nat),Z7 Z9 (i:Nat),Z7 Z8 (m:Nat),Z7 Z9 (n:Nat),Z7 Z9 0]:=by
  rw [Tq,To off] at K;exact K
 have H5:=hide hz;clear Q K hz;go_wp2_with fail;obtain ⟨o,hp⟩:∃ x,gy ((l.drop 15).take 4)=x:=⟨_,rfl⟩;have b5:o<4294967296:=Tn (hp▸a.out.2.1 15 4 (by decide)) (by decide);have R:=H5.out;refine (jE w.heap.size b (off+15) 44 4 (l.drop 15) w6 R.box (by decide) (a.out.1 15) R.rng (by rw [Tp,a.out.2.2];decide) (by decide)).mono ?_;rintro e y5 ⟨rfl,kj⟩;rw [hp];have L:=R.step 4 5 (Z7 Z9 (o:Nat));obtain ⟨S,T⟩:=R.cells 4 5 _ rfl;rw [<- kj] at L S T;clear kj;obtain ⟨d,km⟩:∃ z,y5.setCell ⟨w.heap.size+1+1,5,Z3⟩ (Z7 Z9 (o:Nat))=z:=⟨_,rfl⟩;rw [km] at L;have k0:E1 w d w.heap.size b (off+19) 40 (l.drop 19) #[Z7 Z9 (f:Nat),Z7 Z9 (g:Nat),Z7 Z9 (i:Nat),Z7 Z8 (m:Nat),Z7 Z9 (n:Nat),Z7 Z9 (o:Nat)]:=by
  rw [Tq,To off] at L;exact L
 have c:=hide k0;clear R L k0;have g0:d.cell? ⟨w.heap.size+1+1,0,Z3⟩=Z2 (Z7 Z9 (f:Nat)):=by simp [World.cell?,c.out.rv]
 have g1:d.cell? ⟨w.heap.size+1+1,1,Z3⟩=Z2 (Z7 Z9 (g:Nat)):=by simp [World.cell?,c.out.rv]
 have g2:d.cell? ⟨w.heap.size+1+1,2,Z3⟩=Z2 (Z7 Z9 (i:Nat)):=by simp [World.cell?,c.out.rv]
 have g3:d.cell? ⟨w.heap.size+1+1,3,Z3⟩=Z2 (Z7 Z8 (m:Nat)):=by simp [World.cell?,c.out.rv]
 have g4:d.cell? ⟨w.heap.size+1+1,4,Z3⟩=Z2 (Z7 Z9 (n:Nat)):=by simp [World.cell?,c.out.rv]
 have g5:d.cell? ⟨w.heap.size+1+1,5,Z3⟩=Z2 (Z7 Z9 (o:Nat)):=by simp [World.cell?,c.out.rv]
 have r0:d.cell? ⟨w.heap.size+1,0,Z3⟩=Z2 (Z7 Z9 0):=by simp [World.cell?,c.out.res]
 have r1:d.cell? ⟨w.heap.size+1,1,Z3⟩=Z2 (Z7 Z9 0):=by simp [World.cell?,c.out.res]
 have r2:d.cell? ⟨w.heap.size+1,2,Z3⟩=Z2 (Z7 Z9 0):=by simp [World.cell?,c.out.res]
 have r3:d.cell? ⟨w.heap.size+1,3,Z3⟩=Z2 (Z7 Z8 0):=by simp [World.cell?,c.out.res]
 have r4:d.cell? ⟨w.heap.size+1,4,Z3⟩=Z2 (Z7 Z9 0):=by simp [World.cell?,c.out.res]
 have r5:d.cell? ⟨w.heap.size+1,5,Z3⟩=Z2 (Z7 Z9 0):=by simp [World.cell?,c.out.res]
 have q:∀ k,d.frozen? ⟨w.heap.size+1,k,Z3⟩=false:=λk=>by simp [World.frozen?,c.out.res]
 have f0:=q 0;have f1:=q 1;have f2:=q 2;have f3:=q 3;have f4:=q 4;have f5:=q 5;clear q k6 k7 k8 k9 ka kb r t u y A B C D E F H0 H1 H2 H3 H4 H5;go_wp2;have hh:=aj (j:=5) (aj (j:=4) (aj (j:=3) (aj (j:=2) (aj (j:=1) (aj (j:=0) c.out.res (Z7 Z9 (f:Nat))) (Z7 Z9 (g:Nat))) (Z7 Z9 (i:Nat))) (Z7 Z8 (m:Nat))) (Z7 Z9 (n:Nat))) (Z7 Z9 (o:Nat));refine bodyPost_ret (v:=.agg (aQ f g i m n o)) (results_cell_row Tryz.results191 _ _ (w.heap.size+1) 117 (aQ f g i m n o) (0,0) _ rfl hh Tryz.underlying117 rfl (by kernel_rfl)) rfl ?_;have kk:=c.out.below;refine ⟨?_,(((((kk.setCell (p:=⟨w.heap.size+1,0,Z3⟩) (by show w.heap.size<=w.heap.size+1;omega) _).setCell (p:=⟨w.heap.size+1,1,Z3⟩) (by show w.heap.size<=w.heap.size+1;omega) _).setCell (p:=⟨w.heap.size+1,2,Z3⟩) (by show w.heap.size<=w.heap.size+1;omega) _).setCell (p:=⟨w.heap.size+1,3,Z3⟩) (by show w.heap.size<=w.heap.size+1;omega) _).setCell (p:=⟨w.heap.size+1,4,Z3⟩) (by show w.heap.size<=w.heap.size+1;omega) _).setCell (p:=⟨w.heap.size+1,5,Z3⟩) (by show w.heap.size<=w.heap.size+1;omega) _⟩;rw [<- W,<- X,<- Y,<- kc,<- Z,<- hp,List.drop_zero]
end Go.Proofs.YtfbmmcnpjhmjaaaGreatDoor
