import Derived.Test.YtfbmmcnpjhmjaaaGreatDoorM43
import Derived.Test.YtfbmmcnpjhmjaaaGreatDoorM44
import Derived.Test.YtfbmmcnpjhmjaaaGreatDoorM45
set_option maxRecDepth 100000
set_option maxHeartbeats 8000000
open Go.IntKind renaming i64 -> Z9
open Go.Value renaming int -> Z8, slice -> Z7, string -> Z4
open Go.Ending renaming returned -> Z6
open Go.Operand renaming tmp -> Z5
open Option renaming none -> Z3, some -> Z2
open Bool renaming false -> Z1
open Go renaming World -> Z0, Value -> ZZ
open Go.RowKit renaming Below -> ZY
open Nat renaming zero_add -> Tm, le_trans -> To
open List renaming nil_append -> Tn, length_map -> Tp, getElem?_eq_getElem -> Tq, getElem_map -> Tr, map_append -> Tu, sum_append -> Tv, length_take -> Tw, length_drop -> Tx
open Int renaming tmod_eq_emod_of_nonneg -> Ts, natCast_emod -> Tt
open Array renaming getElem?_eq_some_iff -> Ty
open Go.Proofs.Tryz renaming prog -> ZX
namespace Go.Proofs.YtfbmmcnpjhmjaaaGreatDoor
open Go.RowKit Go.Deep
variable {A:aB} {L:List (ByteArray×ZZ)} {xs ys:List ZZ} {r base n size g a m:Nat} {e:TypeId} {v u vb:ZZ} {w w' w1 w3 w5 w6:Z0}
section
open Gf
theorem oM (d:Int) (m:Nat) (f:0<m) (e:m<=1000):∃ n:Nat,n<m/\wrap64 ((IntKind.u64.wrap d).tmod m)=(n:Int):=by
 have a:0<=IntKind.u64.wrap d:=by rw [IntKind.wrap_u64];omega
 rw [Ts a];have b:=Int.emod_nonneg (IntKind.u64.wrap d) (show (m:Int)≠0 by omega);have c:=Int.emod_lt_of_pos (IntKind.u64.wrap d) (show (0:Int)<m by omega);refine ⟨(IntKind.u64.wrap d%m).toNat,by omega,?_⟩;rw [show ((IntKind.u64.wrap d%(m:Int)).toNat:Int)=IntKind.u64.wrap d%m by omega];generalize IntKind.u64.wrap d%(m:Int)=z at b c;unfold wrap64;omega
theorem DH (h:A.fit) {D L G:Nat} (c:D<=12) (f:L<=4) (d:G<=4) (e:A.n=D+L+G):(eV A D L G).fit:=by
 have a:(aW.filled).ok:=trivial;have b:(aW.root D L G 1 2 0).ok:=⟨by omega,by omega,by omega,by decide,by decide,by decide⟩;exact (gw (h.putAt _ _ _ λ_ _=>⟨ez a,jg a⟩) c d e [2] [] 1).putAt _ _ _ λ_ _=>⟨ez b,jg b⟩
structure PN (B:aB) (D L G:Nat):Prop where
 bad:∀ i m,B.bad i m=Z1
 lost:∀ i,B.lost i=Z1
 wait:B.wait<0
 root:∀ i,i<B.n->B.blk i 0=(aW.root D L G 1 2 0).blk
 fill:∀ i,i<B.n->B.blk i 1=aW.filled.blk
 page:∀ i,i<B.n->B.blk i 2=(aW.shard ((aK D L G (fx D [2] [] 0)).getD i [])).blk
theorem PO (D L G:Nat) (c:∀ i m,A.bad i m=Z1) (d:∀ i,A.lost i=Z1) (e:A.wait<0):PN (eV A D L G) D L G:=by
 refine ⟨λi m=>?_,d,e,λi b=>?_,λi b=>?_,λi b=>?_⟩
 . simp [eV,aB.pagesTo,aB.putAt,c]
 . have a:i<A.n:=b;simp [eV,aB.pagesTo,aB.putAt,a]
 . have a:i<A.n:=b;simp [eV,aB.pagesTo,aB.putAt,a]
 . have a:i<A.n:=b;simp [eV,aB.pagesTo,aB.putAt,a]
theorem Kt {p D L G ar v:Nat} {ps:Nat} {F:bx} {cache:Int} (h:yV w w' p D L G ar v ps u A F cache) (B:aq w p A F) (O:A.n=D+L+G) (l:yT D L G) (S:8<=A.nb) (s:A.nb<=1000) (P:A.wait<0) (o:∀ i,A.lost i=Z1) (r:∀ i m,A.bad i m=Z1) (hK:3<=w.heap.size) (t:¬ F.has p A.n 2) (y:¬ F.has p A.n 1) (z:(eV (A.readTo A.n) D L G).fit) :
 ∃ a,bf w' ar v p (tC a cache 0) D L G 1 u (Z7 Z3 0 0) [2] [] (eV (A.readTo A.n) D L G) F/\w.heap.size<=a:=by
 have d:∀ j,F.has p A.n j->j<w.heap.size:=λj N=>B.has_lt N;have R:(eV (A.readTo A.n) D L G).n=A.n:=rfl;have g:(eV (A.readTo A.n) D L G).nb=A.nb:=rfl;have ho:=PO (A:=A.readTo A.n) D L G r o P;have E:pgs D 0=1:=by
  unfold pgs;have:=l.d1;rw [Tm,Nat.div_eq_of_lt (by omega)];rfl
 have Q:=h.arGe;have U:=h.vGe;obtain ⟨a,H,J,T,K,I⟩:=h.sh;have f:=h.vol;rw [H] at f;refine ⟨a,⟨h.arc,f,⟨λe=>by have:=d _ e;omega,t,y⟩,λe=>by have:=d _ e;omega,⟨by omega,K⟩,by omega,z,l,?_,?_,gz.nil _ _,by rw [g];exact s,by decide,I,λk b=>?_⟩,J⟩
 . refine ⟨O,ho.wait,iH.here ho.lost _ _ _,ho.bad,by decide,ho.root,ho.fill,?_,?_,by decide,?_,(λx c=>by cases c),List.Pairwise.nil,(λx c=>by cases c),?_⟩
   . show 1=pgs D 0;exact E.symm
   . intro k b i M;have C:k=0:=(by have:k<1:=b;omega);subst C;exact ho.page i M
   . intro x c;have:x=2:=by simpa [ai,bg.os] using c
     rw [this,g];omega
   . show 0+2*1+2<=A.nb;omega
 . exact h.pg.widen λk b=>⟨b.2,λe=>by have:=d _ e;have:=b.1;omega,λe=>by have q:a<=k/\k<=a+1+1+1:=e;have:=b.2;omega⟩
 . have q:a<=k/\k<=a+1+1+1:=b;exact ⟨by omega,by omega,by omega,λe=>by have:=d _ e;omega⟩
end
theorem Mg (a b c:Int) (w:Z0):Calls ZX 6 #[Z8 Z9 a,Z8 Z9 b,Z8 Z9 c] w λe w'=>∃ D L G:Nat,e=Z6 (.agg #[Z8 Z9 D,Z8 Z9 L,Z8 Z9 G])/\yT D L G/\D<=6/\ZY w.heap.size w w':=by
 obtain ⟨p,B,g⟩:=oM a 6 (by decide) (by decide);obtain ⟨q,C,i⟩:=oM b 3 (by decide) (by decide);obtain ⟨d,Q,k⟩:=oM c 4 (by decide) (by decide);have r:wrap64 ((IntKind.u64.wrap a).tmod 6)=(p:Int):=by simpa using g
 have s:wrap64 ((IntKind.u64.wrap b).tmod 3)=(q:Int):=by simpa using i
 have t:wrap64 ((IntKind.u64.wrap c).tmod 4)=(d:Int):=by simpa using k
 obtain ⟨D,H⟩:=nM (p+1);obtain ⟨n,E⟩:=nM (q+1);have N:wrap64 (1+(p:Int))=(D:Int):=by unfold wrap64;omega
 have z:wrap64 (1+(q:Int))=(n:Int):=by unfold wrap64;omega
 clear g i k;have P:1<=D/\D<=6:=by omega
 have x:1<=n/\n<=3:=by omega
 clear H E B C;go_enter Tryz.func6,Tryz.ntmps6;go_wp2;go_loopw [8] (λv wr=>∃ l:Nat,1<=l/\l<=3/\v=Z8 Z9 (l:Nat)/\wr=w.alloc (.cells #[Z8 Z9 0,Z8 Z9 0,Z8 Z9 0] 25)) (λv _=>(intOf v).toNat)
 case atStart=>exact ⟨n,x.1,x.2,by rw [z],rfl⟩
 case round=>
  obtain ⟨l,F,O,rfl,rfl⟩:=hrel;have T:¬ (l:Int)=0:=by omega
  have I:Int.tmod (D:Int) (l:Int)=((D%l:Nat):Int):=by rw [Ts (by omega),Tt]
  obtain ⟨m,f⟩:=nM (D%l);rw [f] at I;by_cases A:m=0
  . subst A;have y:Hid (yT D l d):=hide ⟨by unfold cn;apply decide_eq_true;refine ⟨by omega,by omega,by omega,by omega,by omega,by omega,?_,by omega⟩;rw [<- Tt,f];rfl,by omega,by omega,F,by omega,by omega,f,by omega⟩;clear f;go_wp2;have o:aw (w.alloc (.cells #[Z8 Z9 (D:Nat),Z8 Z9 (l:Nat),Z8 Z9 (d:Nat)] 25)) w.heap.size 25 [Z8 Z9 (D:Nat),Z8 Z9 (l:Nat),Z8 Z9 (d:Nat)]:=heap_alloc_last w _;have J:=o.cell (j:=0) (u:=Z8 Z9 (D:Nat)) rfl;have K:=o.cell (j:=1) (u:=Z8 Z9 (l:Nat)) rfl;have M:=o.cell (j:=2) (u:=Z8 Z9 (d:Nat)) rfl;refine bodyPost_ret (v:=.agg #[Z8 Z9 (D:Nat),Z8 Z9 (l:Nat),Z8 Z9 (d:Nat)]) (by simp [results,Tryz.results6,go_sem,J,K,M]) rfl ?_;exact ⟨D,l,d,rfl,y.out,by omega,bA w _⟩
  . have R:2<=l:=by
     rcases Nat.lt_or_ge l 2 with h|h
     . have:l=1:=by omega
       subst this;rw [Nat.mod_one] at f;omega
     . exact h
    have S:¬ (m:Int)=0:=(by omega);have U:IntKind.i64.wrap ((l:Int)-1)=(l:Int)-1:=(by rw [IntKind.wrap_i64];omega);clear f;go_wp2;refine ⟨⟨l-1,by omega,by omega,by rw [show ((l-1:Nat):Int)=(l:Int)-1 by omega],trivial⟩,?_⟩;show ((l:Int)-1).toNat<((l:Int)).toNat;omega
structure oS where
 kind:Int
 a:Int
 s:ByteArray
 d:List Nat
def QI (w:Z0) (v:ZZ) (l:List oS):Prop:=
 ∃ ao c,v=.slice ao l.length c/\(l≠[]->∃ b off,ao=Z2 ⟨b,off,Z3⟩/\b<w.heap.size/\∀ i (hi:i<l.length),∃ dv,w.cell? ⟨b,off+i*4,Z3⟩=Z2 (Z8 Z9 l[i].kind)/\w.cell? ⟨b,off+i*4+1,Z3⟩=Z2 (Z8 Z9 l[i].a)/\w.cell? ⟨b,off+i*4+2,Z3⟩=Z2 (Z4 l[i].s)/\w.cell? ⟨b,off+i*4+3,Z3⟩=Z2 dv/\Bs w dv l[i].d)
def fU (l:List oS):Nat:=(l.map λx=>x.s.size+x.d.length).sum
theorem qF (l:List oS) (k:Nat) (a:k<l.length):fU (l.take (k+1))=fU (l.take k)+(l[k].s.size+l[k].d.length):=by
 have e:l.take (k+1)=l.take k++[l[k]]:=by rw [List.take_add_one,Tq a];rfl
 rw [e];unfold fU;rw [Tu,Tv];simp only [List.map_cons,List.map_nil,List.sum_cons,List.sum_nil,Nat.add_zero]
theorem Bd (l:List oS) (k:Nat):fU (l.take k)<=fU l:=by
 unfold fU;have h:l.map (λx=>x.s.size+x.d.length)=(l.take k).map (λx=>x.s.size+x.d.length)++(l.drop k).map (λx=>x.s.size+x.d.length):=by rw [<- Tu,List.take_append_drop]
 rw [h,Tv];omega
def QJ (w:Z0) (l:List oS) (vn vi:ZZ) (wr:Z0):Prop:=∃ k:Nat,k<=l.length/\vi=Z8 Z9 (k:Nat)/\vn=Z8 Z9 (fU (l.take k):Nat)/\fU (l.take k)<=100000/\ZY w.heap.size w wr
def Ox (w:Z0) (l:List oS) (e:Ending) (w':Z0):Prop:=∃ bb,e=Z6 (.bool bb)/\(bb=true->l.length<=200/\fU l<=100000)/\ZY w.heap.size w w'
theorem GF {l:List oS} (h:QI w v l) (J:∀ x∈l,x.s.size<=140737488355328/\x.d.length<=140737488355328) :
 Calls ZX 5 #[v] w (Ox w l):=by
 obtain ⟨N,c,rfl,t⟩:=h;by_cases R:200<l.length
 . have I:(200:Int)<(l.length:Int):=(by omega);clear t;go_enter Tryz.func5,Tryz.ntmps5;go_wp2;go_ret;exact ⟨Z1,rfl,λe=>(by cases e),Below.refl _ _⟩
 . have I:¬ (200:Int)<(l.length:Int):=(by omega);have E:=hide t;clear t;go_enter Tryz.func5,Tryz.ntmps5;go_wp2;go_loopw [3,4] (λM z wr=>QJ w l M z wr) (λ_ z _=>l.length-(intOf z).toNat)
   case atStart=>exact ⟨0,Nat.zero_le _,rfl,rfl,by simp [fU],Below.refl _ _⟩
   case round=>
    obtain ⟨k,V,rfl,rfl,n,f⟩:=hrel;by_cases i:k<l.length
    . obtain ⟨b,off,rfl,B,A⟩:=E.out (λe=>by rw [e] at i;simp at i);obtain ⟨Q,K,L,u,y,D⟩:=A k i;obtain ⟨O,P,rfl,_⟩:=id D;have g:=qF l k i;have G:=J l[k] (List.getElem_mem i);obtain ⟨s,r⟩:=nM (l[k].s);obtain ⟨dl,o⟩:=nM (l[k].d.length);rw [r,o] at g G;rw [r] at u;rw [o] at y;obtain ⟨a,q⟩:=nM (fU (l.take k));rw [q] at g n ⊢;obtain ⟨Z,H⟩:=nM (s.size);have F:(k:Int)<(l.length:Int):=(by omega);have T:IntKind.i64.wrap ((a:Int)+(s.size:Int))=(a:Int)+(s.size:Int):=(by rw [IntKind.wrap_i64];omega);have U:IntKind.i64.wrap ((a:Int)+(s.size:Int)+(dl:Int))=(a:Int)+(s.size:Int)+(dl:Int):=(by rw [IntKind.wrap_i64];omega);have W:IntKind.i64.wrap ((k:Int)+1)=(k:Int)+1:=(by rw [IntKind.wrap_i64];omega);have X:=(f.cell (p:=⟨b,off+k*4+2,Z3⟩) B).trans u;have Y:=(f.cell (p:=⟨b,off+k*4+3,Z3⟩) B).trans y;have m:=hide3 g q f;clear g q f K L u y D A r o H;go_wp2;go_quiet (fail);have j:Hid (ZY w.heap.size w (wr.drewN nq)):=hide (m.out.2.2.trans ⟨rfl,rfl,rfl,Nat.le_refl _,λ_ _=>rfl⟩);by_cases S:(100000:Int)<(a:Int)+(s.size:Int)+(dl:Int)
      . go_wp2;go_ret;exact ⟨Z1,rfl,λe=>(by cases e),j.out⟩
      . go_wp2;have g:=m.out.1;refine ⟨⟨k+1,by omega,by go_num,?_,by omega,j.out⟩,?_⟩
        . rw [g,show ((a+(s.size+dl):Nat):Int)=(a:Int)+(s.size:Int)+(dl:Int) by omega]
        . simp only [intOf];omega
    . have C:k=l.length:=(by omega);have F:¬ (k:Int)<(l.length:Int):=(by omega);have m:Hid (l.length<=200/\fU l<=100000):=hide ⟨by omega,by rw [C,List.take_length] at n;exact n⟩;have j:=hide f;clear C n f;go_wp2;go_ret;exact ⟨true,rfl,λ_=>m.out,j.out⟩
theorem tL {l:List Nat} (h:Bs w v l):Src ZX 1 34 v l.length (aH l) w:=by
 obtain ⟨i,c,rfl,o,p,r,k⟩:=h;have m:∀ u∈aH l,u.oneCell'=true:=λu a=>by unfold aH at a;rw [List.mem_map] at a;obtain ⟨x,_,rfl⟩:=a;rfl
 by_cases f:l=[]
 . subst f;cases i with
   | none=>exact Src.ofNil w Tryz.underlying34 c
   | some g=>exact Src.ofSlice w Tryz.underlying34 g 0 c [] rfl (λj u d=>by simp at d) (λu a=>by simp at a)
 . obtain ⟨b,off,rfl,n⟩:=k f;refine Src.ofSlice w Tryz.underlying34 ⟨b,off,Z3⟩ l.length c (aH l) (by rw [bm,Nat.mul_one]) (λj u d=>?_) m;rw [Addr.add_mid];have e:j<l.length:=(by obtain ⟨q,_⟩:=List.getElem?_eq_some_iff.1 d;rwa [bm] at q);rw [n j e,<- d];unfold aH;rw [List.getElem?_map,Tq e,List.getD_eq_getElem?_getD,Tq e];rfl
theorem Tryz.infoByteR:(ZX.info? 5).map (λi=>(i.zero,i.size,i.bytes))=Z2 (Z2 (Z8 .u8 0),1,1):=by kernel_rfl
theorem GJ (r:Nat) (name:ByteArray) (a:Option Addr) (n c:Nat) (b:¬ bX name) (w:Z0) :
 Calls ZX 34 #[.pointer (Z2 ⟨r,0,Z3⟩),Z4 name,.slice a n c] w λe w'=>e=Z6 (Z8 Z9 6)/\w'=w:=by
 by_cases d:name.size=0
 . have n0:(name.size:Int)=0:=(by omega);go_enter Tryz.func34,Tryz.ntmps34;go_wp2;go_ret;exact ⟨rfl,rfl⟩
 . have n0:¬ (name.size:Int)=0:=(by omega);have f:(16:Int)<(name.size:Int):=(by unfold bX at b;omega);go_enter Tryz.func34,Tryz.ntmps34;go_wp2;go_ret;exact ⟨rfl,rfl⟩
theorem GK (r:Nat) (name:ByteArray) (b:Option Addr) (n c:Nat) (a:bX name) (f:1500<n) (w:Z0) :
 Calls ZX 34 #[.pointer (Z2 ⟨r,0,Z3⟩),Z4 name,.slice b n c] w λe w'=>e=Z6 (Z8 Z9 7)/\w'=w:=by
 have d:¬ name.size=0:=by have:=a.1;omega
 have n0:¬ (name.size:Int)=0:=by omega
 have g:¬ (16:Int)<(name.size:Int):=by have:=a.2;omega
 have h:(1500:Int)<(n:Int):=by omega
 clear a;go_enter Tryz.func34,Tryz.ntmps34;go_wp2;go_ret;exact ⟨rfl,rfl⟩
theorem Bj (h:oN w r base v L) (j:L.length<=1000000) (name:ByteArray) (f:Option Addr) (n c:Nat) (a:bX name) (o:n<=1500) (b:¬ pI L name) :
 Calls ZX 34 #[.pointer (Z2 ⟨r,0,Z3⟩),Z4 name,.slice f n c] w λe w'=>e=Z6 (Z8 Z9 8)/\w'=w:=by
 have d:=jT h j name;have l:¬ name.size=0:=by have:=a.1;omega
 have n0:¬ (name.size:Int)=0:=by omega
 have p:¬ (16:Int)<(name.size:Int):=by have:=a.2;omega
 have q:¬ (1500:Int)<(n:Int):=by omega
 clear a h;go_enter Tryz.func34,Tryz.ntmps34;go_wp2_with fail;refine d.mono ?_;rintro e w1 ⟨rfl,i⟩;rcases i with ⟨k,m,rfl,_⟩|⟨rfl,g⟩
 . have k2:(0:Int)<=(k:Int):=(by omega);clear d b;go_wp2;go_ret;exact ⟨rfl,rfl⟩
 . exact absurd g b
theorem bE (h:w.ownsRow base e size v n xs):∃ d f,v=.slice d n f:=by
 rcases h.2 with ⟨b,c⟩|⟨g,cap,cur,a,_⟩
 . exact ⟨Z3,0,by rw [b,c]⟩
 . exact ⟨_,_,a⟩
def cy (L:List (ByteArray×ZZ)):List ByteArray:=L.map (·.1)
theorem tM (e:∀ k (n:k<L.length),w1.cell? ⟨g,k*2,Z3⟩=Z2 (Z4 L[k].1)/\w1.cell? ⟨g,k*2+1,Z3⟩=Z2 L[k].2) (d:g<w1.heap.size) (b:ZY w1.heap.size w1 w3) (h:∀ o∈L,ld o.2) (m:a<=L.length):∀ c,Src ZX 2 51 (Z7 (Z2 ⟨g,0,Z3⟩) a c) a (aP (L.take a)) w3:=λc=>
 oP (by rw [Tw];omega) (λj f=>by
  rw [Tw] at f;obtain ⟨i,l⟩:=e j (by omega);rw [Tm,List.getElem_take];exact ⟨(World.cell?_of_block (b.block g d)).trans i,(World.cell?_of_block (b.block g d)).trans l⟩) (wC h a)
theorem tN (e:∀ k (n:k<L.length),w1.cell? ⟨g,k*2,Z3⟩=Z2 (Z4 L[k].1)/\w1.cell? ⟨g,k*2+1,Z3⟩=Z2 L[k].2) (d:g<w1.heap.size) (b:ZY w1.heap.size w1 w3) (h:∀ o∈L,ld o.2) (m:a<=L.length):∀ c,Src ZX 2 51 (Z7 (Z2 ⟨g,a*2,Z3⟩) (L.length-a) c) (L.length-a) (aP (L.drop a)) w3:=λc=>
 oP (by rw [Tx]) (λj f=>by
  rw [Tx] at f;obtain ⟨i,l⟩:=e (a+j) (by omega);rw [List.getElem_drop,show a*2+j*2=(a+j)*2 by omega];exact ⟨(World.cell?_of_block (b.block g d)).trans i,(World.cell?_of_block (b.block g d)).trans l⟩) (pJ h a)
theorem wD {k:Nat} (h:k=L.length) (off c:Nat) (w:Z0):Src ZX 2 51 (Z7 (Z2 ⟨g,off,Z3⟩) (L.length-k) c) (L.length-k) (aP (L.drop k)) w:=by
 subst h;rw [Nat.sub_self,List.drop_length];exact Src.ofSlice w Tryz.underlying51 ⟨g,off,Z3⟩ 0 c [] rfl (λj u a=>by simp at a) (λu b=>by simp at b)
theorem rq (c:Z0) (name:ByteArray) (a:Option Addr) (n b:Nat):Src ZX 2 51 (Z7 (Z2 ⟨c.heap.size,0,Z3⟩) 1 1) 1 [Z4 name,.slice a n b] (c.alloc (.cells #[Z4 name,.slice a n b] 80)):=
 Src.ofSlice _ Tryz.underlying51 ⟨c.heap.size,0,Z3⟩ 1 1 [Z4 name,.slice a n b] rfl (λj u f=>by
  rw [Addr.add_mid,Tm];have g:=heap_alloc_last c (.cells #[Z4 name,.slice a n b] 80);have e:(#[Value.string name,.slice a n b]:Array ZZ)[j]?=Z2 u:=by simpa using f
  simp only [World.cell?,g];exact e) (λu d=>by
  simp only [List.mem_cons,List.not_mem_nil,or_false] at d;rcases d with rfl|rfl<;>rfl)
theorem M0 {b1 b2:Nat} (f:w.ownsRow b1 5 1 v n xs) (p:w.ownsRow b2 80 2 u m ys) (o:w.grownBy w' u.ownBlock):w'.ownsRow b1 5 1 v n xs:=by
 refine ⟨f.1,?_⟩;rcases f.2 with l|⟨g,cap,cur,i,j,b,q⟩
 . exact .inl l
 . refine .inr ⟨g,cap,cur,i,j,(o.block g (Ty.1 b).1 (λe=>?_)).trans b,q⟩;rcases p.2 with ⟨rfl,_⟩|⟨k,c,d,rfl,_,a,_⟩
   . cases e
   . have h:k=g:=(by simpa [Value.ownBlock] using e.symm);subst h;rw [b] at a;cases a
theorem EC (h:w.ownsRow base e size v n xs) {k:Nat} (a:v.ownBlock=Z2 k):base<=k:=by
 rcases h.2 with ⟨rfl,_⟩|⟨g,cap,cur,rfl,c,_⟩
 . cases a
 . have b:g=k:=(by simpa [Value.ownBlock] using a);omega
theorem mu {w4:Z0} {o:Obj} (_:oN w r base v L) (j:w3.ownsRow w.heap.size 5 1 vb n xs) (f:ZY w.heap.size w w3) (l:w4.ownsRow w.heap.size 80 2 u a ys) (g:ZY w3.heap.size w3 w4) (h:(w4.alloc o).grownBy w5 u.ownBlock):ZY w.heap.size w w5/\w5.ownsRow w.heap.size 5 1 vb n xs:=by
 have b:ZY w4.heap.size w4 (w4.alloc o):=bA w4 _;have c:ZY w.heap.size w w4:=f.trans (g.mono f.size);have d:ZY w.heap.size w (w4.alloc o):=c.trans (b.mono c.size);have i:=aA l b;exact ⟨d.grown h d.size (λk e=>EC i e),M0 (aA (aA j g) b) i h⟩
theorem kL (d:w5.ownsRow w.heap.size 80 2 u a ys) (b:ZY w.heap.size w w5) (f:w5.ownsRow w.heap.size 5 1 vb n xs) (c:w5.grownBy w6 u.ownBlock):ZY w.heap.size w w6/\w6.ownsRow w.heap.size 5 1 vb n xs:=
 ⟨b.grown c b.size (λ_ e=>EC d e),M0 f d c⟩
def Kv (w:Z0) (r:Nat) (L:List (ByteArray×ZZ)) (x:ByteArray) (d:List Nat) (e:Ending) (w':Z0):Prop:=
 e=Z6 (Z8 Z9 0)/\∃ u vb,oN w' r w.heap.size u (L.take (aF (cy L) x)++(x,vb)::L.drop (aF (cy L) x))/\w'.ownsRow w.heap.size 5 1 vb d.length (aH d)/\aa (λj=>j=r) w w'
theorem oQ {x:ByteArray} {d:List Nat} (D:d.length=n) (y:aF (cy L) x=a) (i:w6.ownsRow w.heap.size 80 2 u m (aP (L.take a)++[Z4 x,vb]++aP (L.drop a))) (t:ZY w.heap.size w w6) (B:w6.ownsRow w.heap.size 5 1 vb n (aH d)) (A:w6.heap[r]?=Z2 (.cells #[v] 53 (0,0))) (G:r<w.heap.size):Kv w r L x d (Z6 (Z8 Z9 0)) (w6.setCell ⟨r,0,Z3⟩ u):=by
 have f:∀ j,j≠r->(w6.setCell ⟨r,0,Z3⟩ u).heap[j]?=w6.heap[j]?:=λj c=>blk_setCell_other _ _ _ _ c;have F:w6.grownBy (w6.setCell ⟨r,0,Z3⟩ u) (Z2 r):=⟨rfl,rfl,rfl,by simp [World.setCell],λj _ c=>f j (λe=>c (by rw [e]))⟩;have l:aP (L.take a)++[Z4 x,vb]++aP (L.drop a)=aP (L.take a++(x,vb)::L.drop a):=by
  rw [jy,List.append_assoc];rfl
 have C:m=(L.take a++(x,vb)::L.drop a).length:=by
  have:=i.1;rw [l,kK] at this;omega
 rw [l,C] at i;have b:∀ {e:TypeId} {size k:Nat} {z:ZZ} {xs:List ZZ},w6.ownsRow w.heap.size e size z k xs->(w6.setCell ⟨r,0,Z3⟩ u).ownsRow w.heap.size e size z k xs:=λ{e size k z xs} h=>by
  refine ⟨h.1,?_⟩;rcases h.2 with s|⟨g,cap,cur,o,p,q,E⟩
  . exact .inl s
  . exact .inr ⟨g,cap,cur,o,p,(f g (by omega)).trans q,E⟩
 refine ⟨rfl,u,vb,?_,?_,?_⟩
 . rw [y];refine ⟨?_,b i⟩;have:=aj (j:=0) A u;exact this
 . rw [D];exact b B
 . exact (aa.of_all t _).trans ⟨rfl,rfl,rfl,by simp [World.setCell],λj _ c=>f j c⟩
def Rs (w:Z0) (L:List (ByteArray×ZZ)) (x:ByteArray) (i:ZZ) (wr:Z0):Prop:=∃ k:Nat,k<=L.length/\i=Z8 Z9 k/\wr=w/\∀ j (hj:j<L.length),j<k->kD L[j].1 x=true
theorem Kw {cap:Nat} (h:oN w r base (Z7 (Z2 ⟨g,0,Z3⟩) L.length cap) L) (hl:L.length<=100000) (W:∀ o∈L,ld o.2) (name:ByteArray) (ao:Option Addr) (c:Nat) (d:List Nat) (hd:Bs w (.slice ao d.length c) d) (q4:d.length<=1500) (ky:bX name) (q3:pI L name) (O:∀ k (hk:k<L.length),w.cell? ⟨g,k*2,Z3⟩=Z2 (Z4 L[k].1)/\w.cell? ⟨g,k*2+1,Z3⟩=Z2 L[k].2) (X:g<w.heap.size) (q6:L.length<=cap) :
 Calls ZX 34 #[.pointer (Z2 ⟨r,0,Z3⟩),Z4 name,.slice ao d.length c] w (Kv w r L name d):=by
 obtain ⟨c0,f0⟩:=h.cell;have hc:=jT h (by omega) name;obtain ⟨id,f,K,J,I⟩:=info_parts Tryz.infoRobj;obtain ⟨ib,ks,ke,kf,kg⟩:=info_parts Tryz.infoByteR;have h0:¬ name.size=0:=by have:=ky.1;omega
 have n0:¬ (name.size:Int)=0:=by omega
 have n1:¬ (16:Int)<(name.size:Int):=by have:=ky.2;omega
 obtain ⟨n,hn⟩:=nM (d.length);have kz:=tL hd;rw [hn] at kz q4 ⊢;have n2:¬ (1500:Int)<(n:Int):=by omega
 have B:r<w.heap.size:=block_lt_of_cell c0;have p:=hide3 kz h hn;clear ky h kz hd hn;go_enter Tryz.func34,Tryz.ntmps34;go_wp2_with fail;refine hc.mono ?_;rintro e w1 ⟨rfl,hf⟩;rcases hf with ⟨k,hk,rfl,hn,kp⟩|⟨rfl,kk⟩
 . exact absurd hn (q3 k hk)
 clear hc kk q3;go_wp2;go_loopw [8] (λi wr=>Rs w1 L name i wr) (λi _=>L.length-(intOf i).toNat)
 case atStart=>exact ⟨0,Nat.zero_le _,rfl,rfl,λj _ h=>by omega⟩
 case round=>
  obtain ⟨k,hk,rfl,rfl,V⟩:=hrel;by_cases kv:k<L.length
  . obtain ⟨q1,q2⟩:=O k kv;obtain ⟨nm,kj⟩:=nM (L[k].1);rw [kj] at q1;have kx:(k:Int)<(L.length:Int):=(by omega);cases h6:kD nm name with
    | true=>
     have q5:Op.bytesLess nm.toList name.toList=true:=h6;have ka:Rs wr L name (Z8 Z9 ((k+1:Nat):Int)) wr:=⟨k+1,by omega,rfl,rfl,λj l h=>by
      rcases Nat.eq_or_lt_of_le (Nat.le_of_lt_succ h) with e|h'
      . subst e;rw [kj];exact h6
      . exact V j l h'⟩
     have HN:=hide ka;clear ka V q2 kj O;go_wp2;refine ⟨by simpa using HN.out,?_⟩;show L.length-((k:Int)+1).toNat<L.length-((k:Int)).toNat;omega
    | false=>
     have q5:Op.bytesLess nm.toList name.toList=Z1:=h6;have U:aF (cy L) name=k:=gx _ _ _ (by unfold cy;rw [Tp];omega) (λj l h=>by
      unfold cy at l ⊢;rw [Tr];exact V j (by rwa [Tp] at l) h) (λhi=>by simp only [cy,Tr,kj];exact h6)
     have k3:¬ cap=k:=(by omega);have k4:k<=cap:=(by omega);have k5:(k:Int)<=(cap:Int):=(by omega);clear V q2 kj;have C:=hide2 U O;clear U O;go_wp2_with (first
      | (at_builtin;refine af _ rfl (Z5 48) (Z5 49) 34 34 rfl wr.heap.size 5 ib (Z8 .u8 0) 1 1 Tryz.underlying34 ks ke kf kg rfl (Z7 Z3 0 0) 0 [] rfl (World.ownsRow_nil _ _ _ _) _ rfl n (aH d) p.out.1 (by unfold maxLen;omega) (by omega) lR ?_;intro vb w3 x a Y;rw [Tm,Tn] at x;have u:ZY wr.heap.size wr w3:=⟨a.os,a.tape,a.output,a.size,λj l=>a.block j l (by simp [Value.ownBlock])⟩;have G:=(u.block r B).trans p.out.2.1.top;have c3:w3.cell? ⟨r,0,Z3⟩=Z2 (Z7 (Z2 ⟨g,0,Z3⟩) L.length cap):=by simp [World.cell?,G]
         have f3:w3.frozen? ⟨r,0,Z3⟩=Z1:=(by simp [World.frozen?,G]);obtain ⟨M,N,rfl⟩:=bE x;have q:=hide3 x u (tM C.out.2 X u W (show k<=L.length by omega));clear x a Y u G)
      | (at_builtin;refine af _ rfl (Z5 51) (Z5 57) 51 51 rfl wr.heap.size 80 id _ 2 40 Tryz.underlying51 f K J I rfl (Z7 Z3 0 0) 0 [] rfl (World.ownsRow_nil _ _ _ _) _ rfl (k) (aP (L.take (k))) (q.out.2.2 cap) (by unfold maxLen;omega) (by omega) q.out.2.1.size ?_;intro v4 A y b Z;rw [Tm,Tn] at y;have P:ZY w3.heap.size w3 A:=⟨b.os,b.tape,b.output,b.size,λj l=>b.block j l (by simp [Value.ownBlock])⟩
         obtain ⟨la,lc,rfl⟩:=bE y;have s:=hide2 y P;clear y b Z P)
      | (at_builtin;refine af _ rfl (Z5 59) (Z5 63) 51 51 rfl wr.heap.size 80 id _ 2 40 Tryz.underlying51 f K J I rfl (.slice la (k) lc) (k) (aP (L.take (k))) rfl (aA s.out.1 (bA A _)) _ rfl 1 [Z4 name,.slice M n N] (rq A name M n N) (by unfold maxLen;omega) (by omega) (To q.out.2.1.size (To s.out.2.size (bA A _).size)) ?_;intro v5 w5 E Q hm
         have km:=mu p.out.2.1 q.out.1 q.out.2.1 s.out.1 s.out.2 Q;obtain ⟨v,S⟩:=km;have H:=(v.block r B).trans p.out.2.1.top;have c5:w5.cell? ⟨r,0,Z3⟩=Z2 (Z7 (Z2 ⟨g,0,Z3⟩) L.length cap):=(by simp [World.cell?,H]);have f5:w5.frozen? ⟨r,0,Z3⟩=Z1:=(by simp [World.frozen?,H]);obtain ⟨ma,mc,rfl⟩:=bE E;have m:=hide4 E v S (tN C.out.2 X v W (show k<=L.length by omega));clear E Q hm v S H)
      | (at_builtin;refine af _ rfl (Z5 65) (Z5 71) 51 51 rfl wr.heap.size 80 id _ 2 40 Tryz.underlying51 f K J I rfl (.slice ma (k+1) mc) (k+1) _ rfl m.out.1 _ rfl (L.length-(k)) (aP (L.drop (k))) (m.out.2.2.2 _) (by unfold maxLen;omega) (by omega) m.out.2.1.size ?_;intro v6 w6 F R hp
         have ko:=kL m.out.1 m.out.2.1 m.out.2.2.1 R;obtain ⟨D,T⟩:=ko;have z:=(D.block r B).trans p.out.2.1.top;have c6:w6.cell? ⟨r,0,Z3⟩=Z2 (Z7 (Z2 ⟨g,0,Z3⟩) L.length cap):=(by simp [World.cell?,z]);have f6:w6.frozen? ⟨r,0,Z3⟩=Z1:=(by simp [World.frozen?,z]);obtain ⟨na,nc,rfl⟩:=bE F;have t:=hide4 F D T z;clear F R hp D T z))
     all_goals (go_ret;exact oQ p.out.2.2 C.out.1 t.out.1 t.out.2.1 t.out.2.2.1 t.out.2.2.2 B)
  . have q0:k=L.length:=(by omega);have kx:¬ (k:Int)<(L.length:Int):=(by omega);have U:aF (cy L) name=k:=gx _ _ _ (by unfold cy;rw [Tp];omega) (λj l h=>by
     unfold cy at l ⊢;rw [Tr];exact V j (by rwa [Tp] at l) h) (λhi=>by unfold cy at hi;rw [Tp] at hi;omega)
    have HK:=hide q0;clear V q0;by_cases kr:cap=k
    . subst kr;clear q6 kv;have C:=hide2 U O;clear U O;go_wp2_with (first
       | (at_builtin;refine af _ rfl (Z5 48) (Z5 49) 34 34 rfl wr.heap.size 5 ib (Z8 .u8 0) 1 1 Tryz.underlying34 ks ke kf kg rfl (Z7 Z3 0 0) 0 [] rfl (World.ownsRow_nil _ _ _ _) _ rfl n (aH d) p.out.1 (by unfold maxLen;omega) (by omega) lR ?_;intro vb w3 x a Y;rw [Tm,Tn] at x;have u:ZY wr.heap.size wr w3:=⟨a.os,a.tape,a.output,a.size,λj l=>a.block j l (by simp [Value.ownBlock])⟩;have G:=(u.block r B).trans p.out.2.1.top;have c3:w3.cell? ⟨r,0,Z3⟩=Z2 (Z7 (Z2 ⟨g,0,Z3⟩) L.length cap):=by simp [World.cell?,G]
          have f3:w3.frozen? ⟨r,0,Z3⟩=Z1:=(by simp [World.frozen?,G]);obtain ⟨M,N,rfl⟩:=bE x;have q:=hide3 x u (tM C.out.2 X u W (show cap<=L.length by omega));clear x a Y u G)
       | (at_builtin;refine af _ rfl (Z5 51) (Z5 57) 51 51 rfl wr.heap.size 80 id _ 2 40 Tryz.underlying51 f K J I rfl (Z7 Z3 0 0) 0 [] rfl (World.ownsRow_nil _ _ _ _) _ rfl (cap) (aP (L.take (cap))) (q.out.2.2 cap) (by unfold maxLen;omega) (by omega) q.out.2.1.size ?_;intro v4 A y b Z;rw [Tm,Tn] at y;have P:ZY w3.heap.size w3 A:=⟨b.os,b.tape,b.output,b.size,λj l=>b.block j l (by simp [Value.ownBlock])⟩
          obtain ⟨la,lc,rfl⟩:=bE y;have s:=hide2 y P;clear y b Z P)
       | (at_builtin;refine af _ rfl (Z5 59) (Z5 63) 51 51 rfl wr.heap.size 80 id _ 2 40 Tryz.underlying51 f K J I rfl (.slice la (cap) lc) (cap) (aP (L.take (cap))) rfl (aA s.out.1 (bA A _)) _ rfl 1 [Z4 name,.slice M n N] (rq A name M n N) (by unfold maxLen;omega) (by omega) (To q.out.2.1.size (To s.out.2.size (bA A _).size)) ?_;intro v5 w5 E Q hm
          have km:=mu p.out.2.1 q.out.1 q.out.2.1 s.out.1 s.out.2 Q;obtain ⟨v,S⟩:=km;have H:=(v.block r B).trans p.out.2.1.top;have c5:w5.cell? ⟨r,0,Z3⟩=Z2 (Z7 (Z2 ⟨g,0,Z3⟩) L.length cap):=(by simp [World.cell?,H]);have f5:w5.frozen? ⟨r,0,Z3⟩=Z1:=(by simp [World.frozen?,H]);obtain ⟨ma,mc,rfl⟩:=bE E;have m:=hide4 E v S (tN C.out.2 X v W (show cap<=L.length by omega));clear E Q hm v S H)
       | (at_builtin;refine af _ rfl (Z5 65) (Z5 71) 51 51 rfl wr.heap.size 80 id _ 2 40 Tryz.underlying51 f K J I rfl (.slice ma (cap+1) mc) (cap+1) _ rfl m.out.1 _ rfl (L.length-(cap)) (aP (L.drop (cap))) (wD HK.out _ _ _) (by unfold maxLen;omega) (by omega) m.out.2.1.size ?_;intro v6 w6 F R hp
          have ko:=kL m.out.1 m.out.2.1 m.out.2.2.1 R;obtain ⟨D,T⟩:=ko;have z:=(D.block r B).trans p.out.2.1.top;have c6:w6.cell? ⟨r,0,Z3⟩=Z2 (Z7 (Z2 ⟨g,0,Z3⟩) L.length cap):=(by simp [World.cell?,z]);have f6:w6.frozen? ⟨r,0,Z3⟩=Z1:=(by simp [World.frozen?,z]);obtain ⟨na,nc,rfl⟩:=bE F;have t:=hide4 F D T z;clear F R hp D T z))
      all_goals (go_ret;exact oQ p.out.2.2 C.out.1 t.out.1 t.out.2.1 t.out.2.2.1 t.out.2.2.2 B)
    . have k4:k<=cap:=(by omega);have k5:(k:Int)<=(cap:Int):=(by omega);clear kv;have C:=hide2 U O;clear U O;go_wp2_with (first
       | (at_builtin;refine af _ rfl (Z5 48) (Z5 49) 34 34 rfl wr.heap.size 5 ib (Z8 .u8 0) 1 1 Tryz.underlying34 ks ke kf kg rfl (Z7 Z3 0 0) 0 [] rfl (World.ownsRow_nil _ _ _ _) _ rfl n (aH d) p.out.1 (by unfold maxLen;omega) (by omega) lR ?_;intro vb w3 x a Y;rw [Tm,Tn] at x;have u:ZY wr.heap.size wr w3:=⟨a.os,a.tape,a.output,a.size,λj l=>a.block j l (by simp [Value.ownBlock])⟩;have G:=(u.block r B).trans p.out.2.1.top;have c3:w3.cell? ⟨r,0,Z3⟩=Z2 (Z7 (Z2 ⟨g,0,Z3⟩) L.length cap):=by simp [World.cell?,G]
          have f3:w3.frozen? ⟨r,0,Z3⟩=Z1:=(by simp [World.frozen?,G]);obtain ⟨M,N,rfl⟩:=bE x;have q:=hide3 x u (tM C.out.2 X u W (show k<=L.length by omega));clear x a Y u G)
       | (at_builtin;refine af _ rfl (Z5 51) (Z5 57) 51 51 rfl wr.heap.size 80 id _ 2 40 Tryz.underlying51 f K J I rfl (Z7 Z3 0 0) 0 [] rfl (World.ownsRow_nil _ _ _ _) _ rfl (k) (aP (L.take (k))) (q.out.2.2 cap) (by unfold maxLen;omega) (by omega) q.out.2.1.size ?_;intro v4 A y b Z;rw [Tm,Tn] at y;have P:ZY w3.heap.size w3 A:=⟨b.os,b.tape,b.output,b.size,λj l=>b.block j l (by simp [Value.ownBlock])⟩
          obtain ⟨la,lc,rfl⟩:=bE y;have s:=hide2 y P;clear y b Z P)
       | (at_builtin;refine af _ rfl (Z5 59) (Z5 63) 51 51 rfl wr.heap.size 80 id _ 2 40 Tryz.underlying51 f K J I rfl (.slice la (k) lc) (k) (aP (L.take (k))) rfl (aA s.out.1 (bA A _)) _ rfl 1 [Z4 name,.slice M n N] (rq A name M n N) (by unfold maxLen;omega) (by omega) (To q.out.2.1.size (To s.out.2.size (bA A _).size)) ?_;intro v5 w5 E Q hm
          have km:=mu p.out.2.1 q.out.1 q.out.2.1 s.out.1 s.out.2 Q;obtain ⟨v,S⟩:=km;have H:=(v.block r B).trans p.out.2.1.top;have c5:w5.cell? ⟨r,0,Z3⟩=Z2 (Z7 (Z2 ⟨g,0,Z3⟩) L.length cap):=(by simp [World.cell?,H]);have f5:w5.frozen? ⟨r,0,Z3⟩=Z1:=(by simp [World.frozen?,H]);obtain ⟨ma,mc,rfl⟩:=bE E;have m:=hide4 E v S (tN C.out.2 X v W (show k<=L.length by omega));clear E Q hm v S H)
       | (at_builtin;refine af _ rfl (Z5 65) (Z5 71) 51 51 rfl wr.heap.size 80 id _ 2 40 Tryz.underlying51 f K J I rfl (.slice ma (k+1) mc) (k+1) _ rfl m.out.1 _ rfl (L.length-(k)) (aP (L.drop (k))) (wD HK.out _ _ _) (by unfold maxLen;omega) (by omega) m.out.2.1.size ?_;intro v6 w6 F R hp
          have ko:=kL m.out.1 m.out.2.1 m.out.2.2.1 R;obtain ⟨D,T⟩:=ko;have z:=(D.block r B).trans p.out.2.1.top;have c6:w6.cell? ⟨r,0,Z3⟩=Z2 (Z7 (Z2 ⟨g,0,Z3⟩) L.length cap):=(by simp [World.cell?,z]);have f6:w6.frozen? ⟨r,0,Z3⟩=Z1:=(by simp [World.frozen?,z]);obtain ⟨na,nc,rfl⟩:=bE F;have t:=hide4 F D T z;clear F R hp D T z))
      all_goals (go_ret;exact oQ p.out.2.2 C.out.1 t.out.1 t.out.2.1 t.out.2.2.1 t.out.2.2.2 B)
theorem Kx (h:oN w r base (Z7 Z3 0 0) []) (name:ByteArray) (N:Option Addr) (c:Nat) (d:List Nat) (R:Bs w (.slice N d.length c) d) (kb:d.length<=1500) (I:bX name) :
 Calls ZX 34 #[.pointer (Z2 ⟨r,0,Z3⟩),Z4 name,.slice N d.length c] w (Kv w r [] name d):=by
 obtain ⟨X,f0⟩:=h.cell;have Q:=jT h (by simp) name;obtain ⟨id,b,F,D,B⟩:=info_parts Tryz.infoRobj;obtain ⟨ib,kc,hq,hr,hs⟩:=info_parts Tryz.infoByteR;have h0:¬ name.size=0:=by have:=I.1;omega
 have n0:¬ (name.size:Int)=0:=by omega
 have n1:¬ (16:Int)<(name.size:Int):=by have:=I.2;omega
 obtain ⟨n,E⟩:=nM (d.length);have J:=tL R;rw [E] at J kb ⊢;have n2:¬ (1500:Int)<(n:Int):=by omega
 have u:r<w.heap.size:=block_lt_of_cell X;have f:=hide3 J h E;clear I h J R E;go_enter Tryz.func34,Tryz.ntmps34;go_wp2_with fail;refine Q.mono ?_;rintro e w1 ⟨rfl,hf⟩;rcases hf with ⟨k,hk,_⟩|⟨rfl,_⟩
 . exact absurd hk (by simp)
 clear Q;go_wp2;go_loopw [8] (λi wr=>i=Z8 Z9 0/\wr=w1) (λ_ _=>0)
 case atStart=>exact ⟨rfl,rfl⟩
 case round=>
  obtain ⟨rfl,rfl⟩:=hrel;go_wp2_with (first
   | (at_builtin;refine af _ rfl (Z5 48) (Z5 49) 34 34 rfl wr.heap.size 5 ib (Z8 .u8 0) 1 1 Tryz.underlying34 kc hq hr hs rfl (Z7 Z3 0 0) 0 [] rfl (World.ownsRow_nil _ _ _ _) _ rfl n (aH d) f.out.1 (by unfold maxLen;omega) (by omega) lR ?_;intro vb w3 s g Y;rw [Tm,Tn] at s;have y:ZY wr.heap.size wr w3:=⟨g.os,g.tape,g.output,g.size,λj C=>g.block j C (by simp [Value.ownBlock])⟩;have K:=(y.block r u).trans f.out.2.1.top;have c3:w3.cell? ⟨r,0,Z3⟩=Z2 (Z7 Z3 0 0):=by simp [World.cell?,K]
      have f3:w3.frozen? ⟨r,0,Z3⟩=Z1:=(by simp [World.frozen?,K]);obtain ⟨O,P,rfl⟩:=bE s;have o:=hide2 s y;clear s g Y y K)
   | (at_builtin;refine af _ rfl (Z5 51) (Z5 57) 51 51 rfl wr.heap.size 80 id _ 2 40 Tryz.underlying51 b F D B rfl (Z7 Z3 0 0) 0 [] rfl (World.ownsRow_nil _ _ _ _) _ rfl 0 [] (Src.ofNil _ Tryz.underlying51 0) (by unfold maxLen;omega) (by omega) o.out.2.size ?_;intro v4 x t l Z;rw [Tm,Tn] at t;have S:ZY w3.heap.size w3 x:=⟨l.os,l.tape,l.output,l.size,λj C=>l.block j C (by simp [Value.ownBlock])⟩
      obtain ⟨la,lc,rfl⟩:=bE t;have p:=hide2 t S;clear t l Z S)
   | (at_builtin;refine af _ rfl (Z5 59) (Z5 63) 51 51 rfl wr.heap.size 80 id _ 2 40 Tryz.underlying51 b F D B rfl (.slice la 0 lc) 0 [] rfl (aA p.out.1 (bA x _)) _ rfl 1 [Z4 name,.slice O n P] (rq x name O n P) (by unfold maxLen;omega) (by omega) (To o.out.2.size (To p.out.2.size (bA x _).size)) ?_;intro v5 w5 G T h9
      have ke:=mu f.out.2.1 o.out.1 o.out.2 p.out.1 p.out.2 T;obtain ⟨z,V⟩:=ke;have M:=(z.block r u).trans f.out.2.1.top;have c5:w5.cell? ⟨r,0,Z3⟩=Z2 (Z7 Z3 0 0):=(by simp [World.cell?,M]);have f5:w5.frozen? ⟨r,0,Z3⟩=Z1:=(by simp [World.frozen?,M]);obtain ⟨ma,mc,rfl⟩:=bE G;have m:=hide3 G z V;clear G T h9 z V M)
   | (at_builtin;refine af _ rfl (Z5 65) (Z5 71) 51 51 rfl wr.heap.size 80 id _ 2 40 Tryz.underlying51 b F D B rfl (.slice ma 1 mc) 1 _ rfl m.out.1 _ rfl 0 [] (Src.ofNil _ Tryz.underlying51 0) (by unfold maxLen;omega) (by omega) m.out.2.1.size ?_;intro v6 w6 H U ha
      have kf:=kL m.out.1 m.out.2.1 m.out.2.2 U;obtain ⟨A,W⟩:=kf;have v:=(A.block r u).trans f.out.2.1.top;have c6:w6.cell? ⟨r,0,Z3⟩=Z2 (Z7 Z3 0 0):=(by simp [World.cell?,v]);have f6:w6.frozen? ⟨r,0,Z3⟩=Z1:=(by simp [World.frozen?,v]);obtain ⟨na,nc,rfl⟩:=bE H;have q:=hide4 H A W v;clear H U ha A W v))
  all_goals (go_ret;exact oQ (a:=0) (L:=[]) f.out.2.2 rfl q.out.1 q.out.2.1 q.out.2.2.1 q.out.2.2.2 u)
theorem ED (h:oN w r base v L) (u:L.length<=100000) (x:∀ o∈L,ld o.2) (name:ByteArray) (a:Option Addr) (c:Nat) (d:List Nat) (j:Bs w (.slice a d.length c) d) (f:d.length<=1500) (i:bX name) (t:pI L name) :
 Calls ZX 34 #[.pointer (Z2 ⟨r,0,Z3⟩),Z4 name,.slice a d.length c] w (Kv w r L name d):=by
 rcases h.shape with ⟨rfl,rfl⟩|⟨g,cap,rfl,z,p,n⟩
 . exact Kx h name a c d j f i
 . have s:g<w.heap.size:=by
    rcases h.own.2 with ⟨q,_⟩|⟨m,b,cur,e,y,l,_⟩
    . cases q
    . have k:g=m:=by
       simp only [Value.slice.injEq,Option.some.injEq,Addr.mk.injEq] at e;exact e.1.1
      rw [k];exact (Ty.1 l).1
   exact Kw h u x name a c d j f i t n s p
end Go.Proofs.YtfbmmcnpjhmjaaaGreatDoor
