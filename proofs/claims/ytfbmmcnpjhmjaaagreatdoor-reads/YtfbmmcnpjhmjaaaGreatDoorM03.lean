import Derived.Test.YtfbmmcnpjhmjaaaGreatDoorM02
import Derived.Laws.BitsLemmas
import Derived.Test.YtfbmmcnpjhmjaaaGreatDoorM01
import Derived.Laws.CopyOwn
import Derived.Deep.RegionWith
import Derived.RegionTactic
import Derived.RangeFuncNested
import Derived.RangeFuncBound
import Derived.RangeFuncLeaves
import Derived.Shelf.Abstract
import Derived.Shelf.RegionOpen
import Derived.OwnWalkIn
import Derived.TacticsInMore
import Derived.LoopNIn
import Derived.LoopIn
set_option maxRecDepth 100000
set_option maxHeartbeats 8000000
open Go.Value renaming int -> Z9
open Go.Ending renaming returned -> Z8
open Go renaming undef -> Z7, World -> Z2, Value -> Z1, Act -> ZZ
open Option renaming none -> Z6, some -> Z5
open Bool renaming true -> Z4, false -> Z3
open Go.RowKit renaming Below -> Z0
open Array renaming getD_eq_getD_getElem? -> Tm, getElem?_eq_some_iff -> Tn, getElem?_eq_getElem -> Tu, all_eq_true' -> TI, replicate -> TL
open List renaming range -> To, mem_range -> Tr, ext_getElem -> Tt, length_map -> Tv, mem_map -> Tw, mem_filter -> Tx, all_eq_true -> Tz, set_append_right -> TF, mem_append -> TG, length_eq_zero_iff -> TJ, filter_eq_nil_iff -> TK
open Nat renaming le_refl -> Tp, mod_eq_of_lt -> Tq
open Bool renaming and_eq_true_iff -> Ts, eq_iff_iff -> TE
open Option renaming map_some -> Ty, getD_some -> TH
open BitVec renaming ofInt_natCast -> TA, toNat_xor -> TB, toNat_ofNat -> TC
open Int renaming natCast_nonneg -> TD
open Go.Proofs.Tryz renaming prog -> ZY
namespace Go.Proofs.YtfbmmcnpjhmjaaaGreatDoor
open Go.RowKit
variable {listed:Array Bool} {ops:Array Oper} {args:Array Z1} {R R':Ending->Z2->Prop} {f:FuncId} {D:List (List Nat)} {L:List (Nat×Nat×List Nat)} {sh:List (Op×Option Nat×List Nat)} {cs:List Frame} {k:List Item} {l:List Nat} {b base n lo hi i m B:Nat} {o:Oper} {x:Operand} {P:Program} {α:Type} {v:Z1} {Vi:Z1->Z2->Prop} {a w w':Z2} {S:Z2->Prop}
section
open Gf
theorem hide {p:Prop} (h:p):Hid p:=h
theorem nM {α:Type _} (a:α):∃ x,a=x:=⟨a,rfl⟩
theorem lR {n:Nat}:n<=n:=Tp n
theorem bA (w:Z2) (o:Obj):Z0 w.heap.size w (w.alloc o):=(Below.refl _ w).alloc (Tp _) o
theorem hide2 {p0 p1:Prop} (a:p0) (b:p1):Go.RowKit.Hid (p0/\p1):=hide ⟨a,b⟩
theorem hide3 {p0 p1 p2:Prop} (a:p0) (b:p1) (c:p2):Go.RowKit.Hid (p0/\p1/\p2):=hide ⟨a,b,c⟩
theorem hide4 {p0 p1 p2 p3:Prop} (a:p0) (b:p1) (c:p2) (d:p3):Go.RowKit.Hid (p0/\p1/\p2/\p3):=hide ⟨a,b,c,d⟩
theorem hide5 {p0 p1 p2 p3 p4:Prop} (a:p0) (b:p1) (c:p2) (d:p3) (e:p4):Go.RowKit.Hid (p0/\p1/\p2/\p3/\p4):=hide ⟨a,b,c,d,e⟩
theorem hide6 {p0 p1 p2 p3 p4 p5:Prop} (a:p0) (b:p1) (c:p2) (d:p3) (e:p4) (f:p5):Go.RowKit.Hid (p0/\p1/\p2/\p3/\p4/\p5):=hide ⟨a,b,c,d,e,f⟩
theorem hide7 {p0 p1 p2 p3 p4 p5 p6:Prop} (a:p0) (b:p1) (c:p2) (d:p3) (e:p4) (f:p5) (g:p6):Go.RowKit.Hid (p0/\p1/\p2/\p3/\p4/\p5/\p6):=hide ⟨a,b,c,d,e,f,g⟩
theorem hide8 {p0 p1 p2 p3 p4 p5 p6 p7:Prop} (a:p0) (b:p1) (c:p2) (d:p3) (e:p4) (f:p5) (g:p6) (h:p7):Go.RowKit.Hid (p0/\p1/\p2/\p3/\p4/\p5/\p6/\p7):=hide ⟨a,b,c,d,e,f,g,h⟩
theorem hide9 {p0 p1 p2 p3 p4 p5 p6 p7 p8:Prop} (a:p0) (b:p1) (c:p2) (d:p3) (e:p4) (f:p5) (g:p6) (h:p7) (i:p8):Go.RowKit.Hid (p0/\p1/\p2/\p3/\p4/\p5/\p6/\p7/\p8):=hide ⟨a,b,c,d,e,f,g,h,i⟩
theorem hide10 {p0 p1 p2 p3 p4 p5 p6 p7 p8 p9:Prop} (a:p0) (b:p1) (c:p2) (d:p3) (e:p4) (f:p5) (g:p6) (h:p7) (i:p8) (j:p9):Go.RowKit.Hid (p0/\p1/\p2/\p3/\p4/\p5/\p6/\p7/\p8/\p9):=hide ⟨a,b,c,d,e,f,g,h,i,j⟩
theorem hide11 {p0 p1 p2 p3 p4 p5 p6 p7 p8 p9 p10:Prop} (b:p0) (c:p1) (d:p2) (e:p3) (f:p4) (g:p5) (h:p6) (i:p7) (j:p8) (k:p9) (a:p10):Go.RowKit.Hid (p0/\p1/\p2/\p3/\p4/\p5/\p6/\p7/\p8/\p9/\p10):=hide ⟨b,c,d,e,f,g,h,i,j,k,a⟩
theorem hide12 {p0 p1 p2 p3 p4 p5 p6 p7 p8 p9 p10 p11:Prop} (c:p0) (d:p1) (e:p2) (f:p3) (g:p4) (h:p5) (i:p6) (j:p7) (k:p8) (l:p9) (a:p10) (b:p11):Go.RowKit.Hid (p0/\p1/\p2/\p3/\p4/\p5/\p6/\p7/\p8/\p9/\p10/\p11):=hide ⟨c,d,e,f,g,h,i,j,k,l,a,b⟩
theorem hide13 {p0 p1 p2 p3 p4 p5 p6 p7 p8 p9 p10 p11 p12:Prop} (d:p0) (e:p1) (f:p2) (g:p3) (h:p4) (i:p5) (j:p6) (k:p7) (l:p8) (m:p9) (a:p10) (b:p11) (c:p12):Go.RowKit.Hid (p0/\p1/\p2/\p3/\p4/\p5/\p6/\p7/\p8/\p9/\p10/\p11/\p12):=hide ⟨d,e,f,g,h,i,j,k,l,m,a,b,c⟩
theorem hide14 {p0 p1 p2 p3 p4 p5 p6 p7 p8 p9 p10 p11 p12 p13:Prop} (e:p0) (f:p1) (g:p2) (h:p3) (i:p4) (j:p5) (k:p6) (l:p7) (m:p8) (n:p9) (a:p10) (b:p11) (c:p12) (d:p13):Go.RowKit.Hid (p0/\p1/\p2/\p3/\p4/\p5/\p6/\p7/\p8/\p9/\p10/\p11/\p12/\p13):=hide ⟨e,f,g,h,i,j,k,l,m,n,a,b,c,d⟩
theorem qT {k:IntKind} {a b:Int} (h:a=b):Ending.returned (.int k a)=Z8 (.int k b):=by rw [h]
theorem Ht (a b:Nat) (c:a<256) (d:b<256):bits .and .u8 (a:Int) (b:Int)=((a &&& b:Nat):Int):=
 (bits_nat .u8 8 (by decide) wraps_u8 a b c d).1
theorem mT (a b:Nat) (c:a<256) (d:b<256):bits .xor .u8 (a:Int) (b:Int)=((a^^^b:Nat):Int):=by
 have e:a%2^IntKind.u8.bits=a:=Tq c;have f:b%2^IntKind.u8.bits=b:=Tq d;simp only [bits,TA,TB,TC,e,f];have:=jU c d;exact wraps_u8 _ (TD _) (by omega)
theorem uN (n:Int) (a:0<=n) (b:n<2^62):IntKind.i64.wrap n=n:=by rw [IntKind.wrap_i64];omega
theorem Lc (a b:Nat) (c:a<2^62) (d:b<2^62):bits .and .i64 (a:Int) (b:Int)=((a &&& b:Nat):Int):=
 (bits_nat .i64 62 (by decide) uN a b c d).1
theorem Ld (a b:Nat) (c:a<2^62) (d:b<2^62):bits .xor .i64 (a:Int) (b:Int)=((a^^^b:Nat):Int):=by
 have e:(2:Nat)^62<2^IntKind.i64.bits:=by decide
 have f:a%2^IntKind.i64.bits=a:=Tq (Nat.lt_trans c e);have g:b%2^IntKind.i64.bits=b:=Tq (Nat.lt_trans d e);simp only [bits,TA,TB,TC,f,g];have:=Nat.xor_lt_two_pow (n:=62) c d;exact uN _ (TD _) (by exact_mod_cast this)
theorem Nb:∀ a,a<256->((a &&& 128=0)↔a<128):=by decide +kernel
theorem Le (a:Nat) (h:a<256):(bits .and .u8 (a:Int) 128 != 0)=decide (128<=a):=by
 have e:=Ht a 128 h (by decide);rw [show ((128:Nat):Int)=128 from rfl] at e;rw [e];have:=Nb a h;rw [TE];simp;omega
theorem O2 (a:Nat):a &&& 1=a%2:=Nat.and_one_is_mod a
theorem O3 (a:Nat) (h:a<256):(bits .and .u8 (a:Int) 1 != 0)=decide (a%2=1):=by
 have e:=Ht a 1 h (by decide);rw [show ((1:Nat):Int)=1 from rfl] at e;rw [e,O2];rw [TE];simp;omega
theorem O4 {a:Nat} (h:a<256) (b:128<=a):bits .xor .u8 ((a:Int)*2%256) 29=(tx a:Int):=by
 have e:((a:Int)*2%256)=((2*a-256:Nat):Int):=by omega
 rw [e,show (29:Int)=((29:Nat):Int) from rfl,mT _ _ (by omega) (by decide)];unfold tx;rw [if_neg (by omega)]
theorem O5 {a:Nat} (b:a<128):(a:Int)*2=(tx a:Int):=by
 unfold tx;rw [if_pos b];omega
theorem mV (a:Nat) (h:a<256) (w:Z2) :
 Calls ZY 135 #[Z9 .u8 a] w λe w'=>e=Z8 (Z9 .u8 (tx a))/\w'=w:=by
 have c:=Le a h;by_cases b:128<=a
 . rw [decide_eq_true b] at c;go_enter Tryz.func135,Tryz.ntmps135;go_wp2;go_ret;exact ⟨qT (O4 h b),rfl⟩
 . rw [decide_eq_false b] at c;go_enter Tryz.func135,Tryz.ntmps135;go_wp2;go_ret;exact ⟨qT (O5 (by omega)),rfl⟩
theorem Hu (n:Nat):∀ a p,wN n a 0 p=p:=by
 induction n with
 | zero=>intro a p;rfl
 | succ n ih=>intro a p;simp only [wN];exact ih _ _
theorem lW (a b:Nat) (o:a<256) (j:b<256) (w:Z2) :
 Calls ZY 92 #[Z9 .u8 a,Z9 .u8 b] w λe w'=>e=Z8 (Z9 .u8 (gm a b))/\w'=w:=by
 go_enter Tryz.func92,Tryz.ntmps92;go_wp2;go_loop [0,1,5] (λs t u=>∃ n x y z:Nat,x<256/\y<256/\z<256/\y<2^n/\Hid (wN n x y z=gm a b)/\s=Z9 .u8 x/\t=Z9 .u8 y/\u=Z9 .u8 z) (λ_ t _=>(intOf t).toNat)
 case atStart=>exact ⟨8,a,b,0,o,j,by decide,j,rfl,rfl,rfl,rfl⟩
 case round=>
  obtain ⟨n,x,y,z,c,p,h,k,g,rfl,rfl,rfl⟩:=hrel;by_cases m:y=0
  . subst m;go_wp2;go_ret;exact ⟨qT (by rw [<- g.out,Hu]),rfl⟩
  . have r:((y:Int) != 0)=Z4:=(by rw [bne_iff_ne];omega);have l:=O3 y p;cases n with
    | zero=>exact absurd k (by simp;omega)
    | succ n=>
    have i:y/2<2^n:=(by rw [Nat.pow_succ] at k;omega);by_cases d:y%2=1
    . rw [decide_eq_true d] at l;have f:Hid (wN n (tx x) (y/2) (z^^^x)=gm a b):=(by have:=g.out;simp only [wN] at this;rw [if_pos d] at this;exact this);have q:=mT z x h c;go_wp2_with (go_at_call 135;refine (mV _ c _).mono ?_;rintro e w' ⟨rfl,rfl⟩);go_round
      case rel=>exact ⟨n,tx x,y/2,z^^^x,zo c,by omega,jU h c,i,f,rfl,by go_num,rfl⟩
      case measure=>simp [intOf];omega
    . rw [decide_eq_false d] at l;have f:Hid (wN n (tx x) (y/2) z=gm a b):=(by have:=g.out;simp only [wN] at this;rw [if_neg d] at this;exact this);go_wp2_with (go_at_call 135;refine (mV _ c _).mono ?_;rintro e w' ⟨rfl,rfl⟩);go_round
      case rel=>exact ⟨n,tx x,y/2,z,zo c,by omega,h,i,f,rfl,by go_num,rfl⟩
      case measure=>simp [intOf];omega
theorem Hv (n p v:Nat):MJ (n+1) p v=MJ n (gm p p) (gm v (gm p p)):=rfl
theorem qU (a:Nat) (h:a<256) (w:Z2) :
 Calls ZY 90 #[Z9 .u8 a] w λe w'=>e=Z8 (Z9 .u8 (gi a))/\w'=w:=by
 go_enter Tryz.func90,Tryz.ntmps90;go_wp2;go_loop [3,4,6] (λs t u=>∃ k p v:Nat,k<=7/\p<256/\v<256/\Hid (MJ (7-k) p v=gi a)/\s=Z9 .u8 v/\t=Z9 .u8 p/\u=Z9 .i64 k) (λ_ _ u=>7-(intOf u).toNat)
 case atStart=>exact ⟨0,a,1,by decide,h,by decide,rfl,rfl,rfl,rfl⟩
 case round=>
  obtain ⟨k,p,v,j,b,d,c,rfl,rfl,rfl⟩:=hrel;by_cases i:k<7
  . have f:Hid (MJ (7-(k+1)) (gm p p) (gm v (gm p p))=gi a):=by
     have:=c.out;rw [show 7-k=(7-(k+1))+1 from by omega,Hv] at this;exact this
    go_wp2_with fail;refine (lW p p b b _).mono ?_;rintro e w' ⟨rfl,rfl⟩;go_wp2_with fail;refine (lW v (gm p p) d (aU _ b) _).mono ?_;rintro e w' ⟨rfl,rfl⟩;go_wp2_with fail;go_round
    case rel=>exact ⟨k+1,gm p p,gm v (gm p p),by omega,aU _ b,aU _ d,f,rfl,rfl,by go_num⟩
    case measure=>simp [intOf];omega
  . have g:k=7:=(by omega);subst g;go_wp2;go_ret;exact ⟨qT (by rw [<- c.out];rfl),rfl⟩
end
section
open Go.Deep Gf
def xr (c:Nat) (l:List Nat):List Nat:=l.map (λx=>x^^^c)
def qJ (c k:Nat) (l:List Nat):List Nat:=(To l.length).map λj=>if j<k then l.getD j 0^^^c else l.getD j 0
theorem ET (c:Nat) (l:List Nat):qJ c 0 l=l:=by
 unfold qJ;apply Tt
 . simp
 . intro j b a;simp [a]
theorem Hx (c:Nat) (l:List Nat):qJ c l.length l=xr c l:=by
 unfold qJ xr;apply Tt
 . simp
 . intro j a b;simp at a;simp [a]
theorem Hy (c k:Nat) (l:List Nat):(qJ c k l).length=l.length:=by simp [qJ]
theorem Hz (c k:Nat) (l:List Nat) (a:k<l.length):(qJ c k l).getD k 0=l.getD k 0:=by simp [qJ,a]
theorem EU (c k:Nat) (l:List Nat):(qJ c k l).set k (l.getD k 0^^^c)=qJ c (k+1) l:=by
 unfold qJ;apply Tt
 . simp
 . intro j b d;simp [List.getElem_set];by_cases e:k=j
   . subst e;simp
   . simp only [if_neg e];by_cases a:j<k
     . rw [if_pos a,if_pos (by omega)]
     . rw [if_neg a,if_neg (by omega)]
def Rv (wo:Z2) (b c:Nat) (l:List Nat) (i:Z1) (wr:Z2):Prop:=
 ∃ k:Nat,k<=l.length/\i=Z9 .i64 k/\wo.grownBy wr (Z5 b)/\aM wr b (qJ c k l)
end
section
open Go.Deep Gf
def Rd (w:Z2) (v:Z1) (D:List (List Nat)):Prop:=
 ∃ ao c,v=.slice ao D.length c/\D.length<=5864062014805/\(D≠[]->∃ b off,ao=Z5 ⟨b,off,Z6⟩/\∀ i (hi:i<D.length),∃ u,w.cell? ⟨b,off+i,Z6⟩=Z5 u/\Bs w u D[i])
theorem Bs.lt (h:Bs w v l):∀ x∈l,x<256:=by
 obtain ⟨_,_,_,_,_,a,_⟩:=h;exact a
theorem Rd.mono (h:Rd w v D) (a:Z0 w.heap.size w w'):Rd w' v D:=by
 obtain ⟨f,c,g,j,k⟩:=h;refine ⟨f,c,g,j,λm=>?_⟩;obtain ⟨b,off,e,n⟩:=k m;refine ⟨b,off,e,λi hi=>?_⟩;obtain ⟨u,d,l⟩:=n i hi;exact ⟨u,by rw [a.cell (block_lt_of_cell d)];exact d,l.mono a⟩
theorem Rd.cases (h:Rd w v D):(D=[]/\∃ a c,v=.slice a 0 c)\/∃ b off c,v=.slice (Z5 ⟨b,off,Z6⟩) D.length c/\D.length<=5864062014805/\∀ i (hi:i<D.length),∃ u,w.cell? ⟨b,off+i,Z6⟩=Z5 u/\Bs w u D[i]:=by
 obtain ⟨a,c,d,f,g⟩:=h;by_cases e:D=[]
 . subst e;exact .inl ⟨rfl,a,c,d⟩
 . obtain ⟨b,off,rfl,j⟩:=g e;exact .inr ⟨b,off,c,d,f,j⟩
theorem aM.heap (h:aM w b l):w.heap[b]?=Z5 (.cells (l.map (λx=>Value.int .u8 ((x:Nat):Int))).toArray 5 (0,0)):=by
 obtain ⟨c,d,f,e⟩:=h;have:c=(l.map (λx=>Value.int .u8 ((x:Nat):Int))).toArray:=by
  apply Array.ext
  . simp [f]
  . intro i a g;have:=e i (by omega);rw [Tu a] at this;simp [vb] at this;have hi:i<l.length:=(by omega);simp [this,hi]
 rw [<- this];exact d
theorem aM.of_heap (h:w.heap[b]?=Z5 (.cells (l.map (λx=>Value.int .u8 ((x:Nat):Int))).toArray 5 (0,0))):aM w b l:=
 ⟨_,h,by simp,λi hi=>by simp [vb,hi]⟩
theorem EV {rest:List Oper} {a:ZZ} {Q:Exit->ZZ->Z2->Prop} (t:o.guard=Z6) (d s:Operand)
 (ho:o.op=.call { callee:=.builtin .copy,args:=#[d,s],argTypes:=#[34,34] }) (g n cap:Nat) (v:Z1) (hd:a.eval d=.slice (Z5 ⟨g,0,Z6⟩) n cap) (hs:a.eval s=v)
 (old src:List Nat) (hB:aM w g old) (hS:Bs w v src) (h9:src.length<=n) (hn:n<=old.length) (B:Nat) (w0:Z2) (hb:Z0 B w0 w) (h5:B<=g)
 (h:∀ w',aM w' g (src++old.drop src.length)->Z0 B w0 w'->wpList ZY ops Q rest (a.put o.dst (goInt src.length)) w'):wpList ZY ops Q (o::rest) a w:=by
 obtain ⟨m,c,rfl,C,D,E,p⟩:=hS;refine wpList_copy_splice t d s 34 34 ho 5 Tryz.underlying34 (by kernel_rfl) (Z5 ⟨g,0,Z6⟩) m n cap src.length c hd hs g 0 _ 5 hB.heap (src.map (λx=>Value.int .u8 ((x:Nat):Int))) ?_ ?_ ?_ ?_ B w0 hb h5 ?_
 . rw [Tv];show src.length=min src.length n;omega
 . intro k;rw [Tv] at k;obtain ⟨b,off,rfl,z⟩:=p (by intro e;rw [e] at k;simp at k);refine ⟨rfl,_,rfl,λj u i=>?_⟩;have f:j<src.length:=by
    have:=List.getElem?_eq_some_iff.1 i;obtain ⟨q,_⟩:=this;simpa using q
   rw [Addr.add_mid,z j f];simp [f] at i;simp [f,i]
 . simp;omega
 . intro u A;obtain ⟨x,_,rfl⟩:=Tw.1 A;rfl
 . intro w' y r;have e:(splice (old.map (λx=>Value.int .u8 ((x:Nat):Int))) 0 (src.map (λx=>Value.int .u8 ((x:Nat):Int))))=(src++old.drop src.length).map (λx=>Value.int .u8 ((x:Nat):Int)):=by
    simp [splice]
   have l:=y.out;rw [e] at l;rw [Tv];exact h w' (aM.of_heap l) r
theorem BV (l:List Nat):l++(List.replicate (l.length+2) 0).drop l.length=l++[0,0]:=by
 rw [List.drop_replicate,Nat.add_sub_cancel_left];rfl
theorem Ia (l:List Nat):((l++[0,0]).set l.length 71).set (l.length+1) 72=l++[71,72]:=by
 rw [TF _ _ lR,TF _ _ (by omega)];simp
theorem EX (v:Z1) (l:List Nat) (w:Z2) (h:Bs w v l) (t:l.length<=1000000) :
 Calls ZY 31 #[v] w λe w'=>∃ b,e=Z8 (.slice (Z5 ⟨b,0,Z6⟩) l.length (l.length+2))/\w.heap.size<=b/\aM w' b (l++[71,72])/\Z0 w.heap.size w w':=by
 have n:=h;obtain ⟨p,c,rfl,f,g,i,j⟩:=h;clear f g i j;go_enter Tryz.func31,Tryz.ntmps31;go_wp2_with (first
  | (at_make;refine eB _ rfl (.tmp 8) (.tmp 8) rfl _ (l.length+2) rfl rfl (by omega) (by omega) ?_;intro w1 m d o;clear o)
  | (refine EV rfl (.tmp 10) (.tmp 11) rfl w.heap.size (l.length+2) (l.length+2) _ rfl rfl _ l m (n.mono d) (by omega) (by simp) w.heap.size w d lR ?_;intro w2 a k;rw [BV] at a;have c1:=a.cell l.length (by simp);have q:=a.cell (l.length+1) (by simp);have r:=a.frozen l.length;have s:=a.frozen (l.length+1)))
 go_ret;refine ⟨w.heap.size,rfl,Tp _,?_,?_⟩
 . have:=(a.set l.length 71).set (l.length+1) 72;rw [Ia] at this;exact this
 . exact (k.setCell (by simp) _).setCell (by simp) _
theorem EY (b:Nat) (vb:Z1) (l:List Nat) (w:Z2) (g:aM w b (l++[71,72])) (o:Bs w vb l) (M:l.length<=1000000) :
 Calls ZY 33 #[.slice (Z5 ⟨b,0,Z6⟩) l.length (l.length+2),vb] w λe w'=>e=Z8 (.bool Z4)/\w.grownBy w' (Z5 b)/\aM w' b (xr 85 (l++[71,72])):=by
 have z:=o.lt;have i:(l++[71,72]).length=l.length+2:=by simp
 have t:Bs w (.slice (Z5 ⟨b,0,Z6⟩) l.length (l.length+2)) l:=by
  have:=Bs.of_row (n:=l.length) g (by simp) (by omega) (by intro x d;rcases TG.1 d with q|q;exact z x q;simp at q;omega);rw [i,List.take_left'] at this;exact this;rfl
 have c1:=g.cell l.length (by simp);have p:=g.cell (l.length+1) (by simp);have r:(l++[71,72]).getD l.length 0=71:=by simp
 have s:(l++[71,72]).getD (l.length+1) 0=72:=by simp
 rw [r] at c1;rw [s] at p;have u:=o;have d:∀ x∈l++[71,72],x<256:=by intro x d;rcases TG.1 d with q|q;exact z x q;simp at q;omega
 obtain ⟨I,c,rfl,A,B,C,D⟩:=o;clear A B C D r s;generalize hL:l++[71,72]=L at *;go_enter Tryz.func33,Tryz.ntmps33;go_wp2_with fail;refine (D3 _ _ l _ t u).mono ?_;rintro e w1 ⟨rfl,m,rfl⟩;clear t u hL;have h:=hide i;clear i;go_wp2;clear c1 p;go_loopw [8] (λj wr=>Rv w b 85 L j wr) (λj _=>L.length-(intOf j).toNat)
 case atStart=>exact ⟨0,Nat.zero_le _,rfl,BS (World.grownBy.refl _ _) _,by rw [ET];exact g⟩
 case round=>
  obtain ⟨j,H,rfl,k,a⟩:=hrel;have K:j<=l.length+2:=by rw [<- h.out];exact H
  by_cases F:j<l.length+2
  . have v:j<L.length:=(by rw [h.out];exact F);have d1:=a.cell j (by rw [Hy];exact v);have J:=a.frozen j;rw [Hz 85 j L v] at d1;have G:=eA d j;have f:=a.set j (L.getD j 0^^^85);rw [EU] at f;have E:=eX k j (Z9 .u8 ((L.getD j 0^^^85:Nat):Int));have hi:bits .xor .u8 ((L.getD j 0:Nat):Int) 85=((L.getD j 0^^^85:Nat):Int):=mT (L.getD j 0) 85 G (by decide);generalize L.getD j 0=x at *;clear a k;go_wp2;go_roundw
    case rel=>exact ⟨j+1,by omega,by go_num,E,f⟩
    case measure=>simp [intOf];omega
  . have y:j=L.length:=(by rw [h.out];omega);have f:aM wr b (xr 85 L):=(by rw [y,Hx] at a;exact a);clear a y;go_wp2;go_ret;exact ⟨rfl,k,f⟩
theorem iL.cell_at {g cap:Nat} (h:iL w base (.slice (Z5 ⟨g,0,Z6⟩) n cap) L) {i:Nat} (hi:i<L.length):w.cell? ⟨g,i,Z6⟩=Z5 (lg L[i]):=by
 have:=h.own.cells (g:=g) rfl i (lg L[i]) (by simp [hi]);rw [mw] at this;exact this
theorem iL.slice (h:iL w base v L):∃ a cap,v=.slice a L.length cap/\(L≠[]->∃ g,a=Z5 ⟨g,0,Z6⟩):=by
 rcases h.shape with ⟨rfl,rfl⟩|⟨g,cap,rfl,_⟩
 . exact ⟨Z6,0,rfl,λh=>absurd rfl h⟩
 . exact ⟨_,cap,rfl,λ_=>⟨g,rfl⟩⟩
end
theorem qV (a:ZZ) (i:Nat) (v:Z1) (h:i<a.tmps.size):(a.put (Z5 i) v).eval (.tmp i)=v:=by simp [Act.put,Act.eval,h]
theorem gZ (a:ZZ) (i j:Nat) (v:Z1) (h:i≠j):(a.put (Z5 i) v).eval (.tmp j)=a.eval (.tmp j):=by
 simp [Act.put,Act.eval,Tm,h]
theorem nF (a:ZZ) (d:Option Nat) (v:Z1):(a.put d v).tmps.size=a.tmps.size:=by
 cases d<;>simp [Act.put]
structure dM (lo hi:Nat) (a a':ZZ):Prop where
 size:a'.tmps.size=a.tmps.size
 defers:a'.defers=a.defers
 slot:∀ s,s<lo\/hi<=s->a'.eval (.tmp s)=a.eval (.tmp s)
theorem dM.refl (lo hi:Nat) (a:ZZ):dM lo hi a a:=⟨rfl,rfl,λ_ _=>rfl⟩
theorem dM.put {a a':ZZ} (h:dM lo hi a a') {d:Option Nat} (v:Z1) (b:∀ i,d=Z5 i->lo<=i/\i<hi):dM lo hi a (a'.put d v):=by
 cases d with
 | none=>exact h
 | some d=>
  obtain ⟨e,f⟩:=b d rfl;exact ⟨by rw [nF];exact h.size,h.defers,λs c=>by rw [gZ _ _ _ _ (by omega)];exact h.slot s c⟩
def Act.putFrom (a:ZZ):Nat->List Z1->ZZ
 | _,[]=>a
 | d,v::r=>Act.putFrom (a.put (Z5 d) v) (d+1) r
theorem fs:∀ (b:List Z1) (a:ZZ) (d:Nat),(Act.putFrom a d b).tmps.size=a.tmps.size/\(Act.putFrom a d b).defers=a.defers
 | [],_,_=>⟨rfl,rfl⟩
 | v::r,a,d=>by
  obtain ⟨c,e⟩:=fs r (a.put (Z5 d) v) (d+1);exact ⟨c.trans (nF _ _ _),e⟩
theorem ft:∀ (b:List Z1) (a:ZZ) (d s:Nat),d+b.length<=a.tmps.size->(Act.putFrom a d b).eval (.tmp s)=if d<=s/\s<d+b.length then b.getD (s-d) Z7 else a.eval (.tmp s)
 | [],a,d,s,_=>by
  show a.eval (.tmp s)=if d<=s/\s<d+0 then _ else _;rw [if_neg (by omega)]
 | v::r,a,d,s,h=>by
  simp only [List.length_cons] at h ⊢;show (Act.putFrom (a.put (Z5 d) v) (d+1) r).eval (.tmp s)=_;rw [ft r _ _ _ (by rw [nF];omega)];by_cases e:s=d
  . subst e;rw [if_neg (by omega),if_pos (by omega),Nat.sub_self,qV _ _ _ (by omega)];rfl
  . rw [gZ _ _ _ _ (λq=>e q.symm)];by_cases c:d+1<=s/\s<d+1+r.length
    . rw [if_pos c,if_pos (by omega),show s-d=(s-(d+1))+1 by omega];rfl
    . rw [if_neg c,if_neg (by omega)]
theorem wO {a b:ZZ} (c:a.tmps.size=b.tmps.size) (d:a.defers=b.defers) (f:∀ s,s<a.tmps.size->a.eval (.tmp s)=b.eval (.tmp s)):a=b:=by
 obtain ⟨k,h⟩:=a;obtain ⟨l,j⟩:=b;simp only at c d;subst d;congr 1;refine Array.ext c λi e g=>?_;have:=f i e;simpa [Act.eval,e,g] using this
theorem dM.out {a a':ZZ} (h:dM lo hi a a') (b:List Z1) (g:lo+b.length=hi) (j:hi<=a.tmps.size) (c:∀ i,i<b.length->a'.eval (.tmp (lo+i))=b.getD i Z7):a'=Act.putFrom a lo b:=by
 obtain ⟨d,f⟩:=fs b a lo;refine wO (h.size.trans d.symm) (h.defers.trans f.symm) λs _=>?_;rw [ft b a lo s (by omega)];by_cases e:lo<=s/\s<lo+b.length
 . rw [if_pos e];have:=c (s-lo) (by omega);rwa [show lo+(s-lo)=s by omega] at this
 . rw [if_neg e];exact h.slot s (by omega)
def rD (ops:Array Oper) (i:Nat):List Nat:=match ops[i]? with
 | some o=>(o.after.toList.filter (λe=>Region.binds .any e)).map (λe=>e.on)
 | none=>[]
theorem gU:i∈Region.ready .any ops listed↔i<ops.size/\listed.getD i Z4=Z3/\∀ k∈rD ops i,listed.getD k Z3=Z4:=by
 unfold Region.ready rD;rw [Tx,Tr,Ts];constructor
 . rintro ⟨b,c,a⟩;refine ⟨b,by simpa using c,λk f=>?_⟩;rw [Tu b] at a f;simp only [Ty,TH] at a;rw [Tw] at f;obtain ⟨e,d,rfl⟩:=f;obtain ⟨h,j⟩:=Tx.1 d;have:=TI.1 a e (by simpa using h);simpa [j] using this
 . rintro ⟨b,c,a⟩;refine ⟨b,by simpa using c,?_⟩;rw [Tu b] at a ⊢;simp only [Ty,TH];rw [TI];intro e d;by_cases g:Region.binds .any e=Z4
   . have:=a e.on (Tw.2 ⟨e,Tx.2 ⟨by simpa using d,g⟩,rfl⟩);simp [this]
   . simp [g]
def fJ (listed:Array Bool):Nat:=(listed.toList.filter (λb=>!b)).length
theorem rE (h:listed.getD i Z4=Z3):fJ (listed.setIfInBounds i Z4)+1=fJ listed:=by
 have hi:i<listed.size:=by
  by_cases c:i<listed.size
  . exact c
  . simp [Tm,c] at h
 unfold fJ;rw [Array.toList_setIfInBounds];have a:listed.toList[i]?=Z5 Z3:=by
  simp [Tm,hi] at h;simp [hi,h]
 generalize listed.toList=l at a;clear h hi;induction l generalizing i with
 | nil=>simp at a
 | cons b l ih=>
  cases i with
  | zero=>
   simp at a;subst a;simp
  | succ i=>
   simp at a;have:=ih a;cases b<;>simp [List.set_cons_succ]<;>omega
theorem eY (h:fJ listed=0) (i:Nat) (hi:i<listed.size):listed.getD i Z3=Z4:=by
 unfold fJ at h;have a:=TJ.1 h;rw [TK] at a;have:=a listed[i] (by simp);simpa [Tm,hi] using this
theorem Sf (a:α) (l:List α) (d:α):(a::l).getD 0 d=a:=rfl
theorem Sg (a:α) (l:List α) (n:Nat) (d:α):(a::l).getD (n+1) d=l.getD n d:=rfl
def cM (d:Option Nat) (a:ZZ):Z1:=match d with
 | some d=>a.eval (.tmp d)
 | none=>Z7
structure aN (ops:Array Oper) (lo hi:Nat) (sh:List (Op×Option Nat×List Nat)):Prop where
 at_:(To ops.size).map (λi=>((ops[i]?.map λo=>(o.op,o.dst,o.guard)),rD ops i))=sh.map (λx=>(Z5 (x.1,x.2.1,Z6),x.2.2))
 early:∀ i,i<sh.length->∀ k∈(sh.getD i (.move (.const Z7),Z6,[])).2.2,k<i
 slots:∀ i j d,i<sh.length->j<sh.length->(sh.getD i (.move (.const Z7),Z6,[])).2.1=Z5 d->(lo<=d/\d<hi)/\((sh.getD j (.move (.const Z7),Z6,[])).2.1=Z5 d->i=j)
def O9 (lo hi:Nat) (sh:List (Op×Option Nat×List Nat)):Bool:=(To sh.length).all λi=>(sh.getD i (.move (.const Z7),Z6,[])).2.2.all (λk=>decide (k<i))&&match (sh.getD i (.move (.const Z7),Z6,[])).2.1 with
 | none=>Z4
 | some d=>decide (lo<=d)&&decide (d<hi)&&(To sh.length).all λj=>(sh.getD j (.move (.const Z7),Z6,[])).2.1 != Z5 d || i==j
theorem bt (c:(To ops.size).map (λi=>((ops[i]?.map λo=>(o.op,o.dst,o.guard)),rD ops i))=sh.map (λx=>(Z5 (x.1,x.2.1,Z6),x.2.2))) (a:O9 lo hi sh=Z4):aN ops lo hi sh:=by
 unfold O9 at a;rw [Tz] at a;refine ⟨c,λi b k h=>?_,λi j d b g f=>?_⟩
 . have:=a i (Tr.2 b);rw [Ts,Tz] at this;exact of_decide_eq_true (this.1 k h)
 . have:=(Ts.1 (a i (Tr.2 b))).2;rw [f] at this;simp only [Ts,decide_eq_true_eq,Tz] at this;refine ⟨this.1,λe=>?_⟩;have q:=this.2 j (Tr.2 g);rw [e] at q;simpa using q
theorem aN.size (h:aN ops lo hi sh):ops.size=sh.length:=by
 have:=congrArg List.length h.at_;simpa using this
theorem aN.get (h:aN ops lo hi sh) (i:Nat) (hi:i<sh.length) :
 ∃ o,ops[i]?=Z5 o/\o.op=(sh.getD i (.move (.const Z7),Z6,[])).1/\o.dst=(sh.getD i (.move (.const Z7),Z6,[])).2.1/\o.guard=Z6/\rD ops i=(sh.getD i (.move (.const Z7),Z6,[])).2.2:=by
 have j:=h.size;have:=congrArg (λl=>l[i]?) h.at_;have a:i<ops.size:=by omega
 simp only [List.getElem?_map,List.getElem?_range a,Ty,List.getElem?_eq_getElem hi,Option.some.injEq,Prod.mk.injEq,Option.map_eq_some_iff] at this;obtain ⟨⟨o,b,c,d,f⟩,g⟩:=this;have e:sh.getD i (.move (.const Z7),Z6,[])=sh[i]:=by simp [hi]
 rw [e];exact ⟨o,b,c,d,f,g⟩
def dN (D:Nat->Bool) (i:Nat):Nat->Bool:=λj=>if j=i then Z4 else D j
abbrev bV (sh:List (Op×Option Nat×List Nat)) (i:Nat):Op×Option Nat×List Nat:=sh.getD i (.move (.const Z7),Z6,[])
def BY (P:Program) (Q:Exit->ZZ->Z2->Prop) (lo hi:Nat) (sh:List (Op×Option Nat×List Nat)) (a0:ZZ) (V:Nat->Z1->Z2->Prop) (B:(Nat->Bool)->Z2->Prop) (i:Nat):Prop:=
 ∀ (o:Oper) (a:ZZ) (w:Z2) (D:Nat->Bool),o.guard=Z6->o.op=(bV sh i).1->o.dst=(bV sh i).2.1->dM lo hi a0 a->D i=Z3->(∀ j,D j=Z4->j<sh.length/\∀ k∈(bV sh j).2.2,D k=Z4) ->
  (∀ k∈(bV sh i).2.2,D k=Z4)->B D w->(∀ j,D j=Z4->V j (cM (bV sh j).2.1 a) w) ->
  o.wp P a w (λa' w'=>∃ v,a'=a.put o.dst v/\(o.dst=Z6->v=Z7)/\B (dN D i) w'/\V i v w'/\∀ j u,D j=Z4->V j u w->V j u w') Q
theorem BZ {Q:Exit->ZZ->Z2->Prop} (u:aN ops lo hi sh) (n:ZZ) (hy:hi<=n.tmps.size)
 (V:Nat->Z1->Z2->Prop) (B:(Nat->Bool)->Z2->Prop) (Y:∀ i,i<sh.length->BY P Q lo hi sh n V B i)
 (hh:∀ (a:ZZ) (w:Z2),dM lo hi n a->(∀ s,(∀ i,i<sh.length->(bV sh i).2.1≠Z5 s)->a.eval (.tmp s)=n.eval (.tmp s))->(∃ D,(∀ i,i<sh.length->D i=Z4)/\B D w)->(∀ i,i<sh.length->V i (cM (bV sh i).2.1 a) w)->Q .normal a w) :
 ∀ (f:Nat) (listed:Array Bool) (a:ZZ) (w:Z2),listed.size=sh.length->fJ listed=f->dM lo hi n a->(∀ s,(∀ i,i<sh.length->(bV sh i).2.1≠Z5 s)->a.eval (.tmp s)=n.eval (.tmp s))->(∀ j,listed.getD j Z3=Z4->j<sh.length/\∀ k∈(bV sh j).2.2,listed.getD k Z3=Z4)->B (λj=>listed.getD j Z3) w ->
  (∀ i,listed.getD i Z3=Z4->V i (cM (bV sh i).2.1 a) w)->wpAny P .any ops Q f listed a w:=by
 have k5:=u.size;have W:∀ listed:Array Bool,listed.size=sh.length->fJ listed≠0->Region.ready .any ops listed≠[]:=by
  intro listed H x hr;have Z:∀ i,i<sh.length->listed.getD i Z3=Z4:=by
   intro i;induction i using Nat.strongRecOn with
   | ind i ih=>
    intro c;by_cases g:listed.getD i Z3=Z4
    . exact g
    . exfalso;have y:i∈Region.ready .any ops listed:=gU.2 ⟨by omega,by simpa [Tm,show i<listed.size by omega] using g,λk m=>by
       obtain ⟨o,_,_,_,_,e⟩:=u.get i c;rw [e] at m;have:=u.early i c k m;exact ih k this (by omega)⟩
      rw [hr] at y;cases y
  apply x;unfold fJ;rw [TJ,TK];intro b X;obtain ⟨i,c,rfl⟩:=List.getElem_of_mem X;have hz:i<listed.size:=by simpa using c
  have:=Z i (by omega);simp [Tm,hz] at this;simp [this]
 intro f;induction f with
 | zero=>
  intro listed a w H x m I F J E;refine ⟨?_,hh a w m I ⟨_,λi c=>eY x i (by omega),J⟩ λi c=>E i (eY x i (by omega))⟩;rw [List.eq_nil_iff_forall_not_mem];intro i y;obtain ⟨U,p,_⟩:=gU.1 y;have:=eY x i (by omega);simp [Tm,show i<listed.size by omega] at this p;rw [this] at p;cases p
 | succ f ih=>
  intro listed a w H x m I F J E;refine ⟨λe=>absurd e (W listed H (by omega)),λi y=>?_⟩;obtain ⟨U,p,M⟩:=gU.1 y;have c:i<sh.length:=by omega
  have O:i<listed.size:=by omega
  obtain ⟨o,S,T,z,K,L⟩:=u.get i c;have hq:listed.getD i Z3=Z3:=by simpa [Tm,O] using p
  have C:∀ j,(listed.setIfInBounds i Z4).getD j Z3=dN (λj=>listed.getD j Z3) i j:=by
   intro j;unfold dN;by_cases l:j=i
   . subst l;rw [if_pos rfl];simp [Tm,O]
   . rw [if_neg l,Tm,Array.getElem?_setIfInBounds,if_neg (λq:i=j=>l q.symm),<- Tm]
  unfold wpOp;rw [S];show if Region.wanted o (yielded ops a.tmps)=Z4 then _ else _;rw [if_pos (by simp [Region.wanted,K])];refine .inl (Oper.wp_mono (λa' w' h=>?_) (Y i c o a w (λj=>listed.getD j Z3) K T z m hq F (λk r=>?_) J E))
  . obtain ⟨v,rfl,hu,hp,hv,k0⟩:=h;have N:∀ d,o.dst=Z5 d->lo<=d/\d<hi:=λd g=>by rw [z] at g;exact (u.slots i i d c c g).1
    refine ih _ _ _ (by simpa using H) (by have:=rE p;omega) (m.put v N) (λs R=>?_) (λj G=>?_) ?_ λj t=>?_
    . refine Eq.trans ?_ (I s R);cases g:o.dst with
      | none=>rfl
      | some d=>exact gZ _ _ _ _ (λe=>R i c (by rw [show (bV sh i).2.1=o.dst from z.symm,g,e]))
    . rw [C] at G;unfold dN at G;by_cases l:j=i
      . subst l;refine ⟨c,λk r=>?_⟩;rw [C];unfold dN;by_cases A:k=j
        . rw [if_pos A]
        . rw [if_neg A];rw [<- L] at r;exact M k r
      . rw [if_neg l] at G;obtain ⟨q1,q2⟩:=F j G;refine ⟨q1,λk r=>?_⟩;rw [C];unfold dN;by_cases A:k=i
        . rw [if_pos A]
        . rw [if_neg A];exact q2 k r
    . have e:(λj=>(listed.setIfInBounds i Z4).getD j Z3)=dN (λj=>listed.getD j Z3) i:=funext C;rw [e];exact hp
    . rw [C] at t;unfold dN at t;by_cases l:j=i
      . subst l;have:cM (bV sh j).2.1 (a.put o.dst v)=v:=by
         show cM (sh.getD j (.move (.const Z7),Z6,[])).2.1 (a.put o.dst v)=v;rw [<- z];cases g:o.dst with
         | none=>exact (hu g).symm
         | some d=>exact qV _ _ _ (Nat.lt_of_lt_of_le (N d g).2 (by rw [m.size];exact hy))
        rw [this];exact hv
      . rw [if_neg l] at t;have:cM (bV sh j).2.1 (a.put o.dst v)=cM (bV sh j).2.1 a:=by
         cases hx:(bV sh j).2.1 with
         | none=>rfl
         | some d'=>
          cases g:o.dst with
          | none=>rfl
          | some d=>
           refine gZ _ _ _ _ λq=>l ?_;subst q;rw [z] at g;exact (u.slots j i d (F j t).1 c hx).2 g
        rw [this];exact k0 j _ t (E j t)
  . exact M k (by rw [L];exact r)
theorem cO {Q:Exit->ZZ->Z2->Prop} (q:P.follows .mixedOrders=Z4) (f:aN ops lo hi sh) (b:ZZ) (d:Z2) (n:hi<=b.tmps.size)
 (V:Nat->Z1->Z2->Prop) (B:(Nat->Bool)->Z2->Prop) (p:B (λ_=>Z3) d.drew) (k:∀ i,i<sh.length->BY P Q lo hi sh b V B i)
 (l:∀ (a:ZZ) (w:Z2),dM lo hi b a->(∀ s,(∀ i,i<sh.length->(bV sh i).2.1≠Z5 s)->a.eval (.tmp s)=b.eval (.tmp s))->(∃ D,(∀ i,i<sh.length->D i=Z4)/\B D w)->(∀ i,i<sh.length->V i (cM (bV sh i).2.1 a) w)->Q .normal a w):(Code.region m ops Z4).wp P Q b d:=by
 refine wp_region_any q ?_;have o:=f.size;have c:∀ i,(TL ops.size Z3).getD i Z3=Z3:=λi=>by
  simp only [Tm,Array.getElem?_replicate];split<;>rfl
 refine BZ f b n V B k l _ _ b d.drew (by simp [o]) ?_ (dM.refl _ _ _) (λ_ _=>rfl) (λj g=>?_) ?_ λi h=>?_
 . unfold fJ;simp
 . rw [c] at g;cases g
 . have e:(λj=>(TL ops.size Z3).getD j Z3)=λ_=>Z3:=funext c;rw [e];exact p
 . rw [c] at h;cases h
theorem bZ {Q:Exit->ZZ->Z2->Prop} (n:P.follows .mixedOrders=Z4) (k:aN ops lo hi sh) (b:ZZ) (c:Z2) (j:hi<=b.tmps.size)
 (V:Nat->Z1->Z2->Prop) (B:(Nat->Bool)->Z2->Prop) (l:B (λ_=>Z3) c.drew) (d:∀ i,i<sh.length->BY P Q lo hi sh b V B i)
 (h:∀ (a:ZZ) (w:Z2),dM lo hi b a->(∃ D,(∀ i,i<sh.length->D i=Z4)/\B D w)->(∀ i,i<sh.length->V i (cM (bV sh i).2.1 a) w)->Q .normal a w):(Code.region m ops Z4).wp P Q b c:=
 cO n k b c j V B l d λa w e _ f g=>h a w e f g
theorem ab {Q:Exit->ZZ->Z2->Prop} {a:ZZ} {B:Z2->Prop} (e:(execOp a.eval o).run P w=.ok (.value v) w') {d:Nat} (c:o.dst=Z5 d) (h:B w'/\Vi v w'/\S w') :
 o.wp P a w (λb w'=>∃ v,b=a.put o.dst v/\(o.dst=Z6->v=Z7)/\B w'/\Vi v w'/\S w') Q:=by
 unfold Oper.wp;rw [e];exact ⟨v,rfl,λh=>(by rw [c] at h;cases h),h⟩
theorem iQ {Q:Exit->ZZ->Z2->Prop} {a:ZZ} {B:Z2->Prop} (c:(execOp a.eval o).run P w=.ok .skip w') (h:B w'/\Vi Z7 w'/\S w') :
 o.wp P a w (λb w'=>∃ v,b=a.put o.dst v/\(o.dst=Z6->v=Z7)/\B w'/\Vi v w'/\S w') Q:=by
 unfold Oper.wp;rw [c];exact ⟨Z7,rfl,λ_=>rfl,h⟩
theorem dz {Q:Exit->ZZ->Z2->Prop} {a:ZZ} {w1:Z2} {Rr:Ending->Z2->Prop} {B:Z2->Prop} (k:(execOp a.eval o).run P w=.ok (.enter f args) w1) {d:Nat} (i:o.dst=Z5 d) (g:Calls P f args w1 Rr)
 (h:∀ e w',Rr e w'->∃ v,e=Z8 v/\B w'/\Vi v w'/\S w'):o.wp P a w (λb w'=>∃ v,b=a.put o.dst v/\(o.dst=Z6->v=Z7)/\B w'/\Vi v w'/\S w') Q:=by
 unfold Oper.wp;rw [k];refine g.mono λe w' j=>?_;obtain ⟨v,rfl,c⟩:=h e w' j;exact ⟨v,rfl,λh=>(by rw [i] at h;cases h),c⟩
theorem ag {a:ZZ} (ho:o.op=.move x) (b:a.eval x=v) (w:Z2):(execOp a.eval o).run P w=.ok (.value v) w:=by simp [execOp,ho,b]
theorem dZ {a:ZZ} {ad:Addr} (ho:o.op=.nilCheck x) (b:a.eval x=.pointer (Z5 ad)) (w:Z2):(execOp a.eval o).run P w=.ok (.value (.pointer (Z5 ad))) w:=by simp only [execOp,ho,b];go_simp
theorem kq {D:Nat->Bool} {V:Nat->Z1->Prop}:∀ j u,D j=Z4->V j u->V j u:=λ_ _ _ q=>q
theorem lj (a:Array TypeId) (b:TypeId) (x y:Int) (w:Z2):(Builtin.max_ a b #[Z9 .i64 x,Z9 .i64 y]).run P w=.ok (Z9 .i64 (if y>x then y else x)) w:=by
 simp [Builtin.max_,Builtin.max2]
theorem iR (a:Array TypeId) (b:TypeId) (x y:Int) (w:Z2):(Builtin.min_ a b #[Z9 .i64 x,Z9 .i64 y]).run P w=.ok (Z9 .i64 (if y<x then y else x)) w:=by
 simp [Builtin.min_,Builtin.min2]
theorem rG {a:ZZ} {s t:Operand} {ats:Array TypeId} (ho:o.op=.call { callee:=.builtin .max,args:=#[s,t],argTypes:=ats }) {x y:Int} (hx:a.eval s=Z9 .i64 x) (hy:a.eval t=Z9 .i64 y) (w:Z2) :
 (execOp a.eval o).run P w=.ok (.value (Z9 .i64 (if y>x then y else x))) w:=by
 unfold execOp;simp only [ho,resolve,invoke,builtin,Sem.run_bind,Sem.run_pure,Result.andThen_ok,List.map_toArray,List.map_cons,List.map_nil,hx,hy,lj]
def mD:Code->Nat->Option (Array Oper)
 | .region i ops _,n=>if i=n then Z5 ops else Z6
 | .seq a b,n=>(mD a n).orElse λ_=>mD b n
 | .cond _ a b,n=>(mD a n).orElse λ_=>mD b n
 | .block _ a,n=>mD a n
 | .loop a,n=>mD a n
 | .scope a,n=>mD a n
 | .rangeFunc _ _ a b,n=>(mD a n).orElse λ_=>mD b n
 | _,_=>Z6
section
open Go.Shelf
structure bu (B:Nat) (w w':Z2):Prop where
 os:w'.os=w.os
 tape:w'.tape=w.tape
 output:w'.output=w.output
 size:w.heap.size<=w'.heap.size
 block:∀ k,B<=k->k<w.heap.size->w'.heap[k]?=w.heap[k]?
theorem bu.refl (B:Nat) (w:Z2):bu B w w:=⟨rfl,rfl,rfl,Tp _,λ_ _ _=>rfl⟩
theorem bu.trans {b c:Z2} (h:bu B a b) (k:bu B b c):bu B a c:=
 ⟨k.os.trans h.os,k.tape.trans h.tape,k.output.trans h.output,Nat.le_trans h.size k.size,λi d e=>(k.block i d (by have:=h.size;omega)).trans (h.block i d e)⟩
theorem bu.mono {B':Nat} (h:bu B w w') (c:B<=B'):bu B' w w':=⟨h.os,h.tape,h.output,h.size,λk b a=>h.block k (by omega) a⟩
theorem bu.of_below (h:Z0 w.heap.size w w'):bu B w w':=⟨h.os,h.tape,h.output,h.size,λk _ a=>h.block k a⟩
theorem bu.setCell (h:bu B a w) {p:Addr} (d:p.block<B\/a.heap.size<=p.block) (u:Z1):bu B a (w.setCell p u):=
 ⟨h.os,h.tape,h.output,by have:=h.size;simpa [World.setCell] using this,λk b c=>(Below.heap_setCell _ _ _ _ (by omega)).trans (h.block k b c)⟩
theorem bu.putObj (h:bu B a w) {l:Nat} (d:l<B\/a.heap.size<=l) (o:Obj):bu B a (w.putObj l o):=
 ⟨h.os,h.tape,h.output,by have:=h.size;have:=(grownBy_putObj' w l o).size;omega,λk b c=>(World.putObj_heap_other (by omega)).trans (h.block k b c)⟩
theorem Below.putObj' (h:Z0 B a w) {l:Nat} (b:B<=l) (c:l<w.heap.size) (o:Obj):Z0 B a (w.putObj l o):=
 h.grown (grownBy_putObj' w l o) (by omega) (λk e=>by cases e;exact b)
theorem bu.keeps {C:Nat} (h:bu B w w') (c:B<=C):KeepsFrom C w w':=
 ⟨h.size,λk o b a _=>(h.block k (by omega) (Tn.1 a).1).trans a⟩
theorem cV (h:Calls P f args w R) (k:∀ e w',R e w'->R' e w') :
 Fence.wide.fn f/\(Fence.wide.depth.isSome=Z4->1<=n)/\CallsIn Fence.wide m P f args w R':=
 ⟨trivial,λh=>(by cases h),callsIn_wide.2 (h.mono k)⟩
theorem dG {l:Nat} (h:Calls P f args w R) (k:∀ e w',R e w'->R' e w') :
 (Fence.wide.inRound l).fn f/\((Fence.wide.inRound l).depth.isSome=Z4->1<=n)/\CallsIn (Fence.wide.inRound l) m P f args w R':=
 ⟨trivial,λh=>(by cases h),CallsIn.inRound l (callsIn_wide.2 (h.mono k))⟩
def ND (Q:Exit->ZZ->Z2->Prop):Exit->ZZ->Z2->Prop
 | .goto _,_,_=>False
 | .exit _,_,_=>False
 | e,a,w=>Q e a w
theorem gO {b:Frame} {a:ZZ} {c:Code}:step P (lone (b.atR a (.code (.scope c)::k)) cs w)=.next (lone (b.atR a (.code c::.inScope c::k)) cs w):=
 step_lone_go (by simp [stepG,stepG.exec,Frame.atR])
theorem r6 {b:Frame} {a:ZZ} {c:Code}:step P (lone (b.atR a (.inScope c::k)) cs w)=.next (lone (b.atR a k) cs w):=
 step_lone_go (by simp [stepG,stepG.exec,Frame.atR])
theorem I6 {F:Fence} {c:Code} {Q:Exit->ZZ->Z2->Prop} {a:ZZ} (h:c.wpIn F n P (ND Q) a w):(Code.scope c).wpIn F n P Q a w:=by
 intro b k cs p m o;have g:(lone (b.atR a (.code (.scope c)::k)) cs w).fenced P F:=fenced_calm m o rfl;obtain ⟨e,f,j,d,i⟩:=h b (.inScope c::k) cs p m o;cases e with
 | normal=>exact ⟨.normal,f,j,d,.head g gO (StepsIn.trans i (.one (fenced_calm m o rfl) r6))⟩
 | exit id=>exact d.elim
 | goto l=>exact d.elim
 | ret=>exact ⟨_,f,j,d,.of_steps (.one g gO) i⟩
 | panic q=>exact ⟨_,f,j,d,.of_steps (.one g gO) i⟩
 | outgrown=>exact ⟨_,f,j,d,.of_steps (.one g gO) i⟩
def NF {σ:Type} (B:Nat) (I:σ->Z2->Prop) (s:σ) (W:Z2):Exit->ZZ->Z2->Prop
 | .normal,_,W'=>I s W'/\bu B W W'
 | _,_,_=>False
theorem Fy (k:Nat):Fence.wide.room k:=λd h=>by cases h
theorem vA {m':Nat} {l:Nat} {tmps:Array Z1} {assign body:Code} (h:RoundIn Fence.wide m P l f tmps assign body w R):RoundIn Fence.wide m' P l f tmps assign body w R:=⟨h.1,λc cs _=>h.2 c cs (Fy _)⟩
theorem I7 (m:Nat) {α σ:Type} {g:Operand} {ps:Array Tmp} {assign body:Code} {Q:Exit->ZZ->Z2->Prop} {a:ZZ} {w:Z2}
 {gf:Nat} {lb:Array Z1} (hg:a.eval g=.func (.func gf) #[] lb) (eg:∀ args w,(callFunc gf args).run P w=.ok (.enter gf args) w)
 {encs:α->Array Z1} (k9:∀ x,(encs x).size=ps.size) (step:σ->α->σ) (H:α->Prop)
 (I:σ->Z2->Prop) (o:∀ s A B,I s A->Z0 w.heap.size A B->I s B) (S:σ->Prop) (s0:σ)
 (h6:∀ (l:Nat) (J:σ->Z2->Prop) (W:Z2),Z0 w.heap.size w W->W.heap.size=w.heap.size+2 ->
  (∀ s A B,J s A->Z0 (w.heap.size+2) A B->J s B)->(∀ s A,J s A->I s A/\w.heap.size+2<=A.heap.size) ->
  (∀ m s x b,J s b->H x->YieldAt Fence.wide m P l (encs x) b λe f=>e=Z8 (.bool Z4)/\J (step s x) f/\bu (w.heap.size+2) b f)->J s0 W ->
  CallsIn Fence.wide (n-1) P gf (#[.func (.yield l) #[] #[]]++lb) W λe f=>(∃ v,e=Z8 v)/\∃ s,S s/\J s f)
 (h0:I s0 w) (F:Nat->α->ZZ->Z2->Prop) (hs:∀ B x c A R,F B x c A->bu B A R->F B x c R)
 (h1:∀ (l:Nat) (s:σ) (x:α) (W:Z2) (K:ZZ->Z2->Prop),I s W->H x->(∀ c f,Z0 W.heap.size W f->F W.heap.size x c f->K c f) ->
  assign.wpIn (Fence.wide.inRound l) m P (Exit.then K (λ_ _ _=>False)) { tmps:=(ps.zip (encs x)).foldl (λt (p,v)=>t.setIfInBounds p v) a.tmps,defers:=[] } W)
 (h5:∀ (l B:Nat) (s:σ) (x:α) (c:ZZ) (W:Z2),w.heap.size<=l->l<B->B<=W.heap.size->(∃ r,W.heap[l]?=Z5 (.loop r))->I s W->H x->F B x c W->body.wpIn (Fence.wide.inRound l) m P (NF w.heap.size I (step s x) W) c W)
 (h7:∀ (D:Nat) (s:σ) (W:Z2),w.heap.size<=D->S s->I s W->W.heap[D]?=Z5 (.deferred (Z5 []))->Q .normal { a with defers:={ target:=.collected D,args:=#[] }::a.defers } W) :
 (Code.rangeFunc g ps assign body).wpIn Fence.wide n P Q a w:=by
 refine wpIn_rangeFunc λfn k7=>?_;obtain ⟨i,j⟩:∃ i:LoopState->Loop,i=λst=>{ state:=st,pending:=Z6,fn,tmps:=a.tmps,params:=ps,assign,body,defers:=w.heap.size }:=⟨_,rfl⟩;obtain ⟨b,z⟩:=nM ((w.alloc (.deferred (Z5 []))).alloc (.loop (i .ready)));have X:Z0 w.heap.size w b:=by rw [<- z];exact (bA w _).alloc (by simp) _
 have ka:b.heap.size=w.heap.size+2:=by rw [<- z];simp
 have hx:b.heap[w.heap.size+1]?=Z5 (.loop (i .ready)):=by
  rw [<- z];have:=World.alloc_heap_new (w.alloc (.deferred (Z5 []))) (.loop (i .ready));rwa [World.size_alloc] at this
 have hv:b.heap[w.heap.size]?=Z5 (.deferred (Z5 [])):=by
  rw [<- z];exact (Below.heap_alloc _ _ _ (by simp)).trans (World.alloc_heap_new w _)
 refine ⟨w.heap.size+1,[{ target:=.collected w.heap.size,args:=#[] }],b,{ target:=.fn (.func gf) lb,args:=#[.func (.yield (w.heap.size+1)) #[] #[]] },b,gf,
  #[.func (.yield (w.heap.size+1)) #[] #[]]++lb,b,?_,?_,λ_ _=>trivial,?_,λh=>(by cases h),?_⟩
 . rw [<- z,j];exact run_enterLoop_outer _ _ _ _ _
 . simp only [resolve,hg];simp [go_sem]
 . simp [invoke,go_sem,eg]
 refine (h6 (w.heap.size+1) (λs W=>I s W/\W.heap[w.heap.size+1]?=Z5 (.loop (i .ready))/\W.heap[w.heap.size]?=Z5 (.deferred (Z5 []))) b X ka ?_ ?_ ?_ ⟨o _ _ _ h0 X,hx,hv⟩).mono ?_
 . rintro s A B ⟨hi,d,E⟩ L;exact ⟨o _ _ _ hi (L.mono (by omega)),(L.block _ (by omega)).trans d,(L.block _ (by omega)).trans E⟩
 . rintro s A ⟨hi,d,_⟩;exact ⟨hi,(Tn.1 d).1⟩
 ·
  rintro m' s x W ⟨hi,d,E⟩ hq;have C:w.heap.size+1<W.heap.size:=(Tn.1 d).1;have O:=run_yield (P:=P) (args:=encs x) d (by rw [j];exact k9 x);rw [j] at O;refine ⟨fn,_,assign,body,O,vA (roundIn_of_wpIn (n:=m) k7 (h1 _ s x W _ hi hq ?_))⟩;clear O;intro c u G hz;have hn:=(G.block _ C).trans d;have k6:=(G.block _ (by omega)).trans E;have U:w.heap.size+1<u.heap.size:=(Tn.1 hn).1;refine ⟨_,run_beginRound hn (by rw [j]),?_⟩;obtain ⟨y,k⟩:=nM (u.putObj (w.heap.size+1) (.loop { i .ready with state:=.busy }));have k0:Z0 w.heap.size u y:=by rw [<- k];exact Below.putObj' (Below.refl _ _) (by omega) U _
  have V:bu (w.heap.size+2) W y:=by
   rw [<- k];exact ((bu.of_below G).trans ((bu.refl _ u).putObj (.inl (by omega)) _))
  have N:y.heap[w.heap.size+1]?=Z5 (.loop { i .ready with state:=.busy }):=by rw [<- k];exact World.putObj_heap_same U
  have Y:y.heap[w.heap.size]?=Z5 (.deferred (Z5 [])):=by rw [<- k];exact (World.putObj_heap_other (by omega)).trans k6
  rw [k];refine wpIn_mono (h5 _ W.heap.size s x c y (by omega) C V.size ⟨_,N⟩ (o _ _ _ (o _ _ _ hi (G.mono (by omega))) k0) hq (hs _ _ _ _ _ hz (by rw [<- k];exact (bu.refl _ u).putObj (.inl C) _))) ?_;rintro e a3 W3 q;cases e with
  | normal=>
   obtain ⟨k8,M⟩:=q;have Z:=(M.block _ (by omega) (Tn.1 N).1).trans N;have k5:=(M.block _ lR (Tn.1 Y).1).trans Y;have T:=(Tn.1 Z).1;have hr:=run_endRound (P:=P) Z6 Z;refine ⟨_,_,hr,rfl,⟨o _ _ _ k8 (Below.putObj' (Below.refl _ _) (by omega) T _),?_,(World.putObj_heap_other (by omega)).trans k5⟩,?_⟩
   . rw [World.putObj_heap_same T,j];rfl
   . exact (V.trans (M.mono (by omega))).putObj (.inl (by omega)) _
  | ret=>exact q.elim
  | exit id=>exact q.elim
  | goto t=>exact q.elim
  | panic ch=>exact q.elim
  | outgrown=>exact q.elim
 ·
  rintro e W2 ⟨⟨v,rfl⟩,s,hS,hi,d,E⟩;have C:=(Tn.1 d).1;refine ⟨Z6,_,by have:=run_endLoop (P:=P) d (by rw [j];simp);rw [j] at this;exact this,?_⟩;exact h7 _ s _ lR hS (o _ _ _ hi (Below.putObj' (Below.refl _ _) (by omega) C _)) ((World.putObj_heap_other (by omega)).trans E)
end
end Go.Proofs.YtfbmmcnpjhmjaaaGreatDoor
