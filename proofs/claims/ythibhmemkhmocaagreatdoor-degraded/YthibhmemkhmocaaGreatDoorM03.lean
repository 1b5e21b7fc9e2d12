import Derived.Test.YthibhmemkhmocaaGreatDoorM02
import Derived.ChangeKeysEq
import Derived.Laws.StructEq
import Derived.LaidEql
import Derived.Stop.Asserts
import Derived.RowKitTokens
import Derived.Deep.CutRange
import Derived.ChangeSame
import Derived.ChangeVars
import Derived.JoinedOf
import Derived.RowKit
import Derived.LaidLaws
import Derived.LaidHandle
import Derived.Stop.Joined
import Derived.Lib.SmallJoins
import Derived.WalkMore
import Derived.Deep.AppendSrc
import Derived.Lib.LaidTab
import Derived.Carry
set_option maxRecDepth 100000
set_option linter.all false
set_option maxHeartbeats 8000000
open Go.IntKind renaming i64 -> Z9, u64 -> Z8
open Go.Value renaming int -> Z7, pointer -> Z6, slice -> Z5, bool -> Z2, tuple -> Z0
open Go.Obj renaming cells -> Z4
open Go.Ending renaming returned -> Z3
open Go.Operand renaming tmp -> Z1
open Go renaming undef -> ZZ, World -> ZU, Value -> ZT, Calls -> ZR, Addr -> ZQ, Ending -> ZP, Oper -> ZO, TypeId -> ZN, Boxed -> ZM
open Option renaming none -> ZY, some -> ZX
open Bool renaming true -> ZW, false -> ZV
open Go.RowKit renaming Below -> ZS
open List renaming range -> YF, replicate -> YI, take -> YN
open Go renaming method -> YG
open Exists renaming intro -> YH
open Array renaming foldl -> YJ, ext_getElem? -> YO, replicate -> YP
open Nat renaming reduceAdd -> YK, reduceSub -> YL
open And renaming intro -> YM
open Option renaming toList_some -> YQ
open Go.Proofs.Tryz renaming prog -> ZL
open Go.Proofs.Tryz
namespace Go.Proofs.YthibhmemkhmocaaGreatDoor
def WC:=@List.map_take
def Yb:=@List.getElem?_take
def WD:=@List.map_drop
def Wg:=@List.getElem?_drop
def Wm:=@Nat.min_eq_left
def Ur:=@List.length_drop
def ab3:=@Go.World.rangeAt_alloc
def Yc:=@Go.Proofs.Tryz.underlying142
def Xo:=@Array.getElem?_eq_none
def ab4:=@Go.Proofs.Tryz.underlying211
def Wn:=@List.take_zero
def Ug:=@List.setIfInBounds_toArray
def Uh:=@List.set_cons_zero
def Xq:=@Go.Proofs.Tryz.underlying5
def WW:=@Go.World.cell?_alloc_lt
def abB:=@Go.World.frozen?_alloc_old
def Xr:=@Go.RowKit.Below.setCell
def Xs:=@Go.run_typeAssert_lacksB
def ab5:=@Go.Proofs.Tryz.underlying246
def ab6:=@Go.Proofs.Tryz.underlying165
def ab7:=@Go.run_storeAt_mid
def WE:=@Go.run_takeDeferred
def WG:=@Nat.or_lt_two_pow
def UH:=@Go.Boxed.new
def V9:=@Go.KeepsOthers.setCell
def Wo:=@Go.callsIn_of_wp_marks
def Wp:=@Go.wpIn_rangeFunc_ownG
def VC:=@Go.Proofs.enters_of
def XJ:=@Go.Boxed.cell
def WX:=@Go.wpAny_take
def Yd:=@Go.wpAny_ready
def XK:=@Go.AllReady.cons
def Ye:=@Go.AllReady.nil
def abC:=@Go.wp_load_mid
def Yf:=@Go.Proofs.Tryz.underlying113
def XL:=@Nat.add_mul
def abD:=@Go.heap_alloc_new
def Yg:=@List.take_left
def VZ:=@Nat.testBit_or
def VR:=@List.getElem?_take_of_lt
def abE:=@Array.getElem?_toList
def Xt:=@Int.tdiv_eq_ediv_of_nonneg
def acq:=@List.sublist_append_right
end Go.Proofs.YthibhmemkhmocaaGreatDoor
namespace Go.Proofs.YthibhmemkhmocaaGreatDoor
open Go.RowKit Go.Deep Go.Shelf Gf
variable {a:Act} {ops:Array ZO} {vals args:Array ZT} {Rr:ZP->ZU->Prop} {Q:Exit->Act->ZU->Prop} {F:aH} {fn:Func} {T:List (Nat×Nat×a8)} {l src s:a8} {vs:List ZT} {base n b off c t q cap D r L G d p ps ho D' k N g m nb:Nat} {f:Nat->Bool} {o:ZO} {P:Program} {v v0:ZT} {Vi:ZT->ZU->Prop} {w w0 w' Z X W w1 wr:ZU} {B S:ZU->Prop}
def aq (D L G t f n:Nat):Array ZT:=#[Z7 Z9 D,Z7 Z9 L,Z7 Z9 G,Z7 Z8 t,Z7 Z9 f,Z7 Z9 n]
def Bs.Sm (h:w.ownsRow base 5 1 v n (aI l)) (c:∀ x∈l,x<256) (hl:l.length<=1000000):Bs w v l:=by
 have b:l.length=n:=by have:=h.1;rw [aW] at this;omega
 rcases h.2 with ⟨rfl,d⟩|⟨g,cap,cur,rfl,e,f,i,j,m,o⟩
 . subst d;have:l=[]:=UY b;subst this;exact ⟨ZY,0,rfl,by simp,by simp,c,λh=>absurd rfl h⟩
 . refine ⟨ZX ⟨g,0,ZY⟩,cap,by rw [b],by omega,by omega,c,λ_=>⟨g,0,rfl,λk a=>?_⟩⟩;have:=h.cells (g:=g) rfl k (Z7 .u8 ((l.getD k 0:Nat):Int)) (by unfold aI;rw [UE,Ue a,Ub,Ue a];rfl);rw [jm] at this;rw [Um];exact this
def Ip (w:ZU) (a b c d:Nat):(w.alloc (Z4 #[Z7 .u8 (a:Int),Z7 .u8 (b:Int),Z7 .u8 (c:Int),Z7 .u8 (d:Int)] 5)).ownsRow w.heap.size 5 1 (Z5 (ZX ⟨w.heap.size,0,ZY⟩) 4 4) 4 (aI [a,b,c,d]):=
 ⟨rfl,.inr ⟨w.heap.size,4,_,rfl,TY _,Uk _ _,TY _,by unfold maxLen;omega,rfl,rfl⟩⟩
theorem Eu (w:ZU):ZR ZL 268 #[.agg #[]] w λe w'=>e=Z3 (Z5 ZY 0 0)/\bW w w':=by
 go_enter func268,ntmps268;go_wp2;go_ret;exact ⟨rfl,bA w _⟩
theorem Iq (D L G t f n:Nat) (w:ZU) (Z:(bz.root D L G t f n).ok) :
 ZR ZL 254 #[.agg (aq D L G t f n)] w λe w'=>∃ v,e=Z3 v/\Bs w' v (bz.root D L G t f n).body/\bW w w':=by
 obtain ⟨m,p,q,E,F,H⟩:=Z;have O:(w.alloc (Z4 (aq D L G t f n) 142)).heap[w.heap.size]?=ZX (Z4 (aq D L G t f n) 142 (0,0)):=Uk _ _;have T:(w.alloc (Z4 (aq D L G t f n) 142)).heap.size=w.heap.size+1:=by simp
 have A:=Ip (w.alloc (Z4 (aq D L G t f n) 142)) 1 D L G;have j:((w.alloc (Z4 (aq D L G t f n) 142)).alloc (Z4 #[Z7 .u8 1,Z7 .u8 (D:Int),Z7 .u8 (L:Int),Z7 .u8 (G:Int)] 5)).heap[w.heap.size]?=ZX (Z4 (aq D L G t f n) 142 (0,0)):=(Uy _ _ _ (by simp)).trans O;have z:bW w ((w.alloc (Z4 (aq D L G t f n) 142)).alloc (Z4 #[Z7 .u8 1,Z7 .u8 (D:Int),Z7 .u8 (L:Int),Z7 .u8 (G:Int)] 5)):=(bA w _).alloc (by simp) _;have C:((w.alloc (Z4 (aq D L G t f n) 142)).alloc (Z4 #[Z7 .u8 1,Z7 .u8 (D:Int),Z7 .u8 (L:Int),Z7 .u8 (G:Int)] 5)).heap.size=w.heap.size+2:=by simp
 rw [T] at A;unfold aq at *;obtain ⟨w1,B⟩:=nM ((w.alloc (Z4 #[Z7 Z9 D,Z7 Z9 L,Z7 Z9 G,Z7 Z8 t,Z7 Z9 f,Z7 Z9 n] 142)).alloc (Z4 #[Z7 .u8 1,Z7 .u8 (D:Int),Z7 .u8 (L:Int),Z7 .u8 (G:Int)] 5));have M:w1.ownsRow (w.heap.size+1) 5 1 (Z5 (ZX ⟨w.heap.size+1,0,ZY⟩) 4 4) 4 (aI [1,D,L,G]):=by rw [<- B];exact A
 rw [B] at j z C;have c1:w1.cell? ⟨w.heap.size,3,ZY⟩=ZX (Z7 Z8 t):=by simp [World.cell?,j]
 have a:=a5 M j z C;clear A M j z O T C;go_enter func254,ntmps254;go_wp2_with fail;refine (fZ (w.heap.size+1) _ 4 (aI [1,D,L,G]) t 8 w1 a.o.1 (by have:=a.o.2.2.2;omega) (by decide) (by decide)).mono ?_;rintro e w2 ⟨v2,rfl,P,h,I⟩;have s:w2.heap[w.heap.size]?=ZX (Z4 #[Z7 Z9 D,Z7 Z9 L,Z7 Z9 G,Z7 Z8 t,Z7 Z9 f,Z7 Z9 n] 142 (0,0)):=(h.block _ (by have:=a.o.2.2.2;omega) (λe=>by simp [Value.ownBlock] at e)).trans a.o.2.1;have J:bW w w2:=a.o.2.2.1.trans (h.below λk y=>⟨by have:=a.o.2.2.2;omega,λe=>by simp [Value.ownBlock] at e;omega⟩);have R:=h.size;have V:w2.cell? ⟨w.heap.size,4,ZY⟩=ZX (Z7 Z9 f):=by simp [World.cell?,s]
 have b:=a6 P s J R I;clear P h I s J R B;go_wp2_with fail;refine (fZ (w.heap.size+1) _ (4+8) (aI [1,D,L,G]++aI (be t 8)) f 4 w2 b.o.1 (by have:=a.o.2.2.2;have:=b.o.2.2.2.1;omega) (by decide) (by decide)).mono ?_;rintro e l ⟨v3,rfl,Q,i,X⟩;have x:∀ k,k<=w.heap.size->¬ v2.ownBlock=ZX k:=λk y e=>by have:=(b.o.1.lt k e).1;omega
 have u:l.heap[w.heap.size]?=ZX (Z4 #[Z7 Z9 D,Z7 Z9 L,Z7 Z9 G,Z7 Z8 t,Z7 Z9 f,Z7 Z9 n] 142 (0,0)):=(i.block _ (by have:=a.o.2.2.2;have:=b.o.2.2.2.1;omega) (x _ lR)).trans b.o.2.1;have K:bW w l:=b.o.2.2.1.trans (i.below λk y=>⟨by have:=a.o.2.2.2;have:=b.o.2.2.2.1;omega,x k (by omega)⟩);have S:=TZ b.o.2.2.2.1 i.size;have W:l.cell? ⟨w.heap.size,5,ZY⟩=ZX (Z7 Z9 n):=by simp [World.cell?,u]
 have c:=a5 Q u K S;clear Q i X u K S V x;go_wp2_with fail;refine (fZ (w.heap.size+1) _ (4+8+4) (aI [1,D,L,G]++aI (be t 8)++aI (be f 4)) n 4 l c.o.1 (by have:=a.o.2.2.2;have:=c.o.2.2.2;omega) (by decide) (by decide)).mono ?_;rintro e w4 ⟨v4,rfl,d,N,Y⟩;have g:bW w w4:=c.o.2.2.1.trans (N.below λk y=>⟨by have:=a.o.2.2.2;have:=c.o.2.2.2;omega,λe=>by have:=(c.o.1.lt k e).1;omega⟩);have U:=al d g;clear d N Y g W;go_wp2;go_ret;obtain ⟨d,g⟩:=U.o;refine ⟨v4,rfl,?_,g⟩;have hl:aI [1,D,L,G]++aI (be t 8)++aI (be f 4)++aI (be n 4)=aI (bz.root D L G t f n).body:=by
  rw [<- bO,<- bO,<- bO];simp only [bz.body,V3 m,V3 p,V3 q,UC]
 rw [hl] at d;exact Bs.Sm d (mh (r:=.root D L G t f n) ⟨m,p,q,E,F,H⟩) (TZ (jE (r:=.root D L G t f n) ⟨m,p,q,E,F,H⟩) (by decide))
def Bs.mid (d:l.length<=c) (hl:l.length<=1000000) (e:∀ x∈l,x<256) (h:w.rangeAt b off (aI l)):Bs w (Z5 (ZX ⟨b,off,ZY⟩) l.length c) l:=
 ⟨_,c,rfl,d,by omega,e,λ_=>⟨b,off,rfl,λk a=>h k _ (by unfold aI;rw [UE,Ue a,Ub,Ue a];rfl)⟩⟩
theorem nr (s:Nat) (h:w.rangeAt b off (aI l)):w.rangeAt b off (aI (l.take s)):=λj v a=>by
 unfold aI at a;rw [WC,Yb] at a;split at a
 . exact h j v a
 . cases a
def gh (s:Nat) (h:w.rangeAt b off (aI l)):w.rangeAt b (off+s) (aI (l.drop s)):=λj v a=>by
 unfold aI at a;rw [WD,Wg] at a;rw [Vx];exact h (s+j) v a
theorem jJ (q b off c s:Nat) (l:a8) (w:ZU) (d:w.heap[q]?=ZX (Z4 #[Z5 (ZX ⟨b,off,ZY⟩) l.length c] 40 (0,0))) (k:c<=1000) (g:∀ x∈l,x<256) (f:w.rangeAt b off (aI l)) (i:s<=l.length) (n:s<c) :
 ZR ZL 215 #[Z7 Z9 s,Z6 (ZX ⟨q,0,ZY⟩)] w λe w'=>e=Z3 (Z7 Z8 (fT (l.take s):Nat))/\w'=w.setCell ⟨q,0,ZY⟩ (Z5 (ZX ⟨b,off+s,ZY⟩) (l.length-s) (c-s)):=by
 have a:Bs w (Z5 (ZX ⟨b,off,ZY⟩) (l.take s).length c) (l.take s):=Bs.mid (by rw [Us];omega) (by rw [Us];omega) (λx h=>g x (U2 h)) (nr s f);rw [Us,Wm i] at a;have c0:w.cell? ⟨q,0,ZY⟩=ZX (Z5 (ZX ⟨b,off,ZY⟩) l.length c):=by simp [World.cell?,d]
 have j:w.frozen? ⟨q,0,ZY⟩=ZV:=by simp [World.frozen?,d]
 go_enter func215,ntmps215;go_wp2_with fail;refine (zA _ (l.take s) w a).mono ?_;rintro e w' ⟨rfl,rfl⟩;have m:¬ c=s:=by omega
 clear a f g;go_wp2;go_ret;exact ⟨rfl,rfl⟩
structure Ir (w0 w:ZU) (q b off c:Nat) (l:a8) (vals:Array ZT):Prop where
 box:w.heap[q]?=ZX (Z4 #[Z5 (ZX ⟨b,off,ZY⟩) l.length c] 40 (0,0))
 res:w.heap[q+1]?=ZX (Z4 #[Z7 Z9 0,Z7 Z9 0,Z7 Z9 0,Z7 Z8 0,Z7 Z9 0,Z7 Z9 0] 142 (0,0))
 rv:w.heap[q+1+1]?=ZX (Z4 vals 142 (0,0))
 below:ZS q w0 w
 rng:w.rangeAt b off (aI l)
 lt:b<q
def af {j:Nat} {cs:Array ZT} {t:ZN} (h:w.heap[b]?=ZX (Z4 cs t (0,0))) (v:ZT):(w.setCell ⟨b,j,ZY⟩ v).heap[b]?=ZX (Z4 (cs.setIfInBounds j v) t (0,0)):=by
 simp [World.setCell,Vw,h]
def xE {l:List ZT} (h:w.rangeAt b off l) {a:ZQ} (c:b≠a.block) (v:ZT):(w.setCell a v).rangeAt b off l:=λj u d=>by
 have:=h j u d;rw [<- this];exact Uo (Uj _ _ _ _ c)
def Ir.step (h:Ir w0 w q b off c l vals) (s j:Nat) (v:ZT) :
 Ir w0 ((w.setCell ⟨q,0,ZY⟩ (Z5 (ZX ⟨b,off+s,ZY⟩) (l.length-s) (c-s))).setCell ⟨q+1+1,j,ZY⟩ v) q b (off+s) (c-s) (l.drop s) (vals.setIfInBounds j v):=by
 obtain ⟨a,d,e,f,g,i⟩:=h;refine ⟨?_,?_,?_,?_,?_,i⟩
 . rw [Uj _ _ _ _ (by show q≠q+1+1;omega),af a,Ur];rfl
 . rw [Uj _ _ _ _ (by show q+1≠q+1+1;omega),Uj _ _ _ _ (by show q+1≠q;omega)];exact d
 . exact af ((Uj _ _ _ _ (by show q+1+1≠q;omega)).trans e) v
 . exact (f.setCell (p:=⟨q,0,ZY⟩) lR _).setCell (p:=⟨q+1+1,j,ZY⟩) (by show q<=q+1+1;omega) _
 . exact xE (xE (gh s g) (by show b≠q;omega) _) (by show b≠q+1+1;omega) _
def Ir.cells (h:Ir w0 w q b off c l vals) (s j:Nat) (u:ZT) (a:vals[j]?=ZX u) :
 (w.setCell ⟨q,0,ZY⟩ (Z5 (ZX ⟨b,off+s,ZY⟩) (l.length-s) (c-s))).cell? ⟨q+1+1,j,ZY⟩=ZX u/\(w.setCell ⟨q,0,ZY⟩ (Z5 (ZX ⟨b,off+s,ZY⟩) (l.length-s) (c-s))).frozen? ⟨q+1+1,j,ZY⟩=ZV:=by
 have e:(w.setCell ⟨q,0,ZY⟩ (Z5 (ZX ⟨b,off+s,ZY⟩) (l.length-s) (c-s))).heap[q+1+1]?=_:=(Uj _ _ _ _ (by show q+1+1≠q;omega)).trans h.rv;exact ⟨by simp [World.cell?,e,a],by simp [World.frozen?,e]⟩
def xF:∀ (l:a8),l.length<=7->(∀ x∈l,x<256)->fT l<256^l.length:=by
 intro l hl a;induction hn:l.length generalizing l with
 | zero=>
  have:l=[]:=UY hn;subst this;decide
 | succ n ih=>
  rcases List.eq_nil_or_concat l with rfl|⟨b,x,rfl⟩
  . simp at hn
  . rw [List.concat_eq_append] at *;simp at hn;have c:b.length<=7:=(by simp at hl;omega);have e:=ih b c (λy d=>a y (by simp [d])) hn;have f:=a x (by simp);rw [sR,XV];exact Xj (Nat.mod_le _ _) (by omega)
theorem Ev (b off:Nat) (l:a8) (w:ZU) (hl:l.length=59) (hx:∀ x∈l,x<256) (hr:w.rangeAt b off (aI l)) (hb:b<w.heap.size) :
 ZR ZL 201 #[Z5 (ZX ⟨b,off,ZY⟩) l.length 59] w λe w'=>e=Z3 (.agg (aq (fT (l.take 1)) (fT ((l.drop 1).take 1)) (fT ((l.drop 2).take 1)) (fT ((l.drop 3).take 8)) (fT ((l.drop 11).take 4)) (fT ((l.drop 15).take 4))))/\bW w w':=by
 have W:∀ s,∀ x∈l.drop s,x<256:=λs x h=>hx x (U8 h);have k5:∀ s k,k<=7->fT ((l.drop s).take k)<256^k:=λs k hk=>by
  have hf:((l.drop s).take k).length<=k:=by rw [Us];omega
  exact T9 (xF _ (by omega) (λx h=>W s x (U2 h))) (U9 (by decide) hf)
 have V:Ir w (((w.alloc (Z4 #[Z5 (ZX ⟨b,off,ZY⟩) l.length 59] 40)).alloc (Z4 #[Z7 Z9 0,Z7 Z9 0,Z7 Z9 0,Z7 Z8 0,Z7 Z9 0,Z7 Z9 0] 142)).alloc (Z4 #[Z7 Z9 0,Z7 Z9 0,Z7 Z9 0,Z7 Z8 0,Z7 Z9 0,Z7 Z9 0] 142)) w.heap.size b off 59 l #[Z7 Z9 0,Z7 Z9 0,Z7 Z9 0,Z7 Z8 0,Z7 Z9 0,Z7 Z9 0]:=by
  refine ⟨?_,?_,?_,((bA w _).alloc (by simp) _).alloc (by simp;omega) _,ab3 (ab3 (ab3 hr _) _) _,hb⟩
  . rw [Uy _ _ _ (by simp;omega),Uy _ _ _ (by simp)];exact Uk _ _
  . rw [Uy _ _ _ (by simp)];have:=Uk (w.alloc (Z4 #[Z5 (ZX ⟨b,off,ZY⟩) l.length 59] 40)) (Z4 #[Z7 Z9 0,Z7 Z9 0,Z7 Z9 0,Z7 Z8 0,Z7 Z9 0,Z7 Z9 0] 142);simpa using this
  . have:=Uk ((w.alloc (Z4 #[Z5 (ZX ⟨b,off,ZY⟩) l.length 59] 40)).alloc (Z4 #[Z7 Z9 0,Z7 Z9 0,Z7 Z9 0,Z7 Z8 0,Z7 Z9 0,Z7 Z9 0] 142)) (Z4 #[Z7 Z9 0,Z7 Z9 0,Z7 Z9 0,Z7 Z8 0,Z7 Z9 0,Z7 Z9 0] 142);simpa using this
 obtain ⟨w1,k6⟩:=nM (((w.alloc (Z4 #[Z5 (ZX ⟨b,off,ZY⟩) l.length 59] 40)).alloc (Z4 #[Z7 Z9 0,Z7 Z9 0,Z7 Z9 0,Z7 Z8 0,Z7 Z9 0,Z7 Z9 0] 142)).alloc (Z4 #[Z7 Z9 0,Z7 Z9 0,Z7 Z9 0,Z7 Z8 0,Z7 Z9 0,Z7 Z9 0] 142));rw [k6] at V;have a:=aE W k5 hl;have H0:cJ (Ir w w1 w.heap.size b (off+0) 59 (l.drop 0) #[Z7 Z9 0,Z7 Z9 0,Z7 Z9 0,Z7 Z8 0,Z7 Z9 0,Z7 Z9 0]):=V;clear V hr hx W k5 hl hb;go_enter func201,ntmps201;go_wp2_with fail;obtain ⟨f,X⟩:∃ x,fT ((l.drop 0).take 1)=x:=⟨_,rfl⟩;have b0:f<4294967296:=T9 (X▸a.o.2.1 0 1 (by decide)) (by decide);have N:=H0.o;refine (jJ w.heap.size b (off+0) 59 1 (l.drop 0) w1 N.box (by decide) (a.o.1 0) N.rng (by rw [Ur,a.o.2.2];decide) (by decide)).mono ?_;rintro e y0 ⟨rfl,ke⟩;rw [X];have H:=N.step 1 0 (Z7 Z9 (f:Nat));obtain ⟨t,C⟩:=N.cells 1 0 _ rfl;rw [<- ke] at H t C;clear ke;obtain ⟨w2,k7⟩:∃ z,y0.setCell ⟨w.heap.size+1+1,0,ZY⟩ (Z7 Z9 (f:Nat))=z:=⟨_,rfl⟩;rw [k7] at H;have hq:Ir w w2 w.heap.size b (off+1) 58 (l.drop 1) #[Z7 Z9 (f:Nat),Z7 Z9 0,Z7 Z9 0,Z7 Z8 0,Z7 Z9 0,Z7 Z9 0]:=by
  rw [VN,Vx off] at H;exact H
 have H1:=ak hq;clear N H hq;go_wp2_with fail;obtain ⟨g,Y⟩:∃ x,fT ((l.drop 1).take 1)=x:=⟨_,rfl⟩;have b1:g<4294967296:=T9 (Y▸a.o.2.1 1 1 (by decide)) (by decide);have O:=H1.o;refine (jJ w.heap.size b (off+1) 58 1 (l.drop 1) w2 O.box (by decide) (a.o.1 1) O.rng (by rw [Ur,a.o.2.2];decide) (by decide)).mono ?_;rintro e y1 ⟨rfl,kf⟩;rw [Y];have I:=O.step 1 1 (Z7 Z9 (g:Nat));obtain ⟨u,D⟩:=O.cells 1 1 _ rfl;rw [<- kf] at I u D;clear kf;obtain ⟨w3,k8⟩:∃ z,y1.setCell ⟨w.heap.size+1+1,1,ZY⟩ (Z7 Z9 (g:Nat))=z:=⟨_,rfl⟩;rw [k8] at I;have hs:Ir w w3 w.heap.size b (off+2) 57 (l.drop 2) #[Z7 Z9 (f:Nat),Z7 Z9 (g:Nat),Z7 Z9 0,Z7 Z8 0,Z7 Z9 0,Z7 Z9 0]:=by
  rw [VN,Vx off] at I;exact I
 have H2:=ak hs;clear O I hs;go_wp2_with fail;obtain ⟨i,Z⟩:∃ x,fT ((l.drop 2).take 1)=x:=⟨_,rfl⟩;have b2:i<4294967296:=T9 (Z▸a.o.2.1 2 1 (by decide)) (by decide);have P:=H2.o;refine (jJ w.heap.size b (off+2) 57 1 (l.drop 2) w3 P.box (by decide) (a.o.1 2) P.rng (by rw [Ur,a.o.2.2];decide) (by decide)).mono ?_;rintro e y2 ⟨rfl,kg⟩;rw [Z];have J:=P.step 1 2 (Z7 Z9 (i:Nat));obtain ⟨y,E⟩:=P.cells 1 2 _ rfl;rw [<- kg] at J y E;clear kg;obtain ⟨w4,k9⟩:∃ z,y2.setCell ⟨w.heap.size+1+1,2,ZY⟩ (Z7 Z9 (i:Nat))=z:=⟨_,rfl⟩;rw [k9] at J;have hv:Ir w w4 w.heap.size b (off+3) 56 (l.drop 3) #[Z7 Z9 (f:Nat),Z7 Z9 (g:Nat),Z7 Z9 (i:Nat),Z7 Z8 0,Z7 Z9 0,Z7 Z9 0]:=by
  rw [VN,Vx off] at J;exact J
 have H3:=ak hv;clear P J hv;go_wp2_with fail;obtain ⟨m,kc⟩:∃ x,fT ((l.drop 3).take 8)=x:=⟨_,rfl⟩;have Q:=H3.o;refine (jJ w.heap.size b (off+3) 56 8 (l.drop 3) w4 Q.box (by decide) (a.o.1 3) Q.rng (by rw [Ur,a.o.2.2];decide) (by decide)).mono ?_;rintro e y3 ⟨rfl,kh⟩;rw [kc];have K:=Q.step 8 3 (Z7 Z8 (m:Nat));obtain ⟨A,F⟩:=Q.cells 8 3 _ rfl;rw [<- kh] at K A F;clear kh;obtain ⟨w5,ka⟩:∃ z,y3.setCell ⟨w.heap.size+1+1,3,ZY⟩ (Z7 Z8 (m:Nat))=z:=⟨_,rfl⟩;rw [ka] at K;have hy:Ir w w5 w.heap.size b (off+11) 48 (l.drop 11) #[Z7 Z9 (f:Nat),Z7 Z9 (g:Nat),Z7 Z9 (i:Nat),Z7 Z8 (m:Nat),Z7 Z9 0,Z7 Z9 0]:=by
  rw [VN,Vx off] at K;exact K
 have H4:=ak hy;clear Q K hy;go_wp2_with fail;obtain ⟨n,hn⟩:∃ x,fT ((l.drop 11).take 4)=x:=⟨_,rfl⟩;have b4:n<4294967296:=T9 (hn▸a.o.2.1 11 4 (by decide)) (by decide);have R:=H4.o;refine (jJ w.heap.size b (off+11) 48 4 (l.drop 11) w5 R.box (by decide) (a.o.1 11) R.rng (by rw [Ur,a.o.2.2];decide) (by decide)).mono ?_;rintro e y4 ⟨rfl,ki⟩;rw [hn];have L:=R.step 4 4 (Z7 Z9 (n:Nat));obtain ⟨B,G⟩:=R.cells 4 4 _ rfl;rw [<- ki] at L B G;clear ki;obtain ⟨w6,kb⟩:∃ z,y4.setCell ⟨w.heap.size+1+1,4,ZY⟩ (Z7 Z9 (n:Nat))=z:=⟨_,rfl⟩;rw [kb] at L;have hz:Ir w w6 w.heap.size b (off+15) 44 (l.drop 15) #[Z7 Z9 (f:Nat),Z7 Z9 (g:Nat),Z7 Z9 (i:Nat),Z7 Z8 (m:Nat),Z7 Z9 (n:Nat),Z7 Z9 0]:=by
  rw [VN,Vx off] at L;exact L
 have H5:=ak hz;clear R L hz;go_wp2_with fail;obtain ⟨q,hp⟩:∃ x,fT ((l.drop 15).take 4)=x:=⟨_,rfl⟩;have b5:q<4294967296:=T9 (hp▸a.o.2.1 15 4 (by decide)) (by decide);have S:=H5.o;refine (jJ w.heap.size b (off+15) 44 4 (l.drop 15) w6 S.box (by decide) (a.o.1 15) S.rng (by rw [Ur,a.o.2.2];decide) (by decide)).mono ?_;rintro e y5 ⟨rfl,kj⟩;rw [hp];have M:=S.step 4 5 (Z7 Z9 (q:Nat));obtain ⟨T,U⟩:=S.cells 4 5 _ rfl;rw [<- kj] at M T U;clear kj;obtain ⟨d,km⟩:∃ z,y5.setCell ⟨w.heap.size+1+1,5,ZY⟩ (Z7 Z9 (q:Nat))=z:=⟨_,rfl⟩;rw [km] at M;have k0:Ir w d w.heap.size b (off+19) 40 (l.drop 19) #[Z7 Z9 (f:Nat),Z7 Z9 (g:Nat),Z7 Z9 (i:Nat),Z7 Z8 (m:Nat),Z7 Z9 (n:Nat),Z7 Z9 (q:Nat)]:=by
  rw [VN,Vx off] at M;exact M
 have c:=ak k0;clear S M k0;have g0:d.cell? ⟨w.heap.size+1+1,0,ZY⟩=ZX (Z7 Z9 (f:Nat)):=by simp [World.cell?,c.o.rv]
 have g1:d.cell? ⟨w.heap.size+1+1,1,ZY⟩=ZX (Z7 Z9 (g:Nat)):=by simp [World.cell?,c.o.rv]
 have g2:d.cell? ⟨w.heap.size+1+1,2,ZY⟩=ZX (Z7 Z9 (i:Nat)):=by simp [World.cell?,c.o.rv]
 have g3:d.cell? ⟨w.heap.size+1+1,3,ZY⟩=ZX (Z7 Z8 (m:Nat)):=by simp [World.cell?,c.o.rv]
 have g4:d.cell? ⟨w.heap.size+1+1,4,ZY⟩=ZX (Z7 Z9 (n:Nat)):=by simp [World.cell?,c.o.rv]
 have g5:d.cell? ⟨w.heap.size+1+1,5,ZY⟩=ZX (Z7 Z9 (q:Nat)):=by simp [World.cell?,c.o.rv]
 have r0:d.cell? ⟨w.heap.size+1,0,ZY⟩=ZX (Z7 Z9 0):=by simp [World.cell?,c.o.res]
 have r1:d.cell? ⟨w.heap.size+1,1,ZY⟩=ZX (Z7 Z9 0):=by simp [World.cell?,c.o.res]
 have r2:d.cell? ⟨w.heap.size+1,2,ZY⟩=ZX (Z7 Z9 0):=by simp [World.cell?,c.o.res]
 have r3:d.cell? ⟨w.heap.size+1,3,ZY⟩=ZX (Z7 Z8 0):=by simp [World.cell?,c.o.res]
 have r4:d.cell? ⟨w.heap.size+1,4,ZY⟩=ZX (Z7 Z9 0):=by simp [World.cell?,c.o.res]
 have r5:d.cell? ⟨w.heap.size+1,5,ZY⟩=ZX (Z7 Z9 0):=by simp [World.cell?,c.o.res]
 have r:∀ k,d.frozen? ⟨w.heap.size+1,k,ZY⟩=ZV:=λk=>by simp [World.frozen?,c.o.res]
 have f0:=r 0;have f1:=r 1;have f2:=r 2;have f3:=r 3;have f4:=r 4;have f5:=r 5;clear r k6 k7 k8 k9 ka kb t u y A B C D E F G H0 H1 H2 H3 H4 H5;go_wp2;have hh:=af (j:=5) (af (j:=4) (af (j:=3) (af (j:=2) (af (j:=1) (af (j:=0) c.o.res (Z7 Z9 (f:Nat))) (Z7 Z9 (g:Nat))) (Z7 Z9 (i:Nat))) (Z7 Z8 (m:Nat))) (Z7 Z9 (n:Nat))) (Z7 Z9 (q:Nat));refine Uv (v:=.agg (aq f g i m n q)) (V8 results201 _ _ (w.heap.size+1) 142 (aq f g i m n q) (0,0) _ rfl hh Yc rfl (by kernel_rfl)) rfl ?_;have kk:=c.o.below;refine ⟨?_,(((((kk.setCell (p:=⟨w.heap.size+1,0,ZY⟩) (by show w.heap.size<=w.heap.size+1;omega) _).setCell (p:=⟨w.heap.size+1,1,ZY⟩) (by show w.heap.size<=w.heap.size+1;omega) _).setCell (p:=⟨w.heap.size+1,2,ZY⟩) (by show w.heap.size<=w.heap.size+1;omega) _).setCell (p:=⟨w.heap.size+1,3,ZY⟩) (by show w.heap.size<=w.heap.size+1;omega) _).setCell (p:=⟨w.heap.size+1,4,ZY⟩) (by show w.heap.size<=w.heap.size+1;omega) _).setCell (p:=⟨w.heap.size+1,5,ZY⟩) (by show w.heap.size<=w.heap.size+1;omega) _⟩;rw [<- X,<- Y,<- Z,<- kc,<- hn,<- hp,Xw]
def cF:bz->ZT
 | .blank=>.iface 231 (.agg #[])
 | .root D L G t f n=>.iface 142 (.agg (aq D L G t f n))
 | .filled=>.iface 180 (.agg #[])
 | .shard l=>.iface 213 (.agg (aI l).toArray)
def mx (h:bN w b l):w.rangeAt b 0 (aI l):=λj v c=>by
 have:(aB l)[j]?=ZX v:=by unfold aB;simpa using c
 have a:w.heap[b]?=ZX (Z4 (aB l) 114 (0,0)):=h;simp [World.cell?,a,this]
def Le (h:bN w b l) (i:Nat) (a:i<l.length):w.cell? ⟨b,i,ZY⟩=ZX (Z7 .u8 ((l.getD i 0:Nat):Int)):=by
 have:=mx h i (Z7 .u8 ((l.getD i 0:Nat):Int)) (by unfold aI;rw [UE,Ue a,Ub,Ue a];rfl);rwa [Um] at this
def tD (l:a8) (i:Nat) (h:i<l.length):(l.drop i).take 1=[l.getD i 0]:=by
 rw [X5 h,Ub,Ue h];rfl
def Lf (hl:l.length=64) (a:l.getD 4 0=1):rq l=.root (fT ((l.drop 5).take 1)) (fT (((l.drop 5).drop 1).take 1)) (fT (((l.drop 5).drop 2).take 1)) (fT (((l.drop 5).drop 3).take 8)) (fT (((l.drop 5).drop 11).take 4)) (fT (((l.drop 5).drop 15).take 4)):=by
 unfold rq;rw [TX a,VN,VN,VN,VN,VN,tD l 5 (by omega),tD l (5+1) (by omega),tD l (5+2) (by omega)]
def BK:∀ (l:List ZT) (k:Nat) (z:Array ZT),((l.zipIdx k).foldl (λcs x=>cs.setIfInBounds x.2 x.1) z).size=z.size/\∀ i,((l.zipIdx k).foldl (λcs x=>cs.setIfInBounds x.2 x.1) z)[i]?=if k<=i/\i<k+l.length/\i<z.size then l[i-k]? else z[i]?
 | [],k,z=>⟨rfl,λi=>by
  show z[i]?=if k<=i/\i<k+0/\i<z.size then _ else z[i]?;rw [TW (by omega)]⟩
 | v::l,k,z=>by
  obtain ⟨b,c⟩:=BK l (k+1) (z.setIfInBounds k v);rw [List.zipIdx_cons,W0];refine ⟨by rw [b];simp,λi=>?_⟩;rw [c i,Array.size_setIfInBounds,Yt];simp only [UG];by_cases e:k=i
  . subst e;rw [TW (by omega),TX rfl];by_cases a:k<z.size
    . rw [TX a,TX (by omega),WL];rfl
    . rw [TW a,TW (by omega)];simp [a]
  . rw [TW e];by_cases a:k+1<=i/\i<k+1+l.length/\i<z.size
    . rw [TX a,TX (by omega),show i-k=(i-(k+1))+1 by omega];rfl
    . rw [TW a,TW (by omega)]
theorem xG (z a:Array ZT) (n:Nat) (g:z.size=n) (c:a.size=n):YJ (λcs x=>cs.setIfInBounds x.snd x.fst) z a.zipIdx 0 n=a:=by
 have e:YJ (λcs x=>cs.setIfInBounds x.snd x.fst) z a.zipIdx 0 n=(a.toList.zipIdx).foldl (λcs x=>cs.setIfInBounds x.2 x.1) z:=by
  rw [<- c,show a.size=a.zipIdx.size by simp,<- Array.foldl_toList,Array.toList_zipIdx]
 rw [e];obtain ⟨d,b⟩:=BK a.toList 0 z;apply YO;intro i;rw [b i];by_cases f:i<n
 . rw [TX (by simp;omega)];simp
 . rw [TW (by omega)];simp [Xo (show z.size<=i by omega),Xo (show a.size<=i by omega)]
theorem Is (l:a8) (w:ZU) (hl:l.length=64) (m:∀ x∈l,x<256) :
 ZR ZL 183 #[.agg (aB l)] w λe w'=>e=Z3 (cF (rq l))/\bW w w':=by
 have p:=bN.new w l;have c:bW w (w.alloc (Z4 (aB l) 114)):=bA w _;have b:(w.alloc (Z4 (aB l) 114)).heap.size=w.heap.size+1:=by simp
 obtain ⟨w1,G⟩:=nM (w.alloc (Z4 (aB l) 114));rw [G] at p c b;have t:=Le p 4 (by omega);have j:w1.rangeAt w.heap.size 5 (aI (l.drop 5)):=by have:=gh 5 (mx p);rwa [Um] at this
 have i:w1.rangeAt w.heap.size 20 (aI (l.drop 20)):=by have:=gh 20 (mx p);rwa [Um] at this
 have k:∀ x∈l.drop 5,x<256:=λx h=>m x (U8 h);have d:(l.drop 5).length=59:=by rw [Ur,hl]
 have f:(l.drop 20).length=44:=by rw [Ur,hl]
 by_cases g:l.getD 4 0=1
 . have a:=Lf hl g;rw [g] at t;have q:=Ev w.heap.size 5 (l.drop 5) w1 d k j (by omega);rw [d] at q;rw [a];obtain ⟨ra,v⟩:=nM (aq (fT ((l.drop 5).take 1)) (fT (((l.drop 5).drop 1).take 1)) (fT (((l.drop 5).drop 2).take 1)) (fT (((l.drop 5).drop 3).take 8)) (fT (((l.drop 5).drop 11).take 4)) (fT (((l.drop 5).drop 15).take 4)));rw [v] at q;have E:=ak v;clear v;have H:=al c b;clear a i j k f m d c b;go_enter func183,ntmps183;go_wp2_with fail;refine q.mono ?_;rintro e w2 ⟨rfl,B⟩;clear q;have D:=ak B;clear B;go_wp2;go_ret;exact ⟨by rw [show cF (.root (fT ((l.drop 5).take 1)) (fT (((l.drop 5).drop 1).take 1)) (fT (((l.drop 5).drop 2).take 1)) (fT (((l.drop 5).drop 3).take 8)) (fT (((l.drop 5).drop 11).take 4)) (fT (((l.drop 5).drop 15).take 4)))=.iface 142 (.agg ra) from (by unfold cF;rw [<- E.o])];rfl,H.o.1.trans (D.o.mono (by have:=H.o.2;omega))⟩
 . by_cases n:l.getD 4 0=2
   . have a:rq l=.filled:=(by unfold rq;rw [TW g,TX n]);rw [n] at t;rw [a];have H:=al c b;clear a i j k f m d c b;unfold cF;go_enter func183,ntmps183;go_wp2;go_ret;exact ⟨rfl,H.o.1⟩
   . by_cases u:l.getD 4 0=3
     . have a:rq l=.shard (l.drop 20):=(by unfold rq;rw [TW g,TW n,TX u]);rw [u] at t;rw [a];have H:=a5 c b i f;clear a i j k f m d c b;have I:∀ (s:ZQ) (w:ZU),(Instr.arrayAt 211 (Z5 (ZX s) 44 44)).run ZL w=.ok (Z6 (ZX s)) w:=λs w=>by simp [Instr.arrayAt,UR ab4]
       have C:(aI (l.drop 20)).toArray.size=44:=(by rw [UL,aW];exact H.o.2.2.2);go_enter func183,ntmps183;obtain ⟨r,y⟩:=nM ((aI (l.drop 20)).toArray);rw [y] at C;have A:=ak y;go_wp2_with (refine abR rfl 211 (Z1 17) rfl w.heap.size 20 rfl (aI (l.drop 20)) _ H.o.2.2.1 ab4 rfl (by rw [aW,H.o.2.2.2];kernel_rfl) ?_;rw [A.o];clear y);have F:∀ z:Array ZT,z.size=44->YJ (λcs x=>cs.setIfInBounds x.snd x.fst) z r.zipIdx 0 44=r:=λz b=>xG z r 44 b C;rw [F _ rfl];go_ret;exact ⟨by rw [show cF (.shard (l.drop 20))=.iface 213 (.agg r) from (by unfold cF;rw [<- A.o])];rfl,H.o.1⟩
     . have a:rq l=.blank:=(by unfold rq;rw [TW g,TW n,TW u]);rw [a];have H:=al c b;have J:¬ ((l.getD 4 0:Nat):Int)=1:=(by omega);have K:¬ ((l.getD 4 0:Nat):Int)=2:=(by omega);have L:¬ ((l.getD 4 0:Nat):Int)=3:=(by omega);clear a i j k f m d c b;generalize l.getD 4 0=x at *;unfold cF;go_enter func183,ntmps183;go_wp2;go_ret;exact ⟨rfl,H.o.1⟩
def spl (l:a8) (off:Nat) (src:a8):a8:=l.take off++(src++l.drop (off+src.length))
def oq (h:off+src.length<=l.length):(spl l off src).length=l.length:=by unfold spl;simp;omega
def ot (h:ZN) (p:bN w b l) (r:Bs w v src) (i:src≠[]) (y:src.length<=n) (t:off+src.length<=l.length) :
 (Builtin.copy_ #[40,40] h #[Z5 (ZX ⟨b,off,ZY⟩) n cap,v]).run ZL w=.ok (Z7 Z9 (src.length:Nat)) (w.setRow b (aB (spl l off src))):=by
 obtain ⟨ao,c,rfl,z,A,B,k⟩:=r;obtain ⟨g,o,rfl,s⟩:=k i;have m:=run_copy_row (P:=ZL) w 40 40 h 5 b off n cap ⟨g,o,ZY⟩ src.length c (aB l) 114 (aI src) Uq (by kernel_rfl) p (by rw [aW];exact (Wm y).symm) (λj u f=>by
  have a:j<src.length:=by obtain ⟨q,_⟩:=Vc.1 f;rwa [aW] at q
  rw [Vp,s j a,<- f];unfold aI;rw [UE,Ue a,Ub,Ue a];rfl) (by rw [aW,iB];exact t) (λu d=>by
  unfold aI at d;rw [Ua] at d;obtain ⟨x,_,rfl⟩:=d;rfl)
 rw [m];have e:(YN off (aB l).toList++aI src++List.drop (off+(aI src).length) (aB l).toList).toArray=aB (spl l off src):=by
  rw [wN,aW];unfold aB spl;rw [bO,bO,UC];unfold aI;rw [WC,WD]
 simp only [UC] at e ⊢;rw [e,aW];rfl
noncomputable def RBk:Array ZO:=((Tryz.f150.body.bind (DO · 5))).getD #[]
def aa7:List (Op×Option Nat×a8):=[(Op.slice 114 (Z1 3) ZY (ZX (Operand.const (Value.int IntKind.i64 4))) ZY,ZX 13,[]),
 (Op.slice 114 (Z1 3) (ZX (Operand.const (Value.int IntKind.i64 4))) ZY ZY,ZX 14,[]),
 (Op.call { callee:=Callee.value (Operand.func 182),args:=#[Z1 14],argTypes:=#[40] },ZX 15,[1]),
 (Op.convert 303 23 (Z1 15),ZX 16,[2]),
 (Op.call { callee:=Callee.value (Operand.func 172),args:=#[Operand.const (Value.slice ZY 0 0),Z1 16,Operand.const (Value.int IntKind.i64 4)],argTypes:=#[40,23,3] },ZX 17,[3,2]),
 (Op.call { callee:=Callee.builtin Builtin.copy,args:=#[Z1 13,Z1 17],argTypes:=#[40,40] },ZX 18,[0,4,4])]
def It:bF RBk 13 19 aa7:=eU (by kernel_rfl) (by kernel_rfl)
def VBk (w0:ZU) (b c:Nat) (i:Nat) (u:ZT) (w:ZU):Prop:=match i with
 | 0=>u=Z5 (ZX ⟨b,0,ZY⟩) 4 64
 | 1=>u=Z5 (ZX ⟨b,4,ZY⟩) 60 60
 | 2=>u=Z7 .u32 (c:Nat)
 | 3=>u=Z7 Z8 (c:Nat)
 | 4=>w.ownsRow w0.heap.size 5 1 u (0+4) (aI (be c 4))
 | _=>True
def BL (j:b<w0.heap.size) (g:∀ k,k≠b->k<w.heap.size->w'.heap[k]?=w.heap[k]?) (a:w.os=w'.os/\w.tape=w'.tape/\w.output=w'.output/\w.heap.size<=w'.heap.size) (i:Nat) (u:ZT) (h:VBk w0 b c i u w):VBk w0 b c i u w':=by
 match i with
 | 0|1|2|3=>exact h
 | 4=>exact World.ownsRow.kept h (row:=ZX b) ⟨a.1.symm,a.2.1.symm,a.2.2.1.symm,a.2.2.2,λk d f=>g k (λe=>f (by rw [e])) d⟩ (.inr λe=>by have:=(World.ownsRow.lt h b e).1;omega)
 | n+5=>trivial
def BBk (w0:ZU) (b c:Nat) (l:a8) (D:Nat->Bool) (w:ZU):Prop:=bN w b (if D 5=ZW then spl l 0 (be c 4) else l)/\aa (λk=>k=b) w0 w
def ou {D:Nat->Bool} (h:BBk w0 b c l D w) (i:Nat) (d:i≠5) (a:aa (λ_=>False) w w'):BBk w0 b c l (mq D i) w':=by
 refine ⟨?_,h.2.later a (λ_ _ q=>q.elim)⟩;unfold mq;rw [TW (λe:5=i=>d e.symm)];exact h.1.keep (a.block _ h.1.lt (λq=>q))
def bh.out (h:bh w) (a:aa (λk=>k=b) w w') (c:b≠2):bh w':=λj d=>by
 have:=h j d;rw [<- this];exact Uo (a.block _ (Ui this) (λe=>c e.symm))
theorem kC (M:RBk=ops) (d:bN w b l) (hl:l.length=64) (Z:∀ x∈l,x<256) (Y:bh w) (O:b≠2) (hs:a.tmps.size=20)
 (G:a.eval (Z1 3)=Z6 (ZX ⟨b,0,ZY⟩)) (K:∀ (w':ZU) (vs:List ZT),vs.length=6->bN w' b (spl l 0 (be (nF (l.drop 4)) 4))->aa (λk=>k=b) w w'->Q .normal (Act.RV a 13 vs) w'):(Code.region 5 ops ZW).wp ZL Q a w:=by
 subst M;obtain ⟨c,F⟩:=nM (nF (l.drop 4));have z:c<4294967296:=F▸zw _;rw [F] at K;have J:=d.lt;refine il (by kernel_rfl) It a w (by omega) (VBk w b c) (BBk w b c l) ⟨d,aa.drew w⟩ ?_ ?_
 . intro i E;match i,E with
   | 0,_=>
    intro o g w' D A ho m r t z s d p;have u0:g.eval (Z1 3)=Z6 (ZX ⟨b,0,ZY⟩):=(r.slot 3 (by omega)).trans G;exact aK (v:=Z5 (ZX ⟨b,0,ZY⟩) 4 64) (by (conv at ho=>rhs;whnf);simp only [execOp,ho,u0];go_simp) m ⟨ou d 0 (by decide) (aa.refl _ _),rfl,kq⟩
   | 1,_=>
    intro o g w' D A ho m r t z s d p;have u0:g.eval (Z1 3)=Z6 (ZX ⟨b,0,ZY⟩):=(r.slot 3 (by omega)).trans G;exact aK (v:=Z5 (ZX ⟨b,4,ZY⟩) 60 60) (by (conv at ho=>rhs;whnf);simp only [execOp,ho,u0];go_simp) m ⟨ou d 1 (by decide) (aa.refl _ _),rfl,kq⟩
   | 2,_=>
    intro o g w' D A ho m r t z s d p;have u0:g.eval (Z1 14)=Z5 (ZX ⟨b,4,ZY⟩) 60 60:=p 1 (s 1 (by decide));have P:D 5=ZV:=by
     cases q:D 5 with
     | false=>rfl
     | true=>have:=(z 5 q).2 4 (by decide);have:=(z 4 this).2 2 (by decide);rw [t] at this;cases this
    have C:bN w' b l:=(by have:=d.1;rw [TW (by rw [P];decide)] at this;exact this);have L:Bs w' (Z5 (ZX ⟨b,4,ZY⟩) (l.drop 4).length 60) (l.drop 4):=Bs.mid (by rw [Ur,hl];decide) (by rw [Ur,hl];decide) (λx h=>Z x (U8 h)) (by have:=gh 4 (mx C);rwa [Um] at this);rw [show (l.drop 4).length=60 by rw [Ur,hl]] at L;refine rT (f:=182) (args:=#[Z5 (ZX ⟨b,4,ZY⟩) 60 60]) (w1:=w') (by (conv at ho=>rhs;whnf);simp only [execOp,ho];go_simp;simpa [Act.eval] using u0) m (NZ _ (l.drop 4) w' L (Y.out d.2 O)) ?_;rintro e B ⟨rfl,rfl⟩;rw [F];exact ⟨_,rfl,ou d 2 (by decide) (aa.refl _ _),rfl,kq⟩
   | 3,_=>
    intro o g w' D A ho m r t H s d p;have u0:g.eval (Z1 15)=Z7 .u32 (c:Nat):=p 2 (s 2 (by decide));exact aK (v:=Z7 Z8 (c:Nat)) (by (conv at ho=>rhs;whnf);simp only [execOp,ho,u0];go_simp;rw [Vd];omega) m ⟨ou d 3 (by decide) (aa.refl _ _),rfl,kq⟩
   | 4,_=>
    intro o g w' D A ho m r t H s d p;have u0:g.eval (Z1 16)=Z7 Z8 (c:Nat):=p 3 (s 3 (by decide));refine rT (f:=172) (args:=#[Z5 ZY 0 0,Z7 Z8 (c:Nat),Z7 Z9 (4:Nat)]) (w1:=w') (by (conv at ho=>rhs;whnf);simp only [execOp,ho];go_simp;simpa [Act.eval] using u0) m (fZ w.heap.size (Z5 ZY 0 0) 0 [] c 4 w' (UP _ _ _ _) d.2.size (by decide) (by decide)) ?_;rintro e B ⟨v',rfl,X,R,hr⟩;have y:aa (λ_=>False) w' B:=R.mono (λk _ q=>by simp [Value.ownBlock] at q);refine ⟨v',rfl,ou d 4 (by decide) y,X,λj u U q=>BL J (λk _ r=>y.block k r (λq=>q)) ⟨y.os.symm,y.tape.symm,y.output.symm,y.size⟩ j u q⟩
   | 5,_=>
    intro o g w' D A ho m r t H s d p;have u0:g.eval (Z1 13)=Z5 (ZX ⟨b,0,ZY⟩) 4 64:=p 0 (s 0 (by decide));have u1:w'.ownsRow w.heap.size 5 1 (g.eval (Z1 17)) (0+4) (aI (be c 4)):=p 4 (s 4 (by decide));have C:bN w' b l:=(by have:=d.1;rw [TW (by rw [t];decide)] at this;exact this);have T:=ot (n:=4) (cap:=64) (off:=0) o.type C (Bs.Sm u1 (qI _ _) (by rw [aD];decide)) (by intro e;have:=aD c 4;rw [e] at this;cases this) (by rw [aD];decide) (by rw [aD,hl];decide);refine aK (v:=Z7 Z9 ((be c 4).length:Nat)) (w':=w'.setRow b (aB (spl l 0 (be c 4)))) (by (conv at ho=>rhs;whnf);simp only [execOp,ho,resolve,invoke,builtin,Ux,Vf,UK,V7,UI,Vh,u0,T]) m ⟨⟨?_,d.2.later (aa.setRow (S:=λk=>k=b) _ _ _ rfl) (λ_ _ q=>q)⟩,trivial,λj u U q=>BL J (λk W r=>(aG _ _ _).block k r (λe=>W (by cases e;rfl))) ⟨rfl,rfl,rfl,by simp [World.setRow]⟩ j u q⟩;show bN _ b (if mq D 5 5=ZW then _ else _);rw [TX (by unfold mq;rw [TX rfl])];exact C.setRow _
   | n+6,hn=>exact absurd hn (by show ¬ n+6<6;omega)
 . rintro g w' V ⟨D,N,I⟩ p;have e:g=Act.RV a 13 ((YF 6).map λi=>g.eval (.tmp (13+i))):=V.out _ (by rw [Ud,UM]) (by omega) (λi E=>by
    rw [Ud,UM] at E;rw [Ub,UE,VU E];rfl)
   rw [e];have:=I.1;rw [TX (N 5 (by decide))] at this;exact K w' _ (by rw [Ud,UM]) this I.2
def Lg (h:vs.length=6):∃ a b c d e f,vs=[a,b,c,d,e,f]:=by
 match vs,h with
 | [a,b,c,d,e,f],_=>exact ⟨_,_,_,_,_,_,rfl⟩
structure Ew (w0 w:ZU) (r b:Nat) (l:a8):Prop where
 res:bN w r zb
 blk:bN w b l
 below:bW w0 w
 rs:r=w0.heap.size
 bs:b=w0.heap.size+1
def Ew.new (w:ZU):Ew w ((w.alloc (Z4 (aB zb) 114)).alloc (Z4 (aB zb) 114)) w.heap.size (w.heap.size+1) zb:=by
 refine ⟨(Uy _ _ _ (by simp)).trans (Uk _ _),?_,(bA w _).alloc (by simp) _,rfl,rfl⟩;have:=Uk (w.alloc (Z4 (aB zb) 114)) (Z4 (aB zb) 114);simpa [bN] using this
def Ew.mono (h:Ew w0 w r b l) (a:bW w w'):Ew w0 w' r b l:=
 ⟨h.res.keep (a.block _ h.res.lt),h.blk.keep (a.block _ h.blk.lt),h.below.trans (a.mono (by have:=h.res.lt;have:=h.rs;omega)),h.rs,h.bs⟩
def Ew.set {l':a8} (h:Ew w0 w r b l) (a:aa (λk=>k=b) w w') (c:bN w' b l'):Ew w0 w' r b l':=
 ⟨h.res.keep (a.block _ h.res.lt (λe=>by have:=h.rs;have:=h.bs;omega)),c,h.below.trans (a.below λk d=>⟨by have:=h.blk.lt;have:=h.bs;omega,λe=>by have:=h.bs;omega⟩),h.rs,h.bs⟩
def bh.below {B:Nat} (h:bh w) (b:ZS B w w') (a:2<B):bh w':=λj c=>(b.cell (p:=⟨2,j,ZY⟩) a).trans (h j c)
def bh.lt (h:bh w):2<w.heap.size:=Ui (h 0 (by decide))
theorem zK {body:a8} (c:body.length<=60):spl (spl zb 4 body) 0 (be (nF ((spl zb 4 body).drop 4)) 4)=cL body:=by
 have a:(spl zb 4 body).drop 4=body++YI (60-body.length) 0:=by
  unfold spl;rw [W5 (by simp [zb]),show (YN 4 zb).drop 4=[] by simp [zb]];simp only [Ut];congr 1;unfold zb;rw [X0];congr 1;omega
 have b:∀ (X s:a8),spl X 0 s=s++X.drop s.length:=λX s=>by unfold spl;rw [Wn,Ut,Um]
 rw [b,aD,a];rfl
def Ex (b:∀ x∈l,x<256) (c:∀ x∈src,x<256):∀ x∈spl l off src,x<256:=by
 intro x a;unfold spl at a;simp only [Un] at a;rcases a with h|h|h
 . exact b x (U2 h)
 . exact c x h
 . exact b x (U8 h)
def Lh:∀ x∈zb,x<256:=λx a=>by have:=VM a;omega
theorem BM (w:ZU):ZR ZL 150 #[cF .blank] w λe w'=>e=Z3 (.agg (aB bz.blank.blk))/\bW w w':=by
 have j:=zeroBlk;have b:=Ew.new w;obtain ⟨w1,h⟩:=nM ((w.alloc (Z4 (aB zb) 114)).alloc (Z4 (aB zb) 114));rw [h] at b;have c:=ak b;clear b;unfold cF;go_enter func150,ntmps150;go_wp2_with fail;refine (Eu w1).mono ?_;rintro e w2 ⟨rfl,d⟩;have f:=c.o.mono d;have a:=ak f;clear f d c;go_wp2_with (first|(refine mi rfl (Z1 3) rfl (w.heap.size+1) zb rfl a.o.blk bX ?_)|(refine fG rfl (Z1 2) (Z1 19) rfl w.heap.size zb zb rfl rfl a.o.res bX bX ?_));have g:=a.o.res.setRow zb;refine Uv (v:=.agg (aB zb)) (V8 results150 _ _ w.heap.size 114 (aB zb) (0,0) _ rfl g WO rfl (fx bX)) rfl ?_;exact ⟨rfl,a.o.below.trans ⟨rfl,rfl,rfl,by simp [World.setRow],λk i=>(aG _ _ _).block k (by have:=a.o.res.lt;omega) (λe=>by cases e;omega)⟩⟩
theorem Ey (D L G t f n:Nat) (w:ZU) (l:(bz.root D L G t f n).ok) (J:bh w) :
 ZR ZL 150 #[cF (.root D L G t f n)] w λe w'=>e=Z3 (.agg (aB (bz.root D L G t f n).blk))/\bW w w':=by
 have Y:=zeroBlk;have p:=Ew.new w;obtain ⟨w1,V⟩:=nM ((w.alloc (Z4 (aB zb) 114)).alloc (Z4 (aB zb) 114));rw [V] at p;have C:=jE l;have s:=mh l;have y:(bz.root D L G t f n).blk=cL (bz.root D L G t f n).body:=by unfold bz.blk;rw [TW (by simp [bz.body])]
 have q:0<(bz.root D L G t f n).body.length:=by simp [bz.body]
 have d:=Iq D L G t f n w1 l;rw [y];obtain ⟨body,x⟩:=nM ((bz.root D L G t f n).body);rw [x] at C s q d ⊢;have b:=aE p s J;unfold cF;obtain ⟨ra,F⟩:=nM (aq D L G t f n);simp only [F] at d ⊢;clear p s J l y F x;go_enter func150,ntmps150;go_wp2_with fail;refine d.mono ?_;clear d;rintro e w2 ⟨v,rfl,r,B⟩;have g:=b.o.1.mono B;obtain ⟨ao,c,rfl,O,P,Q,R⟩:=id r;have E:body≠[]:=by intro e;rw [e] at q;simp at q
 have T:=ot (n:=60) (cap:=60) (off:=4) 3 g.blk r E (by omega) (by rw [bX];omega);have h:Ew w (w2.setRow (w.heap.size+1) (aB (spl zb 4 body))) w.heap.size (w.heap.size+1) (spl zb 4 body):=g.set (aa.setRow (S:=λk=>k=w.heap.size+1) _ _ _ rfl) (g.blk.setRow _);obtain ⟨W,I⟩:=nM (w2.setRow (w.heap.size+1) (aB (spl zb 4 body)));rw [I] at T h;have U:(spl zb 4 body).length=64:=by rw [oq (by rw [bX];omega),bX]
 have M:=b.o.2.2.lt;have hv3:bh W:=b.o.2.2.below h.below M;have m:=al h hv3;clear g r B O P Q R I h hv3 E;go_wp2_with fail;refine kC (by kernel_rfl) m.o.1.blk U (Ex Lh b.o.2.1) m.o.2 (by omega) rfl rfl ?_;intro Z vs H z A;obtain ⟨x0,x1,x2,x3,x4,x5,rfl⟩:=Lg H;have i:=m.o.1.set A z;rw [zK C] at i;have j:(cL body).length=64:=by unfold cL;simp [aD];omega
 obtain ⟨sb,u⟩:=nM (cL body);rw [u] at i j;have N:=ak u;have a:=ak i;clear i z A H u;rename_i hK
 refine hK _ _ ?_;clear hK;simp only [Act.RV,Act.put,Ug,Uf,Uh];go_wp2_with (first|(refine mi rfl (Z1 3) rfl (w.heap.size+1) sb rfl a.o.blk j ?_)|(refine fG rfl (Z1 2) (Z1 19) rfl w.heap.size sb zb rfl rfl a.o.res bX j ?_));have K:=a.o.res.setRow sb;refine Uv (v:=.agg (aB sb)) (V8 results150 _ _ w.heap.size 114 (aB sb) (0,0) _ rfl K WO rfl (fx j)) rfl ?_;exact ⟨by rw [N.out],a.o.below.trans ⟨rfl,rfl,rfl,by simp [World.setRow],λk X=>(aG _ _ _).block k (by have:=a.o.res.lt;omega) (λe=>by cases e;omega)⟩⟩
def xH (r:bz):Prop:=∀ w,bh w->ZR ZL 150 #[cF r] w λe w'=>e=Z3 (.agg (aB r.blk))/\bW w w'
def BN:xH .blank:=λw _=>BM w
def Ez {f:Nat} (a:(bz.root D L G t f n).ok):xH (.root D L G t f n):=λw b=>Ey D L G t f n w a b
noncomputable def ROf:Array ZO:=((Tryz.f153.body.bind (DO · 2))).getD #[]
def aa8:List (Op×Option Nat×a8):=[(Op.move (Z1 4),ZX 7,[]),
 (Op.call { callee:=Callee.value (Operand.func 150),args:=#[Z1 7],argTypes:=#[215] },ZX 8,[0]),
 (Op.load 114 (Z1 1),ZX 9,[]),
 (Op.binOp BinOp.neq 114 (Z1 8) (Z1 9) 114,ZX 10,[1,2])]
def Iu:bF ROf 7 11 aa8:=eU (by kernel_rfl) (by kernel_rfl)
def Tryz.SW:ZL.cellsOf 5=1:=by kernel_rfl
def xI (l:a8) (i:Nat) (a:i<l.length) (w:ZU):(part 5 (aB l) (i*1)).run ZL w=.ok (Z7 .u8 ((l.getD i 0:Nat):Int)) w:=by
 have b:(aB l)[i]?=ZX (Z7 .u8 ((l.getD i 0:Nat):Int)):=by
  unfold aB aI;rw [Xl,UE,Ue a,Ub,Ue a];rfl
 rw [Wf];have c:=Xq;simp [part,isAgg,UR c,b]
theorem BO (d:Nat) (l1 a:a8) (w:ZU):∀ (b:a8),(∀ i∈b,i<l1.length/\i<a.length)->(Op.eqItems (d+1) 5 1 (aB l1) (aB a) b).run ZL w=.ok (b.all λi=>l1.getD i 0==a.getD i 0) w
 | [],_=>by simp [Op.eqItems]
 | i::b,h=>by
  obtain ⟨k,l⟩:=h i (by simp);have ih:=BO d l1 a w b (λj n=>h j (by simp [n]));have m:=run_equalIn_int (P:=ZL) (w:=w) d 5 .u8 .u8 ((l1.getD i 0:Nat):Int) ((a.getD i 0:Nat):Int) Xq;simp only [Op.eqItems,Ux,xI l1 i k w,xI a i l w,UK,m,List.all_cons];generalize l1.getD i 0=x;generalize a.getD i 0=y;by_cases e:x=y
  . subst e;rw [TW (by simp),ih];simp
  . have c:¬ ((x:Nat):Int)=((y:Nat):Int):=λq=>e (by omega);have f:((x:Int)==(y:Int))=ZV:=(by simpa using c);have g:(x==y)=ZV:=(by simpa using e);rw [f,g];simp
theorem Li {l1 l2:a8} (c:l1.length=64) (d:l2.length=64):((YF 64).all λi=>l1.getD i 0==l2.getD i 0)=decide (l1=l2):=by
 rw [Yu,Xd,Wt];constructor
 . intro h;refine Ve (by omega) λi a b=>?_;have:=h i (UA.2 (by omega));simpa [a,b] using this
 . rintro rfl i _;simp
def QG (l1 a:a8) (c:l1.length=64) (d:a.length=64) (w:ZU):(Op.equalIn 10000 114 (.agg (aB l1)) (.agg (aB a))).run ZL w=.ok (decide (l1=a)) w:=by
 obtain ⟨g,b,_⟩:=Uu Tryz.Sb;rw [show (10000:Nat)=9998+1+1 from rfl,run_equalIn_array w (9998+1) (t:=114) (e:=5) (n:=64) (aB l1) (aB a) WO b,Tryz.SW,BO 9998 l1 a w _ (λi f=>by have:=UA.1 f;omega),Li c d]
theorem Iv {r:bz} (A:ROf=ops) (F:xH r) (G:r.ok) (q:bN w b l) (hl:l.length=64) (x:bh w) (I:a.tmps.size=12)
 (y:a.eval (Z1 1)=Z6 (ZX ⟨b,0,ZY⟩)) (z:a.eval (Z1 4)=cF r) (E:∀ (w':ZU),bW w w'->Q .normal (Act.RV a 7 [cF r,.agg (aB r.blk),.agg (aB l),Z2 (!decide (r.blk=l))]) w'):(Code.region 2 ops ZW).wp ZL Q a w:=by
 subst A;refine il (by kernel_rfl) Iu a w (by omega) (λi v _=>v=[cF r,.agg (aB r.blk),.agg (aB l),Z2 (!decide (r.blk=l))].getD i ZZ) (λ_ w'=>bN w' b l/\bW w w') ⟨q,(T6 _ w).drew⟩ ?_ ?_
 . intro i t;match i,t with
   | 0,_=>exact λo g w' D s ho h k m p j q d=>aK (bT ho ((k.slot 4 (by omega)).trans z) w') h ⟨q,rfl,kq⟩
   | 1,_=>
    intro o g w' D s ho h k m p j c d;have u0:g.eval (Z1 7)=cF r:=d 0 (j 0 (by decide));refine rT (f:=150) (args:=#[cF r]) (w1:=w') (by (conv at ho=>rhs;whnf);simp only [execOp,ho];go_simp;simpa [Act.eval] using u0) h (F w' (x.below c.2 x.lt)) ?_;rintro e H ⟨rfl,u⟩;exact ⟨_,rfl,⟨c.1.keep (u.block _ c.1.lt),c.2.trans (u.mono c.2.size)⟩,rfl,kq⟩
   | 2,_=>
    intro o g w' D s ho h k m p j c d;have u0:g.eval (Z1 1)=Z6 (ZX ⟨b,0,ZY⟩):=(k.slot 1 (by omega)).trans y;exact aK (v:=.agg (aB l)) (by (conv at ho=>rhs;whnf);simp [execOp,ho,u0,nj c.1 hl]) h ⟨c,rfl,kq⟩
   | 3,_=>
    intro o g w' D s ho h k m p j c d;have u0:g.eval (Z1 8)=.agg (aB r.blk):=d 1 (j 1 (by decide));have u1:g.eval (Z1 9)=.agg (aB l):=d 2 (j 2 (by decide));exact aK (v:=Z2 (!decide (r.blk=l))) (by (conv at ho=>rhs;whnf);simp only [execOp,ho,u0,u1];go_simp;rw [QG r.blk l (Gg G) hl w'];rfl) h ⟨c,rfl,kq⟩
   | n+4,hn=>exact absurd hn (by show ¬ n+4<4;omega)
 . rintro g w' B ⟨D,J,c⟩ d;have C:∀ i:Nat,i<4->g.eval (.tmp (7+i))=[cF r,.agg (aB r.blk),.agg (aB l),Z2 (!decide (r.blk=l))].getD i ZZ:=by
    intro i t;match i,t with
    | 0,_=>exact d 0 (by decide)
    | 1,_=>exact d 1 (by decide)
    | 2,_=>exact d 2 (by decide)
    | 3,_=>exact d 3 (by decide)
    | n+4,hn=>exact absurd hn (by show ¬ n+4<4;omega)
   rw [B.out [cF r,.agg (aB r.blk),.agg (aB l),Z2 (!decide (r.blk=l))] rfl (by omega) C];exact E w' c.2
theorem aM.SO (h:aM w b l):w.heap[b]?=ZX (Z4 (aI l).toArray 5 (0,0)):=by
 obtain ⟨c,d,g,f⟩:=h;have e:c=(aI l).toArray:=by
  apply YO;intro i;by_cases a:i<l.length
  . rw [f i a];unfold vb aI;simp [Ub,Ue a]
  . rw [Xo (by omega),Xo (by rw [UL,aW];omega)]
 rw [<- e];exact d
def aM.TH (h:w.heap[b]?=ZX (Z4 (aI l).toArray 5 (0,0))):aM w b l:=
 ⟨_,h,by rw [UL,aW],λi a=>by
  unfold vb aI;simp [Ub,Ue a]⟩
def BP (h:ZN) (d:aM w b l) (t:Bs w v src) (A:src.length<=n) (z:off+src.length<=l.length) :
 ∃ w',(Builtin.copy_ #[40,40] h #[Z5 (ZX ⟨b,off,ZY⟩) n cap,v]).run ZL w=.ok (Z7 Z9 (src.length:Nat)) w'/\aM w' b (spl l off src)/\w.grownBy w' (ZX b):=by
 obtain ⟨ao,c,rfl,B,C,D,r⟩:=t;have m:(ZL.info? 5).map (λi=>i.size)=ZX 1:=by kernel_rfl
 by_cases k:src=[]
 . subst k;refine ⟨w,run_copy_none (P:=ZL) w 40 40 h 5 (ZX ⟨b,off,ZY⟩) ao n cap 0 c Uq m (by simp),?_,Ws _ _⟩;have e:spl l off []=l:=(by unfold spl;simp);rw [e];exact d
 . obtain ⟨g,o,rfl,y⟩:=r k;have s:=run_copy_row (P:=ZL) w 40 40 h 5 b off n cap ⟨g,o,ZY⟩ src.length c (aI l).toArray 5 (aI src) Uq m d.SO (by rw [aW];exact (Wm A).symm) (λj u p=>by
    have a:j<src.length:=(by obtain ⟨q,_⟩:=Vc.1 p;rwa [aW] at q);rw [Vp,y j a,<- p];unfold aI;rw [UE,Ue a,Ub,Ue a];rfl) (by rw [aW,UL,aW];exact z) (λu f=>by
    unfold aI at f;rw [Ua] at f;obtain ⟨x,_,rfl⟩:=f;rfl)
   have e:(YN off (aI l)++aI src++List.drop (off+(aI src).length) (aI l)).toArray=(aI (spl l off src)).toArray:=by
    rw [aW];unfold spl;rw [bO,bO,UC];unfold aI;rw [WC,WD]
   refine ⟨w.setRow b (aI (spl l off src)).toArray,?_,aM.TH (Vy w b (aI l).toArray (aI (spl l off src)).toArray _ _ d.SO),aG _ _ _⟩;rw [s];simp only [UC] at e ⊢;rw [e,aW];rfl
def Iw (w:ZU) (a:Nat):(w.alloc (Z4 #[Z7 .u8 (a:Int)] 5)).ownsRow w.heap.size 5 1 (Z5 (ZX ⟨w.heap.size,0,ZY⟩) 1 1) 1 (aI [a]):=
 ⟨rfl,.inr ⟨w.heap.size,1,_,rfl,TY _,Uk _ _,TY _,by unfold maxLen;omega,rfl,rfl⟩⟩
theorem BQ (w:ZU):ZR ZL 266 #[.agg #[]] w λe w'=>∃ v,e=Z3 v/\Bs w' v bz.filled.body/\bW w w':=by
 have ho:=Iw (w.alloc (Z4 #[] 180)) 2;have a:bW w ((w.alloc (Z4 #[] 180)).alloc (Z4 #[Z7 .u8 ((2:Nat):Int)] 5)):=(bA w _).alloc (by simp) _;have H:=al ho a;clear ho a;go_enter func266,ntmps266;go_wp2;go_ret;have b:=Bs.Sm H.o.1 (λx c=>by simp at c;omega) (by decide);simp only [Uw] at b;exact ⟨_,rfl,b,H.o.2⟩
noncomputable def RSb:Array ZO:=((Tryz.f267.body.bind (DO · 3))).getD #[]
def aa9:List (Op×Option Nat×a8):=[(Op.move (Z1 3),ZX 7,[]),
 (Op.slice 40 (Z1 7) (ZX (Operand.const (Value.int IntKind.i64 16))) ZY ZY,ZX 8,[0]),
 (Op.fieldAddr 213 (Z1 1) 0,ZX 9,[]),
 (Op.slice 211 (Z1 9) ZY ZY ZY,ZX 10,[2]),
 (Op.call { callee:=Callee.builtin Builtin.copy,args:=#[Z1 8,Z1 10],argTypes:=#[40,40] },ZX 11,[1,3])]
def Ix:bF RSb 7 12 aa9:=eU (by kernel_rfl) (by kernel_rfl)
def VSb (b q:Nat) (i:Nat) (u:ZT) (_:ZU):Prop:=match i with
 | 0=>u=Z5 (ZX ⟨b,0,ZY⟩) 60 60
 | 1=>u=Z5 (ZX ⟨b,16,ZY⟩) 44 44
 | 2=>u=Z6 (ZX ⟨q,0,ZY⟩)
 | 3=>u=Z5 (ZX ⟨q,0,ZY⟩) 44 44
 | _=>True
def BSb (w0:ZU) (b:Nat) (l s:a8) (D:Nat->Bool) (w:ZU):Prop:=aM w b (if D 4=ZW then spl l 16 s else l)/\aa (λk=>k=b) w0 w
def rZ {D:Nat->Bool} (h:BSb w0 b l s D w) (i:Nat) (a:i≠4):BSb w0 b l s (mq D i) w:=by
 refine ⟨?_,h.2⟩;unfold mq;rw [TW (λe:4=i=>a e.symm)];exact h.1
theorem zL (G:RSb=ops) (c:aM w b l) (hl:l.length=60) (C:w.heap[q]?=ZX (Z4 (aI s).toArray 213 (0,0))) (R:s.length=44) (U:∀ x∈s,x<256) (L:q≠b) (Y:a.tmps.size=13)
 (F:a.eval (Z1 3)=Z5 (ZX ⟨b,0,ZY⟩) 60 60) (E:a.eval (Z1 1)=Z6 (ZX ⟨q,0,ZY⟩)) (K:∀ (w':ZU) (vs:List ZT),vs.length=5->aM w' b (spl l 16 s)->aa (λk=>k=b) w w'->Q .normal (Act.RV a 7 vs) w'):(Code.region 3 ops ZW).wp ZL Q a w:=by
 subst G;refine il (by kernel_rfl) Ix a w (by omega) (VSb b q) (BSb w b l s) ⟨c,aa.drew w⟩ ?_ ?_
 . intro i y;match i,y with
   | 0,_=>exact λo d w' V t ho f m p z h c g=>aK (bT ho ((m.slot 3 (by omega)).trans F) w') f ⟨rZ c _ (by decide),rfl,kq⟩
   | 1,_=>
    intro o d w' D t ho f m p z h c g;have u0:d.eval (Z1 7)=Z5 (ZX ⟨b,0,ZY⟩) 60 60:=g 0 (h 0 (by decide));exact aK (v:=Z5 (ZX ⟨b,16,ZY⟩) 44 44) (by (conv at ho=>rhs;whnf);simp only [execOp,ho,u0];go_simp) f ⟨rZ c 1 (by decide),rfl,kq⟩
   | 2,_=>
    intro o d w' D t ho f m p z h c g;have u0:d.eval (Z1 1)=Z6 (ZX ⟨q,0,ZY⟩):=(m.slot 1 (by omega)).trans E;exact aK (v:=Z6 (ZX ⟨q,0,ZY⟩)) (by (conv at ho=>rhs;whnf);simp only [execOp,ho,u0];go_simp) f ⟨rZ c 2 (by decide),rfl,kq⟩
   | 3,_=>
    intro o d w' D t ho f m p z h c g;have u0:d.eval (Z1 9)=Z6 (ZX ⟨q,0,ZY⟩):=g 2 (h 2 (by decide));exact aK (v:=Z5 (ZX ⟨q,0,ZY⟩) 44 44) (by (conv at ho=>rhs;whnf);simp only [execOp,ho,u0];go_simp) f ⟨rZ c 3 (by decide),rfl,kq⟩
   | 4,_=>
    intro o d w' D t ho f m p W h c g;have u0:d.eval (Z1 8)=Z5 (ZX ⟨b,16,ZY⟩) 44 44:=g 1 (h 1 (by decide));have u1:d.eval (Z1 10)=Z5 (ZX ⟨q,0,ZY⟩) 44 44:=g 3 (h 3 (by decide));have I:aM w' b l:=(by have:=c.1;rw [TW (by rw [p];decide)] at this;exact this);have P:w'.heap[q]?=ZX (Z4 (aI s).toArray 213 (0,0)):=(c.2.block q (T5.1 C).1 (λe=>L e)).trans C;have B:Bs w' (Z5 (ZX ⟨q,0,ZY⟩) s.length 44) s:=Bs.mid (by omega) (by omega) U (λj u S=>by
     have:(aI s).toArray[j]?=ZX u:=by simpa using S
     simp [World.cell?,P,this])
    rw [R] at B;obtain ⟨w2,M,H,r⟩:=BP (n:=44) (cap:=44) (off:=16) o.type I B (by omega) (by omega);refine aK (v:=Z7 Z9 (s.length:Nat)) (w':=w2) (by (conv at ho=>rhs;whnf);simp only [execOp,ho,resolve,invoke,builtin,Ux,Vf,UK,V7,UI,Vh,u0,u1,M]) f ⟨⟨?_,c.2.later (T:=λk=>k=b) ⟨r.os,r.tape,r.output,r.size,λk m O=>r.block k m (λe=>O (by cases e;rfl))⟩ (λ_ _ q=>q)⟩,trivial,λj u X q=>by
     match j,q with
     | 0,q|1,q|2,q|3,q=>exact q
     | j+4,_=>trivial⟩
    show aM _ b (if mq D 4 4=ZW then _ else _);rw [TX (by unfold mq;rw [TX rfl])];exact H
   | n+5,hn=>exact absurd hn (by show ¬ n+5<5;omega)
 . rintro d w' N ⟨D,J,A⟩ g;have e:d=Act.RV a 7 ((YF 5).map λi=>d.eval (.tmp (7+i))):=N.out _ (by rw [Ud,UM]) (by omega) (λi y=>by
    rw [Ud,UM] at y;rw [Ub,UE,VU y];rfl)
   rw [e];have:=A.1;rw [TX (J 4 (by decide))] at this;exact K w' _ (by rw [Ud,UM]) this A.2
def aaA (h:vs.length=5):∃ a b c d e,vs=[a,b,c,d,e]:=by
 match vs,h with
 | [a,b,c,d,e],_=>exact ⟨a,b,c,d,e,rfl⟩
theorem EA (l:a8) (w:ZU) (B:(bz.shard l).ok) :
 ZR ZL 267 #[.agg (aI l).toArray] w λe w'=>∃ v,e=Z3 v/\Bs w' v (bz.shard l).body/\bW w w':=by
 obtain ⟨hl,A⟩:=B;have i:=Uk w (Z4 (aI l).toArray 213);have c:bW w (w.alloc (Z4 (aI l).toArray 213)):=bA w _;have j:(w.alloc (Z4 (aI l).toArray 213)).heap.size=w.heap.size+1:=by simp
 have C:(aI l).toArray.size=44:=by rw [UL,aW,hl]
 obtain ⟨w1,z⟩:=nM (w.alloc (Z4 (aI l).toArray 213));rw [z] at i c j;obtain ⟨ra,d⟩:=nM ((aI l).toArray);have H:=a6 i c j A d;rw [d] at z C ⊢;clear i c j A d;go_enter func267,ntmps267;go_wp2_with (at_make;refine cU _ rfl (.const (Z7 Z9 60)) (.const (Z7 Z9 60)) rfl _ 60 rfl rfl rfl (by omega) ?_;intro w2 g t G;have c0:=g.cell 0 (by decide);have E:=g.frozen 0);have q:aM (w2.setCell ⟨w1.heap.size,0,ZY⟩ (Z7 .u8 3)) w1.heap.size ((YI 60 0).set 0 3):=g.set 0 3;have F:=H.o.2.2.1;have x:(w2.setCell ⟨w1.heap.size,0,ZY⟩ (Z7 .u8 3)).heap[w.heap.size]?=ZX (Z4 (aI l).toArray 213 (0,0)):=(Uj _ _ _ _ (by show w.heap.size≠w1.heap.size;omega)).trans ((t.block _ (by omega)).trans H.o.1);have b:bW w (w2.setCell ⟨w1.heap.size,0,ZY⟩ (Z7 .u8 3)):=(H.o.2.1.trans (t.mono (by omega))).setCell (p:=⟨w1.heap.size,0,ZY⟩) (by show w.heap.size<=w1.heap.size;omega) _;refine zL (by kernel_rfl) q (by simp) x hl H.o.2.2.2.1 (by omega) rfl rfl rfl ?_;intro D vs y a s;obtain ⟨J,K,L,M,N,rfl⟩:=aaA y;have u:bW w D:=b.trans (s.below λk I=>⟨by have:=b.size;omega,λe=>by omega⟩);have h:spl ((YI 60 0).set 0 3) 16 l=(bz.shard l).body:=by
  unfold spl bz.body;rw [hl];simp [YI]
 rw [h] at a;have f:=Bs.Su (n:=60) a (by rw [<- h,oq (by simp [hl])];simp) (by decide) (mh (r:=.shard l) ⟨hl,H.o.2.2.2.1⟩);rw [UJ (jE (r:=.shard l) ⟨hl,H.o.2.2.2.1⟩),show (bz.shard l).body.length=60 by rw [<- h,oq (by simp [hl])];simp] at f;have m:=al f u;clear f u a s b x q y;rename_i hK
 refine hK _ _ ?_;clear hK;simp only [Act.RV,Act.put,Ug,Uf,Uh];go_wp2;go_ret;exact ⟨_,rfl,m.o.1,m.o.2⟩
theorem zM (w:ZU) (E:bh w) :
 ZR ZL 150 #[cF .filled] w λe w'=>e=Z3 (.agg (aB bz.filled.blk))/\bW w w':=by
 have R:=zeroBlk;have j:=Ew.new w;obtain ⟨w1,O⟩:=nM ((w.alloc (Z4 (aB zb) 114)).alloc (Z4 (aB zb) 114));rw [O] at j;have A:=jE (r:=.filled) trivial;have q:=mh (r:=.filled) trivial;have u:bz.filled.blk=cL bz.filled.body:=by unfold bz.blk;rw [TW (by simp [bz.body])]
 have m:0<bz.filled.body.length:=by simp [bz.body]
 have l:=BQ w1;rw [u];obtain ⟨body,t⟩:=nM (bz.filled.body);rw [t] at A q m l ⊢;have b:=aE j q E;unfold cF;clear j q E u t;go_enter func150,ntmps150;go_wp2_with fail;refine l.mono ?_;clear l;rintro e w2 ⟨v,rfl,p,z⟩;have d:=b.o.1.mono z;obtain ⟨ao,c,rfl,I,J,K,L⟩:=id p;have B:body≠[]:=by intro e;rw [e] at m;simp at m
 have M:=ot (n:=60) (cap:=60) (off:=4) 3 d.blk p B (by omega) (by rw [bX];omega);have f:Ew w (w2.setRow (w.heap.size+1) (aB (spl zb 4 body))) w.heap.size (w.heap.size+1) (spl zb 4 body):=d.set (aa.setRow (S:=λk=>k=w.heap.size+1) _ _ _ rfl) (d.blk.setRow _);obtain ⟨P,D⟩:=nM (w2.setRow (w.heap.size+1) (aB (spl zb 4 body)));rw [D] at M f;have N:(spl zb 4 body).length=64:=by rw [oq (by rw [bX];omega),bX]
 have G:=b.o.2.2.lt;have hv3:bh P:=b.o.2.2.below f.below G;have i:=al f hv3;clear d p z I J K L D f hv3 B;go_wp2_with fail;refine kC (by kernel_rfl) i.o.1.blk N (Ex Lh b.o.2.1) i.o.2 (by omega) rfl rfl ?_;intro T vs C x y;obtain ⟨U,V,W,X,Y,Z,rfl⟩:=Lg C;have g:=i.o.1.set y x;rw [zK A] at g;have h:(cL body).length=64:=by unfold cL;simp [aD];omega
 obtain ⟨sb,s⟩:=nM (cL body);rw [s] at g h;have H:=ak s;have a:=ak g;clear g x y C s;rename_i hK
 refine hK _ _ ?_;clear hK;simp only [Act.RV,Act.put,Ug,Uf,Uh];go_wp2_with (first|(refine mi rfl (Z1 3) rfl (w.heap.size+1) sb rfl a.o.blk h ?_)|(refine fG rfl (Z1 2) (Z1 19) rfl w.heap.size sb zb rfl rfl a.o.res bX h ?_));have F:=a.o.res.setRow sb;refine Uv (v:=.agg (aB sb)) (V8 results150 _ _ w.heap.size 114 (aB sb) (0,0) _ rfl F WO rfl (fx h)) rfl ?_;exact ⟨by rw [H.out],a.o.below.trans ⟨rfl,rfl,rfl,by simp [World.setRow],λk Q=>(aG _ _ _).block k (by have:=a.o.res.lt;omega) (λe=>by cases e;omega)⟩⟩
theorem BR (l:a8) (w:ZU) (j:(bz.shard l).ok) (G:bh w) :
 ZR ZL 150 #[cF (.shard l)] w λe w'=>e=Z3 (.agg (aB (bz.shard l).blk))/\bW w w':=by
 have U:=zeroBlk;have p:=Ew.new w;obtain ⟨w1,Q⟩:=nM ((w.alloc (Z4 (aB zb) 114)).alloc (Z4 (aB zb) 114));rw [Q] at p;have B:=jE j;have s:=mh j;have x:(bz.shard l).blk=cL (bz.shard l).body:=by unfold bz.blk;rw [TW (by simp [bz.body])]
 have q:0<(bz.shard l).body.length:=by simp [bz.body]
 have d:=EA l w1 j;rw [x];obtain ⟨body,u⟩:=nM ((bz.shard l).body);rw [u] at B s q d ⊢;have b:=aE p s G;unfold cF;obtain ⟨ra,D⟩:=nM ((aI l).toArray);simp only [D] at d ⊢;clear p s G j x D u;go_enter func150,ntmps150;go_wp2_with fail;refine d.mono ?_;clear d;rintro e w2 ⟨v,rfl,r,A⟩;have f:=b.o.1.mono A;obtain ⟨ao,c,rfl,K,L,M,N⟩:=id r;have C:body≠[]:=by intro e;rw [e] at q;simp at q
 have O:=ot (n:=60) (cap:=60) (off:=4) 3 f.blk r C (by omega) (by rw [bX];omega);have g:Ew w (w2.setRow (w.heap.size+1) (aB (spl zb 4 body))) w.heap.size (w.heap.size+1) (spl zb 4 body):=f.set (aa.setRow (S:=λk=>k=w.heap.size+1) _ _ _ rfl) (f.blk.setRow _);obtain ⟨R,F⟩:=nM (w2.setRow (w.heap.size+1) (aB (spl zb 4 body)));rw [F] at O g;have P:(spl zb 4 body).length=64:=by rw [oq (by rw [bX];omega),bX]
 have I:=b.o.2.2.lt;have hv3:bh R:=b.o.2.2.below g.below I;have m:=al g hv3;clear f r A K L M N F g hv3 C;go_wp2_with fail;refine kC (by kernel_rfl) m.o.1.blk P (Ex Lh b.o.2.1) m.o.2 (by omega) rfl rfl ?_;intro V vs E y z;obtain ⟨W,X,Y,Z,x4,x5,rfl⟩:=Lg E;have h:=m.o.1.set z y;rw [zK B] at h;have i:(cL body).length=64:=by unfold cL;simp [aD];omega
 obtain ⟨sb,t⟩:=nM (cL body);rw [t] at h i;have J:=ak t;have a:=ak h;clear h y z E t;rename_i hK
 refine hK _ _ ?_;clear hK;simp only [Act.RV,Act.put,Ug,Uf,Uh];go_wp2_with (first|(refine mi rfl (Z1 3) rfl (w.heap.size+1) sb rfl a.o.blk i ?_)|(refine fG rfl (Z1 2) (Z1 19) rfl w.heap.size sb zb rfl rfl a.o.res bX i ?_));have H:=a.o.res.setRow sb;refine Uv (v:=.agg (aB sb)) (V8 results150 _ _ w.heap.size 114 (aB sb) (0,0) _ rfl H WO rfl (fx i)) rfl ?_;exact ⟨by rw [J.out],a.o.below.trans ⟨rfl,rfl,rfl,by simp [World.setRow],λk T=>(aG _ _ _).block k (by have:=a.o.res.lt;omega) (λe=>by cases e;omega)⟩⟩
def zN:xH .filled:=λw a=>zM w a
def BS (a:(bz.shard l).ok):xH (.shard l):=λw b=>BR l w a b
def BV (a:∀ x∈l,x<256) (i:Nat):l.getD i 0<256:=by
 rw [Ub];cases h:l[i]? with
 | none=>decide
 | some x=>exact a x (List.mem_of_getElem? h)
theorem QH (hl:l.length=64) (b:∀ x∈l,x<256):(rq l).ok:=by
 have c:∀ n,fT ((l.drop n).take 4)<4294967296:=λn=>by
  have a:=xF ((l.drop n).take 4) (by rw [Us];omega) (λx h=>b x (U8 (U2 h)));have d:((l.drop n).take 4).length<=4:=by rw [Us];omega
  exact T9 a (TZ (U9 (by decide) d) (by decide))
 have a:∀ n,fT [l.getD n 0]<256:=λn=>by rw [rR _ (BV b n)];exact BV b n
 unfold rq;split
 . exact ⟨a _,a _,a _,Qc _,c _,c _⟩
 . split
   . trivial
   . split
     . exact ⟨by rw [Ur,hl],λx h=>b x (U8 h)⟩
     . trivial
def xJ {r:bz} (h:r.ok):xH r:=by
 cases r with
 | blank=>exact BN
 | root D L G t f n=>exact Ez h
 | filled=>exact zN
 | shard l=>exact BS h
def ofV:Option bz->ZT
 | some r=>Z0 #[cF r,Z2 ZW]
 | none=>Z0 #[.nilIface,Z2 ZV]
theorem QI (l:a8) (w:ZU) (hl:l.length=64) (n:∀ x∈l,x<256) (B:bh w) :
 ZR ZL 153 #[.agg (aB l)] w λe w'=>e=Z3 (ofV (J8 l))/\bW w w':=by
 have m:=QH hl n;have A:=xJ m;have k:=bN.new w l;have h:bW w (w.alloc (Z4 (aB l) 114)):=bA w _;obtain ⟨w1,C⟩:=nM (w.alloc (Z4 (aB l) 114));rw [C] at k h;have d:=Is l w1 hl n;obtain ⟨r,i⟩:=nM (rq l);have z:J8 l=if r.blk=l then ZX r else ZY:=by unfold J8;rw [i]
 rw [i] at d A m;obtain ⟨rv,j⟩:=nM (cF r);rw [j] at d;have a:=al j z;have b:=al k h;clear n k h j z i;go_enter func153,ntmps153;go_wp2_with (refine mi rfl (Z1 1) rfl w.heap.size l rfl b.o.1 hl ?_);refine d.mono ?_;rintro e w2 ⟨rfl,g⟩;have u:=b.o.1.keep (g.block _ b.o.1.lt);have s:=b.o.2.trans (g.mono b.o.2.size);have c:=al u s;clear d g u s;go_wp2_with fail;refine Iv (by kernel_rfl) A m c.o.1 hl (B.below c.o.2 B.lt) rfl rfl a.o.1.symm ?_;intro D v;have t:=c.o.2.trans (v.mono c.o.2.size);have p:=ak t;clear v t;rename_i hK
 by_cases q:r.blk=l
 . rw [a.o.1,q,U1 (rfl:l=l)];have f:=ak q;clear q;refine hK _ _ ?_;clear hK;simp only [Act.RV,Act.put,Ug,Uf,Uh];go_wp2;go_ret2;refine ⟨?_,p.o⟩;rw [a.o.2,TX f.o,<- a.o.1];rfl
 . rw [a.o.1,Vz q];obtain ⟨bl,y⟩:=nM (aB r.blk);rw [y];have f:=ak q;clear q y;refine hK _ _ ?_;clear hK;simp only [Act.RV,Act.put,Ug,Uf,Uh];go_wp2;go_ret2;refine ⟨?_,p.o⟩;rw [a.o.2,TW f.o];rfl
section
open Go.Extern.Stop Go.Stop Go.Extern
def Tryz.TE (t:ZQ) (w:ZU):(ReflectliteValue.unpack (.iface 107 (Z6 (ZX t)))).run ZL w
 = .ok (.agg #[Z6 (ZX ⟨3,107,ZY⟩),Z6 (ZX ⟨w.heap.size,0,ZY⟩),Z7 Z8 150]) (w.alloc (Z4 #[Z6 (ZX t)] 107)):=by kernel_rfl
def Tryz.typeP (a:ZQ) (w:ZU):(ReflectliteValue.methodAny (ReflectliteValue.valueError "reflectlite.Value.Type" 0) (λt _ _ _=>ReflectliteType.toType t) #[.agg #[Z6 (ZX ⟨3,107,ZY⟩),Z6 (ZX a),Z7 Z8 150]]).run ZL w
 = .ok (.iface 157 (.agg #[Z6 (ZX ⟨3,107,ZY⟩)])) w:=by kernel_rfl
def Tryz.S4 (h:ZT) (w:ZU):(YG 479 157 (.agg #[h]) "Kind").run ZL w=.ok (246,h) w:=by kernel_rfl
def Tryz.kindP (w:ZU):((ReflectliteType.abiMethod λt=>(λa:Nat=>Value.int IntKind.u8 (a:Int)) <$> Rtype.kind t) #[Z6 (ZX ⟨3,107,ZY⟩)]).run ZL w=.ok (Z7 .u8 22) w:=by kernel_rfl
def Tryz.kindE (w:ZU):((ReflectliteType.abiMethod λt=>(λa:Nat=>Value.int IntKind.u8 (a:Int)) <$> Rtype.kind t) #[Z6 (ZX ⟨3,66,ZY⟩)]).run ZL w=.ok (Z7 .u8 2) w:=by kernel_rfl
def Tryz.Tr (a:ZQ) (w:ZU):(ReflectliteValue.parts (.agg #[Z6 (ZX ⟨3,107,ZY⟩),Z6 (ZX a),Z7 Z8 150])).run ZL w=.ok (ZX (107,a,150)) w:=by kernel_rfl
def Tryz.isNilP (a p:ZQ) (W:ZU) (b:W.cell? a=ZX (Z6 (ZX p))) :
 (ReflectliteValue.method (ReflectliteValue.valueError "reflectlite.Value.IsNil" 0) ReflectliteValue.isNil #[.agg #[Z6 (ZX ⟨3,107,ZY⟩),Z6 (ZX a),Z7 Z8 150]]).run ZL W=.ok (Z2 ZV) W:=by
 refine X1 (UB (λz=>Sem.run ZL z W) (show ReflectliteValue.method _ _ #[.agg #[Z6 (ZX ⟨3,107,ZY⟩),Z6 (ZX a),Z7 Z8 150]]=(ReflectliteValue.parts (.agg #[Z6 (ZX ⟨3,107,ZY⟩),Z6 (ZX a),Z7 Z8 150]) >>= _) from rfl)) ?_;simp only [Ux,Tryz.Tr,Result.andThen];simp [ReflectliteValue.isNil,loadVar,isAgg,underlying,underlying107,b,Result.andThen]
def Tryz.S5 (h:ZT) (w:ZU):(YG 479 157 (.agg #[h]) "Elem").run ZL w=.ok (258,.agg #[h]) w:=by kernel_rfl
def Tryz.Sr (h:ZT) (w:ZU):(YG 479 157 (.agg #[h]) "Implements").run ZL w=.ok (259,.agg #[h]) w:=by kernel_rfl
def Tryz.Sg (h:ZT) (w:ZU):(YG 479 157 (.agg #[h]) "AssignableTo").run ZL w=.ok (256,.agg #[h]) w:=by kernel_rfl
def Tryz.elemP (w:ZU):(ReflectliteType.method ReflectliteType.elem #[.agg #[Z6 (ZX ⟨3,107,ZY⟩)]]).run ZL w=.ok (.iface 157 (.agg #[Z6 (ZX ⟨3,66,ZY⟩)])) w:=by kernel_rfl
def Tryz.SN (w:ZU):(ReflectliteType.relation "Implements" ReflectliteType.implements_ #[.agg #[Z6 (ZX ⟨3,66,ZY⟩)],.iface 157 (.agg #[Z6 (ZX ⟨3,64,ZY⟩)])]).run ZL w=.ok (Z2 ZW) w:=by kernel_rfl
def Tryz.SG (v:ZT) (w:ZU):(ReflectliteType.typeOf #[.iface 66 v]).run ZL w=.ok (.iface 157 (.agg #[Z6 (ZX ⟨3,66,ZY⟩)])) w:=by kernel_rfl
def Tryz.SH (w:ZU):(ReflectliteType.relation "AssignableTo" ReflectliteType.assignableTo #[.agg #[Z6 (ZX ⟨3,66,ZY⟩)],.iface 157 (.agg #[Z6 (ZX ⟨3,66,ZY⟩)])]).run ZL w=.ok (Z2 ZW) w:=by kernel_rfl
def Tryz.TF (x:Int) (w:ZU):(ReflectliteValue.unpack (.iface 66 (Z7 Z9 x))).run ZL w
 = .ok (.agg #[Z6 (ZX ⟨3,66,ZY⟩),Z6 (ZX ⟨w.heap.size,0,ZY⟩),Z7 Z8 130]) (w.alloc (Z4 #[Z7 Z9 x] 66)):=by kernel_rfl
def Tryz.elemOfP (w:ZU):(Rtype.elem? 107).run ZL w=.ok (ZX 66) w:=by kernel_rfl
def Tryz.mkE (p:ZQ) (w:ZU):(ReflectliteValue.mk 66 p ReflectliteValue.flagAddr).run ZL w=.ok (.agg #[Z6 (ZX ⟨3,66,ZY⟩),Z6 (ZX p),Z7 Z8 386]) w:=by kernel_rfl
def Tryz.elemVP (a p:ZQ) (W:ZU) (b:W.cell? a=ZX (Z6 (ZX p))) :
 (ReflectliteValue.method (ReflectliteValue.valueError "reflectlite.Value.Elem" 0) ReflectliteValue.elem #[.agg #[Z6 (ZX ⟨3,107,ZY⟩),Z6 (ZX a),Z7 Z8 150]]).run ZL W
  = .ok (.agg #[Z6 (ZX ⟨3,66,ZY⟩),Z6 (ZX p),Z7 Z8 386]) W:=by
 refine X1 (UB (λz=>Sem.run ZL z W) (show ReflectliteValue.method _ _ #[.agg #[Z6 (ZX ⟨3,107,ZY⟩),Z6 (ZX a),Z7 Z8 150]]=(ReflectliteValue.parts (.agg #[Z6 (ZX ⟨3,107,ZY⟩),Z6 (ZX a),Z7 Z8 150]) >>= _) from rfl)) ?_;simp only [Ux,Tryz.Tr,Result.andThen];simp [ReflectliteValue.elem,loadVar,isAgg,underlying,underlying107,b,Result.andThen,Tryz.elemOfP,Tryz.mkE]
def Tryz.TU (a:ZQ) (w:ZU):(ReflectliteValue.parts (.agg #[Z6 (ZX ⟨3,66,ZY⟩),Z6 (ZX a),Z7 Z8 386])).run ZL w=.ok (ZX (66,a,386)) w:=by kernel_rfl
def Tryz.partsE (a:ZQ) (w:ZU):(ReflectliteValue.parts (.agg #[Z6 (ZX ⟨3,66,ZY⟩),Z6 (ZX a),Z7 Z8 130])).run ZL w=.ok (ZX (66,a,130)) w:=by kernel_rfl
def Tryz.directE (w:ZU):(Rtype.directlyAssignable 66 66).run ZL w=.ok ZW w:=by kernel_rfl
def Tryz.setE (a b:ZQ) (x:Int) (old:ZT) (W:ZU) (c:W.cell? b=ZX (Z7 Z9 x)) (e:W.cell? a=ZX old) (d:W.frozen? a=ZV) :
 (ReflectliteValue.set #[.agg #[Z6 (ZX ⟨3,66,ZY⟩),Z6 (ZX a),Z7 Z8 386],.agg #[Z6 (ZX ⟨3,66,ZY⟩),Z6 (ZX b),Z7 Z8 130]]).run ZL W
  = .ok (Z0 #[]) (W.setCell a (Z7 Z9 x)):=by
 refine X1 (UB (λz=>Sem.run ZL z W) (show ReflectliteValue.set #[.agg #[Z6 (ZX ⟨3,66,ZY⟩),Z6 (ZX a),Z7 Z8 386],.agg #[Z6 (ZX ⟨3,66,ZY⟩),Z6 (ZX b),Z7 Z8 130]]=(ReflectliteValue.parts (.agg #[Z6 (ZX ⟨3,66,ZY⟩),Z6 (ZX a),Z7 Z8 386]) >>= λp=>ReflectliteValue.parts (.agg #[Z6 (ZX ⟨3,66,ZY⟩),Z6 (ZX b),Z7 Z8 130]) >>= (_:_->Sem ZT)) from rfl)) ?_;simp only [Ux,Tryz.TU,Tryz.partsE,Result.andThen];simp [ReflectliteValue.flagAddr,loadVar,isAgg,underlying,underlying66,c,Result.andThen,Tryz.directE,storeVar,Value.cells,storeCells,Addr.add];rw [run_store ZL W a _ _ (by rfl)];simp [e,d]
theorem QJ (x:Int) (t:ZQ) (old:ZT) (w:ZU) (c:w.cell? ⟨0,0,ZY⟩=ZX (.iface 157 (.agg #[Z6 (ZX ⟨3,64,ZY⟩)]))) (a:w.cell? t=ZX old) (f:w.frozen? t=ZV) :
 ZR ZL 40 #[.iface 66 (Z7 Z9 x),.iface 107 (Z6 (ZX t))] w λd w'=>d=Z3 (Z2 ZW)/\w'=((((w.alloc (Z4 #[Z6 (ZX t)] 107)).alloc (Z4 #[Z6 (ZX ⟨3,107,ZY⟩),Z6 (ZX ⟨w.heap.size,0,ZY⟩),Z7 Z8 150] 124)).alloc (Z4 #[Z6 (ZX ⟨3,107,ZY⟩),Z6 (ZX ⟨w.heap.size,0,ZY⟩),Z7 Z8 150] 124)).alloc (Z4 #[Z7 Z9 x] 66)).setCell t (Z7 Z9 x):=by
 have o := @run_callFunc_extern ZL 55 _ (λargs=>ReflectliteValue.unpack (args.getD 0 (Z0 #[]))) func55 (by kernel_rfl) (by kernel_rfl) (by kernel_rfl) (by kernel_rfl);have p := @run_callFunc_extern ZL 56 _ (ReflectliteValue.methodAny (ReflectliteValue.valueError "reflectlite.Value.Type" 0) (λt _ _ _=>ReflectliteType.toType t)) func56 (by kernel_rfl) (by kernel_rfl) (by kernel_rfl) (by kernel_rfl);have q := @run_callFunc_extern ZL 57 _ (ReflectliteValue.method (ReflectliteValue.valueError "reflectlite.Value.IsNil" 0) ReflectliteValue.isNil) func57 (by kernel_rfl) (by kernel_rfl) (by kernel_rfl) (by kernel_rfl);have u := @run_callFunc_extern ZL 246 _ (ReflectliteType.abiMethod λt=>do pure (Z7 .u8 (<- Rtype.kind t))) func246 (by kernel_rfl) (by kernel_rfl) (by kernel_rfl) (by kernel_rfl);have y := @run_callFunc_extern ZL 258 _ (ReflectliteType.method ReflectliteType.elem) func258 (by kernel_rfl) (by kernel_rfl) (by kernel_rfl) (by kernel_rfl);have z := @run_callFunc_extern ZL 259 _ (ReflectliteType.relation "Implements" ReflectliteType.implements_) func259 (by kernel_rfl) (by kernel_rfl) (by kernel_rfl) (by kernel_rfl);have n := @run_callFunc_extern ZL 80 _ ReflectliteType.typeOf func80 (by kernel_rfl) (by kernel_rfl) (by kernel_rfl) (by kernel_rfl);have v := @run_callFunc_extern ZL 256 _ (ReflectliteType.relation "AssignableTo" ReflectliteType.assignableTo) func256 (by kernel_rfl) (by kernel_rfl) (by kernel_rfl) (by kernel_rfl);have r := @run_callFunc_extern ZL 81 _ (ReflectliteValue.method (ReflectliteValue.valueError "reflectlite.Value.Elem" 0) ReflectliteValue.elem) func81 (by kernel_rfl) (by kernel_rfl) (by kernel_rfl) (by kernel_rfl);have s := @run_callFunc_extern ZL 82 _ ReflectliteValue.set func82 (by kernel_rfl) (by kernel_rfl) (by kernel_rfl) (by kernel_rfl);have J:=Tryz.SG;have E:=Tryz.Sg;have i:=Tryz.SH;have K:=Tryz.TF;have l:=Tryz.TE;have m:=Tryz.typeP;have H:=Tryz.S4;have F:=Tryz.S5;have G:=Tryz.Sr;have D:=Tryz.kindP;have C:=Tryz.kindE;have j:=Tryz.elemP;have B:=Tryz.SN;have I:=Tryz.isNilP ⟨w.heap.size,0,ZY⟩ t ((w.alloc (Z4 #[Z6 (ZX t)] 107)).alloc (Z4 #[Z6 (ZX ⟨3,107,ZY⟩),Z6 (ZX ⟨w.heap.size,0,ZY⟩),Z7 Z8 150] 124)) (by simp);have g:0<w.heap.size:=by
  rcases WU w.heap.size with e|h
  . simp [World.cell?,e] at c
  . exact h
 have A:((w.alloc (Z4 #[Z6 (ZX t)] 107)).alloc (Z4 #[Z6 (ZX ⟨3,107,ZY⟩),Z6 (ZX ⟨w.heap.size,0,ZY⟩),Z7 Z8 150] 124)).cell? ⟨0,0,ZY⟩=ZX (.iface 157 (.agg #[Z6 (ZX ⟨3,64,ZY⟩)])):=by
  rw [WW _ _ ⟨0,0,ZY⟩ (by simp),WW _ _ ⟨0,0,ZY⟩ g];exact c
 have b:t.block<w.heap.size:=by
  rcases XB t.block w.heap.size with h|h
  . exact h
  . simp [World.cell?,Xo h] at a
 have k:=Tryz.elemVP ⟨w.heap.size,0,ZY⟩ t (((w.alloc (Z4 #[Z6 (ZX t)] 107)).alloc (Z4 #[Z6 (ZX ⟨3,107,ZY⟩),Z6 (ZX ⟨w.heap.size,0,ZY⟩),Z7 Z8 150] 124)).alloc (Z4 #[Z6 (ZX ⟨3,107,ZY⟩),Z6 (ZX ⟨w.heap.size,0,ZY⟩),Z7 Z8 150] 124)) (by rw [WW _ _ ⟨w.heap.size,0,ZY⟩ (by simp;omega)];simp);have st:=Tryz.setE t ⟨w.heap.size+1+1+1,0,ZY⟩ x old ((((w.alloc (Z4 #[Z6 (ZX t)] 107)).alloc (Z4 #[Z6 (ZX ⟨3,107,ZY⟩),Z6 (ZX ⟨w.heap.size,0,ZY⟩),Z7 Z8 150] 124)).alloc (Z4 #[Z6 (ZX ⟨3,107,ZY⟩),Z6 (ZX ⟨w.heap.size,0,ZY⟩),Z7 Z8 150] 124)).alloc (Z4 #[Z7 Z9 x] 66))
  (by rw [World.cell?_alloc_at _ _ _ _ (by simp)];rfl)
  (by rw [WW _ _ t (by simp;omega),WW _ _ t (by simp;omega),WW _ _ t (by simp;omega),WW _ _ t b];exact a)
  (by rw [abB _ _ t (by simp;omega),abB _ _ t (by simp;omega),abB _ _ t (by simp;omega),abB _ _ t (Nat.ne_of_lt b)];exact f)
 go_enter func40,ntmps40;go_wp2;refine VO 1 ?_;rw [VJ];go_wp2;go_ret;exact ⟨rfl,rfl⟩
theorem tE (w:ZU) :
 ZR ZL 20 #[.nilIface] w λe w'=>e=Z3 (Z7 Z9 0)/\bW w w':=by
 go_enter func20,ntmps20;go_wp2;go_ret;exact ⟨rfl,bA _ _⟩
theorem EB (x:Int) (w:ZU) (a:w.cell? ⟨0,0,ZY⟩=ZX (.iface 157 (.agg #[Z6 (ZX ⟨3,64,ZY⟩)]))) :
 ZR ZL 20 #[.iface 66 (Z7 Z9 x)] w λe w'=>e=Z3 (Z7 Z9 x)/\bW w w':=by
 have d:0<w.heap.size:=by
  rcases WU w.heap.size with b|h
  . simp [World.cell?,b] at a
  . exact h
 have c:(w.alloc (Z4 #[Z7 Z9 0] 66)).cell? ⟨0,0,ZY⟩=ZX (.iface 157 (.agg #[Z6 (ZX ⟨3,64,ZY⟩)])):=by
  rw [WW _ _ ⟨0,0,ZY⟩ d];exact a
 go_enter func20,ntmps20;go_wp2_with (go_at_call 40;refine (QJ x ⟨w.heap.size,0,ZY⟩ (Z7 Z9 0) _ c (by simp) (by simp)).mono ?_;rintro e w' ⟨rfl,rfl⟩);go_ret;refine ⟨rfl,?_⟩;repeat (first|exact T6 _ _|refine Xr ?_ (by simp) _|refine Below.alloc ?_ (by (try simp only [Ul]);omega) _)
theorem ox (x:Int) (w:ZU) :
 ZR ZL 30 #[Z7 Z9 x] w λe w'=>e=Z3 (Z7 Z9 x)/\w'=w:=by
 go_enter func30,ntmps30;go_wp2;go_ret;exact ⟨rfl,rfl⟩
end
def Tryz.Ti:(ZL.info? 66).map (λi=>i.comparable)=ZX ZW:=by kernel_rfl
def xK (n m:Int) (w:ZU):(binOp .eql 64 (.iface 66 (Z7 Z9 n)) (.iface 66 (Z7 Z9 m))).run ZL w=.ok (Z2 (n==m)) w:=by
 obtain ⟨i,f,c⟩:=Wi.1 Tryz.Ti;have a:∀ d,(Op.equalIn (d+1) 66 (Z7 Z9 n) (Z7 Z9 m)).run ZL w=.ok (n==m) w:=λd=>run_equalIn_int (w:=w) d 66 .i64 .i64 n m underlying66;have b:∀ d,(Op.equalIn (d+1+1) 64 (.iface 66 (Z7 Z9 n)) (.iface 66 (Z7 Z9 m))).run ZL w=.ok (n==m) w:=λd=>by
  rw [Op.equalIn];simp [Ux,UR underlying64,UK,typeInfo,f,c,a d]
 have e:=b 9998;simp only [binOp];simp [Op.equal,Op.maxDepth,e]
theorem Iy (n:Int) (a:n≠13) (w:ZU):ZR ZL 107 #[.iface 66 (Z7 Z9 n),.iface 66 (Z7 Z9 13),Z2 ZW] w λe w'=>e=Z3 (Z2 ZV)/\w'=w:=by
 have f:∀ w,(binOp .eql 64 (.iface 66 (Z7 Z9 n)) (.iface 66 (Z7 Z9 13))).run ZL w=.ok (Z2 ZV) w:=λw=>by rw [xK];simp [a]
 have b:∀ w:ZU,(Instr.typeAssert (.iface 66 (Z7 Z9 n)) 64 246 ZW).run ZL w=.ok (Z0 #[.nilIface,Z2 ZV]) w:=λw=>Xs ab5 (by kernel_rfl) (by kernel_rfl) _ _ w;have c:∀ w:ZU,(Instr.typeAssert (.iface 66 (Z7 Z9 n)) 64 165 ZW).run ZL w=.ok (Z0 #[.nilIface,Z2 ZV]) w:=λw=>Xs ab6 (by kernel_rfl) (by kernel_rfl) _ _ w;have d:∀ w:ZU,(Instr.typeAssert (.iface 66 (Z7 Z9 n)) 64 166 ZW).run ZL w=.ok (Z0 #[.nilIface,Z2 ZV]) w:=λw=>Xs underlying166 (by kernel_rfl) (by kernel_rfl) _ _ w;go_enter func107,ntmps107;go_wp2;refine VO 1 ?_;rw [VJ];go_wp2;go_ret;exact ⟨rfl,rfl⟩
theorem Lj (n:Int) (a:n≠13) (w:ZU):ZR ZL 76 #[.iface 66 (Z7 Z9 n),.iface 66 (Z7 Z9 13)] w λe w'=>e=Z3 (Z2 ZV)/\w'=w:=by
 have d:=Tryz.SG (Z7 Z9 13);have b := @run_callFunc_extern ZL 80 _ Extern.ReflectliteType.typeOf func80 (by kernel_rfl) (by kernel_rfl) (by kernel_rfl) (by kernel_rfl);have f:∀ (h:ZT) (w:ZU),(YG 479 157 (.agg #[h]) "Comparable").run ZL w=.ok (257,.agg #[h]) w:=λh w=>by kernel_rfl
 have c:∀ w:ZU,(callFunc 257 #[.agg #[Z6 (ZX ⟨3,66,ZY⟩)]]).run ZL w=.ok (.value (Z2 ZW)) w:=λw=>by kernel_rfl
 go_enter func76,ntmps76;go_wp2_with fail;refine (Iy n a w).mono ?_;rintro e w' ⟨rfl,rfl⟩;go_wp2;go_ret;exact ⟨rfl,rfl⟩
theorem zO (n:Int) (w:ZU):ZR ZL 76 #[.nilIface,.iface 66 (Z7 Z9 n)] w λe w'=>e=Z3 (Z2 ZV)/\w'=w:=by
 have a:∀ d w,(Op.equalIn (d+1) 64 .nilIface (.iface 66 (Z7 Z9 n))).run ZL w=.ok ZV w:=λd w=>by
  simp only [Op.equalIn,Ux,UR underlying64,UK];rfl
 have b:∀ w,(Op.equalIn 10000 64 .nilIface (.iface 66 (Z7 Z9 n))).run ZL w=.ok ZV w:=λw=>a 9999 w;have c:∀ w,(binOp .eql 64 .nilIface (.iface 66 (Z7 Z9 n))).run ZL w=.ok (Z2 ZV) w:=λw=>by
  simp only [binOp];simp [Op.equal,Op.maxDepth,b]
 clear a b;go_enter func76,ntmps76;go_wp2;go_ret;exact ⟨rfl,rfl⟩
theorem Lk (w:ZU):ZR ZL 151 #[.nilIface] w λe w'=>e=Z3 (Z0 #[])/\w'=w:=by
 go_enter func151,ntmps151;go_wp2_with fail;refine (zO 13 w).mono ?_;rintro e w' ⟨rfl,rfl⟩;go_wp2;first|go_end0|skip
 exact ⟨rfl,rfl⟩
def r9 (q:Nat):ZT:=.iface 269 (Z6 (ZX ⟨q,0,ZY⟩))
def gj (w:ZU) (q d b:Nat) (n:Int):Prop:=w.heap[q]?=ZX (Z4 #[Z7 Z9 d,Z7 Z9 b,Z7 Z9 n] 271 (0,0))
def gj.lt {n:Int} (h:gj w q d b n):q<w.heap.size:=(T5.1 h).1
def gj.cell {n:Int} (h:gj w q d b n):w.cell? ⟨q,2,ZY⟩=ZX (Z7 Z9 n):=by
 have a:w.heap[q]?=_:=h;simp [World.cell?,a]
def gj.new (w:ZU) (d b:Nat) (n:Int):gj (w.alloc (Z4 #[Z7 Z9 d,Z7 Z9 b,Z7 Z9 n] 271)) w.heap.size d b n:=Uk w _
def gj.below {n:Int} (h:gj w q d b n) (a:bW w w'):gj w' q d b n:=(a.block _ h.lt).trans h
def Iz (q:Nat) (m:Int) (w:ZU):(binOp .eql 64 (r9 q) (.iface 66 (Z7 Z9 m))).run ZL w=.ok (Z2 ZV) w:=by
 have a:∀ d,(Op.equalIn (d+1) 64 (.iface 269 (Z6 (ZX ⟨q,0,ZY⟩))) (.iface 66 (Z7 Z9 m))).run ZL w=.ok ZV w:=λd=>by
  rw [Op.equalIn];simp [Ux,UR underlying64,UK]
 have b:=a 9999;unfold r9;simp only [binOp];simp [Op.equal,Op.maxDepth,b]
theorem EC {n:Int} (h:gj w q d b n):ZR ZL 270 #[Z6 (ZX ⟨q,0,ZY⟩)] w λe w'=>e=Z3 (.iface 66 (Z7 Z9 n))/\w'=w:=by
 have c:=h.cell;go_enter func270,ntmps270;go_wp2;go_ret;exact ⟨rfl,rfl⟩
theorem IA {n:Int} (h:gj w q d b n) (m:Int):ZR ZL 107 #[r9 q,.iface 66 (Z7 Z9 m),Z2 ZW] w λe w'=>e=Z3 (Z2 (n==m))/\w'=w:=by
 have a:=Iz q m;have c:=xK n m;have b1:∀ w:ZU,(Instr.typeAssert (r9 q) 64 246 ZW).run ZL w=.ok (Z0 #[.nilIface,Z2 ZV]) w:=λw=>Xs ab5 (by kernel_rfl) (by kernel_rfl) _ _ w;have b2:∀ w:ZU,(Instr.typeAssert (r9 q) 64 165 ZW).run ZL w=.ok (Z0 #[r9 q,Z2 ZW]) w:=λw=>run_typeAssert_hasB ab6 (by kernel_rfl) _ _ w;have g:∀ w:ZU,(Instr.typeAssert (.iface 66 (Z7 Z9 n)) 64 246 ZW).run ZL w=.ok (Z0 #[.nilIface,Z2 ZV]) w:=λw=>Xs ab5 (by kernel_rfl) (by kernel_rfl) _ _ w;have i:∀ w:ZU,(Instr.typeAssert (.iface 66 (Z7 Z9 n)) 64 165 ZW).run ZL w=.ok (Z0 #[.nilIface,Z2 ZV]) w:=λw=>Xs ab6 (by kernel_rfl) (by kernel_rfl) _ _ w;have j:∀ w:ZU,(Instr.typeAssert (.iface 66 (Z7 Z9 n)) 64 166 ZW).run ZL w=.ok (Z0 #[.nilIface,Z2 ZV]) w:=λw=>Xs underlying166 (by kernel_rfl) (by kernel_rfl) _ _ w;have k:∀ w:ZU,(YG 479 269 (Z6 (ZX ⟨q,0,ZY⟩)) "Unwrap").run ZL w=.ok (270,Z6 (ZX ⟨q,0,ZY⟩)) w:=λw=>by kernel_rfl
 have f:=EC h;unfold r9 at a b1 b2 ⊢;clear h;cases h2:(n==m)<;>(
  rw [h2] at c;go_enter func107,ntmps107;go_wp2;refine VO 2 ?_;rw [VJ];go_wp2_with fail;refine f.mono ?_;rintro e w' ⟨rfl,rfl⟩;go_wp2;rw [VJ];go_wp2;go_ret;exact ⟨rfl,rfl⟩)
theorem BW {n:Int} (h:gj w q d b n) (m:Int):ZR ZL 76 #[r9 q,.iface 66 (Z7 Z9 m)] w λe w'=>e=Z3 (Z2 (n==m))/\w'=w:=by
 have g:=Tryz.SG (Z7 Z9 m);have c := @run_callFunc_extern ZL 80 _ Extern.ReflectliteType.typeOf func80 (by kernel_rfl) (by kernel_rfl) (by kernel_rfl) (by kernel_rfl);have i:∀ (h:ZT) (w:ZU),(YG 479 157 (.agg #[h]) "Comparable").run ZL w=.ok (257,.agg #[h]) w:=λh w=>by kernel_rfl
 have f:∀ w:ZU,(callFunc 257 #[.agg #[Z6 (ZX ⟨3,66,ZY⟩)]]).run ZL w=.ok (.value (Z2 ZW)) w:=λw=>by kernel_rfl
 have a:=IA h m;unfold r9 at a ⊢;clear h;generalize (n==m)=nm at a ⊢;go_enter func76,ntmps76;go_wp2_with fail;refine a.mono ?_;rintro e w' ⟨rfl,rfl⟩;go_wp2;go_ret;exact ⟨rfl,rfl⟩
theorem tF {n:Int} (h:gj w q d b n) (c:n≠13):ZR ZL 151 #[r9 q] w λe w'=>e=Z3 (Z0 #[])/\w'=w:=by
 have a:=BW h 13;rw [show (n==13)=ZV from by simpa using c] at a;unfold r9 at a ⊢;clear h;go_enter func151,ntmps151;go_wp2_with fail;refine a.mono ?_;rintro e w' ⟨rfl,rfl⟩;go_wp2;first|go_end0|skip
 exact ⟨rfl,rfl⟩
section
variable {w:ZU} {p:Nat} {R:eB} {F:aH}
def QK (w:ZU) (d b:Nat) (R:eB) (F:aH) (e:ZP) (w':ZU):Prop:=(R.lost d=ZV/\e=Z3 (Z0 #[Z6 (ZX ⟨F.g,d*4,ZY⟩),.nilIface])/\w'=w)\/(R.lost d=ZW/\e=Z3 (Z0 #[.pointer ZY,r9 w.heap.size])/\w'=w.alloc (Z4 #[Z7 Z9 d,Z7 Z9 b,Z7 Z9 11] 271))
theorem GA (h:ag w p R F) (d b:Nat) (e:d<R.n) (m:b<R.nb) :
 ZR ZL 181 #[Z6 (ZX ⟨p,0,ZY⟩),Z7 Z9 d,Z7 Z9 b] w (QK w d b R F):=by
 obtain ⟨c0,c1⟩:=h.RX;obtain ⟨a,d1,f,r,g⟩:=h.R8 d e;have i:¬ (d:Int)<0:=by omega
 have j:¬ (R.n:Int)<=(d:Int):=by omega
 have c:(d:Int)<(R.n:Int):=by omega
 have k:¬ (b:Int)<0:=by omega
 have l:¬ (R.nb:Int)<=(b:Int):=by omega
 clear h;cases hl:R.lost d<;>(
  rw [hl] at a;go_enter func181,ntmps181;go_wp2;go_ret2;first|exact .inl ⟨hl,rfl,rfl⟩|exact .inr ⟨hl,rfl,rfl⟩)
def QL (w:ZU) (p d b:Nat) (R:eB) (F:aH) (e:ZP) (w':ZU):Prop:=
 ag w' p R F/\aa F.S w w'/\dA F R.n w w' (λi=>if i=d then 1 else 0)/\((R.lost d=ZV/\R.bad d b=ZV/\e=Z3 (Z0 #[.agg (aB (R.blk d b)),.nilIface]))\/((R.lost d=ZW\/R.bad d b=ZW)/\∃ q,e=Z3 (Z0 #[.agg (aB zb),r9 q])/\w.heap.size<=q/\gj w' q d b (if R.lost d=ZW then 11 else 12)))
theorem Oe (h:ag w p R F) (d b:Nat) (K:d<R.n) (V:b<R.nb) :
 ZR ZL 152 #[Z6 (ZX ⟨p,0,ZY⟩),Z7 Z9 d,Z7 Z9 b] w (QL w p d b R F):=by
 have hz:=zeroBlk;have W:=(h.len d b).1;have c:=h.alloc (Z4 (aB zb) 114);have C:=bN.new w zb;have x:∀ k,F.S k->k<w.heap.size:=λk M=>h.RS M;have y:aa F.S w (w.alloc (Z4 (aB zb) 114)):=aa.alloc w _;have e3:¬ (b:Int)<0:=by omega
 have e4:(b:Int)<(R.nb:Int):=by omega
 obtain ⟨w1,X⟩:=nM (w.alloc (Z4 (aB zb) 114));have hy:w1.heap.size=w.heap.size+1:=by rw [<- X];simp
 rw [X] at c C y;have s:∀ (a:ZU) (l:a8),ag a p R F->aa F.S w a->ag (a.setRow w.heap.size (aB l)) p R F/\aa F.S w (a.setRow w.heap.size (aB l))/\∀ j,j≠w.heap.size->j<a.heap.size->(a.setRow w.heap.size (aB l)).heap[j]?=a.heap[j]?:=λa l E U=>by
  have Z:∀ j,j≠w.heap.size->j<a.heap.size->(a.setRow w.heap.size (aB l)).heap[j]?=a.heap[j]?:=λj hj hl=>(aG a w.heap.size (aB l)).block j hl (λe=>by cases e;exact hj rfl);exact ⟨E.keep λk M=>Z k (by have:=x k M;omega) (E.RS M),U.later (T:=λk=>k=w.heap.size) (aa.setRow _ _ _ rfl) λk M e=>absurd e (by omega),Z⟩
 have O:=GA c d b K V;have D:w1.heap[F.g]?=w.heap[F.g]?:=by rw [<- X];exact Uy _ _ _ (x _ h.sg)
 have A:∀ (a:ZU) (l:a8),ag a p R F->aa F.S w a->dA F R.n w a (λi=>if i=d then 1 else 0)->dA F R.n w (a.setRow w.heap.size (aB l)) (λi=>if i=d then 1 else 0):=λa l E U N=>N.keep ((s a l E U).2.2 _ (by have:=x _ E.sg;omega) (E.RS E.sg));have H:=hide7 c C y x s D A;clear h c C y x s D A;go_enter func152,ntmps152;go_wp2_with fail;refine O.mono ?_;rintro e w2 (⟨hl,rfl,rfl⟩|⟨hl,rfl,Y⟩)
 . obtain ⟨c,C,y,x,s,D,A⟩:=H.o;obtain ⟨d0,d1,d2,r,d3⟩:=c.R8 d K;have L:dA F R.n w (w2.setCell ⟨F.g,d*4+3,ZY⟩ (Z7 Z9 (wrap64 (r+1)))) (λi=>if i=d then 1 else 0):=(dA.one d3).after D;have hv:=c.R9 (d*4+3);obtain ⟨a,P⟩:=nM (w2.setCell ⟨F.g,d*4+3,ZY⟩ (Z7 Z9 (wrap64 (r+1))));have m:=c.count d (wrap64 (r+1));rw [P] at m L;obtain ⟨q0,q1,q2,_⟩:=m.R8 d K;have qb:a.cell? ⟨F.bd d,b,ZY⟩=ZX (Z2 (R.bad d b)):=(m.bad d K).cell V;have qr:a.rangeAt (F.bb d) (b*64) (aI (R.blk d b)):=m.range K V;have k0:a.heap.size=w2.heap.size:=(by rw [<- P];simp [World.setCell]);have t:bN a w.heap.size zb:=C.keep (by rw [<- P];exact Uj _ _ _ _ (by have:=x _ c.sg;show w.heap.size≠F.g;omega));have z:aa F.S w a:=y.trans (by rw [<- P];exact aa.setCell _ _ _ c.sg);cases h8:R.bad d b with
   | false=>
    rw [h8] at qb;have B:=a6 m z s t (A _ (R.blk d b) m z L);clear c C y x s m z t O D A L;go_wp2_with (first|(refine D5 rfl (Z1 46) rfl (F.bb d) (b*64) (R.blk d b) rfl qr W ?_)|(refine fG rfl (Z1 6) (Z1 47) rfl w.heap.size (R.blk d b) zb rfl rfl B.o.2.2.2.1 bX W ?_));obtain ⟨m,z,s,t,N⟩:=B.o;refine Uv (v:=Z0 #[.agg (aB (R.blk d b)),.nilIface]) (fH results152 _ _ _ _ _ rfl rfl (lz (t.setRow _) W)) rfl ?_;obtain ⟨I,J,_⟩:=s _ (R.blk d b) m z;exact ⟨I,J,N,.inl ⟨hl,h8,rfl⟩⟩
   | true=>
    rw [h8] at qb;obtain ⟨w4,hp⟩:=nM (a.alloc (Z4 #[Z7 Z9 d,Z7 Z9 b,Z7 Z9 12] 271));obtain ⟨q,G⟩:=nM (w.heap.size+1);have hr:a.heap.size=q:=(by omega);have u:gj w4 q d b 12:=(by rw [<- hp,<- hr];exact gj.new _ _ _ _);have f:bW a w4:=(by rw [<- hp];exact bA a _);have B:=hide7 (m.below f lR) (z.trans (aa.RT f _)) s (t.keep (f.block _ t.lt)) u (show w.heap.size<q by omega) (A _ zb (m.below f lR) (z.trans (aa.RT f _)) (L.keep (f.block _ (m.RS m.sg))));clear c C y x s m z t O u f D A L;go_wp2_with (refine fG rfl (Z1 6) (Z1 35) rfl w.heap.size zb zb rfl rfl (by exact B.o.2.2.2.1) bX bX ?_);obtain ⟨m,z,s,t,u,hx,N⟩:=B.o;refine Uv (v:=Z0 #[.agg (aB zb),.iface 269 (Z6 (ZX ⟨q,0,ZY⟩))]) (fH results152 _ _ _ _ _ rfl rfl (lz (t.setRow _) bX)) rfl ?_;obtain ⟨I,J,Q⟩:=s _ zb m z;exact ⟨I,J,N,.inr ⟨.inr h8,q,rfl,by omega,by rw [hl];exact (Q q (by omega) u.lt).trans u⟩⟩
 . obtain ⟨q,G⟩:=nM (w1.heap.size);have u:gj w2 q d b 11:=(by rw [Y,<- G];exact gj.new _ _ _ _);have f:bW w1 w2:=(by rw [Y];exact bA w1 _);rw [G];unfold r9;have t:=H.o.2.1.keep (f.block _ H.o.2.1.lt);have B:=a5 u f t G;clear u f t G Y O;go_wp2_with (refine fG rfl (Z1 6) (Z1 19) rfl w.heap.size zb zb rfl rfl B.o.2.2.1 bX bX ?_);obtain ⟨u,f,t,G⟩:=B.o;obtain ⟨c,C,y,x,s,D,A⟩:=H.o;refine Uv (v:=Z0 #[.agg (aB zb),.iface 269 (Z6 (ZX ⟨q,0,ZY⟩))]) (fH results152 _ _ _ _ _ rfl rfl (lz (t.setRow _) bX)) rfl ?_;obtain ⟨I,J,Q⟩:=s _ zb (c.below f lR) (y.trans (aa.RT f _));exact ⟨I,J,A _ zb (c.below f lR) (y.trans (aa.RT f _)) ((dA.same ((f.block _ (c.RS c.sg)).trans D)).mono λ_ _=>T7 _),.inr ⟨.inl hl,q,rfl,by omega,by rw [TX hl];exact (Q q (by omega) u.lt).trans u⟩⟩
def wbR (A:eB) (d b:Nat) (l:a8):eB:=A.R2 d λm=>if m=b then l else A.blk d m
def wrR (A:eB) (d b:Nat) (l:a8):eB:=(wbR A d b l).R6 d λm=>if m=b then ZV else A.bad d m
def QM (w:ZU) (p d b:Nat) (l:a8) (R:eB) (F:aH) (x:ZT) (w':ZU):Prop:=aa F.S w w'/\((R.lost d=ZV/\x=.nilIface/\ag w' p (wrR R d b l) F)\/(R.lost d=ZW/\ag w' p R F/\∃ q,x=r9 q/\gj w' q d b 11))
theorem Ll (h:ag w p R F) (d b:Nat) (f:d<R.n) (z:b<R.nb) (l:a8) (r:l.length=64) (U:∀ x∈l,x<256) :
 ZR ZL 149 #[Z6 (ZX ⟨p,0,ZY⟩),Z7 Z9 d,Z7 Z9 b,.agg (aB l)] w λe w'=>∃ x,e=Z3 x/\QM w p d b l R F x w':=by
 have a:=h.alloc (Z4 (aB l) 114);have j:=bN.new w l;have m:aa F.S w (w.alloc (Z4 (aB l) 114)):=aa.alloc w _;have V:¬ (b:Int)<0:=by omega
 have W:(b:Int)<(R.nb:Int):=by omega
 have Q:¬ F.S w.heap.size:=λq=>by have:=h.RS q;omega
 obtain ⟨w1,T⟩:=nM (w.alloc (Z4 (aB l) 114));rw [T] at a j m;obtain ⟨c0,c1⟩:=a.RX;have A:=GA a d b f z;have H:=aE a j m;clear h a j m;go_enter func149,ntmps149;go_wp2_with fail;refine A.mono ?_;rintro e w2 (⟨hl,rfl,rfl⟩|⟨hl,rfl,y⟩)
 . obtain ⟨a,j,m⟩:=H.o;clear A;go_wp2_with fail;have c:=a.R8 d f;refine ga 14 [(0,ZW),(1,ZW),(2,ZW),(3,ZW),(4,ZW),(5,ZW),(6,ZW),(7,ZW),(8,ZW),(9,ZW),(10,ZW),(11,ZW),(12,ZV),(13,ZW),(14,ZV)] (λw'=>w'.cell? ⟨F.g,d*4+1,ZY⟩=ZX (Z5 (ZX ⟨F.bb d,0,ZY⟩) R.nb R.nb)/\w'.cell? ⟨F.g,d*4+2,ZY⟩=ZX (Z5 (ZX ⟨F.bd d,0,ZY⟩) R.nb R.nb)/\bN w' w.heap.size l) (by kernel_rfl) (by kernel_rfl) ⟨c.2.1,c.2.2.1,j⟩ ?_;iterate 10 (refine aZ rfl rfl ?_;apply YH;refine ⟨λw' i=>?_,?_⟩;(obtain ⟨I,J,L⟩:=i;first|(go_simp;done)|(go_simp;exact rfl));simp only [Act.put,Ug,Uf,Uh])
   refine aZ rfl rfl ⟨_,λw' i=>by simp [execOp,Act.eval,nj i.2.2 r];rfl,?_⟩;refine aZ rfl rfl ?_;apply YH;refine ⟨λw' i=>?_,?_⟩;(obtain ⟨I,J,L⟩:=i;first|(go_simp;done)|(go_simp;exact rfl));simp only [Act.put,Ug,Uf,Uh];have v:=ab7 (P:=ZL) w2.drew (F.bb d) (b*64) 114 (aB l) (by rw [iB,r];exact a.there f z) (fx r) (Bi l);rw [wN] at v;refine wV rfl rfl λK hK=>?_;simp [Oper.wp,execOp,Act.eval,v];have k:=(a.keep (Y:=w2.drew) λ_ _=>rfl).setBlk f b r U;have C:aa F.S w2 (w2.drew.setCells (F.bb d) (b*64) (aI l)):=(aa.drew w2).trans (aa.setCells _ _ _ _ (a.sb f));have B:bN (w2.drew.setCells (F.bb d) (b*64) (aI l)) w.heap.size l:=bN.keep j (aQ _ _ _ _ _ (λe=>Q (e▸a.sb f)));have t:=k.R8 d f;have M:=(k.bad d f).cell z;have N:=(k.bad d f).frozen b;refine hK _ _ (λ_=>⟨t.2.1,t.2.2.1,B⟩) ?_;obtain ⟨X,E⟩:=nM (w2.drew.setCells (F.bb d) (b*64) (aI l));rw [E] at k C B M N ⊢;clear hK E v c t;refine aZ rfl rfl ?_;apply YH;refine ⟨λw' i=>?_,?_⟩;(obtain ⟨I,J,L⟩:=i;first|(go_simp;done)|(go_simp;exact rfl));simp only [Act.put,Ug,Uf,Uh];refine wV rfl rfl λK hK=>?_;go_simp;have O:=k.Tq f b ZV;refine hK _ _ (absurd rfl) (gS ?_);clear hK;rename_i hK _
   refine hK _ _ ?_;go_wp2;go_ret;exact ⟨_,rfl,m.trans (C.trans (aa.setCell _ _ _ (a.sd f))),.inl ⟨hl,rfl,O⟩⟩
 . have u:gj w2 w1.heap.size d b 11:=(by rw [y];exact gj.new _ _ _ _);have D:bW w1 w2:=(by rw [y];exact bA w1 _);obtain ⟨q,G⟩:=nM (w1.heap.size);rw [G] at u ⊢;unfold r9;have s:=al u D;clear u D G y A c0 c1;go_wp2;go_ret;exact ⟨_,rfl,H.o.2.2.trans (aa.RT s.o.2 _),.inr ⟨hl,H.o.1.below s.o.2 lR,q,rfl,s.o.1⟩⟩
end
section
def bt (w:ZU) (v p D L G ps ho:Nat):Prop:=w.heap[v]?=ZX (Z4 #[Z6 (ZX ⟨p,0,ZY⟩),Z7 Z9 D,Z7 Z9 L,Z7 Z9 G,Z6 (ZX ⟨ps,0,ZY⟩),Z7 Z8 ho] 139 (0,0))
def bt.keep {v:Nat} (h:bt w v p D L G ps ho) (e:w'.heap[v]?=w.heap[v]?):bt w' v p D L G ps ho:=e.trans h
def bt.lt {v:Nat} (h:bt w v p D L G ps ho):v<w.heap.size:=(T5.1 h).1
def bt.cells {v:Nat} (h:bt w v p D L G ps ho):w.cell? ⟨v,0,ZY⟩=ZX (Z6 (ZX ⟨p,0,ZY⟩))/\w.cell? ⟨v,1,ZY⟩=ZX (Z7 Z9 D)/\w.cell? ⟨v,2,ZY⟩=ZX (Z7 Z9 L)/\w.cell? ⟨v,3,ZY⟩=ZX (Z7 Z9 G)/\w.cell? ⟨v,4,ZY⟩=ZX (Z6 (ZX ⟨ps,0,ZY⟩))/\w.cell? ⟨v,5,ZY⟩=ZX (Z7 Z8 ho):=by
 have a:w.heap[v]?=ZX (Z4 #[Z6 (ZX ⟨p,0,ZY⟩),Z7 Z9 D,Z7 Z9 L,Z7 Z9 G,Z6 (ZX ⟨ps,0,ZY⟩),Z7 Z8 ho] 139 (0,0)):=h;simp [World.cell?,a]
def bh.outside {S:Nat->Prop} (h:bh w) (a:aa S w w') (b:¬ S 2):bh w':=λj c=>by
 have:=h j c;rw [<- this];exact Uo (a.block _ (Ui this) b)
def aC.R5 (A:aC) (d b:Nat):Option bz:=if A.lost d=ZW then ZY else A.rd d b
def QN (w:ZU) (p d b:Nat) (A:aC) (F:aH) (e:ZP) (w':ZU):Prop:=
 az w' p A F/\aa F.S w w'/\dA F A.n w w' (λi=>if i=d then 1 else 0)/\((∃ r,A.R5 d b=ZX r/\e=Z3 (Z0 #[cF r,.nilIface]))\/(A.R5 d b=ZY/\∃ q,e=Z3 (Z0 #[.nilIface,r9 q])/\w.heap.size<=q/\gj w' q d b (if A.lost d=ZW then 11 else 12)))
variable {w:ZU} {v p D L G ps ho:Nat} {A:aC} {F:aH}
theorem qT (hV:bt w v p D L G ps ho) (h:az w p A F) (d b:Nat) (z:d<A.n) (hb:b<A.nb) (hv:bh w) (hg:¬ F.S 2) :
 ZR ZL 120 #[Z6 (ZX ⟨v,0,ZY⟩),Z7 Z9 d,Z7 Z9 b] w (QN w p d b A F):=by
 obtain ⟨c0,_⟩:=hV.cells;have hz:=zeroBlk;obtain ⟨R,E,m⟩:=h;have hc:=Oe E d b (by rw [m.n];exact z) (by rw [m.nb];exact hb);have V:=(E.len d b).1;have x:=a5 (E.len d b).2 (λk (K:F.S k)=>E.RS K) hv m;have Z:R.lost d=ZV->A.R5 d b=R.rd d b:=λq=>by
  rw [m.lost d z] at q;unfold aC.R5;rw [q,m.rd d b z q];rfl
 have B:R.lost d=ZW\/R.bad d b=ZW->A.R5 d b=ZY:=λq=>by
  cases hl:R.lost d
  . rw [Z hl];rw [hl] at q;unfold eB.rd;rw [TX (q.resolve_left (by decide))]
  . unfold aC.R5;rw [<- m.lost d z,hl];rfl
 rw [m.lost d z] at Z B;have O:=al Z B;clear hV E hv m Z B;go_enter func120,ntmps120;go_wp2_with fail;refine hc.mono ?_;rintro e w1 ⟨s,W,ka,k9⟩;clear hc;have ke:=W.size;have X:=bN.new w1 zb;have y:=s.alloc (Z4 (aB zb) 114);have k5:aa F.S w (w1.alloc (Z4 (aB zb) 114)):=W.trans (aa.alloc _ _);rw [x.o.2.2.2.n] at ka;have Q:∀ l:a8,az ((w1.alloc (Z4 (aB zb) 114)).setRow w1.heap.size (aB l)) p A F/\aa F.S w ((w1.alloc (Z4 (aB zb) 114)).setRow w1.heap.size (aB l))/\dA F A.n w ((w1.alloc (Z4 (aB zb) 114)).setRow w1.heap.size (aB l)) (λi=>if i=d then 1 else 0):=λl=>
  ⟨⟨R,y.keep λk K=>(aG _ _ _).block k (y.RS K) (λe=>by have:=x.o.2.1 k K;cases e;omega),x.o.2.2.2⟩,k5.later (T:=λk=>k=w1.heap.size) (aa.setRow _ _ _ rfl) (λk K e=>absurd e (by omega)),ka.keep (((aG _ _ _).block _ (y.RS y.sg) (λe=>by have:=s.RS s.sg;have:=UQ e;omega)).trans (Uy _ _ _ (s.RS s.sg)))⟩
 rw [x.o.2.2.2.lost d z] at k9;rcases k9 with ⟨hl,hj,rfl⟩|⟨B,q,rfl,N,k6⟩
 . obtain ⟨l,hll⟩:=nM (R.blk d b);rw [hll] at V ⊢;have a:A.R5 d b=J8 l:=(by rw [O.o.1 hl];unfold eB.rd;rw [hj,hll];rfl);have c:=a6 X (Q l) a hll hl;clear s W X y k5 Q c0 hj a hll hl;go_wp2_with (first|(refine fG rfl (Z1 8) (Z1 20) rfl w1.heap.size l zb rfl rfl c.o.1 bX V ?_)|(refine mi rfl (Z1 8) rfl w1.heap.size l rfl (c.o.1.setRow l) V ?_));obtain ⟨t,j,u⟩:=c.o.2.1;obtain ⟨w3,M⟩:=nM ((w1.alloc (Z4 (aB zb) 114)).setRow w1.heap.size (aB l));rw [M] at t j u ⊢;have ho:=QI l w3 V (by rw [<- c.o.2.2.2.1];exact x.o.1) (x.o.2.2.1.outside j hg);have f:=aE t j u;clear t j M u;refine ho.mono ?_;rintro e C ⟨rfl,J⟩;have H:=f.o.1.below J lR;have I:aa F.S w C:=f.o.2.1.trans (aa.RT J _);have P:=ak (f.o.2.2.below f.o.1 J lR);have a:=c.o.2.2.1;cases hr:J8 l with
   | some r=>
    rw [hr] at a;have g:=aE H I a;clear ho J H I a c hr;obtain ⟨rv,k7⟩:=nM (cF r);have O:=ak k7;unfold ofV;simp only [k7];clear k7;go_wp2;go_ret2;exact ⟨g.o.1,g.o.2.1,P.o,.inl ⟨r,g.o.2.2,by rw [O.o];rfl⟩⟩
   | none=>
    rw [hr] at a;obtain ⟨w5,kb⟩:=nM (C.alloc (Z4 #[Z7 Z9 d,Z7 Z9 b,Z7 Z9 12] 271));have hn:gj w5 C.heap.size d b 12:=(by rw [<- kb];exact gj.new _ _ _ _);have Y:bW C w5:=(by rw [<- kb];exact bA C _);have kc:=ak (P.o.below H Y lR);have g:=a7 (H.below Y lR) (I.trans (aa.RT Y _)) a hn I.size c.o.2.2.2.2;clear ho J H I a c hr Y hn;unfold ofV;go_wp2;go_ret2;exact ⟨g.o.1,g.o.2.1,kc.out,.inr ⟨g.o.2.2.1,_,rfl,g.o.2.2.2.2.1,by rw [g.o.2.2.2.2.2];exact g.o.2.2.2.1⟩⟩
 . have hm:gj ((w1.alloc (Z4 (aB zb) 114)).setRow w1.heap.size (aB zb)) q d b (if A.lost d=ZW then 11 else 12):=by
    have h1:gj (w1.alloc (Z4 (aB zb) 114)) q d b (if A.lost d=ZW then 11 else 12):=k6.below (bA w1 _);exact ((aG _ _ _).block q h1.lt (λe=>by have:=k6.lt;cases e;omega)).trans h1
   have c:=a6 X (Q zb) (O.o.2 B) hm N;clear s W X y k5 Q c0 B k6 hm N;unfold r9;go_wp2_with (refine fG rfl (Z1 8) (Z1 20) rfl w1.heap.size zb zb rfl rfl c.o.1 bX bX ?_);obtain ⟨_,⟨t,j,u⟩,a,U,N⟩:=c.o;obtain ⟨w3,M⟩:=nM ((w1.alloc (Z4 (aB zb) 114)).setRow w1.heap.size (aB zb));rw [M] at t j U u ⊢;have P:=ak u;clear u;have k8:=tF U (by split<;>decide);unfold r9 at k8;have f:=a6 t j a U N;clear t j a U N M;refine k8.mono ?_;rintro e C ⟨rfl,rfl⟩;clear k8;go_wp2;go_ret2;exact ⟨f.o.1,f.o.2.1,P.o,.inr ⟨f.o.2.2.1,q,rfl,f.o.2.2.2.2,f.o.2.2.2.1⟩⟩
def zP (w:ZU) (p d b:Nat) (r:bz) (A:aC) (F:aH) (x:ZT) (w':ZU):Prop:=az w' p (A.putAt [d] b λ_=>r) F/\aa F.S w w'/\((A.lost d=ZV/\x=.nilIface)\/(A.lost d=ZW/\∃ q,x=r9 q/\gj w' q d b 11))
theorem oy (m:bt w v p D L G ps ho) (h:az w p A F) (d b:Nat) (I:d<A.n) (s:b<A.nb) (r:bz) (j:r.ok) (u:bh w) :
 ZR ZL 116 #[Z6 (ZX ⟨v,0,ZY⟩),Z7 Z9 d,Z7 Z9 b,cF r] w λe w'=>∃ x,e=Z3 x/\zP w p d b r A F x w':=by
 have k:∀ w1,bW w w1->ZR ZL 149 #[Z6 (ZX ⟨p,0,ZY⟩),Z7 Z9 d,Z7 Z9 b,.agg (aB r.blk)] w1 λe w2=>∃ x,e=Z3 x/\zP w p d b r A F x w2:=λw1 a=>by
  obtain ⟨R,i,c⟩:=h;refine (Ll (i.below a lR) d b (by rw [c.n];exact I) (by rw [c.nb];exact s) r.blk (Gg j) (Qd j)).mono ?_;rintro e w2 ⟨x,rfl,M,C⟩;rw [c.lost d I] at C;have z:=(aa.RT a _).trans M;rcases C with ⟨hl,rfl,l⟩|⟨hl,l,t⟩
  . exact ⟨_,rfl,⟨_,l,c.put d b j⟩,z,.inl ⟨hl,rfl⟩⟩
  . exact ⟨_,rfl,⟨_,l,c.TT hl b r⟩,z,.inr ⟨hl,t⟩⟩
 obtain ⟨c0,_⟩:=m.cells;have g:=xJ j w.drew (u.below ((T6 _ w).drew) u.lt);obtain ⟨rv,E⟩:=nM (cF r);simp only [E] at g ⊢;obtain ⟨P,B⟩:=nM (aB r.blk);simp only [B] at g k;have y:∀ w',bW w w'->w'.cell? ⟨v,0,ZY⟩=ZX (Z6 (ZX ⟨p,0,ZY⟩)):=λw' s=>(s.cell (p:=⟨v,0,ZY⟩) m.lt).trans c0;have H:=al k y;clear k m E B u y h;go_enter func116,ntmps116;go_upto_region 1 with fail;go_cut [9] from 10 to 21 (λN O=>zP w p d b r A F N O)
 case first=>
  go_region_with (first
   | (go_at_call 150;refine g.mono ?_;rintro e w1 ⟨rfl,a⟩;have c1:=H.o.2 w1 (((T6 _ w).drew).trans a);have J:=ak (((T6 _ w).drew).trans a);clear a)
   | (go_at_call 149;refine (H.o.1 w1 J.o).mono ?_;rintro e w2 ⟨x,rfl,i⟩;have f:=ak i;clear i))
  all_goals (go_wp2_with fail;go_meet;case rel=>exact f.o)
 case rest=>
  have K:∀ x W,zP w p d b r A F x W->ZR ZL 151 #[x] W λe w'=>e=Z3 (Z0 #[])/\w'=W:=by
   rintro x W ⟨_,_,⟨_,rfl⟩|⟨_,q,rfl,t⟩⟩
   . exact Lk _
   . exact tF t (by decide)
  have f:=ak hcut;clear hcut g c0;go_wp2_with fail;refine (K _ _ f.o).mono ?_;rintro e w' ⟨rfl,rfl⟩;go_wp2;go_ret;exact ⟨_,rfl,f.o⟩
end
section
attribute [local go_sem] Oper.semAt_some
abbrev Mb (s:Nat):={ x:Nat // x<16/\s.testBit x=ZW }
def xL {s:Nat} (x:Mb s):Array ZT:=#[Z7 Z9 (x.1:Int)]
def dB {s:Nat} (pre:List (Mb s)):a8:=pre.map (·.1)
def eM {s:Nat} (pre:List (Mb s)) (x:Mb s):dB (pre++[x])=dB pre++[x.1]:=by unfold dB;simp
def oz (h:n<=16):ab (2^n-1)=YF n:=by
 have:∀ k:Fin 17,ab (2^k.1-1)=YF k.1:=by decide
 exact this ⟨n,by omega⟩
theorem BX (n:Nat) (l Bs s:Nat) (A:s<65536) (J g:List (Mb s)->ZU->Prop)
 (y:∀ pre x W,J pre W->pre.length<(ab s).length->YieldAt Fence.wide (n-1) ZL l (xL x) W λe c=>
  (e=Z3 (Z2 ZW)/\J (pre++[x]) c/\(aJ W->aJ c))\/(e=Z3 (Z2 ZV)/\g (pre++[x]) c))
 (W:ZU) (E:W.cell? ⟨Bs,0,ZY⟩=ZX (Z7 Z8 s)) (w:aJ W) (m:J [] W) :
 CallsIn Fence.wide n ZL 147 #[.func (.yield l) #[] #[],Z6 (ZX ⟨Bs,0,ZY⟩)] W λe c=>(∃ v,e=Z3 v) /\
  ((∃ k,k.map (·.1)=ab s/\J k c)\/(∃ pre,pre.map (·.1)<+:ab s/\g pre c)):=by
 refine Xk func147 rfl trivial ?_ rfl;simp only [ntmps147,UL,UG,U0,YK,YL,Vr,Vs,Vt,Vu,Ut,UX];gi_wp2;gi_loopw [3] (λp wr=>∃ (pre:List (Mb s)) (q:Nat),p=Z7 Z8 q/\q<65536/\ab s=pre.map (·.1)++ab q/\J pre wr/\aJ wr)
  (λp _=>(intOf p).toNat)
 case atStart=>
  exact ⟨[],s,rfl,A,rfl,m,w⟩
 case round=>
  obtain ⟨pre,q,rfl,b,d,i,j⟩:=hrel;by_cases a:q=0
  . subst a;gi_wp2;go_end0
    exact ⟨⟨_,rfl⟩,.inl ⟨pre,by rw [d,wX,Wk],i⟩⟩
  . have D:((q:Int) != 0)=ZW:=(by simp;omega);have f:nU q<16/\s.testBit (nU q)=ZW:=cZ.1 (by rw [d,iM a b];simp);obtain ⟨fn,tmps,assign,body,B,u⟩:=y pre ⟨nU q,f⟩ wr i (by rw [d,iM a b];simp);unfold xL at B;gi_wp2;refine dk (KF q a b wr j) ?_;rintro e w' ⟨rfl,rfl⟩;gi_wp2;refine ⟨λh=>(by cases h),u.mono ?_⟩;rintro e C (⟨rfl,r,t⟩|⟨rfl,o⟩)
    . have F:IntKind.u64.wrap ((q:Int)-1)=((q-1:Nat):Int):=(by rw [Vd];omega);have z:=fI q (q-1) (by omega) (by omega);rw [Gp a b] at z;gi_wp2;go_roundw
      case rel=>exact ⟨pre++[⟨nU q,f⟩],bJ q (nU q),rfl,py _ _ b,by rw [d,iM a b];simp,r,t j⟩
      case measure=>have:=nV a b;simp only [intOf];omega
    . gi_wp2;refine Uv (XF rfl _ _ _) rfl ?_;exact ⟨⟨_,rfl⟩,.inr ⟨pre++[⟨nU q,f⟩],by rw [d,iM a b];simp,o⟩⟩
def nt (n Bs s:Nat) (h:s<65536) (w:ZU) (d:Bs<w.heap.size) (g:w.cell? ⟨Bs,0,ZY⟩=ZX (Z7 Z8 s)) (j:3<=w.heap.size) (e:aJ w) :
 SeqStopsK Fence.wide n ZL 147 #[Z6 (ZX ⟨Bs,0,ZY⟩)] (xL (s:=s)) Gr (λi=>i.map (·.1)=ab s) (λpre=>pre.map (·.1)<+:ab s) (ab s).length w:=λl J b W a _ _ f c=>
 BX n l Bs s h J b f W ((a.cell (p:=⟨Bs,0,ZY⟩) d).trans g) (e.mono (by omega) a) c
end
section
attribute [local go_sem] Oper.semAt_some
def aJ.keep (h:aJ w) (e:w'.heap[1]?=w.heap[1]?):aJ w':=λj a=>by
 rw [<- h j a];unfold World.cell?;rw [e]
def aJ.lt (h:aJ w):1<w.heap.size:=Ui (h 0 (by decide))
def bh.keep (h:bh w) (e:w'.heap[2]?=w.heap[2]?):bh w':=λj a=>by
 rw [<- h j a];unfold World.cell?;rw [e]
structure zQ (D L G:Nat):Prop where
 r:dg D L G=ZW
 d1:1<=D
 d:D<=12
 l1:1<=L
 l4:L<=4
 g:G<=4
 div:D%L=0
 s:D+L+G<=16
structure pH (w:ZU) (v p D L G ps ho:Nat) (A:aC) (F:aH):Prop where
 vol:bt w v p D L G ps ho
 arr:az w p A F
 laid:bh w
 tab:aJ w
 room:3<=w.heap.size
 v:¬ F.S v
 g:¬ F.S 2
 t:¬ F.S 1
 n:A.n=D+L+G
 par:zQ D L G
def pH.below {v:Nat} {A:aC} (h:pH w v p D L G ps ho A F) {B:Nat} (a:ZS B w w') (b:w.heap.size<=B):pH w' v p D L G ps ho A F:=
 ⟨h.vol.keep (a.block _ (T9 h.vol.lt b)),h.arr.below a b,h.laid.below a (T9 h.laid.lt b),h.tab.keep (a.block _ (T9 h.tab.lt b)),TZ h.room a.size,h.v,h.g,h.t,h.n,h.par⟩
def pH.turn {v:Nat} {A A':aC} (h:pH w v p D L G ps ho A F) (a:aa F.S w w') (b:az w' p A' F) (c:A'.n=A.n):pH w' v p D L G ps ho A' F:=
 ⟨h.vol.keep (a.block _ h.vol.lt h.v),b,h.laid.keep (a.block _ h.laid.lt h.g),h.tab.keep (a.block _ h.tab.lt h.t),TZ h.room a.size,h.v,h.g,h.t,c.trans h.n,h.par⟩
def Lm {t8:Nat} {ty:ZN} {x:ZT} {R:ZP->ZU->Prop} (e:fn.results=#[.cell t8 ty]) (c:a.defers=[{ target:=.collected D',args:=#[] }]) (h8:a.tmps.getD t8 ZZ=Z6 (ZX ⟨b,0,ZY⟩))
 (hl:∀ w,w.heap[b]?=Z.heap[b]?->(loadVar ty ⟨b,0,ZY⟩).run ZL w=.ok x w) (hK:Z.heap[D']?=ZX (.deferred (ZX []))) (hD:b≠D')
 (hR:R (Z3 x) (Z.putObj D' (.deferred ZY))):bodyPostM Fence.wide n ZL fn R .ret a Z:=by
 obtain ⟨f,g⟩:=a;simp only at c h8;subst c;refine ⟨by simp,.inl ⟨_,_,rfl,WE hK,?_⟩⟩;have c0:=hl (Z.putObj D' (.deferred ZY)) (U6 hD);refine ⟨x,?_,hR⟩;have d:f[t8]?.getD ZZ=Z6 (ZX ⟨b,0,ZY⟩):=by simpa using h8
 simp [results,e,asAddr,d,c0]
theorem Ln {s:Nat} (h:ZM Z b 133 (Z7 Z8 s)) (w:ZU) (e:w.heap[b]?=Z.heap[b]?):(loadVar 133 ⟨b,0,ZY⟩).run ZL w=.ok (Z7 Z8 s) w:=by
 have a:w.cell? ⟨b,0,ZY⟩=ZX (Z7 Z8 s):=(show ZM w b 133 (Z7 Z8 s) from e.trans h).cell;simp [go_sem,a]
end
def BY (h:k<64):2^k<18446744073709551616:=T9 (VS (by decide) h) lR
theorem fK (x k:Nat) (c:x<18446744073709551616) (d:k<=60) (w:ZU):ZR ZL 78 #[Z7 Z8 x,Z7 Z9 k] w λe w'=>e=Z3 (Z7 Z8 ((x|||2^k:Nat):Int))/\w'=w:=by
 have key:bits .or .u64 (x:Int) (IntKind.u64.wrap (2^k))=((x|||2^k:Nat):Int):=by
  have b:=BY (k:=k) (by omega);have e:((2:Int)^k)=((2^k:Nat):Int):=by rw [XE];rfl
  have a:IntKind.u64.wrap (2^k)=((2^k:Nat):Int):=by
   rw [e,Vd];generalize 2^k=q at *;omega
  rw [a];exact abT x (2^k) c b
 go_enter func78,ntmps78;go_wp2;go_ret;exact ⟨rfl,rfl⟩
section
attribute [local go_sem] Oper.semAt_some
def kD (f:Nat->Bool) (ds:a8):Nat:=ds.foldl (λs d=>if f d=ZW then s|||2^d else s) 0
def zR (ds:a8) {d:Nat} (h:f d=ZV):kD f (ds++[d])=kD f ds:=by unfold kD;rw [Wq];simp [h]
def zS (ds:a8) {d:Nat} (h:f d=ZW):kD f (ds++[d])=kD f ds|||2^d:=by unfold kD;rw [Wq];simp [h]
theorem xM (q:Nat->Bool) (l:a8) (h:∀ d∈l,d<N):kD q l<2^N:=by
 unfold kD;suffices ∀ (l:a8) (s:Nat),(∀ d∈l,d<N)->s<2^N->l.foldl (λs d=>if q d=ZW then s|||2^d else s) s<2^N from this l 0 h (Nat.pow_pos (by decide))
 intro l;induction l with
 | nil=>intro s _ a;exact a
 | cons d l ih=>
  intro s b a;refine ih _ (λx c=>b x (by simp [c])) ?_;show (if q d=ZW then s|||2^d else s)<2^N;split
  . exact WG a (VS (by decide) (b d (by simp)))
  . exact a
def zT (f:Nat->Bool) (ds:a8) (h:∀ d∈ds,d<16):kD f ds<65536:=xM (N:=16) f ds h
def tG (w:ZU) (b c f h:ZN) (d e g i:ZT):∃ a,(((w.alloc (Z4 #[d] b)).alloc (Z4 #[e] c)).alloc (Z4 #[g] f)).alloc (Z4 #[i] h)=a/\(ZM a w.heap.size b d/\ZM a (w.heap.size+1) c e/\ZM a (w.heap.size+1+1) f g/\ZM a (w.heap.size+1+1+1) h i)/\a.heap.size=w.heap.size+4/\bW w a:=by
 have j:=UH (w.alloc (Z4 #[d] b)) c e;have k:=UH ((w.alloc (Z4 #[d] b)).alloc (Z4 #[e] c)) f g;have l:=UH (((w.alloc (Z4 #[d] b)).alloc (Z4 #[e] c)).alloc (Z4 #[g] f)) h i;simp only [Uw] at j k l;exact ⟨_,rfl,⟨(((UH w _ _).alloc _).alloc _).alloc _,(j.alloc _).alloc _,k.alloc _,l⟩,by simp,(((bA w _).alloc (by simp) _).alloc (by simp;omega) _).alloc (by simp;omega) _⟩
structure IB (w:ZU) (v p b:Nat) (T:ZN) (u:ZT) (f:Nat->bz) (A:aC) (F:aH) (B S:Nat) (pre:List (Mb S)) (X:ZU):Prop where
 b0:ZM X w.heap.size 140 (Z6 (ZX ⟨v,0,ZY⟩))
 b1:ZM X (w.heap.size+1) 3 (Z7 Z9 b)
 b2:ZM X (w.heap.size+1+1) T u
 b3:ZM X (w.heap.size+1+1+1) 133 (Z7 Z8 (kD A.lost (dB pre):Nat))
 arr:az X p (A.putAt (dB pre) b f) F
 out:aa F.S w X
 size:B<=X.heap.size
section
variable {w:ZU} {v p D L G ps ho b:Nat} {T:ZN} {u:ZT} {f:Nat->bz} {A:aC} {F:aH} {B S:Nat}
def IB.own (t:w.heap.size+4<=B) (r:∀ k,F.S k->k<w.heap.size):OwnFrom B (IB w v p b T u f A F B S):=by
 rintro pre X Y row ⟨d,g,h,i,j,l,m⟩ c s;have a:∀ k,k<w.heap.size+4->Y.heap[k]?=X.heap[k]?:=λk a=>c.block k (by omega) (λe=>by have:=(s k e.symm).1;omega);exact ⟨(a _ (by omega)).trans d,(a _ (by omega)).trans g,(a _ (by omega)).trans h,(a _ (by omega)).trans i,j.keep λk n=>a k (by have:=r k n;omega),l.later (T:=λk=>w.heap.size<=k) ⟨c.os,c.tape,c.output,c.size,λk o q=>a k (by omega)⟩ (λk o q=>by omega),TZ m c.size⟩
def IB.next {pre:List (Mb S)} {x:Mb S} {w2:ZU} (h:pH w v p D L G ps ho A F) (a:IB w v p b T u f A F B S pre X) (I:w.heap.size+4<=B) (C:az w2 p (A.putAt (dB pre++[x.1]) b f) F) (i:aa F.S X w2) :
 ∀ Y,(Y=w2/\kD A.lost (dB pre++[x.1])=kD A.lost (dB pre))\/Y=w2.setCell ⟨w.heap.size+1+1+1,0,ZY⟩ (Z7 Z8 (kD A.lost (dB pre++[x.1]):Nat)) ->
 (X.heap.size<=Y.heap.size/\∀ k o,B<=k->X.heap[k]?=ZX o->Y.heap[k]?=ZX o)/\aJ Y/\IB w v p b T u f A F B S (pre++[x]) Y:=λY j=>by
 have m:∀ k,F.S k->k<w.heap.size:=λk c=>h.arr.RS c;have g:∀ k,w.heap.size<=k->k<X.heap.size->w2.heap[k]?=X.heap[k]?:=λk c y=>i.block k y (λq=>by have:=m k q;omega);have d:∀ k,k≠w.heap.size+1+1+1->Y.heap[k]?=w2.heap[k]?:=λk c=>by
  rcases j with ⟨rfl,_⟩|rfl
  . rfl
  . exact Uj _ _ _ _ c
 have l:Y.heap.size=w2.heap.size/\Y.os=w2.os/\Y.tape=w2.tape/\Y.output=w2.output:=by
  rcases j with ⟨rfl,_⟩|rfl
  . exact ⟨rfl,rfl,rfl,rfl⟩
  . exact ⟨by simp [World.setCell],rfl,rfl,rfl⟩
 have s:=a.b3.lt;have:=i.size;have:=a.size;have n:aa F.S w Y:=(a.out.trans i).later (T:=λk=>k=w.heap.size+1+1+1) ⟨l.2.1,l.2.2.1,l.2.2.2,by omega,λk _ z=>d k z⟩ (λk E H=>by omega);have r:ZM w2 (w.heap.size+1+1+1) 133 (Z7 Z8 (kD A.lost (dB pre):Nat)):=(g _ (by omega) s).trans a.b3;refine ⟨⟨by omega,λk o c ho=>(d k (by omega)).trans ((g k (by omega) (T5.1 ho).1).trans ho)⟩,h.tab.keep (n.block _ h.tab.lt h.t),
  ⟨(d _ (by omega)).trans ((g _ (by omega) (by omega)).trans a.b0),(d _ (by omega)).trans ((g _ (by omega) (by omega)).trans a.b1),(d _ (by omega)).trans ((g _ (by omega) (by omega)).trans a.b2),?_,by rw [eM];exact C.keep λk c=>d k (by have:=m k c;omega),n,by omega⟩⟩
 rw [eM];rcases j with ⟨rfl,e⟩|rfl
 . rw [e];exact r
 . exact r.set _
def IB.done {pre:List (Mb S)} (c:IB w v p b T u f A F B S pre X) (g:dB pre=ab S) (j:∀ k,F.S k->k<w.heap.size) (o:fn.results=#[.cell 8 133]) (l:a.defers=[{ target:=.collected D',args:=#[] }]) (h8:a.tmps.getD 8 ZZ=Z6 (ZX ⟨w.heap.size+1+1+1,0,ZY⟩)) (hK:X.heap[D']?=ZX (.deferred (ZX []))) (hD:B<=D') (hB:w.heap.size+4<=B) :
 bodyPostM Fence.wide n ZL fn (λe w'=>e=Z3 (Z7 Z8 (kD A.lost (ab S):Nat))/\az w' p (A.putAt (ab S) b f) F/\aa F.S w w') .ret a (X.setCell ⟨w.heap.size+1+1+1,0,ZY⟩ (Z7 Z8 (kD A.lost (dB pre):Nat))):=by
 have h:=(V9 X ⟨w.heap.size+1+1+1,0,ZY⟩ (Z7 Z8 (kD A.lost (dB pre):Nat))).same D' _ hK rfl;refine Lm (b:=w.heap.size+1+1+1) (t8:=8) o l h8 (Ln (s:=kD A.lost (dB pre)) (c.b3.set _)) h (by omega) ⟨by rw [g],?_,?_⟩
 . have d:=c.arr;rw [g] at d;exact d.keep λk m=>by have:=j k m;exact (U6 (by omega)).trans (Uj _ _ _ _ (by show k≠w.heap.size+1+1+1;omega))
 . exact c.out.later (T:=λk=>w.heap.size<=k) ⟨rfl,rfl,rfl,by simp [World.setCell,World.putObj],λk _ i=>(U6 (by omega)).trans (Uj _ _ _ _ (by show k≠w.heap.size+1+1+1;omega))⟩ (λk q i=>by omega)
end
theorem gT {v:Nat} {A:aC} (g:pH w v p D L G ps ho A F) (b S:Nat) (hb:b<A.nb) (hS:S<65536) (k6:∀ i,i∈ab S->i<A.n) (r:bz) (hr:r.ok) :
 ZR ZL 118 #[Z6 (ZX ⟨v,0,ZY⟩),Z7 Z9 b,cF r,Z7 Z8 S] w λe w'=>e=Z3 (Z7 Z8 (kD A.lost (ab S):Nat))/\az w' p (A.putAt (ab S) b (λ_=>r)) F/\aa F.S w w':=by
 obtain ⟨n,HN⟩:∃ n:Nat,cJ (9<=n):=⟨9,TY _⟩;obtain ⟨rv,I⟩:=nM (cF r);have k9:∃ m l,rv=.iface m l:=by cases r<;>exact ⟨_,_,I.symm⟩
 obtain ⟨m,l,rfl⟩:=k9;rw [I];have HR:=ak I;clear I;have M:∀ k,F.S k->k<w.heap.size:=λk t=>g.arr.RS t;refine (Vj (n:=n)).1 ?_;refine Wo func118 rfl trivial ?_ rfl;simp only [ntmps118,UL,UG,U0,YK,YL,Vr,Vs,Vt,Vu,Ut,UX];gi_wp2;obtain ⟨a,hy,⟨U,V,W,Y⟩,P,hq⟩:=tG w 140 3 215 133 (Z6 (ZX ⟨v,0,ZY⟩)) (Z7 Z9 (b:Int)) (.iface m l) (Z7 Z8 0);rw [hy];clear hy;refine dk (dN S a) ?_;rintro e w' ⟨rfl,rfl⟩;have k0:(a.alloc (Z4 #[Z7 Z8 (S:Int)] 133)).heap.size=a.heap.size+1:=by simp
 have hs:(a.alloc (Z4 #[Z7 Z8 (S:Int)] 133)).cell? ⟨a.heap.size,0,ZY⟩=ZX (Z7 Z8 (S:Int)):=(UH a 133 (Z7 Z8 (S:Int))).cell;have H:bW w (a.alloc (Z4 #[Z7 Z8 (S:Int)] 133)):=hq.alloc (by omega) _;have hv:IB w v p b 215 (.iface m l) (λ_=>r) A F (a.heap.size+1) S [] (a.alloc (Z4 #[Z7 Z8 (S:Int)] 133)):=
  ⟨U.alloc _,V.alloc _,W.alloc _,Y.alloc _,by rw [show dB ([]:List (Mb S))=[] from rfl,wM];exact g.arr.below H lR,aa.RT H _,by omega⟩
 obtain ⟨w6,hz⟩:=nM (a.alloc (Z4 #[Z7 Z8 (S:Int)] 133));have Z:=ak hs;have z:=al hv H;have k5:=ak P;clear hs hv U V W Y hq H P;gi_wp2;obtain ⟨P,kc⟩:w.heap.size+4<=a.heap.size/\a.heap.size<=w.heap.size+4:=by have:=k5.out;omega
 rw [hz] at k0 Z z;clear hz;rw [<- k0] at z;refine Wp rfl (by have:=HN.o;omega) (gf:=147) (lb:=#[Z6 (ZX ⟨a.heap.size,0,ZY⟩)]) rfl trivial (VC func147 (by kernel_rfl) rfl)
  (nt (n-1) a.heap.size S hS w6 (by omega) Z.out (by have:=g.room;omega) (g.tab.mono (by exact g.tab.lt) z.out.2)) (λh k=>qK h k) (qM (by have:=g.room;omega)) (T6 _ _) (λ_=>rfl)
  (IB w v p b 215 (.iface m l) (λ_=>r) A F w6.heap.size S) (λ_ _ _=>False) (IB.own (by omega) M) (λ_ _ _ _ _ h _ _=>h.elim) z.out.1
  (λx=>{ tmps:=#[Z6 (ZX ⟨v,0,ZY⟩),Z7 Z9 (b:Int),.iface m l,Z7 Z8 (S:Int),Z6 (ZX ⟨w.heap.size,0,ZY⟩),Z6 (ZX ⟨w.heap.size+1,0,ZY⟩),Z6 (ZX ⟨w.heap.size+1+1,0,ZY⟩),ZZ,Z6 (ZX ⟨w.heap.size+1+1+1,0,ZY⟩),Z7 Z9 (x.1:Int),Z7 Z8 (S:Int),.func (.func 147) #[] #[Z6 (ZX ⟨a.heap.size,0,ZY⟩)],Z7 Z9 (x.1:Int),ZZ,ZZ,ZZ,ZZ,ZZ,ZZ,ZZ,ZZ,ZZ,ZZ],defers:=[] }) ?assign ?body ?done ?stop
 case assign=>
  intro l2 x X Kk hK;unfold xL;gi_wp2;exact hK
 case body=>
  rintro l2 pre x X c hg;have ka:x.1∈ab S:=cZ.2 x.2;have E:=g.turn c.out c.arr rfl;have ke:=zT A.lost (dB pre) (λd hd=>by obtain ⟨y,_,rfl⟩:=Ua.1 hd;exact y.2.1);have J:=oy E.vol E.arr x.1 b (k6 _ ka) hb r hr E.laid;rw [HR.o] at J;have c0:=c.b0.cell;have c1:=c.b1.cell;have c2:=c.b2.cell;have j:=ak c;clear c hg E;gi_wp2;refine dH J ?_;clear J c0 c1 c2;rintro e w2 ⟨y,rfl,B,C,k7⟩;rw [sS A (dB pre) x.1 b (λ_=>r)] at B;have N:=j.o.next (w2:=w2) g (by omega) B C;have T:=ak N;rcases k7 with ⟨s,rfl⟩|⟨s,q,rfl,-⟩
  . have HL:=ak s;clear B N C s;gi_wp2;obtain ⟨u,Q,R⟩:=T.o w2 (.inl ⟨rfl,zR (f:=A.lost) _ HL.o⟩);exact ⟨⟨u.1,λk o t ho _=>u.2 k o t ho⟩,λ_=>Q,R⟩
  . have K:ZM w2 (w.heap.size+1+1+1) 133 (Z7 Z8 (kD A.lost (dB pre):Nat)):=(C.block _ j.o.b3.lt (λq=>by have:=M _ q;omega)).trans j.o.b3;have d0:=K.cell;have d1:=K.frozen;have O:=fK (kD A.lost (dB pre)) x.1 (by omega) (by omega) w2;rw [<- zS (f:=A.lost) _ s] at O;unfold r9;clear B C N K s;generalize kD A.lost (dB pre)=ls at *;generalize kD A.lost (dB pre++[x.1])=kf at *;gi_wp2;refine dH O ?_;rintro e w3 ⟨rfl,rfl⟩;clear O;gi_wp2;obtain ⟨u,Q,R⟩:=T.o _ (.inr rfl);exact ⟨⟨u.1,λk o t ho _=>u.2 k o t ho⟩,λ_=>Q,R⟩
 case done=>
  rintro D' xs X hp kb c hK;have c3:=c.b3.cell;have f3:=c.b3.frozen;have j:=al c hK;clear c hK;gi_wp2;exact j.o.1.done kb M results118 rfl rfl j.o.2 hp (by omega)
 case stop=>
  rintro D' cc pre X hp k8 hx hK;exact hx.elim
def Of (w:ZU) (base g:Nat) (R:List a8):Prop:=base<=g/\g<w.heap.size/\∀ i (hi:i<R.length),∃ b off c,w.cell? ⟨g,i,ZY⟩=ZX (Z5 (ZX ⟨b,off,ZY⟩) 44 c)/\base<=b/\b<w.heap.size/\w.rangeAt b off (aI R[i])/\R[i].length=44/\∀ x∈R[i],x<256
def Of.keep {R:List a8} (h:Of w base g R) (f:w.heap.size<=w'.heap.size) (e:∀ k,base<=k->k<w.heap.size->w'.heap[k]?=w.heap[k]?):Of w' base g R:=by
 obtain ⟨a,d,n⟩:=h;refine ⟨a,T9 d f,λi o=>?_⟩;obtain ⟨b,off,c,q,l,m,r,s⟩:=n i o;exact ⟨b,off,c,(Uo (e g a d)).trans q,l,T9 m f,λj v p=>(Uo (e b l m)).trans (r j v p),s⟩
theorem rE {v:Nat} {A:aC} (t:pH w v p D L G ps ho A F) (b S:Nat) (hb:b<A.nb) (r:S<65536) (kr:∀ i,i∈ab S->i<A.n)
 {g m c base:Nat} {R:List a8} (hR:Of w base g R) (hv:∀ i,i∈ab S->i<R.length) (hm:R.length<=m) (h4:∀ k,F.S k->k<base) :
 ZR ZL 86 #[Z6 (ZX ⟨v,0,ZY⟩),Z7 Z9 b,Z5 (ZX ⟨g,0,ZY⟩) m c,Z7 Z8 S] w λe w'=>e=Z3 (Z7 Z8 (kD A.lost (ab S):Nat))/\az w' p (A.putAt (ab S) b (λi=>.shard (R.getD i []))) F/\aa (F.S) w w':=by
 obtain ⟨n,HN⟩:∃ n:Nat,cJ (9<=n):=⟨9,TY _⟩;have hr:∀ k,F.S k->k<w.heap.size:=λk E=>t.arr.RS E;have k0:∀ i,i∈ab S->(bz.shard (R.getD i [])).ok:=λi a=>by
  have kk:=hv i a;obtain ⟨_,_,_,_,_,_,_,s,B⟩:=hR.2.2 i kk;have e:R.getD i []=R[i]:=by simp [kk]
  rw [e];exact ⟨s,B⟩
 refine (Vj (n:=n)).1 ?_;refine Wo func86 rfl trivial ?_ rfl;simp only [ntmps86,UL,UG,U0,YK,YL,Vr,Vs,Vt,Vu,Ut,UX];gi_wp2;obtain ⟨l,km,⟨h0,O,I,h3⟩,kb,kh⟩:=tG w 140 3 108 133 (Z6 (ZX ⟨v,0,ZY⟩)) (Z7 Z9 (b:Int)) (Z5 (ZX ⟨g,0,ZY⟩) m c) (Z7 Z8 0);rw [km];clear km;refine dk (dN S l) ?_;rintro e w' ⟨rfl,rfl⟩;have kc:(l.alloc (Z4 #[Z7 Z8 (S:Int)] 133)).heap.size=l.heap.size+1:=by simp
 have k7:(l.alloc (Z4 #[Z7 Z8 (S:Int)] 133)).cell? ⟨l.heap.size,0,ZY⟩=ZX (Z7 Z8 (S:Int)):=(UH l 133 (Z7 Z8 (S:Int))).cell;have U:bW w (l.alloc (Z4 #[Z7 Z8 (S:Int)] 133)):=kh.alloc (by omega) _;have kj:IB w v p b 108 (Z5 (ZX ⟨g,0,ZY⟩) m c) (λi=>.shard (R.getD i [])) A F (l.heap.size+1) S [] (l.alloc (Z4 #[Z7 Z8 (S:Int)] 133)):=
  ⟨h0.alloc _,O.alloc _,I.alloc _,h3.alloc _,by rw [show dB ([]:List (Mb S))=[] from rfl,wM];exact t.arr.below U lR,aa.RT U _,by omega⟩
 obtain ⟨w6,ko⟩:=nM (l.alloc (Z4 #[Z7 Z8 (S:Int)] 133));have ke:=ak k7;have T:=al kj U;have kp:=ak kb;clear k7 kj h0 O I h3 kh U kb;gi_wp2;obtain ⟨kb,q7⟩:w.heap.size+4<=l.heap.size/\l.heap.size<=w.heap.size+4:=by have:=kp.out;omega
 rw [ko] at kc ke T;clear ko;rw [<- kc] at T;refine Wp rfl (by have:=HN.o;omega) (gf:=147) (lb:=#[Z6 (ZX ⟨l.heap.size,0,ZY⟩)]) rfl trivial (VC func147 (by kernel_rfl) rfl)
  (nt (n-1) l.heap.size S r w6 (by omega) ke.out (by have:=t.room;omega) (t.tab.mono (by exact t.tab.lt) T.out.2)) (λh k=>qK h k) (qM (by have:=t.room;omega)) (T6 _ _) (λ_=>rfl)
  (IB w v p b 108 (Z5 (ZX ⟨g,0,ZY⟩) m c) (λi=>.shard (R.getD i [])) A F w6.heap.size S) (λ_ _ _=>False) (IB.own (by omega) hr) (λ_ _ _ _ _ h _ _=>h.elim) T.out.1
  (λx=>{ tmps:=#[Z6 (ZX ⟨v,0,ZY⟩),Z7 Z9 (b:Int),Z5 (ZX ⟨g,0,ZY⟩) m c,Z7 Z8 (S:Int),Z6 (ZX ⟨w.heap.size,0,ZY⟩),Z6 (ZX ⟨w.heap.size+1,0,ZY⟩),Z6 (ZX ⟨w.heap.size+1+1,0,ZY⟩),ZZ,Z6 (ZX ⟨w.heap.size+1+1+1,0,ZY⟩),Z7 Z9 (x.1:Int),Z7 Z8 (S:Int),.func (.func 147) #[] #[Z6 (ZX ⟨l.heap.size,0,ZY⟩)],Z7 Z9 (x.1:Int),ZZ,ZZ,ZZ,ZZ,ZZ,ZZ,ZZ,ZZ,ZZ,ZZ,ZZ,ZZ,ZZ,ZZ,ZZ,ZZ,ZZ],defers:=[] }) ?assign ?body ?done ?stop
 case assign=>
  intro l2 x X Kk hK;unfold xL;gi_wp2;exact hK
 case body=>
  rintro l2 pre x X a k8;have Y:x.1∈ab S:=cZ.2 x.2;have K:=t.turn a.out a.arr rfl;have C:Of X base g R:=hR.keep a.out.size (λk E kx=>a.out.block k kx (λq=>by have:=h4 k q;omega));have N:=aE a K C;clear k8 a K C;gi_wp2;obtain ⟨a,K,C⟩:=N.o;obtain ⟨bl,off,rc,ki,q8,ks,k5,k6,k7⟩:=C.2.2 x.1 (hv _ Y);have q5:=hv _ Y;obtain ⟨sh,ka⟩:=nM (R[x.1]);have hs:R.getD x.1 []=sh:=by rw [<- ka];simp [q5]
  rw [ka] at k5 k6;have q9:(x.1:Int)<(m:Int):=by omega
  have V:(aI sh).toArray.size=44:=by rw [UL,aW,k6]
  have k9:∀ w',aa F.S X w'->w'.cell? ⟨g,x.1,ZY⟩=ZX (Z5 (ZX ⟨bl,off,ZY⟩) 44 rc)/\w'.rangeAt bl off (aI sh):=λw' hO=>⟨(Uo (hO.block g C.2.1 λq=>by have:=h4 _ q;have:=C.1;omega)).trans ki,λj u hu=>(Uo (hO.block bl ks λq=>by have:=h4 _ q;omega)).trans (k5 j u hu)⟩;have h5:=λw' (O:az w' p (A.putAt (dB pre) b (λi=>.shard (R.getD i []))) F) (I:pH w' v p D L G ps ho (A.putAt (dB pre) b (λi=>.shard (R.getD i []))) F)=>oy I.vol O x.1 b (kr _ Y) hb _ (k0 _ Y) I.laid;rw [hs] at h5;obtain ⟨k1,k2⟩:=k9 X (aa.refl _ _);refine eC (fV _) 99 [(0,ZW),(1,ZW),(2,ZW),(3,ZW),(4,ZW),(5,ZW),(6,ZW),(7,ZW),(8,ZW),(9,ZW),(10,ZW),(11,ZV),(12,ZW)] (λw'=>w'.cell? ⟨w.heap.size,0,ZY⟩=ZX (Z6 (ZX ⟨v,0,ZY⟩))/\w'.cell? ⟨w.heap.size+1,0,ZY⟩=ZX (Z7 Z9 b)/\w'.cell? ⟨w.heap.size+1+1,0,ZY⟩=ZX (Z5 (ZX ⟨g,0,ZY⟩) m c)/\w'.cell? ⟨g,x.1,ZY⟩=ZX (Z5 (ZX ⟨bl,off,ZY⟩) 44 rc)/\w'.rangeAt bl off (aI sh)) (by kernel_rfl) (by kernel_rfl) ⟨a.b0.cell,a.b1.cell,a.b2.cell,k1,k2⟩ ?_;iterate 8 (refine aZ rfl rfl ?_;apply YH;refine ⟨λw' r=>?_,?_⟩;(obtain ⟨s1,s2,s3,s4,s5⟩:=r;first|(go_simp;done)|(go_simp;exact rfl));simp only [Act.put,Ug,Uf,Uh])
  refine aZ rfl rfl ⟨_,λw' r=>by simp [execOp,Act.eval,run_loadAt_mid (P:=ZL) w' bl off 211 (aI sh) _ r.2.2.2.2 ab4 rfl (by rw [aW,k6];kernel_rfl)];rfl,?_⟩;have hy:∀ z:Array ZT,z.size=44->YJ (λcs x=>cs.setIfInBounds x.snd x.fst) z (aI sh).toArray.zipIdx 0 44=(aI sh).toArray:=λz hz=>xG z _ 44 hz V;have ha:∀ w',az w' p (A.putAt (dB pre) b (λi=>.shard (R.getD i []))) F->pH w' v p D L G ps ho (A.putAt (dB pre) b (λi=>.shard (R.getD i []))) F->ZR ZL 116 #[Z6 (ZX ⟨v,0,ZY⟩),Z7 Z9 (x.1:Nat),Z7 Z9 (b:Nat),.iface 213 (.agg (aI sh).toArray)] w' _:=h5;have H:=al ha K;obtain ⟨sa,he⟩:=nM ((aI sh).toArray);rw [he] at V hy H ⊢;clear h5 ha;iterate 2 (refine aZ rfl rfl ?_;apply YH;refine ⟨λw' r=>?_,?_⟩;(obtain ⟨s1,s2,s3,s4,s5⟩:=r;first|(go_simp;done)|(go_simp;exact rfl));simp only [Act.put,Ug,Uf,Uh])
  refine jF (fV _) (H.o.1 X.drew (H.o.2.arr.keep λ_ _=>rfl) (H.o.2.below ((T6 _ X).drew) lR)) rfl rfl nofun (by go_simp) ?_;rintro e w2 ⟨y,rfl,hq,kg,kz⟩;rw [<- hs,sS A (dB pre) x.1 b (λi=>.shard (R.getD i []))] at hq;have Q:=(aa.drew X).trans kg;obtain ⟨s,B⟩:=k9 w2 Q;have H2:=ak (a.next (w2:=w2) t (by omega) hq Q);have J:∀ k,w.heap.size<=k->k<X.heap.size->w2.heap[k]?=X.heap[k]?:=λk E kv=>Q.block k kv (λq=>by have:=hr k q;omega);have hp:ZM w2 (w.heap.size+1+1+1) 133 (Z7 Z8 (kD A.lost (dB pre):Nat)):=(J _ (by omega) a.b3.lt).trans a.b3;have d0:=hp.cell;have d1:=hp.frozen;have ky:=zT A.lost (dB pre) (λd hd=>by obtain ⟨y,_,rfl⟩:=Ua.1 hd;exact y.2.1);have W:=fK (kD A.lost (dB pre)) x.1 (by omega) (by omega) w2;have Z:=YM (XJ ((J _ (by omega) a.b0.lt).trans a.b0)) (YM (XJ ((J _ (by omega) a.b1.lt).trans a.b1)) (YM (XJ ((J _ (by omega) a.b2.lt).trans a.b2)) (YM s B)));clear hq kg Q a K C ki k5 k9 k1 k2 s B H he kc hs ka J hp ky;rcases kz with ⟨M,rfl⟩|⟨M,q,rfl,-⟩
  . refine ⟨_,rfl,λ_=>Z,?_⟩;simp only [Act.put,Ug,Uf,Uh];refine aZ rfl rfl ?_;apply YH;refine ⟨λw' r=>?_,?_⟩;(obtain ⟨s1,s2,s3,s4,s5⟩:=r;first|(go_simp;done)|(go_simp;exact rfl));simp only [Act.put,Ug,Uf,Uh];rename_i hK
    refine hK _ _ ?_;have HL:=ak M;clear hK Z hy V W d0 d1 M;gi_wp2;obtain ⟨s,B,q3⟩:=H2.o w2 (.inl ⟨rfl,zR (f:=A.lost) _ HL.o⟩);exact ⟨⟨s.1,λk o E ho _=>s.2 k o E ho⟩,λ_=>B,q3⟩
  . unfold r9;refine ⟨_,rfl,λ_=>Z,?_⟩;simp only [Act.put,Ug,Uf,Uh];refine aZ rfl rfl ?_;apply YH;refine ⟨λw' r=>?_,?_⟩;(obtain ⟨s1,s2,s3,s4,s5⟩:=r;first|(go_simp;done)|(go_simp;exact rfl));simp only [Act.put,Ug,Uf,Uh];rename_i hK
    refine hK _ _ ?_;rw [<- zS (f:=A.lost) _ M] at W;clear hK Z hy V M;generalize kD A.lost (dB pre)=ls at *;generalize kD A.lost (dB pre++[x.1])=qa at *;gi_wp2;refine dH W ?_;rintro e w3 ⟨rfl,rfl⟩;clear W;gi_wp2;obtain ⟨s,B,q3⟩:=H2.o _ (.inr rfl);exact ⟨⟨s.1,λk o E ho _=>s.2 k o E ho⟩,λ_=>B,q3⟩
 case done=>
  rintro D' xs X kf q6 a hK;have c3:=a.b3.cell;have f3:=a.b3.frozen;have N:=al a hK;clear a hK;gi_wp2;exact N.o.1.done q6 hr results86 rfl rfl N.o.2 kf (by omega)
 case stop=>
  rintro D' cc pre X kf q4 hx hK;exact hx.elim
end
section
attribute [local go_sem] Oper.semAt_some
abbrev Ch (D:Nat):={ i:Nat // i<D }
def DP (g i:Nat):ZT:=Z5 (ZX ⟨g,i*44,ZY⟩) 44 44
def GB (g:Nat) {D:Nat} (x:Ch D):Array ZT:=#[DP g x.1]
noncomputable def RCh:Array ZO:=((Tryz.f217.body.bind (DO · 3))).getD #[]
def aba:List (Op×Option Nat×a8):=[(Op.load 3 (Z1 2),ZX 13,[]),
 (Op.load 40 (Z1 1),ZX 14,[]),
 (Op.move (Z1 4),ZX 15,[]),
 (Op.slice 40 (Z1 14) (ZX (Z1 15)) ZY ZY,ZX 16,[1,2]),
 (Op.call { callee:=Callee.builtin Builtin.len,args:=#[Z1 16],argTypes:=#[40] },ZX 17,[3]),
 (Op.call { callee:=Callee.builtin Builtin.min,args:=#[Z1 13,Z1 17],argTypes:=#[3,3] },ZX 18,[0,4]),
 (Op.assign (Z1 18),ZX 5,[5,0,1,2,3,4,5])]
def IC:bF RCh 5 19 aba:=eU (by kernel_rfl) (by kernel_rfl)
def abb (g D k:Nat):List ZT:=[Z7 Z9 44,Z5 (ZX ⟨g,0,ZY⟩) (D*44) (D*44),Z7 Z9 (k*44:Nat),Z5 (ZX ⟨g,k*44,ZY⟩) (D*44-k*44) (D*44-k*44),Z7 Z9 (D*44-k*44:Nat),Z7 Z9 44,Z7 Z9 44]
theorem zU {b1 b2:Nat} (F:RCh=ops) (s:k<D) (C:w.cell? ⟨b1,0,ZY⟩=ZX (Z5 (ZX ⟨g,0,ZY⟩) (D*44) (D*44))) (E:w.cell? ⟨b2,0,ZY⟩=ZX (Z7 Z9 44)) (M:a.tmps.size=31)
 (z:a.eval (Z1 1)=Z6 (ZX ⟨b1,0,ZY⟩)) (A:a.eval (Z1 2)=Z6 (ZX ⟨b2,0,ZY⟩)) (B:a.eval (Z1 4)=Z7 Z9 (k*44:Nat))
 (G:Q .normal (Act.RV a 5 [Z7 Z9 44,a.eval (Z1 6),a.eval (Z1 7),a.eval (Z1 8),a.eval (Z1 9),a.eval (Z1 10),a.eval (Z1 11),a.eval (Z1 12),Z7 Z9 44,Z5 (ZX ⟨g,0,ZY⟩) (D*44) (D*44),Z7 Z9 (k*44:Nat),Z5 (ZX ⟨g,k*44,ZY⟩) (D*44-k*44) (D*44-k*44),Z7 Z9 (D*44-k*44:Nat),Z7 Z9 44]) w.drew) :
 (Code.region 3 ops ZW).wp ZL Q a w:=by
 subst F;refine gA (by kernel_rfl) IC a w (by omega) (λi u _=>u=(abb g D k).getD i ZZ) (λ_ w'=>w'=w.drew) rfl ?_ ?_
 . intro i x;have c1:w.drew.cell? ⟨b1,0,ZY⟩=ZX (Z5 (ZX ⟨g,0,ZY⟩) (D*44) (D*44)):=C;have I:w.drew.cell? ⟨b2,0,ZY⟩=ZX (Z7 Z9 44):=E;match i,x with
   | 0,_=>
    intro o c w' l r ho f s p q j d b;subst d;have u0:c.eval (Z1 2)=Z6 (ZX ⟨b2,0,ZY⟩):=(s.slot 2 (by omega)).trans A;exact aK (v:=Z7 Z9 44) (by (conv at ho=>rhs;whnf);simp only [execOp,ho,u0];go_simp) f ⟨rfl,rfl,kq⟩
   | 1,_=>
    intro o c w' l r ho f s p q j d b;subst d;have u0:c.eval (Z1 1)=Z6 (ZX ⟨b1,0,ZY⟩):=(s.slot 1 (by omega)).trans z;exact aK (v:=Z5 (ZX ⟨g,0,ZY⟩) (D*44) (D*44)) (by (conv at ho=>rhs;whnf);simp only [execOp,ho,u0];go_simp) f ⟨rfl,rfl,kq⟩
   | 2,_=>exact λo c w' l r ho f s p q j d b=>aK (bT ho ((s.slot 4 (by omega)).trans B) w') f ⟨d,rfl,kq⟩
   | 3,_=>
    intro o c w' l r ho f t p q j d b;have u0:c.eval (Z1 14)=Z5 (ZX ⟨g,0,ZY⟩) (D*44) (D*44):=b 1 (j 1 (by decide));have u1:c.eval (Z1 15)=Z7 Z9 (k*44:Nat):=b 2 (j 2 (by decide));have K:k*44<D*44:=(by omega);have H:c.tmps[15]?.getD ZZ=Z7 Z9 (k*44:Nat):=(by simpa [Act.eval] using u1);have L:¬ D*44=k*44:=(by omega);refine aK (v:=Z5 (ZX ⟨g,k*44,ZY⟩) (D*44-k*44) (D*44-k*44)) ?_ f ⟨d,rfl,kq⟩;(conv at ho=>rhs;whnf);simp only [execOp,ho,u0];generalize k*44=N at *;generalize D*44=y at *;go_simp;intro h;omega
   | 4,_=>
    intro o c w' l r ho f t p q j d b;have u0:c.eval (Z1 16)=Z5 (ZX ⟨g,k*44,ZY⟩) (D*44-k*44) (D*44-k*44):=b 3 (j 3 (by decide));refine aK (v:=Z7 Z9 (D*44-k*44:Nat)) ?_ f ⟨d,rfl,kq⟩;(conv at ho=>rhs;whnf);simp only [execOp,ho,resolve,invoke,builtin,Ux,Vf,UK,V7,UI,Vh,u0];generalize D*44-k*44=y at *;go_simp
   | 5,_=>
    intro o c w' l r ho f t p q j d b;have u0:c.eval (Z1 13)=Z7 Z9 44:=b 0 (j 0 (by decide));have u1:c.eval (Z1 17)=Z7 Z9 (D*44-k*44:Nat):=b 4 (j 4 (by decide));refine aK (v:=Z7 Z9 44) ?_ f ⟨d,rfl,kq⟩;(conv at ho=>rhs;whnf);simp only [execOp,ho,resolve,invoke,builtin,Ux,Vf,UK,V7,UI,Vh,u0,u1,gJ];rw [TW (by omega)]
   | 6,_=>
    intro o c w' l r ho f t p q j d b;have u0:c.eval (Z1 18)=Z7 Z9 44:=b 5 (j 5 (by decide));exact aK (v:=Z7 Z9 44) (by (conv at ho=>rhs;whnf);simp [execOp,ho,u0]) f ⟨d,rfl,kq⟩
   | n+7,hn=>exact absurd hn (by show ¬ n+7<7;omega)
 . rintro c w' t m ⟨l,J,d⟩ b;subst d;have e:c=Act.RV a 5 [Z7 Z9 44,a.eval (Z1 6),a.eval (Z1 7),a.eval (Z1 8),a.eval (Z1 9),a.eval (Z1 10),a.eval (Z1 11),a.eval (Z1 12),Z7 Z9 44,Z5 (ZX ⟨g,0,ZY⟩) (D*44) (D*44),Z7 Z9 (k*44:Nat),Z5 (ZX ⟨g,k*44,ZY⟩) (D*44-k*44) (D*44-k*44),Z7 Z9 (D*44-k*44:Nat),Z7 Z9 44]:=t.out _ rfl (by omega) (λi x=>?_)
   . rw [e];exact G
   . match i,x with
     | 0,_=>exact b 6 (by decide)
     | 1,_=>exact m 6 (by decide)
     | 2,_=>exact m 7 (by decide)
     | 3,_=>exact m 8 (by decide)
     | 4,_=>exact m 9 (by decide)
     | 5,_=>exact m 10 (by decide)
     | 6,_=>exact m 11 (by decide)
     | 7,_=>exact m 12 (by decide)
     | 8,_=>exact b 0 (by decide)
     | 9,_=>exact b 1 (by decide)
     | 10,_=>exact b 2 (by decide)
     | 11,_=>exact b 3 (by decide)
     | 12,_=>exact b 4 (by decide)
     | 13,_=>exact b 5 (by decide)
     | n+14,hn=>exact absurd hn (by simp)
def Kp2 (b1 b2:Nat) (W W':ZU):Prop:=W'.heap[b1]?=W.heap[b1]?/\W'.heap[b2]?=W.heap[b2]?
theorem ED (n l b1 b2 g D:Nat) (O:D<=1000) (J m:List (Ch D)->ZU->Prop) (L:∀ pre W,J pre W->J pre W.drew)
 (M:∀ pre x W,J pre W->pre.length<D->YieldAt Fence.wide (n-1) ZL l (GB g x) W λe a=>
  (e=Z3 (Z2 ZW)/\J (pre++[x]) a/\Kp2 b1 b2 W a)\/(e=Z3 (Z2 ZV)/\m (pre++[x]) a))
 (W:ZU) (I:W.cell? ⟨b1,0,ZY⟩=ZX (Z5 (ZX ⟨g,0,ZY⟩) (D*44) (D*44))) (K:W.cell? ⟨b2,0,ZY⟩=ZX (Z7 Z9 44)) (G:J [] W) :
 CallsIn Fence.wide n ZL 217 #[.func (.yield l) #[] #[],Z6 (ZX ⟨b1,0,ZY⟩),Z6 (ZX ⟨b2,0,ZY⟩)] W λe a=>(∃ v,e=Z3 v) /\
  ((∃ C,C.map (·.1)=YF D/\J C a)\/(∃ pre,pre.map (·.1)<+:YF D/\m pre a)):=by
 refine Xk func217 rfl trivial ?_ rfl;simp only [ntmps217,UL,UG,U0,YK,YL,Vr,Vs,Vt,Vu,Ut,UX];gi_wp2;gi_loopw [4] (λp wr=>∃ (pre:List (Ch D)) (k:Nat),p=Z7 Z9 (k*44:Nat)/\k<=D/\pre.map (·.1)=YF k/\J pre wr/\wr.cell? ⟨b1,0,ZY⟩=ZX (Z5 (ZX ⟨g,0,ZY⟩) (D*44) (D*44))/\wr.cell? ⟨b2,0,ZY⟩=ZX (Z7 Z9 44))
  (λp _=>D*44-(intOf p).toNat)
 case atStart=>
  exact ⟨[],0,rfl,T7 _,rfl,G,I,K⟩
 case round=>
  obtain ⟨pre,k,rfl,R,b,c,c1,r⟩:=hrel;have u:pre.length=k:=by have:=UB List.length b;simpa using this
  by_cases d:k<D
  . have S:((k*44:Nat):Int)<((D*44:Nat):Int):=(by omega);have i:wr.drew.cell? ⟨b1,0,ZY⟩=ZX (Z5 (ZX ⟨g,0,ZY⟩) (D*44) (D*44)):=c1;have j:wr.drew.cell? ⟨b2,0,ZY⟩=ZX (Z7 Z9 44):=r;obtain ⟨fn,tmps,assign,body,B,A⟩:=M pre ⟨k,d⟩ wr.drew (L _ _ c) (by omega);unfold GB DP at B;simp only at B;have H:=a5 A c b u;clear A c b u;gi_wp2;refine wpIn_wide.2 (zU (by kernel_rfl) d c1 r rfl rfl rfl rfl ?_);rename_i hK
    refine hK _ _ ?_;clear hK;simp only [Act.RV,Act.put,Ug,Uf,Uh];have P:k*44+44-k*44=44:=(by omega);have Q:k*44+44<=D*44:=(by omega);generalize z:k*44=N at *;generalize ha:D*44=s at *;generalize hf:N+44=F at *;gi_wp2;refine ⟨λh=>(by cases h),H.o.1.mono ?_⟩;rintro e q (⟨rfl,w,y⟩|⟨rfl,t⟩)
    . have d1:q.cell? ⟨b1,0,ZY⟩=ZX (Z5 (ZX ⟨g,0,ZY⟩) s s):=(Uo y.1).trans i;have E:q.cell? ⟨b2,0,ZY⟩=ZX (Z7 Z9 44):=(Uo y.2).trans j;have f:=ak w;clear w;gi_wp2;go_roundw
      case rel=>exact ⟨pre++[⟨k,d⟩],k+1,by rw [show (k+1)*44=F by omega];congr 1;omega,by omega,by rw [UD,H.o.2.2.1,VF];rfl,f.o,by rw [ha];exact d1,E⟩
      case measure=>simp only [intOf];omega
    . have f:=ak t;clear t;gi_wp2;refine Uv (XF rfl _ _ _) rfl ?_;refine ⟨⟨_,rfl⟩,.inr ⟨pre++[⟨k,d⟩],?_,f.o⟩⟩;rw [UD,H.o.2.2.1];refine ⟨(YF D).drop (k+1),?_⟩;show YF k++[k]++_=_;rw [<- VF];have:YF (k+1)=(YF D).take (k+1):=by rw [List.take_range,Wm (by omega)]
      rw [this,Wl]
  . have z:k=D:=(by omega);subst z;gi_wp2;go_end0
    exact ⟨⟨_,rfl⟩,.inl ⟨pre,b,c⟩⟩
def zV (n b1 b2 g D:Nat) (k:D<=1000) (w:ZU) (i:b1<w.heap.size) (j:b2<w.heap.size) (d:w.cell? ⟨b1,0,ZY⟩=ZX (Z5 (ZX ⟨g,0,ZY⟩) (D*44) (D*44))) (f:w.cell? ⟨b2,0,ZY⟩=ZX (Z7 Z9 44)) :
 SeqStopsK Fence.wide n ZL 217 #[Z6 (ZX ⟨b1,0,ZY⟩),Z6 (ZX ⟨b2,0,ZY⟩)] (GB g (D:=D)) (Kp2 b1 b2) (λq=>q.map (·.1)=YF D) (λpre=>pre.map (·.1)<+:YF D) D w:=λl J b W a m _ o c=>
 ED n l b1 b2 g D k J b (λpre X h=>m pre X X.drew ZY h ⟨rfl,rfl,rfl,TY _,λ_ _ _=>rfl⟩ (λr e=>by cases e)) o W ((a.cell (p:=⟨b1,0,ZY⟩) i).trans d) ((a.cell (p:=⟨b2,0,ZY⟩) j).trans f) c
theorem ID (g D:Nat) (w:ZU) :
 ZR ZL 206 #[Z5 (ZX ⟨g,0,ZY⟩) (D*44) (D*44),Z7 Z9 44] w λe w'=>e=Z3 (.func (.func 217) #[] #[Z6 (ZX ⟨w.heap.size,0,ZY⟩),Z6 (ZX ⟨w.heap.size+1,0,ZY⟩)])/\w'=(w.alloc (Z4 #[Z5 (ZX ⟨g,0,ZY⟩) (D*44) (D*44)] 40)).alloc (Z4 #[Z7 Z9 44] 3):=by
 generalize D*44=a;go_enter func206,ntmps206;go_wp2;go_ret;exact ⟨rfl,rfl⟩
end
theorem nu {v:Nat} (h:bt w v p D L G ps ho) (a:zQ D L G):ZR ZL 112 #[Z6 (ZX ⟨v,0,ZY⟩)] w λe w'=>e=Z3 (Z7 Z8 ((2^(D+L+G)-1:Nat):Int))/\bW w w':=by
 obtain ⟨_,c1,k,l,_⟩:=h.cells;have r:=a.d;have u:=a.l4;have t:=a.g;have n:=a.s;clear a;obtain ⟨m,i⟩:=nM (D+L+G);obtain ⟨q,b⟩:=nM (((2^m-1:Nat):Int));rw [i,b];have f:=ak b;clear b;go_enter func112,ntmps112;go_wp2_with fail;refine (dQ (D:Int) (L:Int) (G:Int) w ⟨by omega,by omega⟩ ⟨by omega,by omega⟩ ⟨by omega,by omega⟩).mono ?_;rintro e j ⟨rfl,c⟩;rw [show ((D:Int)+(L:Int)+(G:Int))=(m:Int) by omega];have H:=ak c;clear c;go_wp2_with fail;refine (mu m (by omega) j).mono ?_;rw [f.o];rintro e x ⟨rfl,rfl⟩;go_wp2;go_ret;exact ⟨rfl,H.o⟩
def Tryz.SV:(ZL.info? 215).map (λi=>(i.zero,i.size,i.bytes))=ZX (ZX .nilIface,1,16):=by kernel_rfl
def vS (w:ZU) {ops:Array ZO} {rest:List ZO} {o:ZO} {a:Act} {Q:Exit->Act->ZU->Prop}
 (h:o.guard=ZY) (l c:Operand) (e:o.op=Op.makeSlice 182 l c) (C:Int) (n:Nat) (hl:a.eval l=Z7 Z9 C) (g:a.eval c=Z7 Z9 C) (f:C=(n:Int)) (i:n<=1000000)
 (hK:∀ w',w'.rowIs w.heap.size 215 n (λ_=>.nilIface)->bW w w'->w'.heap.size=w.heap.size+1->wpList ZL ops Q rest (a.put o.dst (Z5 (ZX ⟨w.heap.size,0,ZY⟩) n n)) w') :
 wpList ZL ops Q (o::rest) a w:=by
 refine V5 h λK d=>?_;have b:=XX (P:=ZL) 182 215 .nilIface 16 underlying182 Tryz.SV rfl .i64 .i64 n (by omega) (by omega) w;subst f;unfold Oper.wp;simp [execOp,e,hl,g,b,Result.andThen];exact d _ _ (hK _ (Xx w _ n _) (bA _ _) (Ul _ _))
def kF (r:bz):∃ a x,cF r=.iface a x:=by cases r<;>exact ⟨_,_,rfl⟩
def fU:Option bz->ZT
 | some r=>cF r
 | none=>.nilIface
def Lo (A:aC) (b k i:Nat):ZT:=if i<k then fU (A.R5 i b) else .nilIface
def QO {A:aC} {r:bz} (h:A.R5 k b=ZX r) (i:Nat):(if i=k then cF r else Lo A b k i)=Lo A b (k+1) i:=by
 unfold Lo;by_cases e:i=k
 . rw [TX e,TX (by omega),e,h];rfl
 . rw [TW e];by_cases a:i<k
   . rw [TX a,TX (by omega)]
   . rw [TW a,TW (by omega)]
def QP {A:aC} (h:A.R5 k b=ZY) (i:Nat):Lo A b k i=Lo A b (k+1) i:=by
 unfold Lo;by_cases e:i=k
 . rw [TW (by omega),TX (by omega),e,h];rfl
 . by_cases a:i<k
   . rw [TX a,TX (by omega)]
   . rw [TW a,TW (by omega)]
def abc (w1:ZU) (g p N b:Nat) (A:aC) (F:aH) (i:ZT) (wr:ZU):Prop:=∃ k:Nat,k<=N/\i=Z7 Z9 k/\az wr p A F/\aa (λj=>j=g\/F.S j) w1 wr/\wr.rowIs g 215 N (Lo A b k)
def Og (w:ZU) (p b:Nat) (A:aC) (F:aH) (e:ZP) (w':ZU):Prop:=∃ g,e=Z3 (Z5 (ZX ⟨g,0,ZY⟩) A.n A.n)/\w.heap.size<=g/\w'.rowIs g 215 A.n (λi=>fU (A.R5 i b))/\az w' p A F/\aa (F.S) w w'
theorem lJ {v:Nat} {A:aC} (c:pH w v p D L G ps ho A F) (b:Nat) (hb:b<A.nb) :
 ZR ZL 89 #[Z6 (ZX ⟨v,0,ZY⟩),Z7 Z9 b] w λe w'=>Og w p b A F e w':=by
 obtain ⟨_,c1,Z,c3,_⟩:=c.vol.cells;have hn:=c.n;have hD:=c.par.d;have hL:=c.par.l4;have hG:=c.par.g;have O:((D:Int)+(L:Int)+(G:Int))=((A.n:Nat):Int):=by omega
 have k0:A.n<=1000:=by omega
 go_enter func89,ntmps89;go_wp2_with fail;refine (dQ (D:Int) (L:Int) (G:Int) w ⟨by omega,by omega⟩ ⟨by omega,by omega⟩ ⟨by omega,by omega⟩).mono ?_;rintro e f ⟨rfl,T⟩;rw [O];clear O hn;simp only [];go_wp2_with (at_make;refine vS _ rfl (Z1 13) (Z1 13) rfl _ A.n rfl rfl rfl (by omega) ?_;intro I K U k5);have u:bW w f:=T;have V:bW w I:=u.trans (U.mono u.size);have hr:w.heap.size<=f.heap.size:=u.size;have X:¬ F.S f.heap.size:=λq=>by have:=c.arr.RS q;omega
 have h:=c.below V lR;have hs:v≠f.heap.size:=λe=>by have:=c.vol.lt;omega
 have hq:2≠f.heap.size:=λe=>by have:=c.laid.lt;omega
 have M:=h.arr;have Q:I.rowIs f.heap.size 215 A.n (Lo A b 0):=K.congr λi C=>by unfold Lo;rw [TW (by omega)]
 clear K T u U c c1 Z c3;go_loopw [17] (λi wr=>abc I f.heap.size p A.n b A F i wr) (λi _=>A.n-(intOf i).toNat)
 case atStart=>exact ⟨0,T7 _,rfl,M,aa.refl _ _,Q⟩
 case round=>
  clear M Q;obtain ⟨k,hk,rfl,z,m,B⟩:=hrel;by_cases Y:k<A.n
  . have R:bt wr v p D L G ps ho:=h.vol.keep (m.block _ h.vol.lt (λq=>q.elim hs h.v));have N:bh wr:=h.laid.keep (m.block _ h.laid.lt (λq=>q.elim hq h.g));have J:=qT R z k b Y hb N h.g;have H:=aE m B J;clear R N J z m B;go_wp2_with fail;refine H.o.2.2.mono ?_;rintro e w7 ⟨y,s,-,hy⟩;have l:w7.rowIs f.heap.size 215 A.n (Lo A b k):=H.o.2.1.of_block (s.block f.heap.size H.o.2.1.lt X);rcases hy with ⟨r,t,rfl⟩|⟨t,q,rfl,-⟩
    . have cS:=l.cell (i:=k) Y;have fS:=l.frozen k;obtain ⟨ty,x,E⟩:=kF r;rw [E];have hz:((k:Nat):Int).toNat=k:=(by omega);have a:=a6 y (H.o.1.trans (s.mono λ_ _ q=>.inr q)) l t E;clear y s H l t E;go_wp2;refine ⟨⟨k+1,by omega,by go_num,a.o.1.keep λj W=>Uj _ _ _ _ (λe=>X (by have e':j=f.heap.size:=e;rwa [e'] at W)),a.o.2.1.trans (aa.setCell _ _ _ (.inl rfl)),(a.o.2.2.1.set k _).congr λi C=>?_⟩,by simp [intOf];omega⟩;rw [<- a.o.2.2.2.2];exact QO a.o.2.2.2.1 i
    . unfold r9;have a:=a5 y (H.o.1.trans (s.mono λ_ _ q=>.inr q)) l t;clear y s H l t;go_wp2;exact ⟨⟨k+1,by omega,by go_num,a.o.1,a.o.2.1,a.o.2.2.1.congr λi _=>QP a.o.2.2.2 i⟩,by simp [intOf];omega⟩
  . have hv:k=A.n:=(by omega);subst hv;have P:aa F.S w wr:=(aa.RT V _).later m λj W q=>q.elim (λe=>by omega) id;have H:=aE z P B;clear z m P B;go_wp2;go_ret;exact ⟨_,rfl,hr,H.o.2.2.congr λi C=>(by unfold Lo;rw [TX C]),H.o.1,H.o.2.1⟩
theorem vT (h ao:Option ZQ) (cap a c:Nat) (w:ZU) (n:c<256) :
 ZR ZL 179 #[.slice h 0 cap,.slice ao 0 a,Z7 .u8 c] w λe w'=>e=Z3 (Z0 #[])/\bW w w':=by
 by_cases d:c=0
 . subst d;go_enter func179,ntmps179;go_wp2;exact Uv (v:=Z0 #[]) (by simp [results,results179]) rfl ⟨rfl,T6 _ _⟩
 . have p:((c:Int)==0)=ZV:=(by rw [beq_eq_false_iff_ne];omega);clear d;go_enter func179,ntmps179;go_wp2_with fail;refine (lG c n _).mono ?_;rintro e w1 ⟨cs,rfl,m,f,b⟩;have l:=b.size;go_wp2_with (refine np _ rfl (Z1 6) (Z1 11) rfl w1.heap.size c cs _ rfl rfl (UN w1 _) rfl m f ?_;intro w2 i g);have j:bW w w2:=by
    refine (b.trans ((T6 _ _).alloc l _)).grown g (by rw [Ul];omega) (λk o=>by simp at o;omega)
   clear g i f b;refine VO 1 ?_;rw [VJ];go_wp2;go_end0
   exact ⟨rfl,j⟩
def zW (b ao:Option ZQ) (n m cap a c:Nat) (w:ZU) (g:n=0) (f:m=0) (d:c<256) :
 ZR ZL 179 #[.slice b n cap,.slice ao m a,Z7 .u8 c] w λe w'=>e=Z3 (Z0 #[])/\bW w w':=by
 subst g f;exact vT b ao cap a c w d
def Oh (row:a8) (D:List a8):Nat->Nat->Nat
 | 0,_=>0
 | t+1,k=>Oh row D t k^^^gm (row.getD t 0) ((D.getD t []).getD k 0)
def cM (row:a8) (D:List a8) (n t:Nat):a8:=(YF n).map (Oh row D t)
def gk (row:a8) (D:List a8) (n t:Nat):(cM row D n t).length=n:=by simp [cM]
theorem BZ (row:a8) (D:List a8) (n:Nat):cM row D n 0=YI n 0:=by
 unfold cM;apply Ve
 . simp
 . intro j a b;simp [Oh]
def QQ (row:a8) (D:List a8) (a:∀ x∈row,x<256) (t k:Nat):Oh row D t k<256:=by
 induction t with
 | zero=>exact (by decide:(0:Nat)<256)
 | succ t ih=>exact rp ih (bB _ (dz a t))
def pI (row:a8) (D:List a8) (a:∀ x∈row,x<256) (n t:Nat):∀ x∈cM row D n t,x<256:=by
 intro x b;obtain ⟨k,_,rfl⟩:=Ua.1 b;exact QQ row D a t k
def tH (row:a8) (D:List a8) (n t k:Nat) (a:k<n):(cM row D n t).getD k 0=Oh row D t k:=by simp [cM,a]
def B1 (row:a8) (D:List a8) (n t j:Nat) (a:j<n) :
 tv (gZ (λi=>(cM row D n t).getD i 0) (λi=>(D.getD t []).getD i 0) (row.getD t 0) 0 n) j=vb (cM row D n (t+1)) j:=by
 unfold tv vb gZ;rw [TX (by omega),tH _ _ _ _ _ a];show Value.int .u8 (((cM row D n t).getD j 0^^^gm (row.getD t 0) ((D.getD t []).getD (j-0) 0):Nat):Int)=_;rw [tH _ _ _ _ _ a,Yv];rfl
def CbR (w:ZU) (row:a8) (D:List a8) (n:Nat) (i:ZT) (wr:ZU):Prop:=
 ∃ t:Nat,t<=row.length/\i=Z7 Z9 t/\aM wr w.heap.size (cM row D n t)/\bW w wr
theorem B4 (vr vd:ZT) (row:a8) (D:List a8) (n:Nat) (w:ZU) (V:Bs w vr row) (hd:Rd w vd D) (hn:n<=4096) (y:∀ i (U:i<D.length),(D[i]).length=n) (r:row.length=D.length) (A:0<D.length) :
 ZR ZL 204 #[vr,vd] w λe w'=>∃ b,e=Z3 (Z5 (ZX ⟨b,0,ZY⟩) n n)/\w.heap.size<=b/\aM w' b (cM row D n D.length)/\bW w w':=by
 have kc:=V.lt;obtain ⟨ao,cr,rfl,h1,h2,_,O⟩:=V;obtain ⟨rb,h,rfl,kb⟩:=O (by intro e;rw [e] at r;simp at r;omega);rcases hd.cases with ⟨rfl,_⟩|⟨b,off,c,rfl,hl,B⟩
 . simp at A
 obtain ⟨u0,G,kf⟩:=B 0 A;obtain ⟨km,c0,rfl,l1,l2,_,_⟩:=kf;have f:=y 0 A;rw [f] at G;have HR:=ak kb;have HC:=ak B;have J:=ak y;have P:=ak r;clear kb B y r h1 h2 O f l1 l2;rw [VV] at G;go_enter func204,ntmps204;go_wp2_with (at_make;refine cU _ rfl (Z1 11) (Z1 11) rfl _ n rfl rfl rfl (by omega) ?_;intro w1 z Q hz;clear hz);rw [<- BZ row D n] at z;clear G;go_loopw [15] (λi wr=>CbR w row D n i wr) (λi _=>row.length-(intOf i).toNat)
 case atStart=>exact ⟨0,T7 _,rfl,z,Q⟩
 case round=>
  clear z Q;rename ZU=>wo;obtain ⟨t,ht,rfl,d,g⟩:=hrel;have kk:=d.lt;by_cases k9:t<row.length
  . have s:t<D.length:=(by rw [<- P.out];exact k9);have c1:=HR.o t k9;have ko:wo.cell? ⟨rb,h+t,ZY⟩=ZX (Z7 .u8 ((row.getD t 0:Nat):Int)):=(by rw [g.cell (Ui c1)];exact c1);obtain ⟨u,H,kg⟩:=HC.o t s;obtain ⟨fo,N,rfl,q1,q2,q3,I⟩:=kg;have kj:wo.cell? ⟨b,off+t,ZY⟩=ZX (.slice fo (D[t]).length N):=(by rw [g.cell (Ui H)];exact H);rw [J.o t s] at kj;have k5:=dz kc t;have k7:D.getD t []=D[t]:=(by simp [s]);have q:=B1 row D n t;rw [k7] at q;have Z:=J.o t s;have k:=ak Z;generalize D[t]=l at *;generalize ki:row.getD t 0=x at *;clear c1 H k7 ki Z;by_cases f:n=0
    . have R:aM wo w.heap.size (cM row D n (t+1)):=(by rw [f] at d ⊢;exact d);have L:=ak f;clear q I d f;go_wp2_with fail;refine (zW _ _ _ _ _ _ x _ L.o L.o k5).mono ?_;rintro e w2 ⟨rfl,E⟩;have C:=R.below E;have F:=g.trans (E.mono (by omega));clear R E;go_wp2;go_roundw
      case rel=>exact ⟨t+1,by omega,by go_num,C,F⟩
      case measure=>simp [intOf];omega
    . obtain ⟨m,a,rfl,v⟩:=I (by intro e;rw [e] at k;exact f k.o.symm);rw [k.o] at v;have kh:m<w.heap.size:=Ui (v 0 (by omega));have S:∀ i,i<n->wo.cell? ⟨m,a+i,ZY⟩=ZX (Z7 .u8 ((l.getD i 0:Nat):Int)):=λi U=>by
       rw [g.cell (p:=⟨m,a+i,ZY⟩) kh];exact v i U
      have T:wo.rowIs w.heap.size 5 n (tv (λi=>(cM row D n t).getD i 0)):=by
       have:=d;unfold aM at this;rw [gk] at this;exact this
      have M:=ak q;have K:=ak S;have Y:=ak T;have k8:=λj=>dz (pI row D kc n t) j;have k0:=λj=>dz q3 j;have X:=ak k8;have W:=ak k0;clear q v S T d I k8 k0 k;go_wp2_with fail;refine (jq w.heap.size 5 n 0 n n m a N x (λi=>(cM row D n t).getD i 0) (λi=>l.getD i 0) wo k5 Y.out X.out W.out (by omega) (by omega) K.o (.inl (by omega))).mono ?_;rintro e w2 ⟨rfl,ka,k6⟩;have C:aM w2 w.heap.size (cM row D n (t+1)):=by
       unfold aM;rw [gk];exact ka.congr (λj hj=>M.o j hj)
      have F:=gI g k6 (by omega) lR;clear ka k6 M K Y X W;go_wp2;go_roundw
      case rel=>exact ⟨t+1,by omega,by go_num,C,F⟩
      case measure=>simp [intOf];omega
  . have ke:t=D.length:=(by rw [<- P.out];omega);rw [ke] at d;clear ke;go_wp2;go_ret;exact ⟨w.heap.size,rfl,TY _,d,g⟩
def QR (w0:ZU) (base D N:Nat) (M:Nat->List a8) (v i:ZT) (wr:ZU):Prop:=
 ∃ k T,k<=N/\i=Z7 Z9 (k:Nat)/\ez wr base v T/\cQ T D (M k)/\ZS base w0 wr/\base<=wr.heap.size
theorem vU (D L G:Nat) (hr:dg D L G=ZW) (hD:D<=12) (hL:1<=L) (kr:L<=4) (hG:G<=4) (k7:D%L=0) (w:ZU) :
 ZR ZL 42 #[.agg #[Z7 Z9 D,Z7 Z9 L,Z7 Z9 G]] w λe w'=>∃ v T,e=Z3 (Z0 #[v,Z7 Z9 0])/\ez w' (w.heap.size+1) v T/\cQ T D (aR D L G)/\bW w w':=by
 obtain ⟨Y,Z,ka,kb,kc⟩:=Uu Tryz.R4;have kf:=λg (X:g<L)=>By (D:=D) k7 X;have hq:D/L<=D:=VT _ _;have hp:∀ g,dC D L g=fh D (g*(D/L)) ((g+1)*(D/L)):=λ_=>rfl;have e1:wrap64 ((D:Int)/(L:Int))=((D/L:Nat):Int):=by
  rw [<- X4];exact iL (by omega)
 obtain ⟨q,V⟩:∃ q,q=D/L:=⟨_,rfl⟩;rw [<- V] at e1 hq;have HF:cJ (∀ g,dC D L g=fh D (g*q) ((g+1)*q)):=by intro g;rw [V];exact hp g
 have kj:cJ (∀ g,g<L->(g+1)*q<=D):=by intro g X;rw [V];exact kf g X
 clear hp kf V;go_enter func42,ntmps42;go_wp2_with fail;refine (Eh D L G _).mono ?_;rintro e wa ⟨rfl,F⟩;try change ZS _ _ _ at F
 rw [Ul] at F;have kh:=F.size;try change ZS _ _ _ at kh
 rw [Ul] at kh;obtain ⟨H,I,J⟩:=cV F;go_wp2_with fail;go_loopw [5,6] (λv i wr=>QR (w.alloc (Z4 #[Z7 Z9 D,Z7 Z9 L,Z7 Z9 G] 70)) (w.heap.size+1) D D (λk=>[]++(YF k).map (dr D)) v i wr) (λ_ i _=>D-(intOf i).toNat)
 case atStart=>exact ⟨0,[],T7 _,rfl,ez.nil _ _,cQ.nil D,F,kh⟩
 case round=>
  clear F H I J;rename ZU=>wo;obtain ⟨k,T,N,rfl,b,n,c,h⟩:=hrel;obtain ⟨H,I,J⟩:=cV c;have r:=ak n;have z:=n.length;simp only [Ut,Ud,UM] at z;have S:T.length<=20:=by omega
  clear z n;by_cases E:k<D
  . go_wp2_with (first
     | (at_make;refine cU _ rfl (Z1 26) (Z1 26) rfl D D rfl rfl rfl (by omega) ?_;intro w1 m hb R;clear R;have hc:=m.cell k (by simpa using E);have hf:=m.frozen k;have A:=m.set k 1;have a:=hb.setCell (p:=⟨wo.heap.size,k,ZY⟩) (by simp) (Z7 .u8 1))
     | (at_builtin;refine WA _ rfl (Z1 31) (Z1 33) 108 rfl (w.heap.size+1) 40 Y (Z5 ZY 0 0) 1 24 VW Z ka kb kc rfl (by decide) _ T.length (T.map fY) rfl ((b.below a).alloc _).own ⟨w1.heap.size,0,ZY⟩ 1 1 [Z5 (ZX ⟨wo.heap.size,0,ZY⟩) D D] rfl rfl (mn _ _ (by simp) _ _) (by simp [Value.oneCell']) (by unfold maxLen;omega) (by omega) (by rw [Ul];have:=a.size;omega)  ?_;intro v' w2 y d Q))
    have O:=ez.append b a h lR A (BA D k) (by omega) d y;have l:=r.o.push wo.heap.size (dr D k);have u:=dP b c a h d;have C:=d.size;have kg:=a.size;try change ZS _ _ _ at C
    rw [Ul] at C;rw [UC,<- gd] at l;have K:=ak l;clear b y d Q A a c l;go_roundw
    case rel=>exact ⟨k+1,T++[(wo.heap.size,D,dr D k)],by omega,by go_num,O,K.out,u,by omega⟩
    case measure=>simp [intOf];omega
  . have P:D=k:=(by omega);clear E N;subst P;go_wp2_with fail;go_loopw [5,9] (λv i wr=>QR (w.alloc (Z4 #[Z7 Z9 D,Z7 Z9 L,Z7 Z9 G] 70)) (w.heap.size+1) D L (λk=>(YF D).map (dr D)++(YF k).map (dC D L)) v i wr) (λ_ i _=>L-(intOf i).toNat)
    case atStart=>exact ⟨0,T,T7 _,rfl,b,by dsimp only;rw [abu,Vh,Wk];exact r.o,c,h⟩
    case round=>
     clear b c H I J r h S;rename ZU=>wo;obtain ⟨k,T,N,rfl,b,n,c,h⟩:=hrel;obtain ⟨H,I,J⟩:=cV c;have r:=ak n;have z:=n.length;simp only [Uc,Ud,UM] at z;have S:T.length<=20:=(by omega);clear z n;by_cases E:k<L
     . have ks:=kj.out k E;have ke:=HF.o k;have kk:k*q<=(k+1)*q:=WV _ (by omega);have e2:wrap64 ((k:Int)*(q:Int))=((k*q:Nat):Int):=by
        rw [<- XG];exact iL (by omega)
       have e3:wrap64 (((k:Int)+1)*(q:Int))=(((k+1)*q:Nat):Int):=by
        have:((k:Int)+1)*(q:Int)=(((k+1)*q:Nat):Int):=by push_cast;rfl
        rw [this];exact iL (by omega)
       generalize k*q=s at *;generalize (k+1)*q=t at *;have ki:=ak ke;have E2:=ak e2;have W:=ak e3;clear ke e2 e3;go_wp2_with (at_make;refine cU _ rfl (Z1 47) (Z1 47) rfl D D rfl rfl rfl (by omega) ?_;intro w1 m a R;clear R);rw [<- mV D s] at m;go_loopw [11] (λi wi=>∃ j:Nat,s<=j/\j<=t/\i=Z7 Z9 j/\aM wi wo.heap.size (fh D s j)/\bW wo wi) (λi _=>t-(intOf i).toNat)
       case atStart=>exact ⟨s,TY _,kk,by rw [E2.out],m,a⟩
       case round=>
        clear m a;obtain ⟨j,km,ko,rfl,f,B⟩:=hrel;by_cases U:j<t
        . have ht:(j:Int)<wrap64 (((k:Int)+1)*(q:Int)):=(by rw [W.out];omega);have hc:=f.cell j (by simp [fh];omega);have hf:=f.frozen j;have M:=f.set j 1;rw [nX _ _ _ km] at M;have u:=B.setCell (p:=⟨wo.heap.size,j,ZY⟩) (by simp) (Z7 .u8 1);go_wp2;go_roundw
          case rel=>exact ⟨j+1,by omega,by omega,by go_num,M,u⟩
          case measure=>simp [intOf];omega
        . have ht:¬ (j:Int)<wrap64 (((k:Int)+1)*(q:Int)):=(by rw [W.out];omega);have k9:t=j:=(by omega);clear U ko W;subst k9;rw [<- ki.out] at f;have A:=f;have a:=B;clear f B;go_wp2_with (at_builtin;refine WA _ rfl (Z1 63) (Z1 65) 108 rfl (w.heap.size+1) 40 Y (Z5 ZY 0 0) 1 24 VW Z ka kb kc rfl (by decide) _ T.length (T.map fY) rfl ((b.below a).alloc _).own ⟨wr.heap.size,0,ZY⟩ 1 1 [Z5 (ZX ⟨wo.heap.size,0,ZY⟩) D D] rfl rfl (mn _ _ (by simp) _ _) (by simp [Value.oneCell']) (by unfold maxLen;omega) (by omega) (by rw [Ul];have:=a.size;omega)  ?_;intro v' w2 y d Q);have O:=ez.append b a h lR A (xt D L k) (by omega) d y;have l:=r.o.push wo.heap.size (dC D L k);have u:=dP b c a h d;have C:=d.size;have kg:=a.size;try change ZS _ _ _ at C
          rw [Ul] at C;rw [UC,<- gd] at l;have K:=ak l;clear b y d Q A a c l;go_roundw
          case rel=>exact ⟨k+1,T++[(wo.heap.size,D,dC D L k)],by omega,by go_num,O,K.out,u,by omega⟩
          case measure=>simp [intOf];omega
     . have P:L=k:=(by omega);clear E N;subst P;go_wp2_with fail;go_loopw [5,12] (λv i wr=>QR (w.alloc (Z4 #[Z7 Z9 D,Z7 Z9 L,Z7 Z9 G] 70)) (w.heap.size+1) D G (λk=>((YF D).map (dr D)++(YF L).map (dC D L))++(YF k).map (dm D)) v i wr) (λ_ i _=>G-(intOf i).toNat)
       case atStart=>exact ⟨0,T,T7 _,rfl,b,by dsimp only;rw [abu,Vh,Wk];exact r.o,c,h⟩
       case round=>
        clear b c H I J r h S;rename ZU=>wo;obtain ⟨k,T,N,rfl,b,n,c,h⟩:=hrel;obtain ⟨H,I,J⟩:=cV c;have r:=ak n;have z:=n.length;simp only [Uc,Ud,UM] at z;have S:T.length<=20:=(by omega);clear z n;by_cases E:k<G
        . go_wp2_with (at_make;refine cU _ rfl (Z1 74) (Z1 74) rfl D D rfl rfl rfl (by omega) ?_;intro w1 m a R;clear R);rw [<- lH D k] at m;go_loopw [14] (λi wi=>∃ j:Nat,j<=D/\i=Z7 Z9 j/\aM wi wo.heap.size (eE D k j)/\bW wo wi) (λi _=>D-(intOf i).toNat)
          case atStart=>exact ⟨0,T7 _,rfl,m,a⟩
          case round=>
           clear m a;obtain ⟨j,hj,rfl,f,B⟩:=hrel;have k6:=cV (c.trans (B.mono h));obtain ⟨b0,b1,b2⟩:=k6;by_cases U:j<D
           . have hc:=f.cell j (by simp [eE];omega);have hf:=f.frozen j;obtain ⟨kp,kv⟩:=Bz D k j hD (by omega) U;have M:=f.set j (gi ((D+k)^^^j));rw [mW] at M;have u:=B.setCell (p:=⟨wo.heap.size,j,ZY⟩) (by simp) (Z7 .u8 (gi ((D+k)^^^j)));generalize (D+k)^^^j=x at *;go_wp2_with (go_at_call 63;refine (Bu x kp _).mono ?_;rintro e w' ⟨rfl,rfl⟩);go_roundw
             case rel=>exact ⟨j+1,by omega,by go_num,M,u⟩
             case measure=>simp [intOf];omega
           . have k9:D=j:=(by omega);clear U hj;subst k9;rw [nY] at f;have A:=f;have a:=B;clear f B;go_wp2_with (at_builtin;refine WA _ rfl (Z1 93) (Z1 95) 108 rfl (w.heap.size+1) 40 Y (Z5 ZY 0 0) 1 24 VW Z ka kb kc rfl (by decide) _ T.length (T.map fY) rfl ((b.below a).alloc _).own ⟨wr.heap.size,0,ZY⟩ 1 1 [Z5 (ZX ⟨wo.heap.size,0,ZY⟩) D D] rfl rfl (mn _ _ (by simp) _ _) (by simp [Value.oneCell']) (by unfold maxLen;omega) (by omega) (by rw [Ul];have:=a.size;omega)  ?_;intro v' w2 y d Q);have O:=ez.append b a h lR A (ti D k hD (by omega)) (by omega) d y;have l:=r.o.push wo.heap.size (dm D k);have u:=dP b c a h d;have C:=d.size;have kg:=a.size;try change ZS _ _ _ at C
             rw [Ul] at C;rw [UC,<- gd] at l;have K:=ak l;clear b y d Q A a c l;go_roundw
             case rel=>exact ⟨k+1,T++[(wo.heap.size,D,dm D k)],by omega,by go_num,O,K.out,u,by omega⟩
             case measure=>simp [intOf];omega
        . have P:G=k:=(by omega);clear E N;subst P;go_wp2;go_ret2;refine ⟨_,rfl,T,b,r.o,?_⟩;exact (bA _ _).trans (c.mono (by omega))
section
open Go.ChangeShapes Go.WideShapes
def Tryz.own:ownKnob ZL.godebug=ZY:=by kernel_rfl
def Tryz.et:ZL.globalNamed "errors.errorType"=ZX 0:=by kernel_rfl
def Tryz.rt:(ZL.cutTypes.find? (λx=>x.1 == "internal/reflectlite.rtype")).map (λx=>x.2)=ZX 157:=by kernel_rfl
def Tryz.oneRow:((YF 379).filter λt=>ZL.rowNamed t [101,114,114,111,114])=[64]:=by kernel_rfl
def Tryz.size:ZL.types.size=379:=by kernel_rfl
def bY (w:ZU):Prop:=w.cell? ⟨0,0,ZY⟩=ZX (.iface 157 (.agg #[Z6 (ZX ⟨3,64,ZY⟩)]))
def tI (h:laidMetH ZL [("errors.errorType",Rows.laid_errors_errorType)] W):bY W:=by
 have i:laidMet ZL [] W/\handlesMet ZL [("errors.errorType",Rows.laid_errors_errorType)] W:=h;obtain ⟨name,u,k,c,d,e,f,a⟩:=i.2 _ (Vn.2 rfl);have g:name=[101,114,114,111,114]:=(UQ c).symm;subst g;obtain rfl:=UQ (Tryz.rt.symm.trans d);have b:k∈(YF 379).filter λt=>ZL.rowNamed t [101,114,114,111,114]:=Vv.2 ⟨UA.2 (by rw [<- Tryz.size];exact e),f⟩;rw [Tryz.oneRow] at b;obtain rfl:=Vn.1 b;have j:typeHandle ZL 64=Z6 (ZX ⟨3,64,ZY⟩):=by kernel_rfl
 rw [j] at a;unfold bY;simpa using World.var?_cell Tryz.et a 0
end
def fu (M:List a8) (D:List a8) (n:Nat):List a8:=M.map λrow=>cM row D n D.length
def mX (w:ZU) {ops:Array ZO} {rest:List ZO} {o:ZO} {a:Act} {Q:Exit->Act->ZU->Prop}
 (h:o.guard=ZY) (l c:Operand) (e:o.op=Op.makeSlice 108 l c) (C:Int) (n:Nat) (hl:a.eval l=Z7 Z9 C) (g:a.eval c=Z7 Z9 C) (f:C=(n:Int)) (i:n<=1000000)
 (hK:∀ w',w'.rowIs w.heap.size 40 n (λ_=>Z5 ZY 0 0)->bW w w'->w'.heap.size=w.heap.size+1->wpList ZL ops Q rest (a.put o.dst (Z5 (ZX ⟨w.heap.size,0,ZY⟩) n n)) w') :
 wpList ZL ops Q (o::rest) a w:=by
 refine V5 h λK d=>?_;have b:=XX (P:=ZL) 108 40 (Z5 ZY 0 0) 24 VW Tryz.R4 rfl .i64 .i64 n (by omega) (by omega) w;subst f;unfold Oper.wp;simp [execOp,e,hl,g,b,Result.andThen];exact d _ _ (hK _ (Xx w _ n _) (bA _ _) (Ul _ _))
def shv (T:List (Nat×Nat×a8)) (i:Nat):ZT:=if i<T.length then fY (T.getD i (0,0,[])) else Z5 ZY 0 0
structure oA (w:ZU) (base g N:Nat) (T:List (Nat×Nat×a8)):Prop where
 tab:w.rowIs g 40 N (shv T)
 row:∀ p∈T,base<=p.1/\aM w p.1 p.2.2/\p.2.1<=p.2.2.length/\(p.2.1<=140737488355328/\p.2.2.length<=9223372036854775807)/\∀ x∈p.2.2,x<256
 nodup:(T.map (λp=>p.1)).Nodup
def oA.below (h:oA w base g N T) (d:bW w w'):oA w' base g N T:=
 ⟨h.tab.of_block (d.block g h.tab.lt),λp e=>by obtain ⟨a,b,c⟩:=h.row p e;exact ⟨a,b.below d,c⟩,h.nodup⟩
theorem oA.push (h:oA w base g N T) (A:base<=b) (s:aM w b l) (B:n<=l.length) (hl:l.length<=140737488355328) (j:∀ x∈l,x<256) (v:∀ p∈T,p.1≠b) :
 oA (w.setCell ⟨g,T.length,ZY⟩ (Z5 (ZX ⟨b,0,ZY⟩) n l.length)) base g N (T++[(b,n,l)]):=by
 have r:∀ c m,aM w c m->c≠g:=by
  intro c m f e;obtain ⟨x,j,_⟩:=f;obtain ⟨y,D,_⟩:=h.tab;rw [e,D] at j;simp at j
 refine ⟨?_,λp d=>?_,?_⟩
 . refine (h.tab.set T.length (Z5 (ZX ⟨b,0,ZY⟩) n l.length)).congr λi E=>?_;unfold shv;by_cases e:i=T.length
   . subst e;simp [fY]
   . rw [TW e];by_cases k:i<T.length
     . rw [TX k,TX (by simp;omega)];simp [VG k]
     . rw [TW k,TW (by simp;omega)]
 . rcases Un.1 d with d|d
   . obtain ⟨t,o,u⟩:=h.row p d;exact ⟨t,o.other (r _ _ o) _,u⟩
   . simp at d;subst d;exact ⟨A,s.other (r _ _ s) _,B,⟨by show n<=140737488355328;omega,by show l.length<=9223372036854775807;omega⟩,j⟩
 . rw [UD,Vb];refine ⟨h.nodup,by simp,?_⟩;intro a z c f;obtain ⟨q,C,rfl⟩:=Ua.1 z;simp at f;subst f;exact v q C
theorem oA.done (h:oA w base g N T) (d:N=T.length) (f:base<=g) (j:N<=maxLen):ez w base (Z5 (ZX ⟨g,0,ZY⟩) N N) T:=by
 subst d;refine ⟨⟨by simp,.inr ?_⟩,h.row,h.nodup⟩;obtain ⟨c,e,l,k⟩:=h.tab;refine ⟨g,T.length,c,rfl,f,e,TY _,j,by omega,?_⟩;apply Ve
 . simp;omega
 . intro i b a;simp at b a;have:=k i a;rw [VP (by omega)] at this;simp at this;simp [this,shv,a]
def oA.lt (h:oA w base g N T):g<w.heap.size:=h.tab.lt
def EcR (w:ZU) (B g N n:Nat) (M D:List a8) (i:ZT) (wr:ZU):Prop:=
 ∃ k T,k<=N/\i=Z7 Z9 (k:Nat)/\oA wr B g N T/\cQ T n (fu (M.take k) D n)/\ZS B w wr/\B<=wr.heap.size
def QS (w:ZU) (n:Nat) (M D:List a8) (x:ZT) (e:ZP) (w':ZU):Prop:=∃ v T,e=Z3 (Z0 #[v,x])/\ez w' w.heap.size v T/\cQ T n (fu M D n)/\bW w w'
def cQ.at {M:List a8} (h:cQ T D M) {i:Nat} (a:i<T.length) (b:i<M.length):T[i].2=(D,M[i]):=by
 have:=List.getElem_of_eq h (i:=i) (by simpa using a);simpa using this
def Lp (D L G:Nat):(aR D L G).length=D+L+G:=by simp [aR];omega
def Lq (D L G:Nat) {i:Nat} (b:i<(aR D L G).length):((aR D L G)[i]).length=D:=by
 have a:(aR D L G)[i]∈aR D L G:=T8 b;unfold aR at a;rcases Un.1 a with a|a
 . rcases Un.1 a with a|a
   . obtain ⟨j,_,e⟩:=Ua.1 a;unfold aR;rw [<- e];simp [dr]
   . obtain ⟨j,_,e⟩:=Ua.1 a;unfold aR;rw [<- e];simp [dC]
 . obtain ⟨j,_,e⟩:=Ua.1 a;unfold aR;rw [<- e];simp [dm]
def IE (M D:List a8) (n k:Nat) (a:k<M.length):fu (M.take (k+1)) D n=fu (M.take k) D n++[cM M[k] D n D.length]:=by
 unfold fu;rw [abv a,UD];rfl
theorem EE (D L G:Nat) (hr:dg D L G=ZW) (qd:1<=D) (hD:D<=12) (hL:1<=L) (q0:L<=4) (hG:G<=4) (ka:D%L=0) (vd:ZT) (Dt:List a8) (w:ZU) (V:Rd w vd Dt) (A:Dt.length=D) (q:Fit Dt) :
 ZR ZL 189 #[.agg #[Z7 Z9 D,Z7 Z9 L,Z7 Z9 G],vd] w λe w'=>QS w (Dt.getD 0 []).length (aR D L G) Dt .nilIface e w':=by
 have qf:(((Dt.length:Nat):Int) != (D:Int))=ZV:=by rw [A];simp
 have C:0<Dt.length:=by omega
 obtain ⟨ao,c,rfl,hl,q6⟩:=id V;have q9:(Dt.getD 0 []).length<=4096:=by
  have:=(q 0 C);have Q:=this.2;rw [this.1] at Q;exact Q
 have X:∀ i (h:i<Dt.length),(Dt[i]).length=(Dt.getD 0 []).length:=λi h=>(q i h).1;generalize hn:(Dt.getD 0 []).length=n at *;have hv:=ak X;have HF:=ak q;have hy:=ak A;clear q6 hn X q A;go_enter func189,ntmps189;go_wp2_with fail;refine (kA D L G hr hD hL q0 hG ka _).mono ?_;rintro e wa ⟨v,T,rfl,s,E,j⟩;try change ZS _ _ _ at s
 try change ZS _ _ _ at j
 rw [Ul] at s j;have qa:=j.size;try change ZS _ _ _ at qa
 rw [Ul] at qa;obtain ⟨p0,p1,p2⟩:=cV j;have m:bW w wa:=(bA _ _).trans (j.mono (by omega));have kk:=V.mono m;go_wp2_with fail;refine (KT _ Dt _ kk C).mono ?_;rintro e wb ⟨r,rfl,kr,rfl⟩;obtain rfl:r=ZW:=kr.2 HF.o;obtain ⟨mo,hb,rfl,kp⟩:=s.slice;have g:=E.length;rw [Lp] at g;obtain ⟨mg,rfl⟩:=kp (by intro e;rw [e] at g;simp at g;omega);have q2:T.length<=20:=by omega
 have qc:=ak g;clear g kp kr;go_wp2_with (at_make;refine mX _ rfl (Z1 31) (Z1 31) rfl _ T.length rfl rfl rfl (by omega) ?_;intro wc W O hz;clear hz);have kf:oA wc wb.heap.size wb.heap.size T.length []:=⟨W.congr (λi _=>by simp [shv]),λp F=>by simp at F,by simp⟩;have ks:=O.size;generalize hM:aR D L G=M at *;have HM:cJ (∀ i (h:i<M.length),(M[i]).length=D):=by intro i h;subst hM;exact Lq D L G h
 have P:=ak E;have kx:=ak hM;clear W hM E p0 p1 p2;go_loopw [35] (λi wr=>EcR wb wb.heap.size wb.heap.size T.length n M Dt i wr) (λi _=>T.length-(intOf i).toNat)
 case atStart=>exact ⟨0,[],T7 _,rfl,kf,rfl,O,ks⟩
 case round=>
  clear kf O ks;rename ZU=>wo;obtain ⟨k,S,hk,rfl,b,d,f,qb⟩:=hrel;have R:=P.o.length;have u:=d.length;unfold fu at u;rw [Ud,Us] at u;by_cases z:k<T.length
  . have B:k<M.length:=(by omega);have K:=s.below f;have km:=kk.mono f;have y:=K.Ss z;have a:=K.S7 z;have N:=P.o.at z B;have J:=HM.o k B;obtain ⟨⟨rb,rn,rl⟩,kj⟩:∃ p,p=T[k]:=⟨_,rfl⟩;rw [<- kj] at y a N;simp only [fY,Xe] at y a N;obtain ⟨rfl,rfl⟩:=N;rw [UJ (by omega)] at a;rw [J] at y a;have kh:S.length=k:=(by omega);have U:=IE M Dt n k B;have Z:=ak U;have Y:=ak d;have ky:=ak kh;have H:=ak J;clear U d kh J R u kj;go_wp2_with fail;refine (B4 _ _ M[k] Dt n wo (by rw [H.out] at *;exact a) km q9 hv.out (by rw [H.out,hy.out]) C).mono ?_;rintro e w2 ⟨b2,rfl,qe,ke,l⟩;have t:=b.below l;have q5:=t.tab.cell (i:=k) z;have q7:=t.tab.frozen k;have qh:=l.size;have qg:=b.lt;have kg:=t.push (n:=n) (by omega) ke (by rw [gk];omega) (by rw [gk];omega) (pI _ _ (λx hx=>a.lt x hx) _ _) (λp F=>by have:=(b.row p F).2.1.lt;omega);rw [gk,ky.out] at kg;have q3:=(f.trans (l.mono qb)).setCell (p:=⟨wb.heap.size,k,ZY⟩) lR (Z5 (ZX ⟨b2,0,ZY⟩) n n);have I:=Y.out.push b2 (cM M[k] Dt n Dt.length);rw [<- Z.out] at I;have kv:=ak I;generalize shv S k=ov at *;clear b t ke l f a y K km I Z Y H;go_wp2;go_roundw
    case rel=>exact ⟨k+1,_,by omega,by go_num,kg,kv.out,q3,by rw [Yw];omega⟩
    case measure=>simp [intOf];omega
  . have q8:k=T.length:=(by omega);have ko:k=M.length:=(by omega);have kz:cQ S n (fu M Dt n):=(by rw [ko,VK] at d;exact d);have ki:=b.done (by omega) lR (by unfold maxLen;omega);have q4:=m.trans (f.mono m.size);have q1:=ki.weaken (base':=w.heap.size) m.size;clear d b f ki q8 ko R u;go_wp2;go_ret2;exact ⟨_,S,rfl,q1,by rw [kx.out];exact kz,q4⟩
def eX (a:Act) (i:Nat) (v:ZT) (h:i<a.tmps.size):(a.put (ZX i) v).eval (.tmp i)=v:=by simp [Act.put,Act.eval,h]
def aA (a:Act) (i j:Nat) (v:ZT) (h:i≠j):(a.put (ZX i) v).eval (.tmp j)=a.eval (.tmp j):=by
 simp [Act.put,Act.eval,Vq,h]
def fL (a:Act) (d:Option Nat) (v:ZT):(a.put d v).tmps.size=a.tmps.size:=by
 cases d<;>simp [Act.put]
def put_comm (a:Act) (i j:Nat) (v u:ZT) (h:i≠j):(a.put (ZX i) v).put (ZX j) u=(a.put (ZX j) u).put (ZX i) v:=by
 simp only [Act.put];rw [acp _ _ h]
def dI (b:o.guard=ZY):Region.wanted o (yielded ops a.tmps)=ZW:=by simp [Region.wanted,b]
def je {x:Operand} (b:o.guard=ZY) (ho:o.op=.move x) (c:a.eval x=v):Yields P ops o v a:=
 .inl ⟨dI b,λw=>by simp [execOp,ho,c]⟩
def rg:Code->Nat->Option (Array ZO)
 | .region i ops _,n=>if i=n then ZX ops else ZY
 | .seq a b,n=>(rg a n).orElse λ_=>rg b n
 | .cond _ a b,n=>(rg a n).orElse λ_=>rg b n
 | .block _ a,n=>rg a n
 | .loop a,n=>rg a n
 | .scope a,n=>rg a n
 | _,_=>ZY
noncomputable def QT:Array ZO:=((Tryz.f123.body.bind (rg · 12))).getD #[]
def aaB (l:a8):Array Bool:=l.foldl (λa i=>a.setIfInBounds i ZW) (YP 12 ZV)
def gU:(YF 12).map (λi=>(QT[i]?).map λo=>(o.op,o.dst,o.guard))=[
 ZX (.move (Z1 4),ZX 28,ZY),ZX (.move (Z1 6),ZX 29,ZY),ZX (.move (Z1 6),ZX 30,ZY),ZX (.indexAddr 281 (Z1 3) (Z1 30),ZX 31,ZY),
 ZX (.load 113 (Z1 31),ZX 32,ZY),ZX (.move (Z1 4),ZX 33,ZY),ZX (.indexAddr 281 (Z1 3) (Z1 33),ZX 34,ZY),ZX (.load 113 (Z1 34),ZX 35,ZY),
 ZX (.indexAddr 281 (Z1 3) (Z1 28),ZX 36,ZY),ZX (.store 113 (Z1 36) (Z1 32),ZY,ZY),ZX (.indexAddr 281 (Z1 3) (Z1 29),ZX 37,ZY),ZX (.store 113 (Z1 37) (Z1 35),ZY,ZY)]:=by kernel_rfl
def gV {i:Nat} {x:Op} {d:Option Nat} (f:i<12) (h:((YF 12).map (λi=>(QT[i]?).map λo=>(o.op,o.dst,o.guard)))[i]?=ZX (ZX (x,d,ZY))):∃ o,QT[i]?=ZX o/\o.op=x/\o.dst=d/\o.guard=ZY:=by
 simp only [UE,VU f,WR,US,Wi,Xe] at h;obtain ⟨o,a,b,c,e⟩:=h;exact ⟨o,a,b,c,e⟩
theorem oB (gb p:Nat) (e:p<64) {o:ZO} {a:Act} {x y:Operand} (ho:o.op=.indexAddr 281 x y) (b:a.eval x=Z6 (ZX ⟨gb,0,ZY⟩)) (c:a.eval y=Z7 Z9 (p:Nat)) (w:ZU) :
 (execOp a.eval o).run ZL w=.ok (.value (Z6 (ZX ⟨gb,p*64,ZY⟩))) w:=by
 have d:(p:Int)<64:=by omega
 simp only [execOp,ho,b,c];go_simp
def Tryz.S8:(ZL.info? 113).map (λi=>i.size)=ZX 64:=by kernel_rfl
def Lr (a:Act) (gb p r:Nat) (cp cr:List ZT):Act:=
 ((((((((((a.put (ZX 28) (Z7 Z9 (r:Nat))).put (ZX 29) (Z7 Z9 (p:Nat))).put (ZX 30) (Z7 Z9 (p:Nat))).put (ZX 33) (Z7 Z9 (r:Nat))).put (ZX 31) (Z6 (ZX ⟨gb,p*64,ZY⟩))).put (ZX 34) (Z6 (ZX ⟨gb,r*64,ZY⟩))).put (ZX 32) (.agg cp.toArray)).put (ZX 35) (.agg cr.toArray)).put (ZX 36) (Z6 (ZX ⟨gb,r*64,ZY⟩))).put ZY ZZ).put (ZX 37) (Z6 (ZX ⟨gb,p*64,ZY⟩)) |>.put ZY ZZ
theorem Ls (gb p r:Nat) (e f:List ZT) (hR:QT=ops) (j:∀ c n v a w,Q (.panic c) (a.put (ZX n) v) w->Q (.panic c) a w)
 (m:a.tmps.size=47) (hp:p<64) (hr:r<64) (e3:a.eval (Z1 3)=Z6 (ZX ⟨gb,0,ZY⟩)) (V:a.eval (Z1 4)=Z7 Z9 (r:Nat)) (W:a.eval (Z1 6)=Z7 Z9 (p:Nat))
 (lp:e.length=64) (lr:f.length=64) (op:e.toArray.all (λv=>v.oneCell')=ZW) (or:f.toArray.all (λv=>v.oneCell')=ZW)
 (Z:w.drew.rangeAt gb (p*64) e) (gr:w.drew.rangeAt gb (r*64) f) (tr:w.drew.there gb (r*64) 64) (tp:w.drew.there gb (p*64) 64)
 (h:Q .normal (Lr a gb p r e f) ((w.drew.setCells gb (r*64) e).setCells gb (p*64) f)):(Code.region 12 ops ZW).wp ZL Q a w:=by
 subst hR;obtain ⟨o0,g0,x0,M,k0⟩:=gV (i:=0) (by decide) (by rw [gU];rfl);obtain ⟨o1,g1,x1,d1,k1⟩:=gV (i:=1) (by decide) (by rw [gU];rfl);obtain ⟨o2,g2,x2,N,k2⟩:=gV (i:=2) (by decide) (by rw [gU];rfl);obtain ⟨o3,g3,x3,O,k3⟩:=gV (i:=3) (by decide) (by rw [gU];rfl);obtain ⟨o4,X,x4,P,k4⟩:=gV (i:=4) (by decide) (by rw [gU];rfl);obtain ⟨o5,g5,x5,R,k5⟩:=gV (i:=5) (by decide) (by rw [gU];rfl);obtain ⟨o6,g6,x6,S,k6⟩:=gV (i:=6) (by decide) (by rw [gU];rfl);obtain ⟨o7,Y,x7,T,k7⟩:=gV (i:=7) (by decide) (by rw [gU];rfl);obtain ⟨o8,g8,x8,U,k8⟩:=gV (i:=8) (by decide) (by rw [gU];rfl);obtain ⟨o9,g9,x9,d9,k9⟩:=gV (i:=9) (by decide) (by rw [gU];rfl);obtain ⟨h3,y,H,d10,A⟩:=gV (i:=10) (by decide) (by rw [gU];rfl);obtain ⟨h4,z,I,d11,B⟩:=gV (i:=11) (by decide) (by rw [gU];rfl);have g:Region.noSelect QT=ZW:=by kernel_rfl
 have h1:QT.size=12:=by kernel_rfl
 refine wp_region_any (by kernel_rfl) ?_;rw [h1];change wpAny _ _ _ _ _ (aaB []) _ (World.drew _);refine WX g0 g (by kernel_rfl) (by kernel_rfl) (λc a w h=>j c _ _ a w (by rw [M] at h;exact h)) (je k0 x0 V) ?_;rw [M];refine WX g1 g (by kernel_rfl) (by kernel_rfl) (λc a w h=>j c _ _ a w (by rw [d1] at h;exact h)) (je (v:=Z7 Z9 (p:Nat)) k1 x1 (by rw [aA _ _ _ _ (by decide)];exact W)) ?_;rw [d1];refine WX g2 g (by kernel_rfl) (by kernel_rfl) (λc a w h=>j c _ _ a w (by rw [N] at h;exact h)) (je (v:=Z7 Z9 (p:Nat)) k2 x2 (by rw [aA _ _ _ _ (by decide),aA _ _ _ _ (by decide)];exact W)) ?_;rw [N];refine WX g5 g (by kernel_rfl) (by kernel_rfl) (λc a w h=>j c _ _ a w (by rw [R] at h;exact h)) (je (v:=Z7 Z9 (r:Nat)) k5 x5 (by rw [aA _ _ _ _ (by decide),aA _ _ _ _ (by decide),aA _ _ _ _ (by decide)];exact V)) ?_;rw [R];generalize hb:(((a.put (ZX 28) (Z7 Z9 (r:Nat))).put (ZX 29) (Z7 Z9 (p:Nat))).put (ZX 30) (Z7 Z9 (p:Nat))).put (ZX 33) (Z7 Z9 (r:Nat))=b;have sb:b.tmps.size=47:=by rw [<- hb];simp only [fL,m]
 have b3:b.eval (Z1 3)=Z6 (ZX ⟨gb,0,ZY⟩):=by rw [<- hb];simp only [aA _ _ _ _ (show (33:Nat)≠3 by decide),aA _ _ _ _ (show (30:Nat)≠3 by decide),aA _ _ _ _ (show (29:Nat)≠3 by decide),aA _ _ _ _ (show (28:Nat)≠3 by decide),e3]
 have s:b.eval (Z1 30)=Z7 Z9 (p:Nat):=by rw [<- hb,aA _ _ _ _ (by decide),eX _ _ _ (by simp only [fL,m];decide)]
 have t:b.eval (Z1 33)=Z7 Z9 (r:Nat):=by rw [<- hb,eX _ _ _ (by simp only [fL,m];decide)]
 have o:b.eval (Z1 28)=Z7 Z9 (r:Nat):=by rw [<- hb,aA _ _ _ _ (by decide),aA _ _ _ _ (by decide),aA _ _ _ _ (by decide),eX _ _ _ (by simp only [m];decide)]
 have q:b.eval (Z1 29)=Z7 Z9 (p:Nat):=by rw [<- hb,aA _ _ _ _ (by decide),aA _ _ _ _ (by decide),eX _ _ _ (by simp only [fL,m];decide)]
 unfold Lr at h;rw [hb] at h;clear hb;refine WX g3 g (by kernel_rfl) (by kernel_rfl) (λc a w h=>j c _ _ a w (by rw [O] at h;exact h)) (.inl ⟨dI k3,oB gb p hp x3 b3 s⟩) ?_;rw [O];refine WX g6 g (by kernel_rfl) (by kernel_rfl) (λc a w h=>j c _ _ a w (by rw [S] at h;exact h)) (.inl ⟨dI k6,oB gb r hr x6 (by rw [aA _ _ _ _ (by decide)];exact b3) (by rw [aA _ _ _ _ (by decide)];exact t)⟩) ?_;rw [S];generalize hc:(b.put (ZX 31) (Z6 (ZX ⟨gb,p*64,ZY⟩))).put (ZX 34) (Z6 (ZX ⟨gb,r*64,ZY⟩))=c;have G:c.tmps.size=47:=by rw [<- hc];simp only [fL,sb]
 have c3:c.eval (Z1 3)=Z6 (ZX ⟨gb,0,ZY⟩):=by rw [<- hc,aA _ _ _ _ (by decide),aA _ _ _ _ (by decide),b3]
 have u:c.eval (Z1 28)=Z7 Z9 (r:Nat):=by rw [<- hc,aA _ _ _ _ (by decide),aA _ _ _ _ (by decide),o]
 have x:c.eval (Z1 29)=Z7 Z9 (p:Nat):=by rw [<- hc,aA _ _ _ _ (by decide),aA _ _ _ _ (by decide),q]
 have k:c.eval (Z1 31)=Z6 (ZX ⟨gb,p*64,ZY⟩):=by rw [<- hc,aA _ _ _ _ (by decide),eX _ _ _ (by rw [sb];decide)]
 have l:c.eval (Z1 34)=Z6 (ZX ⟨gb,r*64,ZY⟩):=by rw [<- hc,eX _ _ _ (by simp only [fL,sb];decide)]
 rw [hc] at h;clear hc;have J:(ZL.info? 113).map (λi=>i.size)=ZX e.length:=by rw [lp];exact Tryz.S8
 have L:(ZL.info? 113).map (λi=>i.size)=ZX f.length:=by rw [lr];exact Tryz.S8
 have fin:wpAny ZL .any QT Q 4 (aaB [0,1,2,5,3,6,4,7]) ((c.put (ZX 32) (.agg e.toArray)).put (ZX 35) (.agg f.toArray)) w.drew:=by
  generalize hd:(c.put (ZX 32) (.agg e.toArray)).put (ZX 35) (.agg f.toArray)=d;have sd:d.tmps.size=47:=by rw [<- hd];simp only [fL,G]
  have q3:d.eval (Z1 3)=Z6 (ZX ⟨gb,0,ZY⟩):=by rw [<- hd,aA _ _ _ _ (by decide),aA _ _ _ _ (by decide),c3]
  have C:d.eval (Z1 28)=Z7 Z9 (r:Nat):=by rw [<- hd,aA _ _ _ _ (by decide),aA _ _ _ _ (by decide),u]
  have D:d.eval (Z1 29)=Z7 Z9 (p:Nat):=by rw [<- hd,aA _ _ _ _ (by decide),aA _ _ _ _ (by decide),x]
  have E:d.eval (Z1 32)=.agg e.toArray:=by rw [<- hd,aA _ _ _ _ (by decide),eX _ _ _ (by rw [G];decide)]
  have F:d.eval (Z1 35)=.agg f.toArray:=by rw [<- hd,eX _ _ _ (by simp only [fL,G];decide)]
  rw [hd] at h;clear hd;refine WX g8 g (by kernel_rfl) (by kernel_rfl) (λc a w h=>j c _ _ a w (by rw [U] at h;exact h)) (.inl ⟨dI k8,oB gb r hr x8 q3 C⟩) ?_;rw [U];refine Yd (rs:=[9]) (by kernel_rfl) (by simp) ?_;refine XK g9 (λK hK=>?_) Ye;rw [TX (dI k9)];refine wp_store_mid 113 (Z1 36) (Z1 32) x9 gb (r*64) e.toArray (by rw [eX _ _ _ (by rw [sd];decide)]) (by rw [aA _ _ _ _ (by decide),E]) (by simpa [lp] using tr) (by simpa using J) op ?_;refine hK _ _ ?_;rw [d9];refine WX y g (by kernel_rfl) (by kernel_rfl) (λc a w h=>j c _ _ a w (by rw [d10] at h;exact h)) (.inl ⟨dI A,oB gb p hp H (by show (d.put (ZX 36) _).eval _=_;rw [aA _ _ _ _ (by decide)];exact q3) (by show (d.put (ZX 36) _).eval _=_;rw [aA _ _ _ _ (by decide)];exact D)⟩) ?_;rw [d10];refine Yd (rs:=[11]) (by kernel_rfl) (by simp) ?_;refine XK z (λK hK=>?_) Ye;rw [TX (dI B)];refine wp_store_mid 113 (Z1 37) (Z1 35) I gb (p*64) f.toArray (by rw [eX _ _ _ (by show 37<(d.put (ZX 36) _).tmps.size;rw [fL,sd];decide)]) (by rw [aA _ _ _ _ (by decide)];show (d.put (ZX 36) _).eval _=_;rw [aA _ _ _ _ (by decide),F]) (by simpa [lr] using World.there_setCells tp gb (r*64) e) (by simpa using L) or ?_;refine hK _ _ ?_;rw [d11];exact wpAny_done (by kernel_rfl) h _
 refine Yd (rs:=[4,7]) (by kernel_rfl) (by simp) ?_;refine XK X (λK hK=>?_) (XK Y (λK hK=>?_) Ye)
 . rw [TX (dI k4)];refine abC 113 (Z1 31) x4 gb (p*64) k e _ Z Yf rfl J ?_;refine hK _ _ ?_;rw [P];refine Yd (rs:=[7]) (by kernel_rfl) (by simp) ?_;refine XK Y (λK hK=>?_) Ye;rw [TX (dI k7)];refine abC 113 (Z1 34) x7 gb (r*64) (by rw [aA _ _ _ _ (by decide)];exact l) f _ gr Yf rfl L ?_;refine hK _ _ ?_;rw [T];exact fin
 . rw [TX (dI k7)];refine abC 113 (Z1 34) x7 gb (r*64) l f _ gr Yf rfl L ?_;refine hK _ _ ?_;rw [T];refine Yd (rs:=[4]) (by kernel_rfl) (by simp) ?_;refine XK X (λK hK=>?_) Ye;rw [TX (dI k4)];refine abC 113 (Z1 31) x4 gb (p*64) (by rw [aA _ _ _ _ (by decide)];exact k) e _ Z Yf rfl J ?_;refine hK _ _ ?_;rw [P,put_comm _ _ _ _ _ (by decide)];exact fin
def vV:Array ZT->Nat->List ZT->Array ZT
 | cur,_,[]=>cur
 | cur,o,v::r=>vV (cur.setIfInBounds o v) (o+1) r
def xN:∀ (vs:List ZT) (o:Nat) (cur:Array ZT),(vV cur o vs).size=cur.size
 | [],_,_=>rfl
 | v::r,o,cur=>by unfold vV;rw [xN r];simp
def xO:∀ (vs:List ZT) (o:Nat) (cur:Array ZT),o+vs.length<=cur.size->(vV cur o vs).toList.take (o+vs.length)=cur.toList.take o++vs
 | [],o,cur,_=>by simp [vV]
 | v::r,o,cur,h=>by
  simp only [UG] at h ⊢;unfold vV;have:=xO r (o+1) (cur.setIfInBounds o v) (by simp;omega);rw [show o+(r.length+1)=o+1+r.length by omega,this,Yz];have e:(cur.toList.set o v).take (o+1)=cur.toList.take o++[v]:=by
   rw [Vg,List.take_set_of_le (TY o),abA (by simp;omega)];rfl
  rw [e,UC];rfl
def jr:∀ (vs:List ZT) (o:Nat) (w:ZU) {b:Nat} {cur:Array ZT} {t:ZN} {a:Nat×Nat},w.heap[b]?=ZX (Z4 cur t a)->(w.setCells b o vs).heap[b]?=ZX (Z4 (vV cur o vs) t a)
 | [],_,_,_,_,_,_,h=>h
 | v::r,o,w,b,cur,t,a,h=>by
  show ((w.setCell ⟨b,o,ZY⟩ v).setCells b (o+1) r).heap[b]?=_;exact jr r (o+1) _ (by simp [World.setCell,Vw,h])
def cD (w:ZU) (b o:Nat) (vs:List ZT):w.grownBy (w.setCells b o vs) (ZX b):=by
 obtain ⟨c,d,f⟩:=jo b vs o w;exact ⟨c,d,f,by rw [jn];exact TY _,λk _ a=>aQ b vs o w k (λe=>a (by rw [e]))⟩
theorem ld (w:ZU) (base:Nat) (t tx p e:ZN) (i:TypeInfo) (z:ZT) (size bytes:Nat) (o:P.underlying t=ZX (.slice e)) (h:P.info? e=ZX i) (D:i.zero=ZX z)
 (F:i.size=size) (J:i.bytes=bytes) (O:z.cells.size=size) (v:ZT) (n:Nat) (xs:List ZT) (d:w.ownsRow base e size v n xs)
 (x:ZT) (m:Nat) (news:List ZT) (a:Src P size tx x m news w) (B:n+m<=maxLen) (A:(n+m)*bytes<=140737488355328) (E:base<=w.heap.size) :
 ∃ q w',(Builtin.append_ #[t,tx] p #[v,x]).run P w=.ok q w'/\w'.ownsRow base e size q (n+m) (xs++news)/\w.grownBy w' v.ownBlock/\(q.ownBlock=v.ownBlock\/q.ownBlock=ZX w.heap.size):=by
 subst F;subst J;have:n+m<=9223372036854775807:=by simp only [maxLen] at B;omega
 have f:(xs++news).length=(n+m)*i.size:=by rw [Uc,d.1,a.newsLen,XL]
 have grown:∀ (old:Nat),∀ (row:Option Nat),
  (w.drew.alloc (Z4 ((xs++news).toArray++Builtin.zeroCells z.cells (grownCap w (n+m) old e-(n+m))) e)).ownsRow base e i.size
   (Z5 (ZX ⟨w.heap.size,0,ZY⟩) (n+m) (grownCap w (n+m) old e)) (n+m) (xs++news) /\
  w.grownBy (w.drew.alloc (Z4 ((xs++news).toArray++Builtin.zeroCells z.cells (grownCap w (n+m) old e-(n+m))) e)) row:=by
  intro old row;have N:=aby w (n+m) old e;have s:grownCap w (n+m) old e<=maxLen:=abz w (n+m) old e B;refine ⟨⟨f,.inr ⟨w.heap.size,_,_,rfl,E,abD w.drew _,N,s,?_,?_⟩⟩,⟨rfl,rfl,rfl,by simp,λk l _=>(Uy w.drew _ k l:_)⟩⟩
  . rw [Array.size_append,UL,size_zeroCells,O,f,<- XL];congr 1;omega
  . rw [Array.toList_append,<- f];exact Yg
 rcases d.2 with ⟨rfl,rfl⟩|⟨g,cap,cur,rfl,I,y,T,s,C,G⟩
 . have Q:xs=[]:=UY (by simpa using d.1);subst Q;by_cases L:m=0
   . subst L;have M:news=[]:=UY (by simpa using a.newsLen);subst M;refine ⟨Z5 ZY 0 0,w,?_,UP w base e i.size,⟨rfl,rfl,rfl,TY _,λ_ _ _=>rfl⟩,.inl rfl⟩;rcases a.kind with ⟨R,l⟩|l<;>simp [Builtin.append_,UR o,UR l,sizeOf,typeInfo,h,a.len,a.cells]
   . have b:=run_append_grow_src (P:=P) (w:=w) t tx p e i z o h D ZY 0 0 [] (by simp [Builtin.firstCells]) x m news a (by omega) (by omega) (abx (by omega) (by simpa using A));have c:=grown 0 (Value.ownBlock (Z5 ZY 0 0));simp only [Um,Ut] at c b ⊢;exact ⟨_,_,b,c.1,c.2,.inr rfl⟩
 . by_cases r:n+m<=cap
   . have H:n*i.size+news.length<=cur.size:=(by rw [a.newsLen,C,<- XL];exact WV _ r);have b:=run_append_room_src (P:=P) (w:=w) t tx p e i o h g 0 n cap x m news a r (λj K=>by simp [World.cell?,y];omega) (λj K=>by simp [World.frozen?,y]);rw [Um] at b;refine ⟨_,_,b,⟨f,.inr ⟨g,cap,_,rfl,I,jr news _ w y,r,s,by rw [xN];exact C,?_⟩⟩,cD w g _ news,.inl rfl⟩;rw [XL,<- a.newsLen,xO news _ cur H,G]
   . have holds:∀ j u,xs[j]?=ZX u->w.cell? ((⟨g,0,ZY⟩:ZQ).add j)=ZX u:=d.cells (g:=g) rfl;have b:=run_append_grow_src (P:=P) (w:=w) t tx p e i z o h D (ZX ⟨g,0,ZY⟩) n cap xs (run_firstCells_some w.drew i.size n ⟨g,0,ZY⟩ n cap xs d.1 (by simpa using holds)) x m news a (by omega) (by omega) (abx (by omega) A);have c:=grown cap (Value.ownBlock (Z5 (ZX ⟨g,0,ZY⟩) n cap));exact ⟨_,_,b,c.1,c.2,.inr rfl⟩
def ae (w:ZU) {ops:Array ZO} {rest:List ZO} {o:ZO} {a:Act} {Q:Exit->Act->ZU->Prop} (g:o.guard=ZY) (s x:Operand) (t tx:ZN)
 (ho:o.op=.call { callee:=.builtin .append,args:=#[s,x],argTypes:=#[t,tx] }) (base:Nat) (e:ZN) (i:TypeInfo) (z:ZT) (size bytes:Nat) (ht:P.underlying t=ZX (.slice e)) (hi:P.info? e=ZX i) (hz:i.zero=ZX z)
 (h5:i.size=size) (h8:i.bytes=bytes) (ha:z.cells.size=size) (v:ZT) (n:Nat) (xs:List ZT) (hv:a.eval s=v) (h6:w.ownsRow base e size v n xs)
 (u:ZT) (hu:a.eval x=u) (m:Nat) (news:List ZT) (hs:Src P size tx u m news w) (h7:n+m<=maxLen) (h0:(n+m)*bytes<=140737488355328) (h1:base<=w.heap.size)
 (h:∀ b w',w'.ownsRow base e size b (n+m) (xs++news)->w.grownBy w' v.ownBlock->(b.ownBlock=v.ownBlock\/b.ownBlock=ZX w.heap.size)->wpList P ops Q rest (a.put o.dst b) w'):wpList P ops Q (o::rest) a w:=by
 obtain ⟨b,w',j,c,d,f⟩:=ld (P:=P) w base t tx o.type e i z size bytes ht hi hz h5 h8 ha v n xs h6 u m news hs h7 h0 h1;refine V5 g λK hK=>?_;unfold Oper.wp execOp;simp only [ho,resolve,invoke,builtin,Ux,Vf,UK,V7,UI,Vh,hv,hu,j];exact hK _ _ (h b w' c d f)
def Oi (Fc:Fence) (n:Nat) (P:Program) (Q:Exit->Act->ZU->Prop) (lo hi:Nat) (sh:List (Op×Option Nat×a8)) (a0:Act) (V:Nat->ZT->ZU->Prop) (B:(Nat->Bool)->ZU->Prop) (i:Nat):Prop:=
 ∀ (o:ZO) (a:Act) (w:ZU) (D:Nat->Bool),o.guard=ZY->o.op=(dV sh i).1->o.dst=(dV sh i).2.1->eu lo hi a0 a->D i=ZV->(∀ j,D j=ZW->j<sh.length/\∀ k∈(dV sh j).2.2,D k=ZW) ->
  (∀ k∈(dV sh i).2.2,D k=ZW)->B D w->(∀ j,D j=ZW->V j (jd (dV sh j).2.1 a) w) ->
  o.wpIn Fc n P a w (λa' w'=>∃ v,a'=a.put o.dst v/\(o.dst=ZY->v=ZZ)/\B (mq D i) w'/\V i v w'/\∀ j u,D j=ZW->V j u w->V j u w') Q
def js {Fc:Fence} {lo hi:Nat} {sh:List (Op×Option Nat×a8)} (y:P.follows .mixedOrders=ZW) (v:bF ops lo hi sh) (b:Act) (w0:ZU) (u:hi<=b.tmps.size)
 (V:Nat->ZT->ZU->Prop) (B:(Nat->Bool)->ZU->Prop) (x:B (λ_=>ZV) w0.drew) (k:∀ i,i<sh.length->Oi Fc n P Q lo hi sh b V B i)
 (t:∀ (a:Act) (w:ZU),eu lo hi b a->(∀ s,(∀ i,i<sh.length->(dV sh i).2.1≠ZX s)->a.eval (.tmp s)=b.eval (.tmp s))->(∃ D,(∀ i,i<sh.length->D i=ZW)/\B D w)->(∀ i,i<sh.length->V i (jd (dV sh i).2.1 a) w)->Q .normal a w):(Code.region m ops ZW).wpIn Fc n P Q b w0:=
 wpIn_region_any y (wQ (λo a w K=>o.wpIn Fc n P a w K Q) (wpAnyIn Fc n P .any ops Q) (λ_ _ _ h q=>⟨h,q⟩) (λf l a w c d=>⟨λe=>absurd e c,λi hi=>by
  obtain ⟨o,g,j,h⟩:=d i hi;unfold wpOpIn;rw [g];show if Region.wanted o (yielded ops a.tmps)=ZW then _ else _;rw [TX (by simp [Region.wanted,j])];exact h⟩) (λo a w K z h=>Oper.wpIn_mono h) v b _ u V B x (λi hi o a w D c d p r _=>k i hi o a w D c d p r) t)
def iu {l:Nat} (i:(execOp a.eval o).run P w=.ok (.value v) w') (f:∀ c,o.op≠.defer c) {d:Nat} (g:o.dst=ZX d) (h:B w'/\Vi v w'/\S w') :
 o.wpIn (Fence.wide.inRound l) n P a w (λb w'=>∃ v,b=a.put o.dst v/\(o.dst=ZY->v=ZZ)/\B w'/\Vi v w'/\S w') Q:=by
 refine ⟨λ_ _=>trivial,?_⟩;rw [VE _ _ _ f,i];exact ⟨v,rfl,λe=>(by rw [g] at e;cases e),h.1,h.2.1,h.2.2⟩
def Ca {l:Nat} (e:(execOp a.eval o).run P w=.ok .skip w') (d:∀ c,o.op≠.defer c) (h:B w'/\Vi ZZ w'/\S w') :
 o.wpIn (Fence.wide.inRound l) n P a w (λb w'=>∃ v,b=a.put o.dst v/\(o.dst=ZY->v=ZZ)/\B w'/\Vi v w'/\S w') Q:=by
 refine ⟨λ_ _=>trivial,?_⟩;rw [VE _ _ _ d,e];exact ⟨ZZ,rfl,λ_=>rfl,h.1,h.2.1,h.2.2⟩
def Cb {l:Nat} {f:FuncId} (m:(execOp a.eval o).run P w=.ok (.enter f args) w1) (g:∀ c,o.op≠.defer c) {d:Nat} (k:o.dst=ZX d) (j:ZR P f args w1 Rr)
 (h:∀ e w',Rr e w'->∃ v,e=Z3 v/\B w'/\Vi v w'/\S w'):o.wpIn (Fence.wide.inRound l) n P a w (λb w'=>∃ v,b=a.put o.dst v/\(o.dst=ZY->v=ZZ)/\B w'/\Vi v w'/\S w') Q:=by
 refine ⟨λ_ _=>trivial,?_⟩;rw [VE _ _ _ g,m];refine ⟨λh=>(by cases h),abW l (Vj.2 (j.mono λe w' i=>?_))⟩;obtain ⟨v,rfl,p,q,r⟩:=h e w' i;exact ⟨v,rfl,λe=>(by rw [k] at e;cases e),p,q,r⟩
def se (i:(execOp a.eval o).run P w=.ok (.value v) w') (f:∀ c,o.op≠.defer c) {d:Nat} (g:o.dst=ZX d) (h:B w'/\Vi v w'/\S w') :
 o.wpIn Fence.wide n P a w (λb w'=>∃ v,b=a.put o.dst v/\(o.dst=ZY->v=ZZ)/\B w'/\Vi v w'/\S w') Q:=by
 refine ⟨λ_ _=>trivial,?_⟩;rw [VE _ _ _ f,i];exact ⟨v,rfl,λe=>(by rw [g] at e;cases e),h.1,h.2.1,h.2.2⟩
def Cc (e:(execOp a.eval o).run P w=.ok .skip w') (d:∀ c,o.op≠.defer c) (h:B w'/\Vi ZZ w'/\S w') :
 o.wpIn Fence.wide n P a w (λb w'=>∃ v,b=a.put o.dst v/\(o.dst=ZY->v=ZZ)/\B w'/\Vi v w'/\S w') Q:=by
 refine ⟨λ_ _=>trivial,?_⟩;rw [VE _ _ _ d,e];exact ⟨ZZ,rfl,λ_=>rfl,h.1,h.2.1,h.2.2⟩
def Lt {f:FuncId} (l:(execOp a.eval o).run P w=.ok (.enter f args) w1) (g:∀ c,o.op≠.defer c) {d:Nat} (k:o.dst=ZX d) (j:ZR P f args w1 Rr)
 (h:∀ e w',Rr e w'->∃ v,e=Z3 v/\B w'/\Vi v w'/\S w'):o.wpIn Fence.wide n P a w (λb w'=>∃ v,b=a.put o.dst v/\(o.dst=ZY->v=ZZ)/\B w'/\Vi v w'/\S w') Q:=by
 refine ⟨λ_ _=>trivial,?_⟩;rw [VE _ _ _ g,l];refine ⟨λh=>(by cases h),(Vj.2 (j.mono λe w' i=>?_))⟩;obtain ⟨v,rfl,m,p,q⟩:=h e w' i;exact ⟨v,rfl,λe=>(by rw [k] at e;cases e),m,p,q⟩
def zX (P:List St):Nat:=P.foldl (λs t=>if t.k=0 then s|||2^t.b.toNat else s) 0
def Cd (P:List St) (t:St):zX (P++[t])=if t.k=0 then zX P|||2^t.b.toNat else zX P:=by unfold zX;rw [Wq];rfl
def Lu {P:List St} (a:k<P.length):zX (P.take (k+1))=if P[k].k=0 then zX (P.take k)|||2^P[k].b.toNat else zX (P.take k):=by
 rw [Vg,Ue a,YQ,Cd]
theorem si (P:List St) (i:Nat):(zX P).testBit i=ZW↔∃ s∈P,s.k=0/\s.b.toNat=i:=by
 obtain ⟨Q,rfl⟩:∃ Q,P=Q.reverse:=⟨P.reverse,by simp⟩;induction Q with
 | nil=>simp [zX]
 | cons t Q ih=>
  rw [List.reverse_cons,Cd];by_cases h:t.k=0
  . rw [TX h,VZ,X3,Xg,ih,Wt];constructor
    . rintro (⟨s,a,c⟩|a)
      . exact ⟨s,UO _ a,c⟩
      . exact ⟨t,by simp,h,a⟩
    . rintro ⟨s,a,c,d⟩;rcases Un.1 a with q|q
      . exact .inl ⟨s,q,c,d⟩
      . rw [Vn] at q;exact .inr (by rw [<- q];exact d)
  . rw [TW h,ih];constructor
    . rintro ⟨s,a,c⟩;exact ⟨s,UO _ a,c⟩
    . rintro ⟨s,a,c⟩;rcases Un.1 a with q|q
      . exact ⟨s,q,c⟩
      . rw [Vn] at q;exact absurd (q▸c.1) h
def Lv {P:List St} (h:∀ s∈P,s.k=0->s.b.toNat<16):zX P<65536:=by
 refine Nat.lt_pow_two_of_testBit (n:=16) _ λi e=>?_;cases hb:(zX P).testBit i
 . rfl
 . obtain ⟨s,a,c,d⟩:=(si P i).1 hb;have:=h s a c;omega
def LoR (w:ZU) (P:List St) (lv iv:ZT) (wr:ZU):Prop:=∃ k:Nat,k<=P.length/\iv=Z7 Z9 k/\lv=Z7 Z8 (zX (P.take k):Nat)/\bW w wr
theorem IF (regs:Int) {v:ZT} {P:List St} {w:ZU} (h:Ps .u8 w v P) (y:∀ s∈P,s.k=0->0<=s.b/\s.b<16) (hl:P.length<=5000) :
 ZR ZL 169 #[.agg #[Z7 Z9 regs,v]] w λe w'=>e=Z3 (Z7 Z8 (zX P:Nat))/\bW w w':=by
 obtain ⟨ao,c,rfl⟩:=h.slice;have n:bW w (w.alloc (Z4 #[Z7 Z9 regs,.slice ao P.length c] 206)):=bA w _;have p:(w.alloc (Z4 #[Z7 Z9 regs,.slice ao P.length c] 206)).heap[w.heap.size]?=ZX (Z4 #[Z7 Z9 regs,.slice ao P.length c] 206 (0,0)):=Uk _ _;obtain ⟨w1,u⟩:=nM (w.alloc (Z4 #[Z7 Z9 regs,.slice ao P.length c] 206));rw [u] at n p;have k1:w1.cell? ⟨w.heap.size,1,ZY⟩=ZX (.slice ao P.length c):=by simp [World.cell?,p]
 have H:=aE n h y;clear n p h y;go_enter func169,ntmps169;go_wp2;go_loopw [3,9] (λG q wr=>LoR w P G q wr) (λ_ q _=>P.length-(intOf q).toNat)
 case atStart=>exact ⟨0,T7 _,rfl,rfl,H.o.1⟩
 case round=>
  clear k1 u;rename ZU=>wo;obtain ⟨k,M,rfl,rfl,f⟩:=hrel;by_cases l:k<P.length
  . rcases (H.o.2.1.mono f).cases with ⟨rfl,_⟩|⟨b,off,I,e,_,z⟩
    . simp at l
    simp at e;obtain ⟨rfl,rfl⟩:=e;obtain ⟨J,d1,K,L⟩:=z k l;have t:=f.alloc f.size (Z4 #[Z7 .u8 P[k].k,Z7 Z9 P[k].a,Z7 Z9 P[k].b,Z7 .u8 P[k].c] 299);have j:=ak (Lu l);have A:=ak (H.o.2.2 _ (T8 l));have C:=ak (Lv (P:=P.take k) (λs F B=>by have:=H.o.2.2 s (U2 F) B;omega));have i:=ak t;clear z f t;generalize P[k].k=r at *;generalize P[k].b=sb at *;by_cases g:r=0
    . have tk:((r:Int)==0)=ZW:=(by simp [g]);have N:=A.o g;have d:=j.o;rw [TX g] at d;have m:=ak d;clear g d j;obtain ⟨x,rfl⟩:∃ x:Nat,sb=(x:Int):=⟨sb.toNat,by omega⟩;go_wp2_with fail;refine (fK (zX (P.take k)) x (by have:=C.out;omega) (by omega) _).mono ?_;rintro e O ⟨rfl,E⟩;subst E;go_wp2;go_roundw
      case rel=>exact ⟨k+1,by omega,by go_num,by rw [m.out,VL],i.o⟩
      case measure=>simp [intOf]<;>omega
    . have tk:((r:Int)==0)=ZV:=(by simp;omega);have d:=j.o;rw [TW g] at d;have m:=ak d;clear g d j;go_wp2;go_roundw
      case rel=>exact ⟨k+1,by omega,by go_num,by rw [m.out],i.o⟩
      case measure=>simp [intOf]<;>omega
  . have D:k=P.length:=(by omega);subst D;rw [VK];have i:=ak f;clear f;go_wp2;go_ret;exact ⟨rfl,i.o⟩
def pJ (n nb:Nat):eB:=⟨n,nb,λ_=>ZV,λ_ _=>ZV,λ_ _=>zb⟩
def tJ (n nb:Nat):aC:=⟨n,nb,λ_ _=>ZV,λ_=>ZV,λ_ _=>ZV,λ_ _=>ZV,λ_ _=>.blank⟩
def zY (n nb:Nat):jc (pJ n nb) (tJ n nb):=⟨rfl,rfl,λ_ _=>rfl,λ_ _ _ _=>zx (r:=.blank) trivial,λ_ _ _ _ h=>by cases h⟩
def rH (w:ZU) (b nb:Nat):Prop:=w.rowIs b 114 (64*nb) (λ_=>Z7 .u8 0)
def tK (w:ZU) (b nb:Nat):Prop:=w.rowIs b 4 nb (λ_=>Z2 ZV)
def dS (nb:Nat) (q:Nat×Nat):List ZT:=[Z2 ZV,Z5 (ZX ⟨q.1,0,ZY⟩) nb nb,Z5 (ZX ⟨q.2,0,ZY⟩) nb nb,Z7 Z9 0]
def oC (nb:Nat) (l:List (Nat×Nat)):List ZT:=l.flatMap (dS nb)
def Tryz.infoDrive:(ZL.info? 79).map (λi=>(i.zero,i.size,i.bytes))=ZX (ZX (.agg #[Z2 ZV,Z5 ZY 0 0,Z5 ZY 0 0,Z7 Z9 0]),4,64):=by kernel_rfl
def Tryz.Tm:(ZL.info? 4).map (λi=>(i.zero,i.size,i.bytes))=ZX (ZX (Z2 ZV),1,1):=by kernel_rfl
def Lw (w:ZU) (nb:Nat):rH (w.alloc (Z4 (madeCells (aB zb) (nb*64)) 114)) w.heap.size nb:=by
 refine ⟨_,Uk _ _,by rw [size_madeCells];omega,λi c=>?_⟩;have b:(aB zb).size=64:=by rw [iB,bX]
 have:i%64<64:=Wd _ (by decide);have a:(aB zb)[i%64]! = Z7 .u8 0:=by
  have e:aB zb=YP 64 (Z7 .u8 0):=by simp only [aB,aI,zb,List.map_replicate,List.toArray_replicate];rfl
  rw [getElem!_pos (aB zb) (i%64) (by omega)];simp only [e,Array.getElem_replicate]
 simp [madeCells,b,a,show i<nb*64 by omega]
noncomputable def RNa:Array ZO:=((Tryz.f8.body.bind (DO · 4))).getD #[]
def abd:List (Op×Option Nat×a8):=[(Op.move (Z1 5),ZX 11,[]),
 (Op.move (Z1 5),ZX 12,[]),
 (Op.nilCheck (Z1 12),ZX 13,[1]),
 (Op.fieldAddr 75 (Z1 13) 0,ZX 14,[2]),
 (Op.load 73 (Z1 14),ZX 15,[3]),
 (Op.move (Z1 1),ZX 16,[]),
 (Op.call { callee:=Callee.builtin Builtin.max,args:=#[Z1 16,Operand.const (Value.int IntKind.i64 0)],argTypes:=#[3,3] },ZX 17,[5]),
 (Op.makeSlice 76 (Z1 17) (Z1 17),ZX 18,[6,6]),
 (Op.move (Z1 1),ZX 19,[]),
 (Op.call { callee:=Callee.builtin Builtin.max,args:=#[Z1 19,Operand.const (Value.int IntKind.i64 0)],argTypes:=#[3,3] },ZX 20,[8]),
 (Op.makeSlice 77 (Z1 20) (Z1 20),ZX 21,[9,9]),
 (Op.build 79 #[(1,Z1 18),(2,Z1 21)],ZX 22,[7,10]),
 (Op.buildSlice 73 1 #[(0,Z1 22)],ZX 23,[11]),
 (Op.call { callee:=Callee.builtin Builtin.append,args:=#[Z1 15,Z1 23],argTypes:=#[73,73] },ZX 24,[4,12]),
 (Op.nilCheck (Z1 11),ZX 25,[0,0,1,2,3,4,5,6,7,8,9,10,11,12,13]),
 (Op.fieldAddr 75 (Z1 25) 0,ZX 26,[14,0,1,2,3,4,5,6,7,8,9,10,11,12,13]),
 (Op.store 73 (Z1 26) (Z1 24),ZY,[15,13,13,0,1,2,3,4,5,6,7,8,9,10,11,12,13])]
def IG:bF RNa 11 27 abd:=eU (by kernel_rfl) (by kernel_rfl)
def Oj (w0:ZU) (p nb:Nat) (v0:ZT) (xs:List ZT) (k:Nat) (i:Nat) (u:ZT) (w:ZU):Prop:=match i with
 | 0|1|2|3|14|15=>u=Z6 (ZX ⟨p,0,ZY⟩)
 | 4=>u=v0
 | 5|6|8|9=>u=Z7 Z9 nb
 | 7=>∃ b,w0.heap.size<=b/\u=Z5 (ZX ⟨b,0,ZY⟩) nb nb/\rH w b nb
 | 10=>∃ b,w0.heap.size<=b/\u=Z5 (ZX ⟨b,0,ZY⟩) nb nb/\tK w b nb
 | 11=>∃ q:Nat×Nat,w0.heap.size<=q.1/\w0.heap.size<=q.2/\u=.agg (dS nb q).toArray/\rH w q.1 nb/\tK w q.2 nb
 | 12=>∃ (c:Nat) (q:Nat×Nat),w0.heap.size<=c/\w0.heap.size<=q.1/\w0.heap.size<=q.2/\u=Z5 (ZX ⟨c,0,ZY⟩) 1 1/\w.heap[c]?=ZX (Z4 (dS nb q).toArray 79 (0,0))/\rH w q.1 nb/\tK w q.2 nb
 | 13=>∃ q:Nat×Nat,w0.heap.size<=q.1/\w0.heap.size<=q.2/\w.ownsRow (p+1) 79 4 u (k+1) (xs++dS nb q)/\rH w q.1 nb/\tK w q.2 nb
 | 16=>∃ (v':ZT) (q:Nat×Nat),w.heap[p]?=ZX (Z4 #[v',Z7 Z9 (-1)] 75 (0,0))/\w0.heap.size<=q.1/\w0.heap.size<=q.2/\w.ownsRow (p+1) 79 4 v' (k+1) (xs++dS nb q)/\rH w q.1 nb/\tK w q.2 nb
 | _=>True
def lK {xs:List ZT} (j:∀ b,w0.heap.size<=b->b<w.heap.size->w'.heap[b]?=w.heap[b]?) (i:Nat) (u:ZT) (o:i≠13/\i≠16) (h:Oj w0 p nb v0 xs k i u w):Oj w0 p nb v0 xs k i u w':=by
 have l:∀ b,w0.heap.size<=b->rH w b nb->rH w' b nb:=λb e q=>VH q (j b e q.lt);have e:∀ b,w0.heap.size<=b->tK w b nb->tK w' b nb:=λb e q=>VH q (j b e q.lt);match i with
 | 0|1|2|3|14|15|4|5|6|8|9=>exact h
 | 7=>obtain ⟨b,a,d,f⟩:=h;exact ⟨b,a,d,l b a f⟩
 | 10=>obtain ⟨b,a,d,f⟩:=h;exact ⟨b,a,d,e b a f⟩
 | 11=>obtain ⟨q,a,d,f,g,m⟩:=h;exact ⟨q,a,d,f,l _ a g,e _ d m⟩
 | 12=>obtain ⟨c,q,r,a,d,f,g,m,s⟩:=h;exact ⟨c,q,r,a,d,f,(j c r (T5.1 g).1).trans g,l _ a m,e _ d s⟩
 | 13=>exact absurd rfl o.1
 | 16=>exact absurd rfl o.2
 | n+17=>trivial
def QU (w0:ZU) (p:Nat) (v0:ZT) (D:Nat->Bool) (w:ZU):Prop:=(∀ k,k<w0.heap.size->(D 13=ZW->v0.ownBlock≠ZX k)->(D 16=ZW->k≠p)->w.heap[k]?=w0.heap[k]?)/\w0.heap.size<=w.heap.size/\w.os=w0.os/\w.tape=w0.tape/\w.output=w0.output
theorem sj {D:Nat->Bool} (h:QU w0 p v0 D w) (i:Nat) (a:w.heap.size<=w'.heap.size/\w'.os=w.os/\w'.tape=w.tape/\w'.output=w.output) (f:∀ k,k<w0.heap.size->(i=13->v0.ownBlock≠ZX k)->(i=16->k≠p)->w'.heap[k]?=w.heap[k]?):QU w0 p v0 (mq D i) w':=by
 obtain ⟨g,j,l,m,n⟩:=h;refine ⟨λk d b c=>?_,TZ j a.1,a.2.1.trans l,a.2.2.1.trans m,a.2.2.2.trans n⟩;unfold mq at b c;refine (f k d (λe=>b (by rw [TX e.symm])) (λe=>c (by rw [TX e.symm]))).trans (g k d (λe=>b ?_) (λe=>c ?_))
 . split
   . rfl
   . exact e
 . split
   . rfl
   . exact e
def dX {D:Nat->Bool} (h:QU w0 p v0 D w) (i:Nat):QU w0 p v0 (mq D i) w:=sj h i ⟨TY _,rfl,rfl,rfl⟩ (λ_ _ _ _=>rfl)
def pK {D:Nat->Bool} (h:QU w0 p v0 D w) (i:Nat) (o:Obj):QU w0 p v0 (mq D i) (w.alloc o):=
 sj h i ⟨by simp,rfl,rfl,rfl⟩ (λk a _ _=>Uy _ _ _ (T9 a h.2.1))
theorem EF {xs:List ZT} (hx:RNa=ops) (km:nb<=1000000) (B:k<=1000) (V:w.ownsRow (p+1) 79 4 v0 k xs)
 (W:w.heap[p]?=ZX (Z4 #[v0,Z7 Z9 (-1)] 75 (0,0))) (ko:a.tmps.size=29) (e5:a.eval (Z1 5)=Z6 (ZX ⟨p,0,ZY⟩)) (Z:a.eval (Z1 1)=Z7 Z9 nb)
 (hQ:∀ (w':ZU) (vs:List ZT) (O:ZT) (q:Nat×Nat),vs.length=16->w.heap.size<=q.1->w.heap.size<=q.2->w'.ownsRow (p+1) 79 4 O (k+1) (xs++dS nb q)->rH w' q.1 nb->tK w' q.2 nb->w'.heap[p]?=ZX (Z4 #[O,Z7 Z9 (-1)] 75 (0,0)) ->
  aa (λj=>j=p\/v0.ownBlock=ZX j) w w'->Q .normal (Act.RV a 11 vs) w'):(Code.region 4 ops ZW).wp ZL Q a w:=by
 subst hx;have X:p<w.heap.size:=(T5.1 W).1;have n1:¬ (nb:Int)<0:=by omega
 obtain ⟨ib,kh,k9,k8,k7⟩:=Uu Tryz.zeroBlk;obtain ⟨ic,ki,kc,kb,ka⟩:=Uu Tryz.Tm;obtain ⟨id,U,kg,kf,ke⟩:=Uu Tryz.infoDrive;refine il (by kernel_rfl) IG a w (by omega) (Oj w p nb v0 xs k) (QU w p v0) ⟨λ_ _ _ _=>rfl,TY _,rfl,rfl,rfl⟩ ?_ ?_
 . intro i G;match i,G with
   | 0,_=>exact λo f w' D C ho m B y z l d h=>aK (bT ho ((B.slot 5 (by omega)).trans e5) w') m ⟨dX d _,rfl,kq⟩
   | 1,_=>exact λo f w' D C ho m B y z l d h=>aK (bT ho ((B.slot 5 (by omega)).trans e5) w') m ⟨dX d _,rfl,kq⟩
   | 2,_=>
    intro o f w' D C ho m B y z l d h;have u0:f.eval (Z1 12)=Z6 (ZX ⟨p,0,ZY⟩):=h 1 (l 1 (by decide));exact aK (kt ho u0 w') m ⟨dX d _,rfl,kq⟩
   | 3,_=>
    intro o f w' D C ho m B y z l d h;have u0:f.eval (Z1 13)=Z6 (ZX ⟨p,0,ZY⟩):=h 2 (l 2 (by decide));exact aK (v:=Z6 (ZX ⟨p,0,ZY⟩)) (by (conv at ho=>rhs;whnf);simp only [execOp,ho,u0];go_simp) m ⟨dX d _,rfl,kq⟩
   | 4,_=>
    intro o f w' D C ho m B y z l d h;have u0:f.eval (Z1 14)=Z6 (ZX ⟨p,0,ZY⟩):=h 3 (l 3 (by decide));have hv:D 13=ZV:=by
     cases q:D 13 with
     | false=>rfl
     | true=>have:=(z 13 q).2 4 (by decide);rw [y] at this;cases this
    have S:D 16=ZV:=by
     cases q:D 16 with
     | false=>rfl
     | true=>have:=(z 16 q).2 4 (by decide);rw [y] at this;cases this
    have c:w'.cell? ⟨p,0,ZY⟩=ZX v0:=by
     have:=(d.1 p X (λq=>by rw [hv] at q;cases q) (λq=>by rw [S] at q;cases q)).trans W;simp [World.cell?,this]
    exact aK (v:=v0) (by (conv at ho=>rhs;whnf);simp only [execOp,ho,u0];go_simp) m ⟨dX d _,rfl,kq⟩
   | 5,_=>exact λo f w' D C ho m B y z l d h=>aK (bT ho ((B.slot 1 (by omega)).trans Z) w') m ⟨dX d _,rfl,kq⟩
   | 6,_=>
    intro o f w' D C ho m B y z l d h;have u0:f.eval (Z1 16)=Z7 Z9 nb:=h 5 (l 5 (by decide));exact aK (v:=Z7 Z9 nb) (by have:=sX (P:=ZL) (s:=Z1 16) (t:=.const (Z7 Z9 0)) ho u0 rfl w';rwa [TW (show ¬ (0:Int)>(nb:Int) by omega)] at this) m ⟨dX d _,rfl,kq⟩
   | 7,_=>
    intro o f w' D C ho m B y z l d h;have u0:f.eval (Z1 17)=Z7 Z9 nb:=h 6 (l 6 (by decide));have R:=run_make (P:=ZL) w' 76 114 ib (.agg (aB zb)) underlying76 kh k9 .i64 .i64 nb nb (by omega) (Int.le_refl _) (by rw [k7];omega) (by omega);rw [k8,VL] at R;refine aK (v:=Z5 (ZX ⟨w'.heap.size,0,ZY⟩) nb nb) (w':=w'.alloc (Z4 (madeCells (aB zb) (nb*64)) 114)) (by (conv at ho=>rhs;whnf);simp [execOp,ho,u0,R,Value.cells]) m ⟨pK d _ _,⟨_,d.2.1,rfl,Lw w' nb⟩,λj u A q=>?_⟩;refine lK (λb _ J=>Uy _ _ _ J) j u ⟨λe=>?_,λe=>?_⟩ q
    . subst e;have:=(z 13 A).2 12 (by decide);have:=(z 12 this).2 11 (by decide);have:=(z 11 this).2 7 (by decide);rw [y] at this;cases this
    . subst e;have:=(z 16 A).2 7 (by decide);rw [y] at this;cases this
   | 8,_=>exact λo f w' D C ho m B y z l d h=>aK (bT ho ((B.slot 1 (by omega)).trans Z) w') m ⟨dX d _,rfl,kq⟩
   | 9,_=>
    intro o f w' D C ho m B y z l d h;have u0:f.eval (Z1 19)=Z7 Z9 nb:=h 8 (l 8 (by decide));exact aK (v:=Z7 Z9 nb) (by have:=sX (P:=ZL) (s:=Z1 19) (t:=.const (Z7 Z9 0)) ho u0 rfl w';rwa [TW (show ¬ (0:Int)>(nb:Int) by omega)] at this) m ⟨dX d _,rfl,kq⟩
   | 10,_=>
    intro o f w' D C ho m B y z l d h;have u0:f.eval (Z1 20)=Z7 Z9 nb:=h 9 (l 9 (by decide));have R:=run_make (P:=ZL) w' 77 4 ic (Z2 ZV) underlying77 ki kc .i64 .i64 nb nb (by omega) (Int.le_refl _) (by rw [ka];omega) (by omega);rw [kb,VL,Wf] at R;refine aK (v:=Z5 (ZX ⟨w'.heap.size,0,ZY⟩) nb nb) (w':=w'.alloc (Z4 (madeCells #[Z2 ZV] nb) 4)) (by (conv at ho=>rhs;whnf);simp [execOp,ho,u0,R,Value.cells]) m ⟨pK d _ _,⟨_,d.2.1,rfl,Xx w' (Z2 ZV) nb _⟩,λj u A q=>?_⟩;refine lK (λb _ J=>Uy _ _ _ J) j u ⟨λe=>?_,λe=>?_⟩ q
    . subst e;have:=(z 13 A).2 12 (by decide);have:=(z 12 this).2 11 (by decide);have:=(z 11 this).2 10 (by decide);rw [y] at this;cases this
    . subst e;have:=(z 16 A).2 10 (by decide);rw [y] at this;cases this
   | 11,_=>
    intro o f w' D C ho m B y z l d h;obtain ⟨b1,E,u0,H⟩:Oj w p nb v0 xs k 7 (f.eval (Z1 18)) w':=h 7 (l 7 (by decide));obtain ⟨b2,F,u1,I⟩:Oj w p nb v0 xs k 10 (f.eval (Z1 21)) w':=h 10 (l 10 (by decide));exact aK (v:=.agg (dS nb (b1,b2)).toArray) (by (conv at ho=>rhs;whnf);simp only [execOp,ho,V7,UI,Vh,u0,u1,dS];go_simp) m ⟨dX d _,⟨(b1,b2),E,F,rfl,H,I⟩,kq⟩
   | 12,_=>
    intro o f w' D C ho m B y z l d h;obtain ⟨q,E,F,u0,H,I⟩:Oj w p nb v0 xs k 11 (f.eval (Z1 22)) w':=h 11 (l 11 (by decide));refine aK (v:=Z5 (ZX ⟨w'.heap.size,0,ZY⟩) 1 1) (w':=w'.alloc (Z4 (dS nb q).toArray 79)) (by (conv at ho=>rhs;whnf);simp only [execOp,ho,V7,UI,Vh,u0,dS];go_simp) m ⟨pK d _ _,⟨_,q,d.2.1,E,F,rfl,Uk _ _,H.alloc _,I.alloc _⟩,λj u A r=>?_⟩;refine lK (λb _ J=>Uy _ _ _ J) j u ⟨λe=>?_,λe=>?_⟩ r
    . subst e;have:=(z 13 A).2 12 (by decide);rw [y] at this;cases this
    . subst e;have:=(z 16 A).2 12 (by decide);rw [y] at this;cases this
   | 13,_=>
    intro o f w' D C ho m hz y z l d h;have u0:f.eval (Z1 15)=v0:=h 4 (l 4 (by decide));obtain ⟨c,q,q0,E,F,u1,hc,H,I⟩:Oj w p nb v0 xs k 12 (f.eval (Z1 23)) w':=h 12 (l 12 (by decide));have S:D 16=ZV:=by
     cases q:D 16 with
     | false=>rfl
     | true=>have:=(z 16 q).2 13 (by decide);rw [y] at this;cases this
    have L:w'.ownsRow (p+1) 79 4 v0 k xs:=V.kept (row:=ZY) ⟨d.2.2.1,d.2.2.2.1,d.2.2.2.2,d.2.1,λj A _=>d.1 j A (λq=>by rw [y] at q;cases q) (λq=>by rw [S] at q;cases q)⟩ (by cases v0.ownBlock<;>simp);refine wp_append_own w' (Z1 15) (Z1 23) 73 ho (p+1) 79 id _ 4 64 underlying73 U kg kf ke rfl (by decide) v0 k xs u0 L ⟨c,0,ZY⟩ 1 1 (dS nb q) u1 rfl (λj u A=>?_) (λu N=>?_) (by simp [maxLen];omega) (by omega) (TZ X d.2.1) ?_
    . rw [jm];simp only [World.cell?,hc];simpa using A
    . simp [dS] at N;rcases N with rfl|rfl|rfl|rfl<;>rfl
    . intro O Y kj M _;have K:∀ b,w.heap.size<=b->b<w'.heap.size->Y.heap[b]?=w'.heap[b]?:=λb J k6=>M.block b k6 (λe=>by have:=(V.lt b e.symm).2;omega);refine ⟨O,rfl,λe=>(by rw [m] at e;cases e),sj d 13 ⟨M.size,M.os,M.tape,M.output⟩ (λj A k0 _=>M.block j (T9 A d.2.1) (λe=>k0 rfl e.symm)),⟨q,E,F,kj,VH H (K _ E H.lt),VH I (K _ F I.lt)⟩,λj u A r=>lK K j u ⟨λe=>(by subst e;rw [y] at A;cases A),λe=>(by subst e;rw [S] at A;cases A)⟩ r⟩
   | 14,_=>
    intro o f w' D C ho m B y z l d h;have u0:f.eval (Z1 11)=Z6 (ZX ⟨p,0,ZY⟩):=h 0 (l 0 (by decide));exact aK (kt ho u0 w') m ⟨dX d _,rfl,kq⟩
   | 15,_=>
    intro o f w' D C ho m B y z l d h;have u0:f.eval (Z1 25)=Z6 (ZX ⟨p,0,ZY⟩):=h 14 (l 14 (by decide));exact aK (v:=Z6 (ZX ⟨p,0,ZY⟩)) (by (conv at ho=>rhs;whnf);simp only [execOp,ho,u0];go_simp) m ⟨dX d _,rfl,kq⟩
   | 16,_=>
    intro o f w' D C ho m B y z l d h;have u0:f.eval (Z1 26)=Z6 (ZX ⟨p,0,ZY⟩):=h 15 (l 15 (by decide));obtain ⟨q,E,F,L,H,I⟩:Oj w p nb v0 xs k 13 (f.eval (Z1 24)) w':=h 13 (l 13 (by decide));have T:w'.heap[p]?=ZX (Z4 #[v0,Z7 Z9 (-1)] 75 (0,0)):=(d.1 p X (λ_ e=>by have:=(V.lt p e).1;omega) (λq=>by rw [y] at q;cases q)).trans W;obtain ⟨u,N⟩:=nM (f.eval (Z1 24));have c:w'.cell? ⟨p,0,ZY⟩=ZX v0:=(by simp [World.cell?,T]);have fz:w'.frozen? ⟨p,0,ZY⟩=ZV:=(by simp [World.frozen?,T]);rw [N] at L;obtain ⟨so,sl,sc,kk⟩:∃ so sl sc,u=.slice so sl sc:=by
     rcases L.2 with ⟨e,_⟩|⟨g,cap,cur,e,_⟩
     . exact ⟨_,_,_,e⟩
     . exact ⟨_,_,_,e⟩
    refine Gm (w':=w'.setCell ⟨p,0,ZY⟩ u) (by rw [kk] at N ⊢;(conv at ho=>rhs;whnf);simp only [execOp,ho,u0,N];go_simp) ⟨sj d 16 ⟨by simp [World.setCell],rfl,rfl,rfl⟩ (λj _ _ k5=>Uj _ _ _ _ (k5 rfl)),?_,λj x A r=>?_⟩
    . refine ⟨u,q,by simp [World.setCell,Vw,T],E,F,L.kept (row:=ZX p) ⟨rfl,rfl,rfl,by simp [World.setCell],λi _ G=>Uj _ _ _ _ (λe=>G (by rw [e]))⟩ (.inr λe=>by have:=(L.lt p e).1;omega),VH H (Uj _ _ _ _ (by show q.1≠p;omega)),VH I (Uj _ _ _ _ (by show q.2≠p;omega))⟩
    have K:∀ b,w.heap.size<=b->b<w'.heap.size->(w'.setCell ⟨p,0,ZY⟩ u).heap[b]?=w'.heap[b]?:=λb J _=>Uj _ _ _ _ (by show b≠p;omega);by_cases e:j=13
    . subst e;obtain ⟨q,E,F,r1,r2,r3⟩:=r;refine ⟨q,E,F,r1.kept (row:=ZX p) ⟨rfl,rfl,rfl,by simp [World.setCell],λi _ G=>Uj _ _ _ _ (λe=>G (by rw [e]))⟩ (.inr λe=>by have:=(r1.lt p e).1;omega),VH r2 (K _ E r2.lt),VH r3 (K _ F r3.lt)⟩
    . exact lK K j x ⟨e,λe=>(by subst e;rw [y] at A;cases A)⟩ r
   | n+17,hn=>exact absurd hn (by show ¬ n+17<17;omega)
 . rintro f w' hz ⟨D,hD,d⟩ h;obtain ⟨O,q,h1,h2,h3,h4,h5,h6⟩:Oj w p nb v0 xs k 16 ZZ w':=h 16 (by decide);have e:f=Act.RV a 11 ((YF 16).map λi=>f.eval (.tmp (11+i))):=hz.out _ (by rw [Ud,UM]) (by omega) (λi G=>by
    rw [Ud,UM] at G;rw [Ub,UE,VU G];rfl)
   rw [e];refine hQ w' _ O q (by rw [Ud,UM]) h2 h3 h4 h5 h6 h1 ⟨d.2.2.1,d.2.2.2.1,d.2.2.2.2,d.2.1,λj A hs=>d.1 j A (λ_ e=>hs (.inr e)) (λ_ e=>hs (.inl e))⟩
def QV (w:ZU) (p nb k:Nat) (L:List (Nat×Nat)) (v:ZT) (wr:ZU):Prop:=
 L.length=k/\wr.heap[p]?=ZX (Z4 #[v,Z7 Z9 (-1)] 75 (0,0))/\wr.ownsRow (p+1) 79 4 v k (oC nb L)/\(∀ q∈L,(p<q.1/\p<q.2)/\rH wr q.1 nb/\tK wr q.2 nb)/\(L.map (λq=>q.1)).Nodup/\(L.map (λq=>q.2)).Nodup/\ZS p w wr
def NaR (w:ZU) (p nb n:Nat) (i:ZT) (wr:ZU):Prop:=∃ k L v,k<=n/\i=Z7 Z9 (k:Nat)/\QV w p nb k L v wr
def GC {xs:List ZT} {f:Nat->ZT} (h:w.ownsRow base 79 4 v n xs) (j:w.rowIs b t m f) (l:t≠79):v.ownBlock≠ZX b:=by
 intro e;rcases h.2 with ⟨i,_⟩|⟨g,cap,cur,d,o,a,p⟩
 . rw [i] at e;simp [Value.ownBlock] at e
 . rw [d] at e;simp [Value.ownBlock] at e;subst e;obtain ⟨c,k,_⟩:=j;rw [k] at a;simp at a;exact l a.2
def tL (h:l.Nodup) (a:∀ x∈l,x<b) (c:Nat) (g:b<=c):(l++[c]).Nodup:=by
 rw [Vb];refine ⟨h,by simp,λx d y f e=>?_⟩;simp at f;have:=a x d;omega
def QV.next {L:List (Nat×Nat)} {v':ZT} {q:Nat×Nat} (h:QV w p nb k L v wr) (z:wr.heap.size<=q.1) (A:wr.heap.size<=q.2) (ho:w'.ownsRow (p+1) 79 4 v' (k+1) (oC nb L++dS nb q))
 (B:rH w' q.1 nb) (C:tK w' q.2 nb) (u:w'.heap[p]?=ZX (Z4 #[v',Z7 Z9 (-1)] 75 (0,0))) (b:aa (λj=>j=p\/v.ownBlock=ZX j) wr w'):QV w p nb (k+1) (L++[q]) v' w':=by
 obtain ⟨n,o,i,d,r,s,c⟩:=h;have:p<wr.heap.size:=(T5.1 o).1;have m:∀ x∈L,rH w' x.1 nb/\tK w' x.2 nb:=λx a=>by
  obtain ⟨⟨D,E⟩,f,g⟩:=d x a;refine ⟨VH f (b.block _ f.lt ?_),VH g (b.block _ g.lt ?_)⟩
  . rintro (e|e)
    . omega
    . exact GC i f (by decide) e
  . rintro (e|e)
    . omega
    . exact GC i g (by decide) e
 refine ⟨by simp [n],u,?_,λx a=>?_,?_,?_,⟨b.os.trans c.os,b.tape.trans c.tape,b.output.trans c.output,TZ c.size b.size,λj t=>(b.block j (by omega) (λe=>?_)).trans (c.block j t)⟩⟩
 . have e:oC nb (L++[q])=oC nb L++dS nb q:=(by simp [oC]);rw [e];exact ho
 . rcases Un.1 a with a|a
   . exact ⟨(d x a).1,m x a⟩
   . simp at a;subst a;exact ⟨⟨by omega,by omega⟩,B,C⟩
 . rw [UD];exact tL r (λx a=>by obtain ⟨y,l,rfl⟩:=Ua.1 a;exact (d y l).2.1.lt) _ z
 . rw [UD];exact tL s (λx a=>by obtain ⟨y,l,rfl⟩:=Ua.1 a;exact (d y l).2.2.lt) _ A
 . rcases e with e|e
   . omega
   . have:=(i.lt j e).1;omega
def Ly (n nb:Nat) (w:ZU) (e:ZP) (w':ZU):Prop:=e=Z3 (Z6 (ZX ⟨w.heap.size,0,ZY⟩))/\bW w w'/\∃ F:aH,ag w' w.heap.size (pJ n nb) F/\∀ k,F.S k->w.heap.size<=k
def Ce (nb:Nat):∀ (L:List (Nat×Nat)) (i:Nat),i<L.length->(oC nb L)[i*4]?=ZX (Z2 ZV)/\(oC nb L)[i*4+1]?=ZX (Z5 (ZX ⟨(L.getD i (0,0)).1,0,ZY⟩) nb nb)/\(oC nb L)[i*4+2]?=ZX (Z5 (ZX ⟨(L.getD i (0,0)).2,0,ZY⟩) nb nb)/\(oC nb L)[i*4+3]?=ZX (Z7 Z9 0)
 | [],i,h=>absurd h (by simp)
 | q::L,0,_=>⟨rfl,rfl,rfl,rfl⟩
 | q::L,i+1,h=>by
  have e:oC nb (q::L)=dS nb q++oC nb L:=by simp [oC]
  have ih:=Ce nb L i (by simpa using h);have a:∀ j,(dS nb q++oC nb L)[(i+1)*4+j]?=(oC nb L)[i*4+j]?:=λj=>by
   rw [U7 (by simp [dS];omega),show (i+1)*4+j-(dS nb q).length=i*4+j by simp [dS];omega]
  rw [e];exact ⟨(a 0).trans ih.1,(a 1).trans ih.2.1,(a 2).trans ih.2.2.1,(a 3).trans ih.2.2.2⟩
def Cf (h:l.Nodup) {i j:Nat} (a:i<l.length) (b:j<l.length) (e:l[i]=l[j]):i=j:=(List.getElem_inj h).1 e
theorem QV.post {L:List (Nat×Nat)} (h:QV w w.heap.size nb n L v wr) (K:0<n) (B:n<=1000) (C:nb<=1000000):Ly n nb w (Z3 (Z6 (ZX ⟨w.heap.size,0,ZY⟩))) wr:=by
 obtain ⟨b,t,u,f,y,z,A⟩:=h;refine ⟨rfl,A,?_⟩;rcases u.2 with ⟨rfl,I⟩|⟨g,cap,cur,rfl,c,r,F,G,H,s⟩
 . omega
 . have l:∀ i,i<n->(L.getD i (0,0))∈L:=λi a=>by
    rw [Ub,Ue (show i<L.length by omega)];exact T8 _
   refine ⟨⟨g,cap,λi=>(L.getD i (0,0)).1,λi=>(L.getD i (0,0)).2,λk=>k=w.heap.size\/k=g\/∃ i,i<n/\(k=(L.getD i (0,0)).1\/k=(L.getD i (0,0)).2)⟩,⟨t,⟨cur,r,λi a=>?_⟩,λi a=>?_,λi a=>?_,λi j a d=>⟨λe=>?_,λe=>?_⟩,λk=>Ya,B,C,λ_ _=>⟨bX,λx D=>by have:=VM D;omega⟩⟩,?_⟩
   . have q:=Ce nb L i (by rw [b];exact a);have:i<n:=a;rw [<- s] at q;simp only [VR (show i*4<n*4 by omega),VR (show i*4+1<n*4 by omega),VR (show i*4+2<n*4 by omega),VR (show i*4+3<n*4 by omega),abE] at q;exact ⟨q.1,q.2.1,q.2.2.1,_,q.2.2.2⟩
   . refine World.rowIs.congr (f _ (l i a)).2.1 λj d=>?_;show Value.int .u8 0=Value.int .u8 ((zb.getD (j%64) 0:Nat):Int);have E:zb.getD (j%64) 0=0:=by
      unfold zb;rw [Ub,WB];split<;>rfl
     rw [E];rfl
   . exact (f _ (l i a)).2.2
   . have p:i<(L.map (λq=>q.1)).length:=(by rw [Ud,b];exact a);have c:j<(L.map (λq=>q.1)).length:=(by rw [Ud,b];exact d);refine Cf y p c ?_;have m:i<L.length:=(by rw [b];exact a);have o:j<L.length:=(by rw [b];exact d);simpa [m,o] using e
   . have p:i<(L.map (λq=>q.2)).length:=(by rw [Ud,b];exact a);have c:j<(L.map (λq=>q.2)).length:=(by rw [Ud,b];exact d);refine Cf z p c ?_;have m:i<L.length:=(by rw [b];exact a);have o:j<L.length:=(by rw [b];exact d);simpa [m,o] using e
   . rintro k (rfl|rfl|⟨i,a,rfl|rfl⟩)
     . exact TY _
     . exact Nat.le_of_succ_le c
     . exact Nat.le_of_lt (f _ (l i a)).1.1
     . exact Nat.le_of_lt (f _ (l i a)).1.2
def QW (h:vs.length=16):∃ a b c d e f g i j k l m n o p q,vs=[a,b,c,d,e,f,g,i,j,k,l,m,n,o,p,q]:=by
 match vs,h with
 | [a,b,c,d,e,f,g,i,j,k,l,m,n,o,p,q],_=>exact ⟨_,_,_,_,_,_,_,_,_,_,_,_,_,_,_,_,rfl⟩
theorem kG (n nb:Nat) (w:ZU) (u:0<n) (x:n<=1000) (d:nb<=1000000) :
 ZR ZL 8 #[Z7 Z9 n,Z7 Z9 nb] w λe w'=>Ly n nb w e w':=by
 go_enter func8,ntmps8;have c:QV w w.heap.size nb 0 [] (Z5 ZY 0 0) (w.alloc (Z4 #[Z5 ZY 0 0,Z7 Z9 (-1)] 75)):=⟨rfl,Uk _ _,UP _ _ _ _,λq y=>(by simp at y),by simp,by simp,bA w _⟩;go_wp2_with fail;go_loopw [9] (λi wr=>NaR w w.heap.size nb n i wr) (λi _=>n-(intOf i).toNat)
 case atStart=>exact ⟨0,[],_,T7 _,rfl,c⟩
 case round=>
  clear c;obtain ⟨k,L,v,A,rfl,b⟩:=hrel;by_cases z:k<n
  . have a:=ak b;clear b;go_wp2_with fail;refine EF (by kernel_rfl) d (by omega) a.o.2.2.1 a.o.2.1 rfl rfl rfl ?_;intro w' vs B q f l m ho p r j h;obtain ⟨C,D,E,F,G,H,I,J,K,M,N,O,P,Q,R,S,rfl⟩:=QW f;have g:=a.o.next l m ho p r j h;have s:=ak g;clear g ho p r j h a l m f;rename_i hK
    refine hK _ _ ?_;clear hK;simp only [Act.RV];go_wp2;exact ⟨⟨k+1,_,_,by omega,by go_num,s.o⟩,by simp [intOf];omega⟩
  . have t:k=n:=(by omega);subst t;have a:=ak b;clear b;go_wp2;go_ret;exact a.o.post u x d
def QX (n nb:Nat) (w:ZU) (e:ZP) (w':ZU):Prop:=e=Z3 (Z6 (ZX ⟨w.heap.size,0,ZY⟩))/\bW w w'/\∃ F:aH,az w' w.heap.size (tJ n nb) F/\∀ k,F.S k->w.heap.size<=k
def zZ (n nb:Nat) (w:ZU) (a:0<n) (f:n<=1000) (d:nb<=1000000) :
 ZR ZL 8 #[Z7 Z9 n,Z7 Z9 nb] w λe w'=>QX n nb w e w':=by
 refine (kG n nb w a f d).mono ?_;rintro e w' ⟨b,c,F,g,h⟩;exact ⟨b,c,F,⟨_,g,zY n nb⟩,h⟩
def aO (L:List (ByteArray×ZT)):List ZT:=L.flatMap λq=>[.string q.1,q.2]
def kH (L:List (ByteArray×ZT)):(aO L).length=L.length*2:=by
 induction L with
 | nil=>rfl
 | cons q L ih=>simp only [aO,VQ,Uc,UG] at ih ⊢;rw [ih];simp;omega
def tM (L:List (ByteArray×ZT)) (k:Nat) (a:k<L.length):(aO L)[k*2]?=ZX (.string L[k].1)/\(aO L)[k*2+1]?=ZX L[k].2:=by
 induction L generalizing k with
 | nil=>simp at a
 | cons q L ih=>
  have e:aO (q::L)=[.string q.1,q.2]++aO L:=by simp [aO]
  rw [e];cases k with
  | zero=>exact ⟨rfl,rfl⟩
  | succ k=>
   simp at a;obtain ⟨b,c⟩:=ih k a;refine ⟨?_,?_⟩
   . rw [U7 (by simp;omega),show (k+1)*2-[Value.string q.1,q.2].length=k*2 by simp;omega];exact b
   . rw [U7 (by simp;omega),show (k+1)*2+1-[Value.string q.1,q.2].length=k*2+1 by simp;omega];exact c
def jt (L M:List (ByteArray×ZT)):aO (L++M)=aO L++aO M:=by simp [aO]
structure rI (w:ZU) (r base:Nat) (v:ZT) (L:List (ByteArray×ZT)):Prop where
 top:w.heap[r]?=ZX (Z4 #[v] 38 (0,0))
 own:w.ownsRow base 101 2 v L.length (aO L)
def rI.shape {L:List (ByteArray×ZT)} (h:rI w r base v L):(v=Z5 ZY 0 0/\L=[])\/∃ g cap,v=Z5 (ZX ⟨g,0,ZY⟩) L.length cap/\base<=g/\L.length<=cap /\
 ∀ k (d:k<L.length),w.cell? ⟨g,k*2,ZY⟩=ZX (.string L[k].1)/\w.cell? ⟨g,k*2+1,ZY⟩=ZX L[k].2:=by
 rcases h.own.2 with ⟨i,j⟩|⟨g,cap,cur,c,e,n,f,o,p,q⟩
 . exact .inl ⟨i,UY j⟩
 . refine .inr ⟨g,cap,c,e,f,λk d=>?_⟩;obtain ⟨l,m⟩:=tM L k d;have:=h.own.cells (g:=g) (by rw [c];rfl);have a:=this _ _ l;have b:=this _ _ m;rw [jm] at a b;exact ⟨a,b⟩
def rI.cell {L:List (ByteArray×ZT)} (h:rI w r base v L):w.cell? ⟨r,0,ZY⟩=ZX v/\w.frozen? ⟨r,0,ZY⟩=ZV:=by simp [World.cell?,World.frozen?,h.top]
def FiR (w:ZU) (L:List (ByteArray×ZT)) (name:ByteArray) (i:ZT) (wr:ZU):Prop:=∃ k:Nat,k<=L.length/\i=Z7 Z9 k/\wr=w/\∀ j (hj:j<L.length),j<k->¬ L[j].1.toList=name.toList
theorem jK {L:List (ByteArray×ZT)} (h:rI w r base v L) (hl:L.length<=1000000) (name:ByteArray) :
 ZR ZL 37 #[Z6 (ZX ⟨r,0,ZY⟩),.string name] w λe w'=>w'=w/\((∃ k,∃ m:k<L.length,e=Z3 (Z7 Z9 (k:Nat))/\L[k].1.toList=name.toList/\∀ j (a:j<L.length),j<k->¬ L[j].1.toList=name.toList)\/(e=Z3 (Z7 Z9 (-1))/\∀ j (a:j<L.length),¬ L[j].1.toList=name.toList)):=by
 obtain ⟨c0,_⟩:=h.cell;have t:=h.shape;go_enter func37,ntmps37;go_wp2;go_loopw [5] (λi wr=>FiR w L name i wr) (λi _=>L.length-(intOf i).toNat)
 case atStart=>exact ⟨0,T7 _,rfl,rfl,λj _ a=>absurd a (by omega)⟩
 case round=>
  obtain ⟨k,m,rfl,rfl,c⟩:=hrel;rcases t with ⟨rfl,rfl⟩|⟨g,cap,rfl,y,x,n⟩
  . have q:k=0:=(by simpa using m);subst q;clear c;go_wp2;go_ret;exact ⟨rfl,.inr ⟨rfl,λj a=>absurd a (by simp)⟩⟩
  . by_cases l:k<L.length
    . obtain ⟨c1,u⟩:=n k l;have d:=ak c;clear c;by_cases b:L[k].1.toList=name.toList
      . have p:(L[k].1.toList==name.toList)=ZW:=(by rw [b];exact beq_self_eq_true _);have f:=ak b;clear b;go_wp2;go_ret;exact ⟨rfl,.inl ⟨k,l,rfl,f.o,d.o⟩⟩
      . have p:(L[k].1.toList==name.toList)=ZV:=(by rw [beq_eq_false_iff_ne];exact b);have f:=ak b;clear b;go_wp2;refine ⟨⟨k+1,by omega,by go_num,rfl,λj a z=>?_⟩,by simp [intOf];omega⟩;by_cases e:j=k
        . subst e;exact f.o
        . exact d.o j a (by omega)
    . have s:k=L.length:=(by omega);subst s;have d:=ak c;clear c;go_wp2;go_ret;exact ⟨rfl,.inr ⟨rfl,λj a=>d.o j a a⟩⟩
def eI (n:ByteArray):Prop:=1<=n.size/\n.size<=16
def Ol (L:List (ByteArray×ZT)) (name:ByteArray) (k:Nat):Prop:=∃ hk:k<L.length,L[k].1.toList=name.toList/\∀ j (hj:j<L.length),j<k->¬ L[j].1.toList=name.toList
def pL (L:List (ByteArray×ZT)) (name:ByteArray):Prop:=∀ j (hj:j<L.length),¬ L[j].1.toList=name.toList
def Lz (L:List (ByteArray×ZT)) (name:ByteArray) (e:ZP):Prop:=
 (¬ eI name/\e=Z3 (Z0 #[Z5 ZY 0 0,Z7 Z9 6]))\/(eI name/\pL L name/\e=Z3 (Z0 #[Z5 ZY 0 0,Z7 Z9 9]))\/(eI name/\∃ k,Ol L name k/\e=Z3 (Z0 #[(L.getD k (ByteArray.empty,ZZ)).2,Z7 Z9 0]))
theorem tN {L:List (ByteArray×ZT)} (h:rI w r base v L) (hl:L.length<=1000000) (name:ByteArray) :
 ZR ZL 14 #[Z6 (ZX ⟨r,0,ZY⟩),.string name] w λe w'=>w'=w/\Lz L name e:=by
 obtain ⟨c0,_⟩:=h.cell;have j:=h.shape;have l:=jK h hl name;by_cases t:name.size=0
 . have n0:(name.size:Int)=0:=(by omega);go_enter func14,ntmps14;go_wp2;go_ret2;exact ⟨rfl,.inl ⟨λq=>by have:=q.1;omega,rfl⟩⟩
 . have n0:¬ (name.size:Int)=0:=(by omega);by_cases x:16<name.size
   . have p:(16:Int)<(name.size:Int):=(by omega);go_enter func14,ntmps14;go_wp2;go_ret2;exact ⟨rfl,.inl ⟨λq=>by have:=q.2;omega,rfl⟩⟩
   . have p:¬ (16:Int)<(name.size:Int):=(by omega);have i:eI name:=⟨by omega,by omega⟩;go_enter func14,ntmps14;go_wp2_with fail;refine l.mono ?_;rintro e w' ⟨rfl,n⟩;clear l;rcases n with ⟨k,b,rfl,m,c⟩|⟨rfl,f⟩
     . rcases j with ⟨rfl,rfl⟩|⟨g,cap,rfl,y,u,d⟩
       . exact absurd b (by simp)
       . obtain ⟨c1,s⟩:=d k b;have a:=al m c;clear m c d;go_wp2;go_ret2;exact ⟨rfl,.inr (.inr ⟨i,k,⟨b,a.o.1,a.o.2⟩,by simp [b]⟩)⟩
     . have a:=ak f;clear f j;go_wp2;go_ret2;exact ⟨rfl,.inr (.inl ⟨i,a.o,rfl⟩)⟩
def Cg:ZT->Nat
 | .slice _ n _=>n
 | _=>0
def kI (v:ZT):Prop:=∃ ao n c,v=.slice ao n c/\n<=1000000
def bQ (L:List (ByteArray×ZT)) (q k:Nat):Nat:=((L.take k).map λo=>Cg o.2/q+1).sum
def lL (L:List (ByteArray×ZT)) (q k:Nat) (a:k<L.length):bQ L q (k+1)=bQ L q k+(Cg L[k].2/q+1):=by
 unfold bQ;rw [Vg,Ue a];simp only [UD,YB,YQ,UI,Vh,XD,List.sum_nil,VV]
def oD (L:List (ByteArray×ZT)) (q k:Nat) (h:∀ o∈L,Cg o.2<=1000000) (c:k<=L.length):bQ L q k<=k*1000001:=by
 induction k with
 | zero=>simp [bQ]
 | succ k ih=>
  rw [lL L q k (by omega)];have:=ih (by omega);have:=h L[k] (T8 _);have:Cg L[k].2/q<=Cg L[k].2:=VT _ _;omega
def ju (L:List (ByteArray×ZT)) (data:Nat) (more:Int):Nat:=
 let q:=data*44
 if 0<=more then bQ L q L.length+(more.toNat/q+1)+2*((L.length+1)*200/q+1) else bQ L q L.length+2*(L.length*200/q+1)
def NeR (w:ZU) (L:List (ByteArray×ZT)) (q:Nat) (n i:ZT) (wr:ZU):Prop:=∃ k:Nat,k<=L.length/\n=Z7 Z9 (bQ L q k:Nat)/\i=Z7 Z9 k/\wr=w
theorem EG {L:List (ByteArray×ZT)} (h:rI w r base v L) (hl:L.length<=1000) (E:∀ o∈L,kI o.2) (data:Nat) (Z:1<=data) (X:data<=1000) (more:Int) (hh:-1<=more) (hi:more<=1000000) :
 ZR ZL 34 #[Z6 (ZX ⟨r,0,ZY⟩),Z7 Z9 data,Z7 Z9 more] w λe w'=>w'=w/\e=Z3 (Z7 Z9 (ju L data more:Nat)):=by
 obtain ⟨c0,_⟩:=h.cell;have p:=h.shape;have A:∀ o∈L,Cg o.2<=1000000:=λo ho=>by obtain ⟨ao,n,c,e,C⟩:=E o ho;rw [e];exact C
 obtain ⟨q,D⟩:∃ q,q=data*44:=⟨_,rfl⟩;have hj:1<=q:=by omega
 have hp:q<=44000:=by omega
 have hr:(data:Int)*44=(q:Int):=by omega
 have x:=ak D;clear D;have B:v=Z5 ZY 0 0/\L.length=0\/∃ g cap,v=Z5 (ZX ⟨g,0,ZY⟩) L.length cap:=by
  rcases p with ⟨a,j⟩|⟨g,cap,a,_⟩
  . exact .inl ⟨a,by rw [j];rfl⟩
  . exact .inr ⟨g,cap,a⟩
 obtain ⟨ao,cap,F⟩:∃ ao cap,v=.slice ao L.length cap:=by
  rcases B with ⟨a,j⟩|⟨g,cap,a⟩
  . exact ⟨ZY,0,by rw [a,j]⟩
  . exact ⟨_,_,a⟩
 rw [F] at c0;go_enter func34,ntmps34;go_wp2;go_loopw [8,10] (λn i wr=>NeR w L q n i wr) (λ_ i _=>L.length-(intOf i).toNat)
 case atStart=>exact ⟨0,T7 _,rfl,rfl,rfl⟩
 case round=>
  obtain ⟨k,P,rfl,rfl,rfl⟩:=hrel;by_cases l:k<L.length
  . rcases p with ⟨_,rfl⟩|⟨g,y,t,Y,W,z⟩
    . exact absurd l (by simp)
    . rw [F] at t;simp at t;obtain ⟨rfl,rfl⟩:=t;obtain ⟨c1,I⟩:=z k l;obtain ⟨R,n,T,e,C⟩:=E L[k] (T8 _);have s:=lL L q k l;have O:=oD L q k A P;rw [e] at I s;have K:(n:Int)/(q:Int)=((n/q:Nat):Int):=(by omega);have U:(n:Int).tdiv (q:Int)=((n/q:Nat):Int):=(by rw [Xt (by omega)];exact K);have hg:n/q<=n:=VT _ _;have ho:NeR wr L q (Z7 Z9 ((bQ L q k+(n/q+1):Nat):Int)) (Z7 Z9 ((k:Int)+1)) wr:=⟨k+1,by omega,by rw [s];rfl,rfl,rfl⟩;have G:=ak ho;clear ho s z;generalize bQ L q k=S at *;generalize n/q=d at *;go_wp2;have:=G.o;rw [show ((S+(d+1):Nat):Int)=(S:Int)+(d:Int)+1 by omega] at this;exact ⟨this,by simp [intOf];omega⟩
  . have N:k=L.length:=(by omega);subst N;have O:=oD L q L.length A lR;clear p B;by_cases u:0<=more
    . obtain ⟨m,rfl⟩:=Int.eq_ofNat_of_zero_le u;have b:ju L data (m:Int)=bQ L q L.length+(m/q+1)+2*((L.length+1)*200/q+1):=by
       unfold ju;rw [TX u,<- x.o,VL]
      have V:(m:Int).tdiv (q:Int)=((m/q:Nat):Int):=(by rw [Xt (by omega)];omega);have M:(((L.length:Int)+1)*200).tdiv (q:Int)=(((L.length+1)*200/q:Nat):Int):=by
       rw [Xt (by omega),show ((L.length:Int)+1)*200=(((L.length+1)*200:Nat):Int) by omega];omega
      have Q:m/q<=m:=VT _ _;have H:(L.length+1)*200/q<=(L.length+1)*200:=VT _ _;have f:=ak b;clear b;generalize bQ L q L.length=S at *;generalize m/q=d at *;generalize (L.length+1)*200/q=J at *;go_wp2;go_ret;exact ⟨rfl,by rw [f.o];congr 2⟩
    . have b:ju L data more=bQ L q L.length+2*(L.length*200/q+1):=by
       unfold ju;rw [TW u,<- x.o]
      have M:((L.length:Int)*200).tdiv (q:Int)=((L.length*200/q:Nat):Int):=by
       rw [Xt (by omega),show (L.length:Int)*200=((L.length*200:Nat):Int) by omega];omega
      have H:L.length*200/q<=L.length*200:=VT _ _;have f:=ak b;clear b;generalize bQ L q L.length=S at *;generalize L.length*200/q=J at *;go_wp2;go_ret;exact ⟨rfl,by rw [f.o];congr 2⟩
section
open Go.ChangeShapes Go.WideShapes
abbrev tP:List (String×DataW Unit):=[("math/bits.deBruijn64tab",Rows.laid_math_bits_deBruijn64tab),("errors.errorType",Rows.laid_errors_errorType),("stripes/record.halves",Rows.laid_stripes_record_halves)]
def GD:List Int:=(YF 64).map λj=>((Lib.deBruijn64tab.getD j 0:Nat):Int)
def sm:List Int:=cK.map λ(x:Nat)=>(x:Int)
def Tryz.bt3:ZL.globalNamed "math/bits.deBruijn64tab"=ZX 1:=by kernel_rfl
def Tryz.bt3Type:(ZL.globals[1]?).map (·.type)=ZX 113:=by kernel_rfl
def Tryz.TI:ZL.cellsOf 113=64:=by kernel_rfl
def Tryz.SS:ZL.cellsOf 5=1:=by kernel_rfl
def Tryz.hv3:ZL.globalNamed "stripes/record.halves"=ZX 2:=by kernel_rfl
def Tryz.TP:(ZL.globals[2]?).map (·.type)=ZX 323:=by kernel_rfl
def Tryz.Ty:ZL.cellsOf 323=16:=by kernel_rfl
def Tryz.Tk:ZL.cellsOf 303=1:=by kernel_rfl
def IH:(Rows.laid_math_bits_deBruijn64tab:DataW Unit)=Lib.tabData .u8 GD:=by rfl
def LA:(Rows.laid_stripes_record_halves:DataW Unit)=Lib.tabData .u32 sm:=by rfl
def II {x:String×DataW Unit} {r:List (String×DataW Unit)} (h:laidMet P (x::r) w):laidMet P r w:=by
 obtain ⟨ps,i,c,a⟩:=h;obtain ⟨n,d⟩:=x;obtain ⟨g,t,cs,fuel,p,q,_,_,_,_,f,rfl⟩:=i;exact ⟨q,f,List.Nodup.sublist (acq _ _) c,λb off e=>a b off (VY _ e)⟩
theorem Ci (h:laidMetH ZL tP W):bY W/\aJ W/\bh W/\3<=W.heap.size:=by
 have d:laidMet ZL [("math/bits.deBruijn64tab",Rows.laid_math_bits_deBruijn64tab),("stripes/record.halves",Rows.laid_stripes_record_halves)] W/\handlesMet ZL [("errors.errorType",Rows.laid_errors_errorType)] W:=h;have l:bY W:=tI (show laidMetH ZL [("errors.errorType",Rows.laid_errors_errorType)] W from ⟨⟨[],rfl,List.nodup_nil,λb off k=>by cases k⟩,d.2⟩);have c:=d.1;have e:=II c;rw [IH] at c;rw [LA] at e;have n:=Lib.tabIs_of_head Tryz.bt3 Tryz.bt3Type Yf Xq Tryz.SS Tryz.TI c;have m:=Lib.tabIs_of_head Tryz.hv3 Tryz.TP underlying323 underlying303 Tryz.Tk Tryz.Ty e;have g:aJ W:=λj a=>by
  have:=n.cell Tryz.bt3 j (by simpa [GD] using a);rw [this];unfold GD;simp [a]
 have f:bh W:=λj a=>by
  have hl:cK.length=16:=rfl;have:=m.cell Tryz.hv3 j (by unfold sm;rw [Ud,hl];exact a);rw [this];unfold sm;congr 2;rw [Ub,Ub,UE,Ue (by omega)];rfl
 refine ⟨l,g,f,?_⟩;have o:=Ui (g 0 (by decide));have i:=Ui (f 0 (by decide));have p:2<W.heap.size:=i;omega
noncomputable def tQ (os:Os):ZU:=
 { World.holding ZL os ⟨#[],#[],[]⟩ with heap:=(((World.holding ZL os ⟨#[],#[],[]⟩).heap.modify 0 fun|Z4 _ t frozen=>Z4 #[.iface 157 (.agg #[Z6 (ZX ⟨3,64,ZY⟩)])] t frozen|o=>o).modify 1 fun|Z4 _ t frozen=>Z4 (GD.map λz=>Value.int .u8 z).toArray t frozen|o=>o).modify 2 fun|Z4 _ t frozen=>Z4 (sm.map λz=>Value.int .u32 z).toArray t frozen|o=>o }
def tR (os:Os) (args:Array ZT):laidMetH ZL tP ((tQ os).forCall (λ_ _=>0) ⟨#[],args,[]⟩).memory:=
 laidMetH_of_parts (laidMet_of_run' 8 (by kernel_rfl) (by kernel_rfl)) (by kernel_rfl)
def Cj {H:Type} {enc:ZN×ZT->H} {spare:Nat->Bool} {held:Bool} {t0 t1 t2 t3 t4:ZN} {v1 v2 v3 v4:ZT} {d0 d1 d2 d3 d4:DataW H} {p0 p1 p2 p3 p4:List MemPlace} (a:DataW.Trod enc P w base spare held t0 v0 d0 p0) (b:DataW.Trod enc P w base spare held t1 v1 d1 p1) (c:DataW.Trod enc P w base spare held t2 v2 d2 p2) (d:DataW.Trod enc P w base spare held t3 v3 d3 p3) (e:DataW.Trod enc P w base spare held t4 v4 d4 p4) :
 DataW.TrodAll enc P w base spare held [t0,t1,t2,t3,t4] [v0,v1,v2,v3,v4] [d0,d1,d2,d3,d4] (p0++(p1++(p2++(p3++p4)))):=⟨p0,p1++(p2++(p3++p4)),a,trodAll_mk4 b c d e,rfl⟩
end
