import Derived.Test.YthibhmemkhmocaaGreatDoorM02
import Derived.ChangeKeysEq
import Derived.Laws.StructEq
import Derived.LaidEql
import Derived.Stop.Asserts
import Derived.RowKitTokens
import Derived.Deep.CutRange
import Derived.Lib.TrailingZeros
import Derived.Laws.BitsAllLaws
import Derived.Laws.Tables
import Derived.Deep.WholeRow
import Derived.ChangeSame
import Derived.ChangeVars
import Derived.JoinedOf
import Derived.RowKit
import Derived.LaidLaws
import Derived.LaidHandle
import Derived.Stop.Joined
import Derived.Lib.SmallJoins
import Derived.Lib.SliceRun
import Derived.WalkMore
import Derived.Deep.AppendLies
import Derived.Deep.RegionHeld3
import Derived.Lib.LaidTab
import Derived.Carry
set_option maxRecDepth 100000
set_option linter.all false
set_option maxHeartbeats 8000000
open Go.IntKind renaming i64 -> Z9, u64 -> Z8
open Go.Value renaming int -> Z7, pointer -> Z6, slice -> Z5, bool -> Z1, tuple -> ZZ
open Go.Obj renaming cells -> Z4
open Go.Ending renaming returned -> Z3
open Go.Operand renaming tmp -> Z0
open Go renaming undef -> ZY, World -> ZT, Value -> ZS, Calls -> ZQ, Addr -> ZP, Ending -> ZO, TypeId -> ZN, Boxed -> ZM, Operand -> ZL
open Option renaming none -> ZX, some -> ZW
open Bool renaming true -> ZV, false -> ZU
open Go.RowKit renaming Below -> ZR
open List renaming range -> YE, replicate -> YF, take -> YL, range_zero -> YP, drop -> YQ, length -> YS
open Exists renaming intro -> YG
open Go renaming method -> YH
open Array renaming replicate -> YI, getElem?_eq_none -> YJ, foldl -> YK, ext_getElem? -> YT
open Nat renaming reduceAdd -> YM, reduceSub -> YN, testBit_two_pow_mul_add -> YR, div_mul_le_self -> YU
open And renaming intro -> YO
open Bool renaming and_eq_true_iff -> YV
open Go.Proofs.Tryz renaming prog -> ZK
open Go.Proofs.Tryz
namespace Go.Proofs.YthibhmemkhmocaaGreatDoor
def UB:=@Go.Deep.blk_alloc_lt
def WD:=@List.map_take
def Yz:=@List.getElem?_take
def WE:=@List.map_drop
def Wi:=@List.getElem?_drop
def Vq:=@Nat.add_assoc
def Wj:=@Nat.min_eq_left
def Uk:=@Go.World.cell?_of_block
def Un:=@List.length_drop
def aa0:=@Go.World.rangeAt_alloc
def Wk:=@Go.results_cell_row
def Xy:=@Go.Proofs.Tryz.underlying142
def UL:=@Go.run_underlying
def aa1:=@Go.Proofs.Tryz.underlying211
def UH:=@List.size_toArray
def WG:=@List.take_zero
def TX:=@List.setIfInBounds_toArray
def TY:=@List.set_cons_succ
def TZ:=@List.set_cons_zero
def YA:=@List.map_toArray
def U0:=@List.map_cons
def Wl:=@List.map_nil
def Xz:=@List.getElem?_toArray
def V9:=@Nat.mul_one
def Xg:=@Go.Proofs.Tryz.underlying5
def WT:=@Go.World.cell?_alloc_lt
def YB:=@Go.World.frozen?_alloc_old
def Xh:=@Go.RowKit.Below.setCell
def Xj:=@Go.run_typeAssert_lacksB
def aa2:=@Go.Proofs.Tryz.underlying246
def aa3:=@Go.Proofs.Tryz.underlying165
def aa4:=@Go.run_storeAt_mid
def XA:=@Nat.testBit_and
def X2:=@Nat.testBit_two_pow
def abm:=@Nat.testBit_two_pow_self
def Wu:=@Nat.testBit_eq_decide_div_mod_eq
def Vr:=@List.range_succ
def YC:=@List.sum_append
def XB:=@List.sum_cons
def Xk:=@Int.natCast_pow
def WH:=@Nat.and_le_left
def X3:=@Int.natCast_ediv
def VN:=@Nat.add_zero
def X4:=@Go.u64_andNot_nat
def abi:=@Nat.testBit_mul_two_pow
def abj:=@Nat.testBit_div_two_pow
def U7:=@List.mem_cons_self
def UJ:=@List.mem_cons_of_mem
def Xl:=@Go.callsIn_of_wp
def Ve:=@Array.replicate_succ
def Vf:=@Array.replicate_zero
def Vg:=@List.push_toArray
def Vh:=@List.append_toArray
def Wm:=@List.append_nil
def XC:=@Go.results_none
def Wv:=@Go.run_takeDeferred
def YD:=@Nat.pow_pos
def WJ:=@Nat.or_lt_two_pow
def Ur:=@Go.Boxed.new
def VY:=@Go.KeepsOthers.setCell
def Wc:=@Go.callsIn_of_wp_marks
def Wd:=@Go.wpIn_rangeFunc_ownG
def U4:=@Go.Proofs.enters_of
def aaA:=@Go.run_loadAt_mid
def We:=@Go.Boxed.cell
def aa5:=@Go.World.rowIs_alloc
def X5:=@Array.all_eq_true
def aaB:=@Go.wpList_load_row
def X6:=@Go.Proofs.Tryz.underlying287
def Ww:=@Go.wpList_store_row
def Vn:=@List.length_range
def WK:=@List.getElem?_range
def X7:=@Option.map_some
def UC:=@Go.heap_alloc_last
def WU:=@Nat.mul_le_mul_right
def XD:=@Int.natCast_mul
def X8:=@List.mem_or_eq_of_mem_set
def aa6:=@Go.wpList_make_own
def Xm:=@Prod.mk.injEq
def UD:=@Option.some.injEq
def WV:=@Go.wpAny_take
def X9:=@Go.wpAny_ready
def XE:=@Go.AllReady.cons
def Ya:=@Go.AllReady.nil
def aaC:=@Go.wp_load_mid
def Yb:=@Go.Proofs.Tryz.underlying113
def aaD:=@Nat.zero_mul
def aa7:=@List.getElem_cons_zero
def VZ:=@Nat.testBit_or
def Vw:=@Int.toNat_natCast
def XF:=@Go.Lib.run_eql_slice_nil
def aaE:=@Go.growslice_fits
def aaF:=@Go.grownCap_ge
def aaG:=@Go.grownCap_le_maxLen
def Yc:=@Iff.rfl
def abn:=@List.sublist_append_right
end Go.Proofs.YthibhmemkhmocaaGreatDoor
namespace Go.Proofs.YthibhmemkhmocaaGreatDoor
open Go.RowKit Go.Deep Gf Go.Shelf
variable {ops:Array Oper} {cs vals:Array ZS} {C:Ck} {F:aK} {fn:Func} {kk:IntKind} {O:List (Int×Nat×Nat×a8)} {R M K:List a8} {T:List (Nat×Nat×a8)} {l src:a8} {base n b off c q cap r B D L G d p ps ho x k s D' N g i gone m:Nat} {f:Nat->Bool} {o:Oper} {P:Program} {α:Type} {t ty:ZN} {v y v' u:ZS} {w w0 w' W Z X w2 w1 wc:ZT}
def aj (D L G t f n:Nat):Array ZS:=#[Z7 Z9 D,Z7 Z9 L,Z7 Z9 G,Z7 Z8 t,Z7 Z9 f,Z7 Z9 n]
def Bs.Sd (h:w.ownsRow base 5 1 v n (aJ l)) (c:∀ x∈l,x<256) (hl:l.length<=1000000):Bs w v l:=by
 have b:l.length=n:=by have:=h.1;rw [aW] at this;omega
 rcases h.2 with ⟨rfl,d⟩|⟨g,cap,cur,rfl,e,f,i,j,m,o⟩
 . subst d;have:l=[]:=UU b;subst this;exact ⟨ZX,0,rfl,by simp,by simp,c,λh=>absurd rfl h⟩
 . refine ⟨ZW ⟨g,0,ZX⟩,cap,by rw [b],by omega,by omega,c,λ_=>⟨g,0,rfl,λk a=>?_⟩⟩;have:=h.cells (g:=g) rfl k (Z7 .u8 ((l.getD k 0:Nat):Int)) (by unfold aJ;rw [UG,Uc a,Ub,Uc a];rfl);rw [jy] at this;rw [Uj];exact this
def GH (w:ZT) (a b c d:Nat):(w.alloc (Z4 #[Z7 .u8 (a:Int),Z7 .u8 (b:Int),Z7 .u8 (c:Int),Z7 .u8 (d:Int)] 5)).ownsRow w.heap.size 5 1 (Z5 (ZW ⟨w.heap.size,0,ZX⟩) 4 4) 4 (aJ [a,b,c,d]):=
 ⟨rfl,.inr ⟨w.heap.size,4,_,rfl,TU _,Ug _ _,TU _,by unfold maxLen;omega,rfl,rfl⟩⟩
theorem DG (w:ZT):ZQ ZK 268 #[.agg #[]] w λe w'=>e=Z3 (Z5 ZX 0 0)/\bW w w':=by
 go_enter func268,ntmps268;go_wp2;go_ret;exact ⟨rfl,bA w _⟩
theorem GJ (D L G t f n:Nat) (w:ZT) (Z:(bE.root D L G t f n).ok) :
 ZQ ZK 254 #[.agg (aj D L G t f n)] w λe w'=>∃ v,e=Z3 v/\Bs w' v (bE.root D L G t f n).body/\bW w w':=by
 obtain ⟨m,p,q,E,F,H⟩:=Z;have O:(w.alloc (Z4 (aj D L G t f n) 142)).heap[w.heap.size]?=ZW (Z4 (aj D L G t f n) 142 (0,0)):=Ug _ _;have T:(w.alloc (Z4 (aj D L G t f n) 142)).heap.size=w.heap.size+1:=by simp
 have A:=GH (w.alloc (Z4 (aj D L G t f n) 142)) 1 D L G;have j:((w.alloc (Z4 (aj D L G t f n) 142)).alloc (Z4 #[Z7 .u8 1,Z7 .u8 (D:Int),Z7 .u8 (L:Int),Z7 .u8 (G:Int)] 5)).heap[w.heap.size]?=ZW (Z4 (aj D L G t f n) 142 (0,0)):=(UB _ _ _ (by simp)).trans O;have z:bW w ((w.alloc (Z4 (aj D L G t f n) 142)).alloc (Z4 #[Z7 .u8 1,Z7 .u8 (D:Int),Z7 .u8 (L:Int),Z7 .u8 (G:Int)] 5)):=(bA w _).alloc (by simp) _;have C:((w.alloc (Z4 (aj D L G t f n) 142)).alloc (Z4 #[Z7 .u8 1,Z7 .u8 (D:Int),Z7 .u8 (L:Int),Z7 .u8 (G:Int)] 5)).heap.size=w.heap.size+2:=by simp
 rw [T] at A;unfold aj at *;obtain ⟨w1,B⟩:=nM ((w.alloc (Z4 #[Z7 Z9 D,Z7 Z9 L,Z7 Z9 G,Z7 Z8 t,Z7 Z9 f,Z7 Z9 n] 142)).alloc (Z4 #[Z7 .u8 1,Z7 .u8 (D:Int),Z7 .u8 (L:Int),Z7 .u8 (G:Int)] 5));have M:w1.ownsRow (w.heap.size+1) 5 1 (Z5 (ZW ⟨w.heap.size+1,0,ZX⟩) 4 4) 4 (aJ [1,D,L,G]):=by rw [<- B];exact A
 rw [B] at j z C;have c1:w1.cell? ⟨w.heap.size,3,ZX⟩=ZW (Z7 Z8 t):=by simp [World.cell?,j]
 have a:=a5 M j z C;clear A M j z O T C;go_enter func254,ntmps254;go_wp2_with fail;refine (fX (w.heap.size+1) _ 4 (aJ [1,D,L,G]) t 8 w1 a.o.1 (by have:=a.o.2.2.2;omega) (by decide) (by decide)).mono ?_;rintro e w2 ⟨v2,rfl,P,h,I⟩;have s:w2.heap[w.heap.size]?=ZW (Z4 #[Z7 Z9 D,Z7 Z9 L,Z7 Z9 G,Z7 Z8 t,Z7 Z9 f,Z7 Z9 n] 142 (0,0)):=(h.block _ (by have:=a.o.2.2.2;omega) (λe=>by simp [Value.ownBlock] at e)).trans a.o.2.1;have J:bW w w2:=a.o.2.2.1.trans (h.below λk y=>⟨by have:=a.o.2.2.2;omega,λe=>by simp [Value.ownBlock] at e;omega⟩);have R:=h.size;have V:w2.cell? ⟨w.heap.size,4,ZX⟩=ZW (Z7 Z9 f):=by simp [World.cell?,s]
 have b:=a6 P s J R I;clear P h I s J R B;go_wp2_with fail;refine (fX (w.heap.size+1) _ (4+8) (aJ [1,D,L,G]++aJ (be t 8)) f 4 w2 b.o.1 (by have:=a.o.2.2.2;have:=b.o.2.2.2.1;omega) (by decide) (by decide)).mono ?_;rintro e l ⟨v3,rfl,Q,i,X⟩;have x:∀ k,k<=w.heap.size->¬ v2.ownBlock=ZW k:=λk y e=>by have:=(b.o.1.lt k e).1;omega
 have u:l.heap[w.heap.size]?=ZW (Z4 #[Z7 Z9 D,Z7 Z9 L,Z7 Z9 G,Z7 Z8 t,Z7 Z9 f,Z7 Z9 n] 142 (0,0)):=(i.block _ (by have:=a.o.2.2.2;have:=b.o.2.2.2.1;omega) (x _ lR)).trans b.o.2.1;have K:bW w l:=b.o.2.2.1.trans (i.below λk y=>⟨by have:=a.o.2.2.2;have:=b.o.2.2.2.1;omega,x k (by omega)⟩);have S:=TV b.o.2.2.2.1 i.size;have W:l.cell? ⟨w.heap.size,5,ZX⟩=ZW (Z7 Z9 n):=by simp [World.cell?,u]
 have c:=a5 Q u K S;clear Q i X u K S V x;go_wp2_with fail;refine (fX (w.heap.size+1) _ (4+8+4) (aJ [1,D,L,G]++aJ (be t 8)++aJ (be f 4)) n 4 l c.o.1 (by have:=a.o.2.2.2;have:=c.o.2.2.2;omega) (by decide) (by decide)).mono ?_;rintro e w4 ⟨v4,rfl,d,N,Y⟩;have g:bW w w4:=c.o.2.2.1.trans (N.below λk y=>⟨by have:=a.o.2.2.2;have:=c.o.2.2.2;omega,λe=>by have:=(c.o.1.lt k e).1;omega⟩);have U:=al d g;clear d N Y g W;go_wp2;go_ret;obtain ⟨d,g⟩:=U.o;refine ⟨v4,rfl,?_,g⟩;have hl:aJ [1,D,L,G]++aJ (be t 8)++aJ (be f 4)++aJ (be n 4)=aJ (bE.root D L G t f n).body:=by
  rw [<- bJ,<- bJ,<- bJ];simp only [bE.body,VR m,VR p,VR q,Uz]
 rw [hl] at d;exact Bs.Sd d (rN (r:=.root D L G t f n) ⟨m,p,q,E,F,H⟩) (TV (nF (r:=.root D L G t f n) ⟨m,p,q,E,F,H⟩) (by decide))
def Bs.mid (d:l.length<=c) (hl:l.length<=1000000) (e:∀ x∈l,x<256) (h:w.rangeAt b off (aJ l)):Bs w (Z5 (ZW ⟨b,off,ZX⟩) l.length c) l:=
 ⟨_,c,rfl,d,by omega,e,λ_=>⟨b,off,rfl,λk a=>h k _ (by unfold aJ;rw [UG,Uc a,Ub,Uc a];rfl)⟩⟩
theorem m3 (s:Nat) (h:w.rangeAt b off (aJ l)):w.rangeAt b off (aJ (l.take s)):=λj v a=>by
 unfold aJ at a;rw [WD,Yz] at a;split at a
 . exact h j v a
 . cases a
def fY (s:Nat) (h:w.rangeAt b off (aJ l)):w.rangeAt b (off+s) (aJ (l.drop s)):=λj v a=>by
 unfold aJ at a;rw [WE,Wi] at a;rw [Vq];exact h (s+j) v a
theorem jz (q b off c s:Nat) (l:a8) (w:ZT) (d:w.heap[q]?=ZW (Z4 #[Z5 (ZW ⟨b,off,ZX⟩) l.length c] 40 (0,0))) (k:c<=1000) (g:∀ x∈l,x<256) (f:w.rangeAt b off (aJ l)) (i:s<=l.length) (n:s<c) :
 ZQ ZK 215 #[Z7 Z9 s,Z6 (ZW ⟨q,0,ZX⟩)] w λe w'=>e=Z3 (Z7 Z8 (fR (l.take s):Nat))/\w'=w.setCell ⟨q,0,ZX⟩ (Z5 (ZW ⟨b,off+s,ZX⟩) (l.length-s) (c-s)):=by
 have a:Bs w (Z5 (ZW ⟨b,off,ZX⟩) (l.take s).length c) (l.take s):=Bs.mid (by rw [Uo];omega) (by rw [Uo];omega) (λx h=>g x (UV h)) (m3 s f);rw [Uo,Wj i] at a;have c0:w.cell? ⟨q,0,ZX⟩=ZW (Z5 (ZW ⟨b,off,ZX⟩) l.length c):=by simp [World.cell?,d]
 have j:w.frozen? ⟨q,0,ZX⟩=ZU:=by simp [World.frozen?,d]
 go_enter func215,ntmps215;go_wp2_with fail;refine (ze _ (l.take s) w a).mono ?_;rintro e w' ⟨rfl,rfl⟩;have m:¬ c=s:=by omega
 clear a f g;go_wp2;go_ret;exact ⟨rfl,rfl⟩
structure GK (w0 w:ZT) (q b off c:Nat) (l:a8) (vals:Array ZS):Prop where
 box:w.heap[q]?=ZW (Z4 #[Z5 (ZW ⟨b,off,ZX⟩) l.length c] 40 (0,0))
 res:w.heap[q+1]?=ZW (Z4 #[Z7 Z9 0,Z7 Z9 0,Z7 Z9 0,Z7 Z8 0,Z7 Z9 0,Z7 Z9 0] 142 (0,0))
 rv:w.heap[q+1+1]?=ZW (Z4 vals 142 (0,0))
 below:ZR q w0 w
 rng:w.rangeAt b off (aJ l)
 lt:b<q
def ag {j:Nat} (h:w.heap[b]?=ZW (Z4 cs t (0,0))) (v:ZS):(w.setCell ⟨b,j,ZX⟩ v).heap[b]?=ZW (Z4 (cs.setIfInBounds j v) t (0,0)):=by
 simp [World.setCell,VC,h]
def wM {l:List ZS} (h:w.rangeAt b off l) {a:ZP} (c:b≠a.block) (v:ZS):(w.setCell a v).rangeAt b off l:=λj u d=>by
 have:=h j u d;rw [<- this];exact Uk (Ud _ _ _ _ c)
def GK.step (h:GK w0 w q b off c l vals) (s j:Nat) (v:ZS) :
 GK w0 ((w.setCell ⟨q,0,ZX⟩ (Z5 (ZW ⟨b,off+s,ZX⟩) (l.length-s) (c-s))).setCell ⟨q+1+1,j,ZX⟩ v) q b (off+s) (c-s) (l.drop s) (vals.setIfInBounds j v):=by
 obtain ⟨a,d,e,f,g,i⟩:=h;refine ⟨?_,?_,?_,?_,?_,i⟩
 . rw [Ud _ _ _ _ (by show q≠q+1+1;omega),ag a,Un];rfl
 . rw [Ud _ _ _ _ (by show q+1≠q+1+1;omega),Ud _ _ _ _ (by show q+1≠q;omega)];exact d
 . exact ag ((Ud _ _ _ _ (by show q+1+1≠q;omega)).trans e) v
 . exact (f.setCell (p:=⟨q,0,ZX⟩) lR _).setCell (p:=⟨q+1+1,j,ZX⟩) (by show q<=q+1+1;omega) _
 . exact wM (wM (fY s g) (by show b≠q;omega) _) (by show b≠q+1+1;omega) _
def GK.cells (h:GK w0 w q b off c l vals) (s j:Nat) (u:ZS) (a:vals[j]?=ZW u) :
 (w.setCell ⟨q,0,ZX⟩ (Z5 (ZW ⟨b,off+s,ZX⟩) (l.length-s) (c-s))).cell? ⟨q+1+1,j,ZX⟩=ZW u/\(w.setCell ⟨q,0,ZX⟩ (Z5 (ZW ⟨b,off+s,ZX⟩) (l.length-s) (c-s))).frozen? ⟨q+1+1,j,ZX⟩=ZU:=by
 have e:(w.setCell ⟨q,0,ZX⟩ (Z5 (ZW ⟨b,off+s,ZX⟩) (l.length-s) (c-s))).heap[q+1+1]?=_:=(Ud _ _ _ _ (by show q+1+1≠q;omega)).trans h.rv;exact ⟨by simp [World.cell?,e,a],by simp [World.frozen?,e]⟩
def wN:∀ (l:a8),l.length<=7->(∀ x∈l,x<256)->fR l<256^l.length:=by
 intro l hl a;induction hn:l.length generalizing l with
 | zero=>
  have:l=[]:=UU hn;subst this;decide
 | succ n ih=>
  rcases List.eq_nil_or_concat l with rfl|⟨b,x,rfl⟩
  . simp at hn
  . rw [List.concat_eq_append] at *;simp at hn;have c:b.length<=7:=(by simp at hl;omega);have e:=ih b c (λy d=>a y (by simp [d])) hn;have f:=a x (by simp);rw [sG,XR];exact WS (Nat.mod_le _ _) (by omega)
theorem DH (b off:Nat) (l:a8) (w:ZT) (hl:l.length=59) (hx:∀ x∈l,x<256) (hr:w.rangeAt b off (aJ l)) (hb:b<w.heap.size) :
 ZQ ZK 201 #[Z5 (ZW ⟨b,off,ZX⟩) l.length 59] w λe w'=>e=Z3 (.agg (aj (fR (l.take 1)) (fR ((l.drop 1).take 1)) (fR ((l.drop 2).take 1)) (fR ((l.drop 3).take 8)) (fR ((l.drop 11).take 4)) (fR ((l.drop 15).take 4))))/\bW w w':=by
 have W:∀ s,∀ x∈l.drop s,x<256:=λs x h=>hx x (UZ h);have k5:∀ s k,k<=7->fR ((l.drop s).take k)<256^k:=λs k hk=>by
  have hf:((l.drop s).take k).length<=k:=by rw [Uo];omega
  exact T7 (wN _ (by omega) (λx h=>W s x (UV h))) (UW (by decide) hf)
 have V:GK w (((w.alloc (Z4 #[Z5 (ZW ⟨b,off,ZX⟩) l.length 59] 40)).alloc (Z4 #[Z7 Z9 0,Z7 Z9 0,Z7 Z9 0,Z7 Z8 0,Z7 Z9 0,Z7 Z9 0] 142)).alloc (Z4 #[Z7 Z9 0,Z7 Z9 0,Z7 Z9 0,Z7 Z8 0,Z7 Z9 0,Z7 Z9 0] 142)) w.heap.size b off 59 l #[Z7 Z9 0,Z7 Z9 0,Z7 Z9 0,Z7 Z8 0,Z7 Z9 0,Z7 Z9 0]:=by
  refine ⟨?_,?_,?_,((bA w _).alloc (by simp) _).alloc (by simp;omega) _,aa0 (aa0 (aa0 hr _) _) _,hb⟩
  . rw [UB _ _ _ (by simp;omega),UB _ _ _ (by simp)];exact Ug _ _
  . rw [UB _ _ _ (by simp)];have:=Ug (w.alloc (Z4 #[Z5 (ZW ⟨b,off,ZX⟩) l.length 59] 40)) (Z4 #[Z7 Z9 0,Z7 Z9 0,Z7 Z9 0,Z7 Z8 0,Z7 Z9 0,Z7 Z9 0] 142);simpa using this
  . have:=Ug ((w.alloc (Z4 #[Z5 (ZW ⟨b,off,ZX⟩) l.length 59] 40)).alloc (Z4 #[Z7 Z9 0,Z7 Z9 0,Z7 Z9 0,Z7 Z8 0,Z7 Z9 0,Z7 Z9 0] 142)) (Z4 #[Z7 Z9 0,Z7 Z9 0,Z7 Z9 0,Z7 Z8 0,Z7 Z9 0,Z7 Z9 0] 142);simpa using this
 obtain ⟨w1,k6⟩:=nM (((w.alloc (Z4 #[Z5 (ZW ⟨b,off,ZX⟩) l.length 59] 40)).alloc (Z4 #[Z7 Z9 0,Z7 Z9 0,Z7 Z9 0,Z7 Z8 0,Z7 Z9 0,Z7 Z9 0] 142)).alloc (Z4 #[Z7 Z9 0,Z7 Z9 0,Z7 Z9 0,Z7 Z8 0,Z7 Z9 0,Z7 Z9 0] 142));rw [k6] at V;have a:=aE W k5 hl;have H0:b9 (GK w w1 w.heap.size b (off+0) 59 (l.drop 0) #[Z7 Z9 0,Z7 Z9 0,Z7 Z9 0,Z7 Z8 0,Z7 Z9 0,Z7 Z9 0]):=V;clear V hr hx W k5 hl hb;go_enter func201,ntmps201;go_wp2_with fail;obtain ⟨f,X⟩:∃ x,fR ((l.drop 0).take 1)=x:=⟨_,rfl⟩;have b0:f<4294967296:=T7 (X▸a.o.2.1 0 1 (by decide)) (by decide);have N:=H0.o;refine (jz w.heap.size b (off+0) 59 1 (l.drop 0) w1 N.box (by decide) (a.o.1 0) N.rng (by rw [Un,a.o.2.2];decide) (by decide)).mono ?_;rintro e y0 ⟨rfl,ke⟩;rw [X];have H:=N.step 1 0 (Z7 Z9 (f:Nat));obtain ⟨t,C⟩:=N.cells 1 0 _ rfl;rw [<- ke] at H t C;clear ke;obtain ⟨w2,k7⟩:∃ z,y0.setCell ⟨w.heap.size+1+1,0,ZX⟩ (Z7 Z9 (f:Nat))=z:=⟨_,rfl⟩;rw [k7] at H;have hq:GK w w2 w.heap.size b (off+1) 58 (l.drop 1) #[Z7 Z9 (f:Nat),Z7 Z9 0,Z7 Z9 0,Z7 Z8 0,Z7 Z9 0,Z7 Z9 0]:=by
  rw [VA,Vq off] at H;exact H
 have H1:=ak hq;clear N H hq;go_wp2_with fail;obtain ⟨g,Y⟩:∃ x,fR ((l.drop 1).take 1)=x:=⟨_,rfl⟩;have b1:g<4294967296:=T7 (Y▸a.o.2.1 1 1 (by decide)) (by decide);have O:=H1.o;refine (jz w.heap.size b (off+1) 58 1 (l.drop 1) w2 O.box (by decide) (a.o.1 1) O.rng (by rw [Un,a.o.2.2];decide) (by decide)).mono ?_;rintro e y1 ⟨rfl,kf⟩;rw [Y];have I:=O.step 1 1 (Z7 Z9 (g:Nat));obtain ⟨u,D⟩:=O.cells 1 1 _ rfl;rw [<- kf] at I u D;clear kf;obtain ⟨w3,k8⟩:∃ z,y1.setCell ⟨w.heap.size+1+1,1,ZX⟩ (Z7 Z9 (g:Nat))=z:=⟨_,rfl⟩;rw [k8] at I;have hs:GK w w3 w.heap.size b (off+2) 57 (l.drop 2) #[Z7 Z9 (f:Nat),Z7 Z9 (g:Nat),Z7 Z9 0,Z7 Z8 0,Z7 Z9 0,Z7 Z9 0]:=by
  rw [VA,Vq off] at I;exact I
 have H2:=ak hs;clear O I hs;go_wp2_with fail;obtain ⟨i,Z⟩:∃ x,fR ((l.drop 2).take 1)=x:=⟨_,rfl⟩;have b2:i<4294967296:=T7 (Z▸a.o.2.1 2 1 (by decide)) (by decide);have P:=H2.o;refine (jz w.heap.size b (off+2) 57 1 (l.drop 2) w3 P.box (by decide) (a.o.1 2) P.rng (by rw [Un,a.o.2.2];decide) (by decide)).mono ?_;rintro e y2 ⟨rfl,kg⟩;rw [Z];have J:=P.step 1 2 (Z7 Z9 (i:Nat));obtain ⟨y,E⟩:=P.cells 1 2 _ rfl;rw [<- kg] at J y E;clear kg;obtain ⟨w4,k9⟩:∃ z,y2.setCell ⟨w.heap.size+1+1,2,ZX⟩ (Z7 Z9 (i:Nat))=z:=⟨_,rfl⟩;rw [k9] at J;have hv:GK w w4 w.heap.size b (off+3) 56 (l.drop 3) #[Z7 Z9 (f:Nat),Z7 Z9 (g:Nat),Z7 Z9 (i:Nat),Z7 Z8 0,Z7 Z9 0,Z7 Z9 0]:=by
  rw [VA,Vq off] at J;exact J
 have H3:=ak hv;clear P J hv;go_wp2_with fail;obtain ⟨m,kc⟩:∃ x,fR ((l.drop 3).take 8)=x:=⟨_,rfl⟩;have Q:=H3.o;refine (jz w.heap.size b (off+3) 56 8 (l.drop 3) w4 Q.box (by decide) (a.o.1 3) Q.rng (by rw [Un,a.o.2.2];decide) (by decide)).mono ?_;rintro e y3 ⟨rfl,kh⟩;rw [kc];have K:=Q.step 8 3 (Z7 Z8 (m:Nat));obtain ⟨A,F⟩:=Q.cells 8 3 _ rfl;rw [<- kh] at K A F;clear kh;obtain ⟨w5,ka⟩:∃ z,y3.setCell ⟨w.heap.size+1+1,3,ZX⟩ (Z7 Z8 (m:Nat))=z:=⟨_,rfl⟩;rw [ka] at K;have hy:GK w w5 w.heap.size b (off+11) 48 (l.drop 11) #[Z7 Z9 (f:Nat),Z7 Z9 (g:Nat),Z7 Z9 (i:Nat),Z7 Z8 (m:Nat),Z7 Z9 0,Z7 Z9 0]:=by
  rw [VA,Vq off] at K;exact K
 have H4:=ak hy;clear Q K hy;go_wp2_with fail;obtain ⟨n,hn⟩:∃ x,fR ((l.drop 11).take 4)=x:=⟨_,rfl⟩;have b4:n<4294967296:=T7 (hn▸a.o.2.1 11 4 (by decide)) (by decide);have R:=H4.o;refine (jz w.heap.size b (off+11) 48 4 (l.drop 11) w5 R.box (by decide) (a.o.1 11) R.rng (by rw [Un,a.o.2.2];decide) (by decide)).mono ?_;rintro e y4 ⟨rfl,ki⟩;rw [hn];have L:=R.step 4 4 (Z7 Z9 (n:Nat));obtain ⟨B,G⟩:=R.cells 4 4 _ rfl;rw [<- ki] at L B G;clear ki;obtain ⟨w6,kb⟩:∃ z,y4.setCell ⟨w.heap.size+1+1,4,ZX⟩ (Z7 Z9 (n:Nat))=z:=⟨_,rfl⟩;rw [kb] at L;have hz:GK w w6 w.heap.size b (off+15) 44 (l.drop 15) #[Z7 Z9 (f:Nat),Z7 Z9 (g:Nat),Z7 Z9 (i:Nat),Z7 Z8 (m:Nat),Z7 Z9 (n:Nat),Z7 Z9 0]:=by
  rw [VA,Vq off] at L;exact L
 have H5:=ak hz;clear R L hz;go_wp2_with fail;obtain ⟨q,hp⟩:∃ x,fR ((l.drop 15).take 4)=x:=⟨_,rfl⟩;have b5:q<4294967296:=T7 (hp▸a.o.2.1 15 4 (by decide)) (by decide);have S:=H5.o;refine (jz w.heap.size b (off+15) 44 4 (l.drop 15) w6 S.box (by decide) (a.o.1 15) S.rng (by rw [Un,a.o.2.2];decide) (by decide)).mono ?_;rintro e y5 ⟨rfl,kj⟩;rw [hp];have M:=S.step 4 5 (Z7 Z9 (q:Nat));obtain ⟨T,U⟩:=S.cells 4 5 _ rfl;rw [<- kj] at M T U;clear kj;obtain ⟨d,km⟩:∃ z,y5.setCell ⟨w.heap.size+1+1,5,ZX⟩ (Z7 Z9 (q:Nat))=z:=⟨_,rfl⟩;rw [km] at M;have k0:GK w d w.heap.size b (off+19) 40 (l.drop 19) #[Z7 Z9 (f:Nat),Z7 Z9 (g:Nat),Z7 Z9 (i:Nat),Z7 Z8 (m:Nat),Z7 Z9 (n:Nat),Z7 Z9 (q:Nat)]:=by
  rw [VA,Vq off] at M;exact M
 have c:=ak k0;clear S M k0;have g0:d.cell? ⟨w.heap.size+1+1,0,ZX⟩=ZW (Z7 Z9 (f:Nat)):=by simp [World.cell?,c.o.rv]
 have g1:d.cell? ⟨w.heap.size+1+1,1,ZX⟩=ZW (Z7 Z9 (g:Nat)):=by simp [World.cell?,c.o.rv]
 have g2:d.cell? ⟨w.heap.size+1+1,2,ZX⟩=ZW (Z7 Z9 (i:Nat)):=by simp [World.cell?,c.o.rv]
 have g3:d.cell? ⟨w.heap.size+1+1,3,ZX⟩=ZW (Z7 Z8 (m:Nat)):=by simp [World.cell?,c.o.rv]
 have g4:d.cell? ⟨w.heap.size+1+1,4,ZX⟩=ZW (Z7 Z9 (n:Nat)):=by simp [World.cell?,c.o.rv]
 have g5:d.cell? ⟨w.heap.size+1+1,5,ZX⟩=ZW (Z7 Z9 (q:Nat)):=by simp [World.cell?,c.o.rv]
 have r0:d.cell? ⟨w.heap.size+1,0,ZX⟩=ZW (Z7 Z9 0):=by simp [World.cell?,c.o.res]
 have r1:d.cell? ⟨w.heap.size+1,1,ZX⟩=ZW (Z7 Z9 0):=by simp [World.cell?,c.o.res]
 have r2:d.cell? ⟨w.heap.size+1,2,ZX⟩=ZW (Z7 Z9 0):=by simp [World.cell?,c.o.res]
 have r3:d.cell? ⟨w.heap.size+1,3,ZX⟩=ZW (Z7 Z8 0):=by simp [World.cell?,c.o.res]
 have r4:d.cell? ⟨w.heap.size+1,4,ZX⟩=ZW (Z7 Z9 0):=by simp [World.cell?,c.o.res]
 have r5:d.cell? ⟨w.heap.size+1,5,ZX⟩=ZW (Z7 Z9 0):=by simp [World.cell?,c.o.res]
 have r:∀ k,d.frozen? ⟨w.heap.size+1,k,ZX⟩=ZU:=λk=>by simp [World.frozen?,c.o.res]
 have f0:=r 0;have f1:=r 1;have f2:=r 2;have f3:=r 3;have f4:=r 4;have f5:=r 5;clear r k6 k7 k8 k9 ka kb t u y A B C D E F G H0 H1 H2 H3 H4 H5;go_wp2;have hh:=ag (j:=5) (ag (j:=4) (ag (j:=3) (ag (j:=2) (ag (j:=1) (ag (j:=0) c.o.res (Z7 Z9 (f:Nat))) (Z7 Z9 (g:Nat))) (Z7 Z9 (i:Nat))) (Z7 Z8 (m:Nat))) (Z7 Z9 (n:Nat))) (Z7 Z9 (q:Nat));refine Us (v:=.agg (aj f g i m n q)) (Wk results201 _ _ (w.heap.size+1) 142 (aj f g i m n q) (0,0) _ rfl hh Xy rfl (by kernel_rfl)) rfl ?_;have kk:=c.o.below;refine ⟨?_,(((((kk.setCell (p:=⟨w.heap.size+1,0,ZX⟩) (by show w.heap.size<=w.heap.size+1;omega) _).setCell (p:=⟨w.heap.size+1,1,ZX⟩) (by show w.heap.size<=w.heap.size+1;omega) _).setCell (p:=⟨w.heap.size+1,2,ZX⟩) (by show w.heap.size<=w.heap.size+1;omega) _).setCell (p:=⟨w.heap.size+1,3,ZX⟩) (by show w.heap.size<=w.heap.size+1;omega) _).setCell (p:=⟨w.heap.size+1,4,ZX⟩) (by show w.heap.size<=w.heap.size+1;omega) _).setCell (p:=⟨w.heap.size+1,5,ZX⟩) (by show w.heap.size<=w.heap.size+1;omega) _⟩;rw [<- X,<- Y,<- Z,<- kc,<- hn,<- hp,Yn]
def dK:bE->ZS
 | .blank=>.iface 231 (.agg #[])
 | .root D L G t f n=>.iface 142 (.agg (aj D L G t f n))
 | .filled=>.iface 180 (.agg #[])
 | .shard l=>.iface 213 (.agg (aJ l).toArray)
def lW (h:cK w b l):w.rangeAt b 0 (aJ l):=λj v c=>by
 have:(aH l)[j]?=ZW v:=by unfold aH;simpa using c
 have a:w.heap[b]?=ZW (Z4 (aH l) 114 (0,0)):=h;simp [World.cell?,a,this]
def JH (h:cK w b l) (i:Nat) (a:i<l.length):w.cell? ⟨b,i,ZX⟩=ZW (Z7 .u8 ((l.getD i 0:Nat):Int)):=by
 have:=lW h i (Z7 .u8 ((l.getD i 0:Nat):Int)) (by unfold aJ;rw [UG,Uc a,Ub,Uc a];rfl);rwa [Uj] at this
def sS (l:a8) (i:Nat) (h:i<l.length):(l.drop i).take 1=[l.getD i 0]:=by
 rw [XZ h,Ub,Uc h];rfl
def JI (hl:l.length=64) (a:l.getD 4 0=1):ry l=.root (fR ((l.drop 5).take 1)) (fR (((l.drop 5).drop 1).take 1)) (fR (((l.drop 5).drop 2).take 1)) (fR (((l.drop 5).drop 3).take 8)) (fR (((l.drop 5).drop 11).take 4)) (fR (((l.drop 5).drop 15).take 4)):=by
 unfold ry;rw [TT a,VA,VA,VA,VA,VA,sS l 5 (by omega),sS l (5+1) (by omega),sS l (5+2) (by omega)]
def AY:∀ (l:List ZS) (k:Nat) (z:Array ZS),((l.zipIdx k).foldl (λcs x=>cs.setIfInBounds x.2 x.1) z).size=z.size/\∀ i,((l.zipIdx k).foldl (λcs x=>cs.setIfInBounds x.2 x.1) z)[i]?=if k<=i/\i<k+l.length/\i<z.size then l[i-k]? else z[i]?
 | [],k,z=>⟨rfl,λi=>by
  show z[i]?=if k<=i/\i<k+0/\i<z.size then _ else z[i]?;rw [TS (by omega)]⟩
 | v::l,k,z=>by
  obtain ⟨b,c⟩:=AY l (k+1) (z.setIfInBounds k v);rw [List.zipIdx_cons,W4];refine ⟨by rw [b];simp,λi=>?_⟩;rw [c i,Array.size_setIfInBounds,abk];simp only [UA];by_cases e:k=i
  . subst e;rw [TS (by omega),TT rfl];by_cases a:k<z.size
    . rw [TT a,TT (by omega),W0];rfl
    . rw [TS a,TS (by omega)];simp [a]
  . rw [TS e];by_cases a:k+1<=i/\i<k+1+l.length/\i<z.size
    . rw [TT a,TT (by omega),show i-k=(i-(k+1))+1 by omega];rfl
    . rw [TS a,TS (by omega)]
theorem wO (z a:Array ZS) (n:Nat) (g:z.size=n) (c:a.size=n):YK (λcs x=>cs.setIfInBounds x.snd x.fst) z a.zipIdx 0 n=a:=by
 have e:YK (λcs x=>cs.setIfInBounds x.snd x.fst) z a.zipIdx 0 n=(a.toList.zipIdx).foldl (λcs x=>cs.setIfInBounds x.2 x.1) z:=by
  rw [<- c,show a.size=a.zipIdx.size by simp,<- Array.foldl_toList,Array.toList_zipIdx]
 rw [e];obtain ⟨d,b⟩:=AY a.toList 0 z;apply YT;intro i;rw [b i];by_cases f:i<n
 . rw [TT (by simp;omega)];simp
 . rw [TS (by omega)];simp [YJ (show z.size<=i by omega),YJ (show a.size<=i by omega)]
theorem GL (l:a8) (w:ZT) (hl:l.length=64) (m:∀ x∈l,x<256) :
 ZQ ZK 183 #[.agg (aH l)] w λe w'=>e=Z3 (dK (ry l))/\bW w w':=by
 have p:=cK.new w l;have c:bW w (w.alloc (Z4 (aH l) 114)):=bA w _;have b:(w.alloc (Z4 (aH l) 114)).heap.size=w.heap.size+1:=by simp
 obtain ⟨w1,G⟩:=nM (w.alloc (Z4 (aH l) 114));rw [G] at p c b;have t:=JH p 4 (by omega);have j:w1.rangeAt w.heap.size 5 (aJ (l.drop 5)):=by have:=fY 5 (lW p);rwa [Uj] at this
 have i:w1.rangeAt w.heap.size 20 (aJ (l.drop 20)):=by have:=fY 20 (lW p);rwa [Uj] at this
 have k:∀ x∈l.drop 5,x<256:=λx h=>m x (UZ h);have d:(l.drop 5).length=59:=by rw [Un,hl]
 have f:(l.drop 20).length=44:=by rw [Un,hl]
 by_cases g:l.getD 4 0=1
 . have a:=JI hl g;rw [g] at t;have q:=DH w.heap.size 5 (l.drop 5) w1 d k j (by omega);rw [d] at q;rw [a];obtain ⟨ra,v⟩:=nM (aj (fR ((l.drop 5).take 1)) (fR (((l.drop 5).drop 1).take 1)) (fR (((l.drop 5).drop 2).take 1)) (fR (((l.drop 5).drop 3).take 8)) (fR (((l.drop 5).drop 11).take 4)) (fR (((l.drop 5).drop 15).take 4)));rw [v] at q;have E:=ak v;clear v;have H:=al c b;clear a i j k f m d c b;go_enter func183,ntmps183;go_wp2_with fail;refine q.mono ?_;rintro e w2 ⟨rfl,B⟩;clear q;have D:=ak B;clear B;go_wp2;go_ret;exact ⟨by rw [show dK (.root (fR ((l.drop 5).take 1)) (fR (((l.drop 5).drop 1).take 1)) (fR (((l.drop 5).drop 2).take 1)) (fR (((l.drop 5).drop 3).take 8)) (fR (((l.drop 5).drop 11).take 4)) (fR (((l.drop 5).drop 15).take 4)))=.iface 142 (.agg ra) from (by unfold dK;rw [<- E.o])];rfl,H.o.1.trans (D.o.mono (by have:=H.o.2;omega))⟩
 . by_cases n:l.getD 4 0=2
   . have a:ry l=.filled:=(by unfold ry;rw [TS g,TT n]);rw [n] at t;rw [a];have H:=al c b;clear a i j k f m d c b;unfold dK;go_enter func183,ntmps183;go_wp2;go_ret;exact ⟨rfl,H.o.1⟩
   . by_cases u:l.getD 4 0=3
     . have a:ry l=.shard (l.drop 20):=(by unfold ry;rw [TS g,TS n,TT u]);rw [u] at t;rw [a];have H:=a5 c b i f;clear a i j k f m d c b;have I:∀ (s:ZP) (w:ZT),(Instr.arrayAt 211 (Z5 (ZW s) 44 44)).run ZK w=.ok (Z6 (ZW s)) w:=λs w=>by simp [Instr.arrayAt,UL aa1]
       have C:(aJ (l.drop 20)).toArray.size=44:=(by rw [UH,aW];exact H.o.2.2.2);go_enter func183,ntmps183;obtain ⟨r,y⟩:=nM ((aJ (l.drop 20)).toArray);rw [y] at C;have A:=ak y;go_wp2_with (refine aaU rfl 211 (Z0 17) rfl w.heap.size 20 rfl (aJ (l.drop 20)) _ H.o.2.2.1 aa1 rfl (by rw [aW,H.o.2.2.2];kernel_rfl) ?_;rw [A.o];clear y);have F:∀ z:Array ZS,z.size=44->YK (λcs x=>cs.setIfInBounds x.snd x.fst) z r.zipIdx 0 44=r:=λz b=>wO z r 44 b C;rw [F _ rfl];go_ret;exact ⟨by rw [show dK (.shard (l.drop 20))=.iface 213 (.agg r) from (by unfold dK;rw [<- A.o])];rfl,H.o.1⟩
     . have a:ry l=.blank:=(by unfold ry;rw [TS g,TS n,TS u]);rw [a];have H:=al c b;have J:¬ ((l.getD 4 0:Nat):Int)=1:=(by omega);have K:¬ ((l.getD 4 0:Nat):Int)=2:=(by omega);have L:¬ ((l.getD 4 0:Nat):Int)=3:=(by omega);clear a i j k f m d c b;generalize l.getD 4 0=x at *;unfold dK;go_enter func183,ntmps183;go_wp2;go_ret;exact ⟨rfl,H.o.1⟩
def spl (l:a8) (off:Nat) (src:a8):a8:=l.take off++(src++l.drop (off+src.length))
def zg (h:off+src.length<=l.length):(spl l off src).length=l.length:=by unfold spl;simp;omega
def AZ (ty:ZN) (m:cK w b l) (p:Bs w v src) (h:src≠[]) (t:src.length<=n) (s:off+src.length<=l.length) :
 (Builtin.copy_ #[40,40] ty #[Z5 (ZW ⟨b,off,ZX⟩) n cap,v]).run ZK w=.ok (Z7 Z9 (src.length:Nat)) (w.setRow b (aH (spl l off src))):=by
 obtain ⟨ao,c,rfl,y,z,A,i⟩:=p;obtain ⟨g,o,rfl,r⟩:=i h;have k:=run_copy_row (P:=ZK) w 40 40 ty 5 b off n cap ⟨g,o,ZX⟩ src.length c (aH l) 114 (aJ src) Um (by kernel_rfl) m (by rw [aW];exact (Wj t).symm) (λj u f=>by
  have a:j<src.length:=by obtain ⟨q,_⟩:=U9.1 f;rwa [aW] at q
  rw [Vl,r j a,<- f];unfold aJ;rw [UG,Uc a,Ub,Uc a];rfl) (by rw [aW,il];exact s) (λu d=>by
  unfold aJ at d;rw [T9] at d;obtain ⟨x,_,rfl⟩:=d;rfl)
 rw [k];have e:(YL off (aH l).toList++aJ src++YQ (off+(aJ src).length) (aH l).toList).toArray=aH (spl l off src):=by
  rw [wF,aW];unfold aH spl;rw [bJ,bJ,Uz];unfold aJ;rw [WD,WE]
 simp only [Uz] at e ⊢;rw [e,aW];rfl
structure JJ (w0 w:ZT) (r b:Nat) (l:a8):Prop where
 res:cK w r zb
 blk:cK w b l
 below:bW w0 w
 rs:r=w0.heap.size
 bs:b=w0.heap.size+1
def JJ.new (w:ZT):JJ w ((w.alloc (Z4 (aH zb) 114)).alloc (Z4 (aH zb) 114)) w.heap.size (w.heap.size+1) zb:=by
 refine ⟨(UB _ _ _ (by simp)).trans (Ug _ _),?_,(bA w _).alloc (by simp) _,rfl,rfl⟩;have:=Ug (w.alloc (Z4 (aH zb) 114)) (Z4 (aH zb) 114);simpa [cK] using this
def JJ.mono (h:JJ w0 w r b l) (a:bW w w'):JJ w0 w' r b l:=
 ⟨h.res.keep (a.block _ h.res.lt),h.blk.keep (a.block _ h.blk.lt),h.below.trans (a.mono (by have:=h.res.lt;have:=h.rs;omega)),h.rs,h.bs⟩
def JJ.set {l':a8} (h:JJ w0 w r b l) (a:aa (λk=>k=b) w w') (c:cK w' b l'):JJ w0 w' r b l':=
 ⟨h.res.keep (a.block _ h.res.lt (λe=>by have:=h.rs;have:=h.bs;omega)),c,h.below.trans (a.below λk d=>⟨by have:=h.blk.lt;have:=h.bs;omega,λe=>by have:=h.bs;omega⟩),h.rs,h.bs⟩
def bV.below (h:bV w) (b:ZR B w w') (a:2<B):bV w':=λj c=>(b.cell (p:=⟨2,j,ZX⟩) a).trans (h j c)
def bV.lt (h:bV w):2<w.heap.size:=Uf (h 0 (by decide))
theorem M7 {body:a8} (c:body.length<=60):spl (spl zb 4 body) 0 (be (nE ((spl zb 4 body).drop 4)) 4)=eI body:=by
 have a:(spl zb 4 body).drop 4=body++YF (60-body.length) 0:=by
  unfold spl;rw [W9 (by simp [zb]),show (YL 4 zb).drop 4=[] by simp [zb]];simp only [Uq];congr 1;unfold zb;rw [XV];congr 1;omega
 have b:∀ (X s:a8),spl X 0 s=s++X.drop s.length:=λX s=>by unfold spl;rw [WG,Uq,Uj]
 rw [b,aD,a];rfl
def Pn (b:∀ x∈l,x<256) (c:∀ x∈src,x<256):∀ x∈spl l off src,x<256:=by
 intro x a;unfold spl at a;simp only [Ui] at a;rcases a with h|h|h
 . exact b x (UV h)
 . exact c x h
 . exact b x (UZ h)
def Q7:∀ x∈zb,x<256:=λx a=>by have:=Vz a;omega
theorem A0 (w:ZT):ZQ ZK 150 #[dK .blank] w λe w'=>e=Z3 (.agg (aH bE.blank.blk))/\bW w w':=by
 have j:=zeroBlk;have b:=JJ.new w;obtain ⟨w1,h⟩:=nM ((w.alloc (Z4 (aH zb) 114)).alloc (Z4 (aH zb) 114));rw [h] at b;have c:=ak b;clear b;unfold dK;go_enter func150,ntmps150;go_wp2_with fail;refine (DG w1).mono ?_;rintro e w2 ⟨rfl,d⟩;have f:=c.o.mono d;have a:=ak f;clear f d c;go_wp2_with (first|(refine rP rfl (Z0 3) rfl (w.heap.size+1) zb rfl a.o.blk dE ?_)|(refine iB rfl (Z0 2) (Z0 19) rfl w.heap.size zb zb rfl rfl a.o.res dE dE ?_));have g:=a.o.res.setRow zb;refine Us (v:=.agg (aH zb)) (Wk results150 _ _ w.heap.size 114 (aH zb) (0,0) _ rfl g Xr rfl (iq dE)) rfl ?_;exact ⟨rfl,a.o.below.trans ⟨rfl,rfl,rfl,by simp [World.setRow],λk i=>(aX _ _ _).block k (by have:=a.o.res.lt;omega) (λe=>by cases e;omega)⟩⟩
def wP (r:bE):Prop:=∀ w,bV w->ZQ ZK 150 #[dK r] w λe w'=>e=Z3 (.agg (aH r.blk))/\bW w w'
theorem sU {r:bE} {f:FuncId} {ra:Array ZS} (P:dK r=.iface ty (.agg ra)) (C:(ty=142/\f=254)\/(ty=180/\f=266)\/(ty=213/\f=267)) (Q:∀ w,ZQ ZK f #[.agg ra] w λe w'=>∃ v,e=Z3 v/\Bs w' v r.body/\bW w w') (K:r.ok) (m:0<r.body.length):wP r:=λw X=>by
 have hz:=zeroBlk;have E:=JJ.new w;obtain ⟨w1,ke⟩:=nM ((w.alloc (Z4 (aH zb) 114)).alloc (Z4 (aH zb) 114));rw [ke] at E;have W:=nF K;have J:=rN K;have O:r.blk=eI r.body:=by unfold bE.blk;rw [TS (λe=>by rw [e] at m;cases m)]
 have F:=Q w1;rw [O,P];obtain ⟨body,N⟩:=nM (r.body);rw [N] at W J m F ⊢;have s:=aE E J X;clear E J X K O N Q P;rcases C with ⟨rfl,rfl⟩|⟨rfl,rfl⟩|⟨rfl,rfl⟩<;>(
  go_enter func150,ntmps150;go_wp2_with fail;refine F.mono ?_;clear F;rintro e w2 ⟨v,rfl,H,U⟩;have t:=s.o.1.mono U;obtain ⟨ao,c,rfl,k9,ka,kb,kc⟩:=id H;have Z:body≠[]:=by intro e;rw [e] at m;simp at m
  have z:=AZ (n:=60) (cap:=60) (off:=4) 3 t.blk H Z (by omega) (by rw [dE];omega);have u:JJ w (w2.setRow (w.heap.size+1) (aH (spl zb 4 body))) w.heap.size (w.heap.size+1) (spl zb 4 body):=t.set (aa.setRow (S:=λk=>k=w.heap.size+1) _ _ _ rfl) (t.blk.setRow _);obtain ⟨d,k6⟩:=nM (w2.setRow (w.heap.size+1) (aH (spl zb 4 body)));rw [k6] at z u;have hv3:bV d:=s.o.2.2.below u.below s.o.2.2.lt;have g:=al u hv3;clear t H U k9 ka kb kc k6 u hv3 Z;go_wp2_with fail;have p:(spl zb 4 body).length=64:=by rw [zg (by rw [dE];omega),dE]
  obtain ⟨l,hl⟩:=nM (spl zb 4 body);have M:=Pn Q7 s.o.2.1 (off:=4);have B:=M7 W;rw [hl] at p g M B;obtain ⟨j,Y⟩:∃ c,nE (l.drop 4)=c:=⟨_,rfl⟩;have kf:j<4294967296:=Y▸yY _;have I:Bs d.drew (Z5 (ZW ⟨w.heap.size+1,4,ZX⟩) (l.drop 4).length 60) (l.drop 4):=Bs.mid (by rw [Un,p];decide) (by rw [Un,p];decide) (λx h=>M x (UZ h)) (by have:=fY 4 (lW g.o.1.blk);rw [Uj] at this;exact this);rw [show (l.drop 4).length=60 by rw [Un,p]] at I;have G:=MY _ _ _ I (g.o.2.below ((TW _ d).drew) g.o.2.lt);rw [Y] at G B;have T:=fX d.heap.size (Z5 ZX 0 0) 0 [] j 4 d.drew (UK _ _ _ _) lR (by decide) (by decide);refine du 5 [(0,ZV),(1,ZV),(2,ZU),(3,ZV),(4,ZU),(5,ZU)] (λ_=>True) (by kernel_rfl) (by kernel_rfl) trivial ?_;iterate 2 (refine aC rfl rfl ?_;apply YG;refine ⟨λw' _=>?_,?_⟩;(first|(go_simp;done)|(go_simp;exact rfl));simp only [Act.put,TX,TY,TZ])
  refine fF G rfl rfl (by go_simp) ?_;rintro e D ⟨rfl,rfl⟩;refine ⟨_,rfl,λ_=>trivial,?_⟩;simp only [Act.put,TX,TY,TZ];refine aC rfl rfl ⟨Z7 Z8 (j:Nat),λw' _=>by go_simp;rw [Va];omega,?_⟩;simp only [Act.put,TX,TY,TZ];refine fF T rfl rfl (by go_simp) ?_;rintro e D ⟨v4,rfl,k5,R,-⟩;refine ⟨_,rfl,λ_=>trivial,?_⟩;simp only [Act.put,TX,TY,TZ];have V:bW d D:=((TW _ d).drew).trans (R.below λk C=>⟨C,λq=>by simp [Value.ownBlock] at q⟩);have y:=g.o.1.mono V;have z:=AZ (n:=4) (cap:=64) (off:=0) 3 y.blk (Bs.Sd k5 (qG _ _) (by rw [aD];decide)) (by intro e;have:=aD j 4;rw [e] at this;cases this) (by rw [aD];decide) (by rw [aD,p];decide);refine eK rfl rfl (by simp only [execOp,resolve,invoke,builtin,UE,VJ,UQ,YA,U0,Wl];exact Uy (λr=>Result.andThen r λa w'=>Result.ok (Next.value a) w') z) AR (cB ?_);have b:=y.set (aa.setRow (S:=λk=>k=w.heap.size+1) D _ (aH (spl l 0 (be j 4))) rfl) (y.blk.setRow _);rw [B] at b ⊢;have A:(eI body).length=64:=by unfold eI;simp [aD];omega
  obtain ⟨sb,L⟩:=nM (eI body);rw [L] at b A ⊢;obtain ⟨w5,k7⟩:=nM (D.setRow (w.heap.size+1) (aH sb));rw [k7] at b ⊢;have k8:=ak L;have i:=ak b;clear b y V z k5 R L k7 G T I B M hl;rename_i hK
  refine hK _ _ ?_;clear hK;simp only [Act.put,TX,TY,TZ];go_wp2_with (first|(refine rP rfl (Z0 3) rfl (w.heap.size+1) sb rfl i.o.blk A ?_)|(refine iB rfl (Z0 2) (Z0 19) rfl w.heap.size sb zb rfl rfl i.o.res dE A ?_));have b:=i.o.res.setRow sb;refine Us (v:=.agg (aH sb)) (Wk results150 _ _ w.heap.size 114 (aH sb) (0,0) _ rfl b Xr rfl (iq A)) rfl ?_;exact ⟨by rw [k8.out],i.o.below.trans ⟨rfl,rfl,rfl,by simp [World.setRow],λk C=>(aX _ _ _).block k (by have:=i.o.res.lt;omega) (λe=>by cases e;omega)⟩⟩)
def A2:wP .blank:=λw _=>A0 w
def DI {t f:Nat} (a:(bE.root D L G t f n).ok):wP (.root D L G t f n):=sU rfl (.inl ⟨rfl,rfl⟩) (λw=>GJ D L G t f n w a) a (by simp [bE.body])
def Tryz.S2:ZK.cellsOf 5=1:=by kernel_rfl
def wQ (l:a8) (i:Nat) (a:i<l.length) (w:ZT):(part 5 (aH l) (i*1)).run ZK w=.ok (Z7 .u8 ((l.getD i 0:Nat):Int)) w:=by
 have b:(aH l)[i]?=ZW (Z7 .u8 ((l.getD i 0:Nat):Int)):=by
  unfold aH aJ;rw [Xz,UG,Uc a,Ub,Uc a];rfl
 rw [V9];have c:=Xg;simp [part,isAgg,UL c,b]
theorem A3 (d:Nat) (l1 a:a8) (w:ZT):∀ (b:a8),(∀ i∈b,i<l1.length/\i<a.length)->(Op.eqItems (d+1) 5 1 (aH l1) (aH a) b).run ZK w=.ok (b.all λi=>l1.getD i 0==a.getD i 0) w
 | [],_=>by simp [Op.eqItems]
 | i::b,h=>by
  obtain ⟨k,l⟩:=h i (by simp);have ih:=A3 d l1 a w b (λj n=>h j (by simp [n]));have m:=run_equalIn_int (P:=ZK) (w:=w) d 5 .u8 .u8 ((l1.getD i 0:Nat):Int) ((a.getD i 0:Nat):Int) Xg;simp only [Op.eqItems,UE,wQ l1 i k w,wQ a i l w,UQ,m,List.all_cons];generalize l1.getD i 0=x;generalize a.getD i 0=y;by_cases e:x=y
  . subst e;rw [TS (by simp),ih];simp
  . have c:¬ ((x:Nat):Int)=((y:Nat):Int):=λq=>e (by omega);have f:((x:Int)==(y:Int))=ZU:=(by simpa using c);have g:(x==y)=ZU:=(by simpa using e);rw [f,g];simp
theorem JK {l1 l2:a8} (c:l1.length=64) (d:l2.length=64):((YE 64).all λi=>l1.getD i 0==l2.getD i 0)=decide (l1=l2):=by
 rw [Yo,XY,VW];constructor
 . intro h;refine Vb (by omega) λi a b=>?_;have:=h i (Uu.2 (by omega));simpa [a,b] using this
 . rintro rfl i _;simp
def Po (l1 a:a8) (c:l1.length=64) (d:a.length=64) (w:ZT):(Op.equalIn 10000 114 (.agg (aH l1)) (.agg (aH a))).run ZK w=.ok (decide (l1=a)) w:=by
 obtain ⟨g,b,_⟩:=Ut Tryz.R2;rw [show (10000:Nat)=9998+1+1 from rfl,run_equalIn_array w (9998+1) (t:=114) (e:=5) (n:=64) (aH l1) (aH a) Xr b,Tryz.S2,A3 9998 l1 a w _ (λi f=>by have:=Uu.1 f;omega),JK c d]
theorem aM.SJ (h:aM w b l):w.heap[b]?=ZW (Z4 (aJ l).toArray 5 (0,0)):=by
 obtain ⟨c,d,g,f⟩:=h;have e:c=(aJ l).toArray:=by
  apply YT;intro i;by_cases a:i<l.length
  . rw [f i a];unfold vb aJ;simp [Ub,Uc a]
  . rw [YJ (by omega),YJ (by rw [UH,aW];omega)]
 rw [<- e];exact d
def aM.TF (h:w.heap[b]?=ZW (Z4 (aJ l).toArray 5 (0,0))):aM w b l:=
 ⟨_,h,by rw [UH,aW],λi a=>by
  unfold vb aJ;simp [Ub,Uc a]⟩
def A4 (ty:ZN) (d:aM w b l) (s:Bs w v src) (z:src.length<=n) (y:off+src.length<=l.length) :
 ∃ w',(Builtin.copy_ #[40,40] ty #[Z5 (ZW ⟨b,off,ZX⟩) n cap,v]).run ZK w=.ok (Z7 Z9 (src.length:Nat)) w'/\aM w' b (spl l off src)/\w.grownBy w' (ZW b):=by
 obtain ⟨ao,c,rfl,A,B,C,p⟩:=s;have k:(ZK.info? 5).map (λi=>i.size)=ZW 1:=by kernel_rfl
 by_cases h:src=[]
 . subst h;refine ⟨w,run_copy_none (P:=ZK) w 40 40 ty 5 (ZW ⟨b,off,ZX⟩) ao n cap 0 c Um k (by simp),?_,Ws _ _⟩;have e:spl l off []=l:=(by unfold spl;simp);rw [e];exact d
 . obtain ⟨g,o,rfl,t⟩:=p h;have r:=run_copy_row (P:=ZK) w 40 40 ty 5 b off n cap ⟨g,o,ZX⟩ src.length c (aJ l).toArray 5 (aJ src) Um k d.SJ (by rw [aW];exact (Wj z).symm) (λj u m=>by
    have a:j<src.length:=(by obtain ⟨q,_⟩:=U9.1 m;rwa [aW] at q);rw [Vl,t j a,<- m];unfold aJ;rw [UG,Uc a,Ub,Uc a];rfl) (by rw [aW,UH,aW];exact y) (λu f=>by
    unfold aJ at f;rw [T9] at f;obtain ⟨x,_,rfl⟩:=f;rfl)
   have e:(YL off (aJ l)++aJ src++YQ (off+(aJ src).length) (aJ l)).toArray=(aJ (spl l off src)).toArray:=by
    rw [aW];unfold spl;rw [bJ,bJ,Uz];unfold aJ;rw [WD,WE]
   refine ⟨w.setRow b (aJ (spl l off src)).toArray,?_,aM.TF (Vp w b (aJ l).toArray (aJ (spl l off src)).toArray _ _ d.SJ),aX _ _ _⟩;rw [r];simp only [Uz] at e ⊢;rw [e,aW];rfl
def GM (w:ZT) (a:Nat):(w.alloc (Z4 #[Z7 .u8 (a:Int)] 5)).ownsRow w.heap.size 5 1 (Z5 (ZW ⟨w.heap.size,0,ZX⟩) 1 1) 1 (aJ [a]):=
 ⟨rfl,.inr ⟨w.heap.size,1,_,rfl,TU _,Ug _ _,TU _,by unfold maxLen;omega,rfl,rfl⟩⟩
theorem A5 (w:ZT):ZQ ZK 266 #[.agg #[]] w λe w'=>∃ v,e=Z3 v/\Bs w' v bE.filled.body/\bW w w':=by
 have ho:=GM (w.alloc (Z4 #[] 180)) 2;have a:bW w ((w.alloc (Z4 #[] 180)).alloc (Z4 #[Z7 .u8 ((2:Nat):Int)] 5)):=(bA w _).alloc (by simp) _;have H:=al ho a;clear ho a;go_enter func266,ntmps266;go_wp2;go_ret;have b:=Bs.Sd H.o.1 (λx c=>by simp at c;omega) (by decide);simp only [Ul] at b;exact ⟨_,rfl,b,H.o.2⟩
theorem DJ (l:a8) (w:ZT) (I:(bE.shard l).ok) :
 ZQ ZK 267 #[.agg (aJ l).toArray] w λe w'=>∃ v,e=Z3 v/\Bs w' v (bE.shard l).body/\bW w w':=by
 obtain ⟨hl,G⟩:=I;have z:=Ug w (Z4 (aJ l).toArray 213);have i:bW w (w.alloc (Z4 (aJ l).toArray 213)):=bA w _;have A:(w.alloc (Z4 (aJ l).toArray 213)).heap.size=w.heap.size+1:=by simp
 have J:(aJ l).toArray.size=44:=by rw [UH,aW,hl]
 obtain ⟨w1,E⟩:=nM (w.alloc (Z4 (aJ l).toArray 213));rw [E] at z i A;obtain ⟨ra,s⟩:=nM ((aJ l).toArray);have H:=a6 z i A G s;rw [s] at E J ⊢;clear z i A G s;go_enter func267,ntmps267;go_wp2_with (at_make;refine cO _ rfl (.const (Z7 Z9 60)) (.const (Z7 Z9 60)) rfl _ 60 rfl rfl rfl (by omega) ?_;intro w2 x C P;have c0:=x.cell 0 (by decide);have N:=x.frozen 0);have f:aM (w2.setCell ⟨w1.heap.size,0,ZX⟩ (Z7 .u8 3)) w1.heap.size ((YF 60 0).set 0 3):=x.set 0 3;have K:=H.o.2.2.1;have q:(w2.setCell ⟨w1.heap.size,0,ZX⟩ (Z7 .u8 3)).heap[w.heap.size]?=ZW (Z4 (aJ l).toArray 213 (0,0)):=(Ud _ _ _ _ (by show w.heap.size≠w1.heap.size;omega)).trans ((C.block _ (by omega)).trans H.o.1);have c:bW w (w2.setCell ⟨w1.heap.size,0,ZX⟩ (Z7 .u8 3)):=(H.o.2.1.trans (C.mono (by omega))).setCell (p:=⟨w1.heap.size,0,ZX⟩) (by show w.heap.size<=w1.heap.size;omega) _;obtain ⟨d,F⟩:=nM (w2.setCell ⟨w1.heap.size,0,ZX⟩ (Z7 .u8 3));rw [F] at f q c ⊢;have h:Bs d.drew (Z5 (ZW ⟨w.heap.size,0,ZX⟩) l.length 44) l:=Bs.mid (by omega) (by omega) H.o.2.2.2.1 (λj u L=>by
  have:(aJ l).toArray[j]?=ZW u:=by simpa using L
  show d.cell? _=_;simp [World.cell?,q,this])
 rw [hl] at h;obtain ⟨M,m,g,b⟩:=A4 (w:=d.drew) (n:=44) (cap:=44) (off:=16) 3 f h (by omega) (by simp;omega);rw [K] at m;refine du 99 [(0,ZV),(1,ZV),(2,ZV),(3,ZV),(4,ZU)] (λ_=>True) (by kernel_rfl) (by kernel_rfl) trivial ?_;iterate 4 (refine aC rfl rfl ?_;apply YG;refine ⟨λw' _=>?_,?_⟩;(first|(go_simp;done)|(go_simp;exact rfl));simp only [Act.put,TX,TY,TZ])
 refine eK rfl rfl (by simp [execOp,Act.eval,resolve,invoke,builtin];exact Uy (λr=>Result.andThen r λa w'=>Result.ok (Next.value a) w') m) (λ_=>trivial) (cB ?_);have D:bW w M:=c.trans ⟨b.os,b.tape,b.output,b.size,λk O=>b.block k (by have:=c.size;show k<d.heap.size;omega) (λe=>by cases e;omega)⟩;have y:spl ((YF 60 0).set 0 3) 16 l=(bE.shard l).body:=by
  unfold spl bE.body;rw [hl];simp [YF]
 rw [y] at g;have t:=Bs.Sl (n:=60) g (by rw [<- y,zg (by simp [hl])];simp) (by decide) (rN (r:=.shard l) ⟨hl,H.o.2.2.2.1⟩);rw [UI (nF (r:=.shard l) ⟨hl,H.o.2.2.2.1⟩),show (bE.shard l).body.length=60 by rw [<- y,zg (by simp [hl])];simp] at t;have B:=al t D;clear t D g c q f m b h F;rename_i hK
 refine hK _ _ ?_;clear hK;simp only [Act.put,TX,TY,TZ];go_wp2;go_ret;exact ⟨_,rfl,B.o.1,B.o.2⟩
def zh:wP .filled:=sU rfl (.inr (.inl ⟨rfl,rfl⟩)) (λw=>A5 w) trivial (by simp [bE.body])
def A6 (a:(bE.shard l).ok):wP (.shard l):=sU rfl (.inr (.inr ⟨rfl,rfl⟩)) (λw=>DJ l w a) a (by simp [bE.body])
def A7 (a:∀ x∈l,x<256) (i:Nat):l.getD i 0<256:=by
 rw [Ub];cases h:l[i]? with
 | none=>decide
 | some x=>exact a x (List.mem_of_getElem? h)
theorem Pp (hl:l.length=64) (b:∀ x∈l,x<256):(ry l).ok:=by
 have c:∀ n,fR ((l.drop n).take 4)<4294967296:=λn=>by
  have a:=wN ((l.drop n).take 4) (by rw [Uo];omega) (λx h=>b x (UZ (UV h)));have d:((l.drop n).take 4).length<=4:=by rw [Uo];omega
  exact T7 a (TV (UW (by decide) d) (by decide))
 have a:∀ n,fR [l.getD n 0]<256:=λn=>by rw [rO _ (A7 b n)];exact A7 b n
 unfold ry;split
 . exact ⟨a _,a _,a _,O7 _,c _,c _⟩
 . split
   . trivial
   . split
     . exact ⟨by rw [Un,hl],λx h=>b x (UZ h)⟩
     . trivial
def wR {r:bE} (h:r.ok):wP r:=by
 cases r with
 | blank=>exact A2
 | root D L G t f n=>exact DI h
 | filled=>exact zh
 | shard l=>exact A6 h
def ofV:Option bE->ZS
 | some r=>ZZ #[dK r,Z1 ZV]
 | none=>ZZ #[.nilIface,Z1 ZU]
theorem Pr (l:a8) (w:ZT) (hl:l.length=64) (t:∀ x∈l,x<256) (D:bV w) :
 ZQ ZK 153 #[.agg (aH l)] w λe w'=>e=Z3 (ofV (I9 l))/\bW w w':=by
 have s:=Pp hl t;have C:=wR s;have p:=cK.new w l;have i:bW w (w.alloc (Z4 (aH l) 114)):=bA w _;obtain ⟨w1,G⟩:=nM (w.alloc (Z4 (aH l) 114));rw [G] at p i;have d:=GL l w1 hl t;obtain ⟨r,k⟩:=nM (ry l);have B:I9 l=if r.blk=l then ZW r else ZX:=by unfold I9;rw [k]
 rw [k] at d C s;obtain ⟨rv,m⟩:=nM (dK r);rw [m] at d;have c:=al m B;have b:=al p i;clear t p i m B k;go_enter func153,ntmps153;go_wp2_with (refine rP rfl (Z0 1) rfl w.heap.size l rfl b.o.1 hl ?_);refine d.mono ?_;rintro e w2 ⟨rfl,g⟩;have z:=b.o.1.keep (g.block _ b.o.1.lt);have y:=b.o.2.trans (g.mono b.o.2.size);have a:=al z y;clear d g z y;go_wp2_with fail;have n:=D.below a.o.2 D.lt;have j:=C w2.drew (n.below ((TW _ w2).drew) n.lt);rw [c.o.1] at j;refine du 3 [(0,ZV),(2,ZV),(1,ZU),(3,ZU)] (λw'=>cK w' w.heap.size l) (by kernel_rfl) (by kernel_rfl) a.o.1 ?_;refine aC rfl rfl ⟨rv,λw' _=>by go_simp,?_⟩;simp only [Act.put,TX,TY,TZ];refine aC rfl rfl ⟨.agg (aH l),λw' F=>by simp [execOp,Act.eval,mX F hl],?_⟩;simp only [Act.put,TX,TY,TZ];refine fF j rfl rfl (by go_simp) ?_;rintro e E ⟨rfl,h⟩;refine ⟨_,rfl,λ_=>a.o.1.keep (h.block _ a.o.1.lt),?_⟩;simp only [Act.put,TX,TY,TZ];refine eK (v:=Z1 (!decide (r.blk=l))) (w1:=E) rfl rfl (by go_simp;rw [Po r.blk l (Fk s) hl E];rfl) AR (cB ?_);have u:=ak (a.o.2.trans ((((TW _ w2).drew).trans h).mono a.o.2.size));clear h j n;rename_i hK
 by_cases q:r.blk=l
 . rw [q,UY (rfl:l=l)];have f:=ak q;clear q;refine hK _ _ ?_;clear hK;simp only [Act.put,TX,TY,TZ];go_wp2;go_ret2;refine ⟨?_,u.o⟩;rw [c.o.2,TT f.o,<- c.o.1];rfl
 . rw [Vc q];obtain ⟨bl,A⟩:=nM (aH r.blk);rw [A];have f:=ak q;clear q A;refine hK _ _ ?_;clear hK;simp only [Act.put,TX,TY,TZ];go_wp2;go_ret2;refine ⟨?_,u.o⟩;rw [c.o.2,TS f.o];rfl
section
open Go.Extern.Stop Go.Stop Go.Extern
def Tryz.Tu (t:ZP) (w:ZT):(ReflectliteValue.unpack (.iface 107 (Z6 (ZW t)))).run ZK w
 = .ok (.agg #[Z6 (ZW ⟨3,107,ZX⟩),Z6 (ZW ⟨w.heap.size,0,ZX⟩),Z7 Z8 150]) (w.alloc (Z4 #[Z6 (ZW t)] 107)):=by kernel_rfl
def Tryz.typeP (a:ZP) (w:ZT):(ReflectliteValue.methodAny (ReflectliteValue.valueError "reflectlite.Value.Type" 0) (λt _ _ _=>ReflectliteType.toType t) #[.agg #[Z6 (ZW ⟨3,107,ZX⟩),Z6 (ZW a),Z7 Z8 150]]).run ZK w
 = .ok (.iface 157 (.agg #[Z6 (ZW ⟨3,107,ZX⟩)])) w:=by kernel_rfl
def Tryz.SU (h:ZS) (w:ZT):(YH 479 157 (.agg #[h]) "Kind").run ZK w=.ok (246,h) w:=by kernel_rfl
def Tryz.kindP (w:ZT):((ReflectliteType.abiMethod λt=>(λa:Nat=>Value.int IntKind.u8 (a:Int)) <$> Rtype.kind t) #[Z6 (ZW ⟨3,107,ZX⟩)]).run ZK w=.ok (Z7 .u8 22) w:=by kernel_rfl
def Tryz.kindE (w:ZT):((ReflectliteType.abiMethod λt=>(λa:Nat=>Value.int IntKind.u8 (a:Int)) <$> Rtype.kind t) #[Z6 (ZW ⟨3,66,ZX⟩)]).run ZK w=.ok (Z7 .u8 2) w:=by kernel_rfl
def Tryz.Ts (a:ZP) (w:ZT):(ReflectliteValue.parts (.agg #[Z6 (ZW ⟨3,107,ZX⟩),Z6 (ZW a),Z7 Z8 150])).run ZK w=.ok (ZW (107,a,150)) w:=by kernel_rfl
def Tryz.isNilP (a p:ZP) (W:ZT) (b:W.cell? a=ZW (Z6 (ZW p))) :
 (ReflectliteValue.method (ReflectliteValue.valueError "reflectlite.Value.IsNil" 0) ReflectliteValue.isNil #[.agg #[Z6 (ZW ⟨3,107,ZX⟩),Z6 (ZW a),Z7 Z8 150]]).run ZK W=.ok (Z1 ZU) W:=by
 refine Eq.trans (Uy (λz=>Sem.run ZK z W) (show ReflectliteValue.method _ _ #[.agg #[Z6 (ZW ⟨3,107,ZX⟩),Z6 (ZW a),Z7 Z8 150]]=(ReflectliteValue.parts (.agg #[Z6 (ZW ⟨3,107,ZX⟩),Z6 (ZW a),Z7 Z8 150]) >>= _) from rfl)) ?_;simp only [UE,Tryz.Ts,Result.andThen];simp [ReflectliteValue.isNil,loadVar,isAgg,underlying,underlying107,b,Result.andThen]
def Tryz.SS (h:ZS) (w:ZT):(YH 479 157 (.agg #[h]) "Elem").run ZK w=.ok (258,.agg #[h]) w:=by kernel_rfl
def Tryz.Sg (h:ZS) (w:ZT):(YH 479 157 (.agg #[h]) "Implements").run ZK w=.ok (259,.agg #[h]) w:=by kernel_rfl
def Tryz.R7 (h:ZS) (w:ZT):(YH 479 157 (.agg #[h]) "AssignableTo").run ZK w=.ok (256,.agg #[h]) w:=by kernel_rfl
def Tryz.elemP (w:ZT):(ReflectliteType.method ReflectliteType.elem #[.agg #[Z6 (ZW ⟨3,107,ZX⟩)]]).run ZK w=.ok (.iface 157 (.agg #[Z6 (ZW ⟨3,66,ZX⟩)])) w:=by kernel_rfl
def Tryz.SH (w:ZT):(ReflectliteType.relation "Implements" ReflectliteType.implements_ #[.agg #[Z6 (ZW ⟨3,66,ZX⟩)],.iface 157 (.agg #[Z6 (ZW ⟨3,64,ZX⟩)])]).run ZK w=.ok (Z1 ZV) w:=by kernel_rfl
def Tryz.SF (v:ZS) (w:ZT):(ReflectliteType.typeOf #[.iface 66 v]).run ZK w=.ok (.iface 157 (.agg #[Z6 (ZW ⟨3,66,ZX⟩)])) w:=by kernel_rfl
def Tryz.SP (w:ZT):(ReflectliteType.relation "AssignableTo" ReflectliteType.assignableTo #[.agg #[Z6 (ZW ⟨3,66,ZX⟩)],.iface 157 (.agg #[Z6 (ZW ⟨3,66,ZX⟩)])]).run ZK w=.ok (Z1 ZV) w:=by kernel_rfl
def Tryz.TP (x:Int) (w:ZT):(ReflectliteValue.unpack (.iface 66 (Z7 Z9 x))).run ZK w
 = .ok (.agg #[Z6 (ZW ⟨3,66,ZX⟩),Z6 (ZW ⟨w.heap.size,0,ZX⟩),Z7 Z8 130]) (w.alloc (Z4 #[Z7 Z9 x] 66)):=by kernel_rfl
def Tryz.elemOfP (w:ZT):(Rtype.elem? 107).run ZK w=.ok (ZW 66) w:=by kernel_rfl
def Tryz.mkE (p:ZP) (w:ZT):(ReflectliteValue.mk 66 p ReflectliteValue.flagAddr).run ZK w=.ok (.agg #[Z6 (ZW ⟨3,66,ZX⟩),Z6 (ZW p),Z7 Z8 386]) w:=by kernel_rfl
def Tryz.elemVP (a p:ZP) (W:ZT) (b:W.cell? a=ZW (Z6 (ZW p))) :
 (ReflectliteValue.method (ReflectliteValue.valueError "reflectlite.Value.Elem" 0) ReflectliteValue.elem #[.agg #[Z6 (ZW ⟨3,107,ZX⟩),Z6 (ZW a),Z7 Z8 150]]).run ZK W
  = .ok (.agg #[Z6 (ZW ⟨3,66,ZX⟩),Z6 (ZW p),Z7 Z8 386]) W:=by
 refine Eq.trans (Uy (λz=>Sem.run ZK z W) (show ReflectliteValue.method _ _ #[.agg #[Z6 (ZW ⟨3,107,ZX⟩),Z6 (ZW a),Z7 Z8 150]]=(ReflectliteValue.parts (.agg #[Z6 (ZW ⟨3,107,ZX⟩),Z6 (ZW a),Z7 Z8 150]) >>= _) from rfl)) ?_;simp only [UE,Tryz.Ts,Result.andThen];simp [ReflectliteValue.elem,loadVar,isAgg,underlying,underlying107,b,Result.andThen,Tryz.elemOfP,Tryz.mkE]
def Tryz.partsEa (a:ZP) (w:ZT):(ReflectliteValue.parts (.agg #[Z6 (ZW ⟨3,66,ZX⟩),Z6 (ZW a),Z7 Z8 386])).run ZK w=.ok (ZW (66,a,386)) w:=by kernel_rfl
def Tryz.partsE (a:ZP) (w:ZT):(ReflectliteValue.parts (.agg #[Z6 (ZW ⟨3,66,ZX⟩),Z6 (ZW a),Z7 Z8 130])).run ZK w=.ok (ZW (66,a,130)) w:=by kernel_rfl
def Tryz.directE (w:ZT):(Rtype.directlyAssignable 66 66).run ZK w=.ok ZV w:=by kernel_rfl
def Tryz.setE (a b:ZP) (x:Int) (old:ZS) (W:ZT) (c:W.cell? b=ZW (Z7 Z9 x)) (e:W.cell? a=ZW old) (d:W.frozen? a=ZU) :
 (ReflectliteValue.set #[.agg #[Z6 (ZW ⟨3,66,ZX⟩),Z6 (ZW a),Z7 Z8 386],.agg #[Z6 (ZW ⟨3,66,ZX⟩),Z6 (ZW b),Z7 Z8 130]]).run ZK W
  = .ok (ZZ #[]) (W.setCell a (Z7 Z9 x)):=by
 refine Eq.trans (Uy (λz=>Sem.run ZK z W) (show ReflectliteValue.set #[.agg #[Z6 (ZW ⟨3,66,ZX⟩),Z6 (ZW a),Z7 Z8 386],.agg #[Z6 (ZW ⟨3,66,ZX⟩),Z6 (ZW b),Z7 Z8 130]]=(ReflectliteValue.parts (.agg #[Z6 (ZW ⟨3,66,ZX⟩),Z6 (ZW a),Z7 Z8 386]) >>= λp=>ReflectliteValue.parts (.agg #[Z6 (ZW ⟨3,66,ZX⟩),Z6 (ZW b),Z7 Z8 130]) >>= (_:_->Sem ZS)) from rfl)) ?_;simp only [UE,Tryz.partsEa,Tryz.partsE,Result.andThen];simp [ReflectliteValue.flagAddr,loadVar,isAgg,underlying,underlying66,c,Result.andThen,Tryz.directE,storeVar,Value.cells,storeCells,Addr.add];rw [run_store ZK W a _ _ (by rfl)];simp [e,d]
theorem Pt (x:Int) (t:ZP) (old:ZS) (w:ZT) (c:w.cell? ⟨0,0,ZX⟩=ZW (.iface 157 (.agg #[Z6 (ZW ⟨3,64,ZX⟩)]))) (a:w.cell? t=ZW old) (f:w.frozen? t=ZU) :
 ZQ ZK 40 #[.iface 66 (Z7 Z9 x),.iface 107 (Z6 (ZW t))] w λd w'=>d=Z3 (Z1 ZV)/\w'=((((w.alloc (Z4 #[Z6 (ZW t)] 107)).alloc (Z4 #[Z6 (ZW ⟨3,107,ZX⟩),Z6 (ZW ⟨w.heap.size,0,ZX⟩),Z7 Z8 150] 124)).alloc (Z4 #[Z6 (ZW ⟨3,107,ZX⟩),Z6 (ZW ⟨w.heap.size,0,ZX⟩),Z7 Z8 150] 124)).alloc (Z4 #[Z7 Z9 x] 66)).setCell t (Z7 Z9 x):=by
 have o := @run_callFunc_extern ZK 55 _ (λargs=>ReflectliteValue.unpack (args.getD 0 (ZZ #[]))) func55 (by kernel_rfl) (by kernel_rfl) (by kernel_rfl) (by kernel_rfl);have p := @run_callFunc_extern ZK 56 _ (ReflectliteValue.methodAny (ReflectliteValue.valueError "reflectlite.Value.Type" 0) (λt _ _ _=>ReflectliteType.toType t)) func56 (by kernel_rfl) (by kernel_rfl) (by kernel_rfl) (by kernel_rfl);have q := @run_callFunc_extern ZK 57 _ (ReflectliteValue.method (ReflectliteValue.valueError "reflectlite.Value.IsNil" 0) ReflectliteValue.isNil) func57 (by kernel_rfl) (by kernel_rfl) (by kernel_rfl) (by kernel_rfl);have u := @run_callFunc_extern ZK 246 _ (ReflectliteType.abiMethod λt=>do pure (Z7 .u8 (<- Rtype.kind t))) func246 (by kernel_rfl) (by kernel_rfl) (by kernel_rfl) (by kernel_rfl);have y := @run_callFunc_extern ZK 258 _ (ReflectliteType.method ReflectliteType.elem) func258 (by kernel_rfl) (by kernel_rfl) (by kernel_rfl) (by kernel_rfl);have z := @run_callFunc_extern ZK 259 _ (ReflectliteType.relation "Implements" ReflectliteType.implements_) func259 (by kernel_rfl) (by kernel_rfl) (by kernel_rfl) (by kernel_rfl);have n := @run_callFunc_extern ZK 80 _ ReflectliteType.typeOf func80 (by kernel_rfl) (by kernel_rfl) (by kernel_rfl) (by kernel_rfl);have v := @run_callFunc_extern ZK 256 _ (ReflectliteType.relation "AssignableTo" ReflectliteType.assignableTo) func256 (by kernel_rfl) (by kernel_rfl) (by kernel_rfl) (by kernel_rfl);have r := @run_callFunc_extern ZK 81 _ (ReflectliteValue.method (ReflectliteValue.valueError "reflectlite.Value.Elem" 0) ReflectliteValue.elem) func81 (by kernel_rfl) (by kernel_rfl) (by kernel_rfl) (by kernel_rfl);have s := @run_callFunc_extern ZK 82 _ ReflectliteValue.set func82 (by kernel_rfl) (by kernel_rfl) (by kernel_rfl) (by kernel_rfl);have J:=Tryz.SF;have E:=Tryz.R7;have i:=Tryz.SP;have K:=Tryz.TP;have l:=Tryz.Tu;have m:=Tryz.typeP;have H:=Tryz.SU;have F:=Tryz.SS;have G:=Tryz.Sg;have D:=Tryz.kindP;have C:=Tryz.kindE;have j:=Tryz.elemP;have B:=Tryz.SH;have I:=Tryz.isNilP ⟨w.heap.size,0,ZX⟩ t ((w.alloc (Z4 #[Z6 (ZW t)] 107)).alloc (Z4 #[Z6 (ZW ⟨3,107,ZX⟩),Z6 (ZW ⟨w.heap.size,0,ZX⟩),Z7 Z8 150] 124)) (by simp);have g:0<w.heap.size:=by
  rcases WA w.heap.size with e|h
  . simp [World.cell?,e] at c
  . exact h
 have A:((w.alloc (Z4 #[Z6 (ZW t)] 107)).alloc (Z4 #[Z6 (ZW ⟨3,107,ZX⟩),Z6 (ZW ⟨w.heap.size,0,ZX⟩),Z7 Z8 150] 124)).cell? ⟨0,0,ZX⟩=ZW (.iface 157 (.agg #[Z6 (ZW ⟨3,64,ZX⟩)])):=by
  rw [WT _ _ ⟨0,0,ZX⟩ (by simp),WT _ _ ⟨0,0,ZX⟩ g];exact c
 have b:t.block<w.heap.size:=by
  rcases XX t.block w.heap.size with h|h
  . exact h
  . simp [World.cell?,YJ h] at a
 have k:=Tryz.elemVP ⟨w.heap.size,0,ZX⟩ t (((w.alloc (Z4 #[Z6 (ZW t)] 107)).alloc (Z4 #[Z6 (ZW ⟨3,107,ZX⟩),Z6 (ZW ⟨w.heap.size,0,ZX⟩),Z7 Z8 150] 124)).alloc (Z4 #[Z6 (ZW ⟨3,107,ZX⟩),Z6 (ZW ⟨w.heap.size,0,ZX⟩),Z7 Z8 150] 124)) (by rw [WT _ _ ⟨w.heap.size,0,ZX⟩ (by simp;omega)];simp);have st:=Tryz.setE t ⟨w.heap.size+1+1+1,0,ZX⟩ x old ((((w.alloc (Z4 #[Z6 (ZW t)] 107)).alloc (Z4 #[Z6 (ZW ⟨3,107,ZX⟩),Z6 (ZW ⟨w.heap.size,0,ZX⟩),Z7 Z8 150] 124)).alloc (Z4 #[Z6 (ZW ⟨3,107,ZX⟩),Z6 (ZW ⟨w.heap.size,0,ZX⟩),Z7 Z8 150] 124)).alloc (Z4 #[Z7 Z9 x] 66))
  (by rw [World.cell?_alloc_at _ _ _ _ (by simp)];rfl)
  (by rw [WT _ _ t (by simp;omega),WT _ _ t (by simp;omega),WT _ _ t (by simp;omega),WT _ _ t b];exact a)
  (by rw [YB _ _ t (by simp;omega),YB _ _ t (by simp;omega),YB _ _ t (by simp;omega),YB _ _ t (Nat.ne_of_lt b)];exact f)
 go_enter func40,ntmps40;go_wp2;refine VD 1 ?_;rw [Vt];go_wp2;go_ret;exact ⟨rfl,rfl⟩
theorem ll (w:ZT) :
 ZQ ZK 20 #[.nilIface] w λe w'=>e=Z3 (Z7 Z9 0)/\bW w w':=by
 go_enter func20,ntmps20;go_wp2;go_ret;exact ⟨rfl,bA _ _⟩
theorem DK (x:Int) (w:ZT) (a:w.cell? ⟨0,0,ZX⟩=ZW (.iface 157 (.agg #[Z6 (ZW ⟨3,64,ZX⟩)]))) :
 ZQ ZK 20 #[.iface 66 (Z7 Z9 x)] w λe w'=>e=Z3 (Z7 Z9 x)/\bW w w':=by
 have d:0<w.heap.size:=by
  rcases WA w.heap.size with b|h
  . simp [World.cell?,b] at a
  . exact h
 have c:(w.alloc (Z4 #[Z7 Z9 0] 66)).cell? ⟨0,0,ZX⟩=ZW (.iface 157 (.agg #[Z6 (ZW ⟨3,64,ZX⟩)])):=by
  rw [WT _ _ ⟨0,0,ZX⟩ d];exact a
 go_enter func20,ntmps20;go_wp2_with (go_at_call 40;refine (Pt x ⟨w.heap.size,0,ZX⟩ (Z7 Z9 0) _ c (by simp) (by simp)).mono ?_;rintro e w' ⟨rfl,rfl⟩);go_ret;refine ⟨rfl,?_⟩;repeat (first|exact TW _ _|refine Xh ?_ (by simp) _|refine Below.alloc ?_ (by (try simp only [Uh]);omega) _)
theorem nJ (x:Int) (w:ZT) :
 ZQ ZK 30 #[Z7 Z9 x] w λe w'=>e=Z3 (Z7 Z9 x)/\w'=w:=by
 go_enter func30,ntmps30;go_wp2;go_ret;exact ⟨rfl,rfl⟩
end
def Tryz.Tg:(ZK.info? 66).map (λi=>i.comparable)=ZW ZV:=by kernel_rfl
def wS (n m:Int) (w:ZT):(binOp .eql 64 (.iface 66 (Z7 Z9 n)) (.iface 66 (Z7 Z9 m))).run ZK w=.ok (Z1 (n==m)) w:=by
 obtain ⟨i,f,c⟩:=Wq.1 Tryz.Tg;have a:∀ d,(Op.equalIn (d+1) 66 (Z7 Z9 n) (Z7 Z9 m)).run ZK w=.ok (n==m) w:=λd=>run_equalIn_int (w:=w) d 66 .i64 .i64 n m underlying66;have b:∀ d,(Op.equalIn (d+1+1) 64 (.iface 66 (Z7 Z9 n)) (.iface 66 (Z7 Z9 m))).run ZK w=.ok (n==m) w:=λd=>by
  rw [Op.equalIn];simp [UE,UL underlying64,UQ,typeInfo,f,c,a d]
 have e:=b 9998;simp only [binOp];simp [Op.equal,Op.maxDepth,e]
theorem GN (n:Int) (a:n≠13) (w:ZT):ZQ ZK 107 #[.iface 66 (Z7 Z9 n),.iface 66 (Z7 Z9 13),Z1 ZV] w λe w'=>e=Z3 (Z1 ZU)/\w'=w:=by
 have f:∀ w,(binOp .eql 64 (.iface 66 (Z7 Z9 n)) (.iface 66 (Z7 Z9 13))).run ZK w=.ok (Z1 ZU) w:=λw=>by rw [wS];simp [a]
 have b:∀ w:ZT,(Instr.typeAssert (.iface 66 (Z7 Z9 n)) 64 246 ZV).run ZK w=.ok (ZZ #[.nilIface,Z1 ZU]) w:=λw=>Xj aa2 (by kernel_rfl) (by kernel_rfl) _ _ w;have c:∀ w:ZT,(Instr.typeAssert (.iface 66 (Z7 Z9 n)) 64 165 ZV).run ZK w=.ok (ZZ #[.nilIface,Z1 ZU]) w:=λw=>Xj aa3 (by kernel_rfl) (by kernel_rfl) _ _ w;have d:∀ w:ZT,(Instr.typeAssert (.iface 66 (Z7 Z9 n)) 64 166 ZV).run ZK w=.ok (ZZ #[.nilIface,Z1 ZU]) w:=λw=>Xj underlying166 (by kernel_rfl) (by kernel_rfl) _ _ w;go_enter func107,ntmps107;go_wp2;refine VD 1 ?_;rw [Vt];go_wp2;go_ret;exact ⟨rfl,rfl⟩
theorem JL (n:Int) (a:n≠13) (w:ZT):ZQ ZK 76 #[.iface 66 (Z7 Z9 n),.iface 66 (Z7 Z9 13)] w λe w'=>e=Z3 (Z1 ZU)/\w'=w:=by
 have d:=Tryz.SF (Z7 Z9 13);have b := @run_callFunc_extern ZK 80 _ Extern.ReflectliteType.typeOf func80 (by kernel_rfl) (by kernel_rfl) (by kernel_rfl) (by kernel_rfl);have f:∀ (h:ZS) (w:ZT),(YH 479 157 (.agg #[h]) "Comparable").run ZK w=.ok (257,.agg #[h]) w:=λh w=>by kernel_rfl
 have c:∀ w:ZT,(callFunc 257 #[.agg #[Z6 (ZW ⟨3,66,ZX⟩)]]).run ZK w=.ok (.value (Z1 ZV)) w:=λw=>by kernel_rfl
 go_enter func76,ntmps76;go_wp2_with fail;refine (GN n a w).mono ?_;rintro e w' ⟨rfl,rfl⟩;go_wp2;go_ret;exact ⟨rfl,rfl⟩
theorem zi (n:Int) (w:ZT):ZQ ZK 76 #[.nilIface,.iface 66 (Z7 Z9 n)] w λe w'=>e=Z3 (Z1 ZU)/\w'=w:=by
 have a:∀ d w,(Op.equalIn (d+1) 64 .nilIface (.iface 66 (Z7 Z9 n))).run ZK w=.ok ZU w:=λd w=>by
  simp only [Op.equalIn,UE,UL underlying64,UQ];rfl
 have b:∀ w,(Op.equalIn 10000 64 .nilIface (.iface 66 (Z7 Z9 n))).run ZK w=.ok ZU w:=λw=>a 9999 w;have c:∀ w,(binOp .eql 64 .nilIface (.iface 66 (Z7 Z9 n))).run ZK w=.ok (Z1 ZU) w:=λw=>by
  simp only [binOp];simp [Op.equal,Op.maxDepth,b]
 clear a b;go_enter func76,ntmps76;go_wp2;go_ret;exact ⟨rfl,rfl⟩
theorem JM (w:ZT):ZQ ZK 151 #[.nilIface] w λe w'=>e=Z3 (ZZ #[])/\w'=w:=by
 go_enter func151,ntmps151;go_wp2_with fail;refine (zi 13 w).mono ?_;rintro e w' ⟨rfl,rfl⟩;go_wp2;first|go_end0|skip
 exact ⟨rfl,rfl⟩
def rT (q:Nat):ZS:=.iface 269 (Z6 (ZW ⟨q,0,ZX⟩))
def fZ (w:ZT) (q d b:Nat) (n:Int):Prop:=w.heap[q]?=ZW (Z4 #[Z7 Z9 d,Z7 Z9 b,Z7 Z9 n] 271 (0,0))
def fZ.lt {n:Int} (h:fZ w q d b n):q<w.heap.size:=(T5.1 h).1
def fZ.cell {n:Int} (h:fZ w q d b n):w.cell? ⟨q,2,ZX⟩=ZW (Z7 Z9 n):=by
 have a:w.heap[q]?=_:=h;simp [World.cell?,a]
def fZ.new (w:ZT) (d b:Nat) (n:Int):fZ (w.alloc (Z4 #[Z7 Z9 d,Z7 Z9 b,Z7 Z9 n] 271)) w.heap.size d b n:=Ug w _
def fZ.below {n:Int} (h:fZ w q d b n) (a:bW w w'):fZ w' q d b n:=(a.block _ h.lt).trans h
def GO (q:Nat) (m:Int) (w:ZT):(binOp .eql 64 (rT q) (.iface 66 (Z7 Z9 m))).run ZK w=.ok (Z1 ZU) w:=by
 have a:∀ d,(Op.equalIn (d+1) 64 (.iface 269 (Z6 (ZW ⟨q,0,ZX⟩))) (.iface 66 (Z7 Z9 m))).run ZK w=.ok ZU w:=λd=>by
  rw [Op.equalIn];simp [UE,UL underlying64,UQ]
 have b:=a 9999;unfold rT;simp only [binOp];simp [Op.equal,Op.maxDepth,b]
theorem DL {n:Int} (h:fZ w q d b n):ZQ ZK 270 #[Z6 (ZW ⟨q,0,ZX⟩)] w λe w'=>e=Z3 (.iface 66 (Z7 Z9 n))/\w'=w:=by
 have c:=h.cell;go_enter func270,ntmps270;go_wp2;go_ret;exact ⟨rfl,rfl⟩
theorem GP {n:Int} (h:fZ w q d b n) (m:Int):ZQ ZK 107 #[rT q,.iface 66 (Z7 Z9 m),Z1 ZV] w λe w'=>e=Z3 (Z1 (n==m))/\w'=w:=by
 have a:=GO q m;have c:=wS n m;have b1:∀ w:ZT,(Instr.typeAssert (rT q) 64 246 ZV).run ZK w=.ok (ZZ #[.nilIface,Z1 ZU]) w:=λw=>Xj aa2 (by kernel_rfl) (by kernel_rfl) _ _ w;have b2:∀ w:ZT,(Instr.typeAssert (rT q) 64 165 ZV).run ZK w=.ok (ZZ #[rT q,Z1 ZV]) w:=λw=>run_typeAssert_hasB aa3 (by kernel_rfl) _ _ w;have g:∀ w:ZT,(Instr.typeAssert (.iface 66 (Z7 Z9 n)) 64 246 ZV).run ZK w=.ok (ZZ #[.nilIface,Z1 ZU]) w:=λw=>Xj aa2 (by kernel_rfl) (by kernel_rfl) _ _ w;have i:∀ w:ZT,(Instr.typeAssert (.iface 66 (Z7 Z9 n)) 64 165 ZV).run ZK w=.ok (ZZ #[.nilIface,Z1 ZU]) w:=λw=>Xj aa3 (by kernel_rfl) (by kernel_rfl) _ _ w;have j:∀ w:ZT,(Instr.typeAssert (.iface 66 (Z7 Z9 n)) 64 166 ZV).run ZK w=.ok (ZZ #[.nilIface,Z1 ZU]) w:=λw=>Xj underlying166 (by kernel_rfl) (by kernel_rfl) _ _ w;have k:∀ w:ZT,(YH 479 269 (Z6 (ZW ⟨q,0,ZX⟩)) "Unwrap").run ZK w=.ok (270,Z6 (ZW ⟨q,0,ZX⟩)) w:=λw=>by kernel_rfl
 have f:=DL h;unfold rT at a b1 b2 ⊢;clear h;cases h2:(n==m)<;>(
  rw [h2] at c;go_enter func107,ntmps107;go_wp2;refine VD 2 ?_;rw [Vt];go_wp2_with fail;refine f.mono ?_;rintro e w' ⟨rfl,rfl⟩;go_wp2;rw [Vt];go_wp2;go_ret;exact ⟨rfl,rfl⟩)
theorem A8 {n:Int} (h:fZ w q d b n) (m:Int):ZQ ZK 76 #[rT q,.iface 66 (Z7 Z9 m)] w λe w'=>e=Z3 (Z1 (n==m))/\w'=w:=by
 have g:=Tryz.SF (Z7 Z9 m);have c := @run_callFunc_extern ZK 80 _ Extern.ReflectliteType.typeOf func80 (by kernel_rfl) (by kernel_rfl) (by kernel_rfl) (by kernel_rfl);have i:∀ (h:ZS) (w:ZT),(YH 479 157 (.agg #[h]) "Comparable").run ZK w=.ok (257,.agg #[h]) w:=λh w=>by kernel_rfl
 have f:∀ w:ZT,(callFunc 257 #[.agg #[Z6 (ZW ⟨3,66,ZX⟩)]]).run ZK w=.ok (.value (Z1 ZV)) w:=λw=>by kernel_rfl
 have a:=GP h m;unfold rT at a ⊢;clear h;generalize (n==m)=nm at a ⊢;go_enter func76,ntmps76;go_wp2_with fail;refine a.mono ?_;rintro e w' ⟨rfl,rfl⟩;go_wp2;go_ret;exact ⟨rfl,rfl⟩
theorem sV {n:Int} (h:fZ w q d b n) (c:n≠13):ZQ ZK 151 #[rT q] w λe w'=>e=Z3 (ZZ #[])/\w'=w:=by
 have a:=A8 h 13;rw [show (n==13)=ZU from by simpa using c] at a;unfold rT at a ⊢;clear h;go_enter func151,ntmps151;go_wp2_with fail;refine a.mono ?_;rintro e w' ⟨rfl,rfl⟩;go_wp2;first|go_end0|skip
 exact ⟨rfl,rfl⟩
section
variable {w:ZT} {p:Nat} {R:eJ} {F:aK}
def Pu (w:ZT) (d b:Nat) (R:eJ) (F:aK) (e:ZO) (w':ZT):Prop:=(R.lost d=ZU/\e=Z3 (ZZ #[Z6 (ZW ⟨F.g,d*4,ZX⟩),.nilIface])/\w'=w)\/(R.lost d=ZV/\e=Z3 (ZZ #[.pointer ZX,rT w.heap.size])/\w'=w.alloc (Z4 #[Z7 Z9 d,Z7 Z9 b,Z7 Z9 11] 271))
theorem Fw (h:ah w p R F) (d b:Nat) (e:d<R.n) (m:b<R.nb) :
 ZQ ZK 181 #[Z6 (ZW ⟨p,0,ZX⟩),Z7 Z9 d,Z7 Z9 b] w (Pu w d b R F):=by
 obtain ⟨c0,c1⟩:=h.RQ;obtain ⟨a,d1,f,r,g⟩:=h.R4 d e;have i:¬ (d:Int)<0:=by omega
 have j:¬ (R.n:Int)<=(d:Int):=by omega
 have c:(d:Int)<(R.n:Int):=by omega
 have k:¬ (b:Int)<0:=by omega
 have l:¬ (R.nb:Int)<=(b:Int):=by omega
 clear h;cases hl:R.lost d<;>(
  rw [hl] at a;go_enter func181,ntmps181;go_wp2;go_ret2;first|exact .inl ⟨hl,rfl,rfl⟩|exact .inr ⟨hl,rfl,rfl⟩)
def Pv (w:ZT) (p d b:Nat) (R:eJ) (F:aK) (e:ZO) (w':ZT):Prop:=
 ah w' p R F/\aa F.S w w'/\((R.lost d=ZU/\R.bad d b=ZU/\e=Z3 (ZZ #[.agg (aH (R.blk d b)),.nilIface]))\/((R.lost d=ZV\/R.bad d b=ZV)/\∃ q,e=Z3 (ZZ #[.agg (aH zb),rT q])/\w.heap.size<=q/\fZ w' q d b (if R.lost d=ZV then 11 else 12)))
theorem M8 (h:ah w p R F) (d b:Nat) (E:d<R.n) (M:b<R.nb) :
 ZQ ZK 152 #[Z6 (ZW ⟨p,0,ZX⟩),Z7 Z9 d,Z7 Z9 b] w (Pv w p d b R F):=by
 have hz:=zeroBlk;have L:=(h.len d b).1;have c:=h.alloc (Z4 (aH zb) 114);have A:=cK.new w zb;have y:∀ k,F.S k->k<w.heap.size:=λk G=>h.RN G;have u:aa F.S w (w.alloc (Z4 (aH zb) 114)):=aa.alloc w _;have e3:¬ (b:Int)<0:=by omega
 have e4:(b:Int)<(R.nb:Int):=by omega
 obtain ⟨w1,Q⟩:=nM (w.alloc (Z4 (aH zb) 114));have hr:w1.heap.size=w.heap.size+1:=by rw [<- Q];simp
 rw [Q] at c A u;have i:∀ (a:ZT) (l:a8),ah a p R F->aa F.S w a->ah (a.setRow w.heap.size (aH l)) p R F/\aa F.S w (a.setRow w.heap.size (aH l))/\∀ j,j≠w.heap.size->j<a.heap.size->(a.setRow w.heap.size (aH l)).heap[j]?=a.heap[j]?:=λa l O X=>by
  have P:∀ j,j≠w.heap.size->j<a.heap.size->(a.setRow w.heap.size (aH l)).heap[j]?=a.heap[j]?:=λj Y hl=>(aX a w.heap.size (aH l)).block j hl (λe=>by cases e;exact Y rfl);exact ⟨O.keep λk G=>P k (by have:=y k G;omega) (O.RN G),X.later (T:=λk=>k=w.heap.size) (aa.setRow _ _ _ rfl) λk G e=>absurd e (by omega),P⟩
 have J:=Fw c d b E M;have H:=a6 c A u y i;clear h c A u y i;go_enter func152,ntmps152;go_wp2_with fail;refine J.mono ?_;rintro e w2 (⟨hl,rfl,rfl⟩|⟨hl,rfl,N⟩)
 . obtain ⟨c,A,u,y,i⟩:=H.o;obtain ⟨d0,d1,d2,r,d3⟩:=c.R4 d E;have hn:=c.Se (d*4+3);obtain ⟨a,I⟩:=nM (w2.setCell ⟨F.g,d*4+3,ZX⟩ (Z7 Z9 (wrap64 (r+1))));have m:=c.count d (wrap64 (r+1));rw [I] at m;obtain ⟨q0,q1,q2,_⟩:=m.R4 d E;have V:a.cell? ⟨F.bd d,b,ZX⟩=ZW (Z1 (R.bad d b)):=(m.bad d E).cell M;have qr:a.rangeAt (F.bb d) (b*64) (aJ (R.blk d b)):=m.range E M;have hs:a.heap.size=w2.heap.size:=(by rw [<- I];simp [World.setCell]);have f:cK a w.heap.size zb:=A.keep (by rw [<- I];exact Ud _ _ _ _ (by have:=y _ c.sg;show w.heap.size≠F.g;omega));have z:aa F.S w a:=u.trans (by rw [<- I];exact aa.setCell _ _ _ c.sg);cases h6:R.bad d b with
   | false=>
    rw [h6] at V;have x:=a5 m z i f;clear c A u y i m z f J;go_wp2_with (first|(refine Dv rfl (Z0 46) rfl (F.bb d) (b*64) (R.blk d b) rfl qr L ?_)|(refine iB rfl (Z0 6) (Z0 47) rfl w.heap.size (R.blk d b) zb rfl rfl x.o.2.2.2 dE L ?_));obtain ⟨m,z,i,f⟩:=x.o;refine Us (v:=ZZ #[.agg (aH (R.blk d b)),.nilIface]) (fE results152 _ _ _ _ _ rfl rfl (lf (f.setRow _) L)) rfl ?_;obtain ⟨C,D,_⟩:=i _ (R.blk d b) m z;exact ⟨C,D,.inl ⟨hl,h6,rfl⟩⟩
   | true=>
    rw [h6] at V;obtain ⟨W,U⟩:=nM (a.alloc (Z4 #[Z7 Z9 d,Z7 Z9 b,Z7 Z9 12] 271));obtain ⟨q,B⟩:=nM (w.heap.size+1);have Z:a.heap.size=q:=(by omega);have s:fZ W q d b 12:=(by rw [<- U,<- Z];exact fZ.new _ _ _ _);have t:bW a W:=(by rw [<- U];exact bA a _);have x:=a7 (m.below t lR) (z.trans (aa.RL t _)) i (f.keep (t.block _ f.lt)) s (show w.heap.size<q by omega);clear c A u y i m z f J s t;go_wp2_with (refine iB rfl (Z0 6) (Z0 35) rfl w.heap.size zb zb rfl rfl (by exact x.o.2.2.2.1) dE dE ?_);obtain ⟨m,z,i,f,s,hp⟩:=x.o;refine Us (v:=ZZ #[.agg (aH zb),.iface 269 (Z6 (ZW ⟨q,0,ZX⟩))]) (fE results152 _ _ _ _ _ rfl rfl (lf (f.setRow _) dE)) rfl ?_;obtain ⟨C,D,K⟩:=i _ zb m z;exact ⟨C,D,.inr ⟨.inr h6,q,rfl,by omega,by rw [hl];exact (K q (by omega) s.lt).trans s⟩⟩
 . obtain ⟨q,B⟩:=nM (w1.heap.size);have s:fZ w2 q d b 11:=(by rw [N,<- B];exact fZ.new _ _ _ _);have t:bW w1 w2:=(by rw [N];exact bA w1 _);rw [B];unfold rT;have f:=H.o.2.1.keep (t.block _ H.o.2.1.lt);have x:=a5 s t f B;clear s t f B N J;go_wp2_with (refine iB rfl (Z0 6) (Z0 19) rfl w.heap.size zb zb rfl rfl x.o.2.2.1 dE dE ?_);obtain ⟨s,t,f,B⟩:=x.o;obtain ⟨c,A,u,y,i⟩:=H.o;refine Us (v:=ZZ #[.agg (aH zb),.iface 269 (Z6 (ZW ⟨q,0,ZX⟩))]) (fE results152 _ _ _ _ _ rfl rfl (lf (f.setRow _) dE)) rfl ?_;obtain ⟨C,D,K⟩:=i _ zb (c.below t lR) (u.trans (aa.RL t _));exact ⟨C,D,.inr ⟨.inl hl,q,rfl,by omega,by rw [TT hl];exact (K q (by omega) s.lt).trans s⟩⟩
def wbR (A:eJ) (d b:Nat) (l:a8):eJ:=A.RT d λm=>if m=b then l else A.blk d m
def wrR (A:eJ) (d b:Nat) (l:a8):eJ:=(wbR A d b l).RY d λm=>if m=b then ZU else A.bad d m
def Pw (w:ZT) (p d b:Nat) (l:a8) (R:eJ) (F:aK) (x:ZS) (w':ZT):Prop:=aa F.S w w'/\((R.lost d=ZU/\x=.nilIface/\ah w' p (wrR R d b l) F)\/(R.lost d=ZV/\ah w' p R F/\∃ q,x=rT q/\fZ w' q d b 11))
theorem JN (h:ah w p R F) (d b:Nat) (f:d<R.n) (z:b<R.nb) (l:a8) (r:l.length=64) (U:∀ x∈l,x<256) :
 ZQ ZK 149 #[Z6 (ZW ⟨p,0,ZX⟩),Z7 Z9 d,Z7 Z9 b,.agg (aH l)] w λe w'=>∃ x,e=Z3 x/\Pw w p d b l R F x w':=by
 have a:=h.alloc (Z4 (aH l) 114);have j:=cK.new w l;have m:aa F.S w (w.alloc (Z4 (aH l) 114)):=aa.alloc w _;have V:¬ (b:Int)<0:=by omega
 have W:(b:Int)<(R.nb:Int):=by omega
 have Q:¬ F.S w.heap.size:=λq=>by have:=h.RN q;omega
 obtain ⟨w1,T⟩:=nM (w.alloc (Z4 (aH l) 114));rw [T] at a j m;obtain ⟨c0,c1⟩:=a.RQ;have A:=Fw a d b f z;have H:=aE a j m;clear h a j m;go_enter func149,ntmps149;go_wp2_with fail;refine A.mono ?_;rintro e w2 (⟨hl,rfl,rfl⟩|⟨hl,rfl,y⟩)
 . obtain ⟨a,j,m⟩:=H.o;clear A;go_wp2_with fail;have c:=a.R4 d f;refine du 14 [(0,ZV),(1,ZV),(2,ZV),(3,ZV),(4,ZV),(5,ZV),(6,ZV),(7,ZV),(8,ZV),(9,ZV),(10,ZV),(11,ZV),(12,ZU),(13,ZV),(14,ZU)] (λw'=>w'.cell? ⟨F.g,d*4+1,ZX⟩=ZW (Z5 (ZW ⟨F.bb d,0,ZX⟩) R.nb R.nb)/\w'.cell? ⟨F.g,d*4+2,ZX⟩=ZW (Z5 (ZW ⟨F.bd d,0,ZX⟩) R.nb R.nb)/\cK w' w.heap.size l) (by kernel_rfl) (by kernel_rfl) ⟨c.2.1,c.2.2.1,j⟩ ?_;iterate 10 (refine aC rfl rfl ?_;apply YG;refine ⟨λw' i=>?_,?_⟩;(obtain ⟨I,J,L⟩:=i;first|(go_simp;done)|(go_simp;exact rfl));simp only [Act.put,TX,TY,TZ])
   refine aC rfl rfl ⟨_,λw' i=>by simp [execOp,Act.eval,mX i.2.2 r];rfl,?_⟩;refine aC rfl rfl ?_;apply YG;refine ⟨λw' i=>?_,?_⟩;(obtain ⟨I,J,L⟩:=i;first|(go_simp;done)|(go_simp;exact rfl));simp only [Act.put,TX,TY,TZ];have v:=aa4 (P:=ZK) w2.drew (F.bb d) (b*64) 114 (aH l) (by rw [il,r];exact a.there f z) (iq r) (AO l);rw [wF] at v;refine sM rfl rfl λK hK=>?_;simp [Oper.wp,execOp,Act.eval,v];have k:=(a.keep (Y:=w2.drew) λ_ _=>rfl).setBlk f b r U;have C:aa F.S w2 (w2.drew.setCells (F.bb d) (b*64) (aJ l)):=(aa.drew w2).trans (aa.setCells _ _ _ _ (a.sb f));have B:cK (w2.drew.setCells (F.bb d) (b*64) (aJ l)) w.heap.size l:=cK.keep j (aR _ _ _ _ _ (λe=>Q (e▸a.sb f)));have t:=k.R4 d f;have M:=(k.bad d f).cell z;have N:=(k.bad d f).frozen b;refine hK _ _ (λ_=>⟨t.2.1,t.2.2.1,B⟩) ?_;obtain ⟨X,E⟩:=nM (w2.drew.setCells (F.bb d) (b*64) (aJ l));rw [E] at k C B M N ⊢;clear hK E v c t;refine aC rfl rfl ?_;apply YG;refine ⟨λw' i=>?_,?_⟩;(obtain ⟨I,J,L⟩:=i;first|(go_simp;done)|(go_simp;exact rfl));simp only [Act.put,TX,TY,TZ];refine sM rfl rfl λK hK=>?_;go_simp;have O:=k.TI f b ZU;refine hK _ _ AR (cB ?_);clear hK;rename_i hK _
   refine hK _ _ ?_;go_wp2;go_ret;exact ⟨_,rfl,m.trans (C.trans (aa.setCell _ _ _ (a.sd f))),.inl ⟨hl,rfl,O⟩⟩
 . have u:fZ w2 w1.heap.size d b 11:=(by rw [y];exact fZ.new _ _ _ _);have D:bW w1 w2:=(by rw [y];exact bA w1 _);obtain ⟨q,G⟩:=nM (w1.heap.size);rw [G] at u ⊢;unfold rT;have s:=al u D;clear u D G y A c0 c1;go_wp2;go_ret;exact ⟨_,rfl,H.o.2.2.trans (aa.RL s.o.2 _),.inr ⟨hl,H.o.1.below s.o.2 lR,q,rfl,s.o.1⟩⟩
end
section
def bg (w:ZT) (v p D L G ps ho:Nat):Prop:=w.heap[v]?=ZW (Z4 #[Z6 (ZW ⟨p,0,ZX⟩),Z7 Z9 D,Z7 Z9 L,Z7 Z9 G,Z6 (ZW ⟨ps,0,ZX⟩),Z7 Z8 ho] 139 (0,0))
def bg.keep {v:Nat} (h:bg w v p D L G ps ho) (e:w'.heap[v]?=w.heap[v]?):bg w' v p D L G ps ho:=e.trans h
def bg.lt {v:Nat} (h:bg w v p D L G ps ho):v<w.heap.size:=(T5.1 h).1
def bg.cells {v:Nat} (h:bg w v p D L G ps ho):w.cell? ⟨v,0,ZX⟩=ZW (Z6 (ZW ⟨p,0,ZX⟩))/\w.cell? ⟨v,1,ZX⟩=ZW (Z7 Z9 D)/\w.cell? ⟨v,2,ZX⟩=ZW (Z7 Z9 L)/\w.cell? ⟨v,3,ZX⟩=ZW (Z7 Z9 G)/\w.cell? ⟨v,4,ZX⟩=ZW (Z6 (ZW ⟨ps,0,ZX⟩))/\w.cell? ⟨v,5,ZX⟩=ZW (Z7 Z8 ho):=by
 have a:w.heap[v]?=ZW (Z4 #[Z6 (ZW ⟨p,0,ZX⟩),Z7 Z9 D,Z7 Z9 L,Z7 Z9 G,Z6 (ZW ⟨ps,0,ZX⟩),Z7 Z8 ho] 139 (0,0)):=h;simp [World.cell?,a]
def bV.outside {S:Nat->Prop} (h:bV w) (a:aa S w w') (b:¬ S 2):bV w':=λj c=>by
 have:=h j c;rw [<- this];exact Uk (a.block _ (Uf this) b)
def aB.RX (A:aB) (d b:Nat):Option bE:=if A.lost d=ZV then ZX else A.rd d b
def Px (w:ZT) (p d b:Nat) (A:aB) (F:aK) (e:ZO) (w':ZT):Prop:=
 az w' p A F/\aa F.S w w'/\((∃ r,A.RX d b=ZW r/\e=Z3 (ZZ #[dK r,.nilIface]))\/(A.RX d b=ZX/\∃ q,e=Z3 (ZZ #[.nilIface,rT q])/\w.heap.size<=q/\fZ w' q d b (if A.lost d=ZV then 11 else 12)))
variable {w:ZT} {v p D L G ps ho:Nat} {A:aB} {F:aK}
theorem qJ (hV:bg w v p D L G ps ho) (h:az w p A F) (d b:Nat) (t:d<A.n) (hb:b<A.nb) (hv:bV w) (hg:¬ F.S 2) :
 ZQ ZK 120 #[Z6 (ZW ⟨v,0,ZX⟩),Z7 Z9 d,Z7 Z9 b] w (Px w p d b A F):=by
 obtain ⟨c0,_⟩:=hV.cells;have hz:=zeroBlk;obtain ⟨R,z,j⟩:=h;have hc:=M8 z d b (by rw [j.n];exact t) (by rw [j.nb];exact hb);have K:=(z.len d b).1;have x:=a5 (z.len d b).2 (λk (C:F.S k)=>z.RN C) hv j;have U:R.lost d=ZU->A.RX d b=R.rd d b:=λq=>by
  rw [j.lost d t] at q;unfold aB.RX;rw [q,j.rd d b t q];rfl
 have s:R.lost d=ZV\/R.bad d b=ZV->A.RX d b=ZX:=λq=>by
  cases hl:R.lost d
  . rw [U hl];rw [hl] at q;unfold eJ.rd;rw [TT (q.resolve_left (by decide))]
  . unfold aB.RX;rw [<- j.lost d t,hl];rfl
 rw [j.lost d t] at U s;have H:=al U s;clear hV z hv j U s;go_enter func120,ntmps120;go_wp2_with fail;refine hc.mono ?_;rintro e w1 ⟨V,O,k8⟩;clear hc;have ka:=O.size;have P:=cK.new w1 zb;have M:=V.alloc (Z4 (aH zb) 114);have W:aa F.S w (w1.alloc (Z4 (aH zb) 114)):=O.trans (aa.alloc _ _);have I:∀ l:a8,az ((w1.alloc (Z4 (aH zb) 114)).setRow w1.heap.size (aH l)) p A F/\aa F.S w ((w1.alloc (Z4 (aH zb) 114)).setRow w1.heap.size (aH l)):=λl=>
  ⟨⟨R,M.keep λk C=>(aX _ _ _).block k (M.RN C) (λe=>by have:=x.o.2.1 k C;cases e;omega),x.o.2.2.2⟩,W.later (T:=λk=>k=w1.heap.size) (aa.setRow _ _ _ rfl) (λk C e=>absurd e (by omega))⟩
 rw [x.o.2.2.2.lost d t] at k8;rcases k8 with ⟨hl,h9,rfl⟩|⟨s,q,rfl,E,Y⟩
 . obtain ⟨l,hll⟩:=nM (R.blk d b);rw [hll] at K ⊢;have a:A.RX d b=I9 l:=(by rw [H.o.1 hl];unfold eJ.rd;rw [h9,hll];rfl);have c:=a6 P (I l) a hll hl;clear V O P M W I c0 h9 a hll hl;go_wp2_with (first|(refine iB rfl (Z0 8) (Z0 20) rfl w1.heap.size l zb rfl rfl c.o.1 dE K ?_)|(refine rP rfl (Z0 8) rfl w1.heap.size l rfl (c.o.1.setRow l) K ?_));obtain ⟨m,i⟩:=c.o.2.1;obtain ⟨w3,B⟩:=nM ((w1.alloc (Z4 (aH zb) 114)).setRow w1.heap.size (aH l));rw [B] at m i ⊢;have ho:=Pr l w3 K (by rw [<- c.o.2.2.2.1];exact x.o.1) (x.o.2.2.1.outside i hg);have g:=al m i;clear m i B;refine ho.mono ?_;rintro e u ⟨rfl,Q⟩;have N:=g.o.1.below Q lR;have y:aa F.S w u:=g.o.2.trans (aa.RL Q _);have a:=c.o.2.2.1;cases hr:I9 l with
   | some r=>
    rw [hr] at a;have f:=aE N y a;clear ho Q N y a c hr;obtain ⟨rv,Z⟩:=nM (dK r);have H:=ak Z;unfold ofV;simp only [Z];clear Z;go_wp2;go_ret2;exact ⟨f.o.1,f.o.2.1,.inl ⟨r,f.o.2.2,by rw [H.o];rfl⟩⟩
   | none=>
    rw [hr] at a;obtain ⟨w5,k9⟩:=nM (u.alloc (Z4 #[Z7 Z9 d,Z7 Z9 b,Z7 Z9 12] 271));have hf:fZ w5 u.heap.size d b 12:=(by rw [<- k9];exact fZ.new _ _ _ _);have X:bW u w5:=(by rw [<- k9];exact bA u _);have f:=a7 (N.below X lR) (y.trans (aa.RL X _)) a hf y.size c.o.2.2.2.2;clear ho Q N y a c hr X hf;unfold ofV;go_wp2;go_ret2;exact ⟨f.o.1,f.o.2.1,.inr ⟨f.o.2.2.1,_,rfl,f.o.2.2.2.2.1,by rw [f.o.2.2.2.2.2];exact f.o.2.2.2.1⟩⟩
 . have he:fZ ((w1.alloc (Z4 (aH zb) 114)).setRow w1.heap.size (aH zb)) q d b (if A.lost d=ZV then 11 else 12):=by
    have h1:fZ (w1.alloc (Z4 (aH zb) 114)) q d b (if A.lost d=ZV then 11 else 12):=Y.below (bA w1 _);exact ((aX _ _ _).block q h1.lt (λe=>by have:=Y.lt;cases e;omega)).trans h1
   have c:=a6 P (I zb) (H.o.2 s) he E;clear V O P M W I c0 s Y he E;unfold rT;go_wp2_with (refine iB rfl (Z0 8) (Z0 20) rfl w1.heap.size zb zb rfl rfl c.o.1 dE dE ?_);obtain ⟨_,⟨m,i⟩,a,J,E⟩:=c.o;obtain ⟨w3,B⟩:=nM ((w1.alloc (Z4 (aH zb) 114)).setRow w1.heap.size (aH zb));rw [B] at m i J ⊢;have k7:=sV J (by split<;>decide);unfold rT at k7;have g:=a6 m i a J E;clear m i a J E B;refine k7.mono ?_;rintro e u ⟨rfl,rfl⟩;clear k7;go_wp2;go_ret2;exact ⟨g.o.1,g.o.2.1,.inr ⟨g.o.2.2.1,q,rfl,g.o.2.2.2.2,g.o.2.2.2.1⟩⟩
def zj (w:ZT) (p d b:Nat) (r:bE) (A:aB) (F:aK) (x:ZS) (w':ZT):Prop:=az w' p (A.putAt [d] b λ_=>r) F/\aa F.S w w'/\((A.lost d=ZU/\x=.nilIface)\/(A.lost d=ZV/\∃ q,x=rT q/\fZ w' q d b 11))
theorem nK (m:bg w v p D L G ps ho) (h:az w p A F) (d b:Nat) (I:d<A.n) (s:b<A.nb) (r:bE) (j:r.ok) (u:bV w) :
 ZQ ZK 116 #[Z6 (ZW ⟨v,0,ZX⟩),Z7 Z9 d,Z7 Z9 b,dK r] w λe w'=>∃ x,e=Z3 x/\zj w p d b r A F x w':=by
 have k:∀ w1,bW w w1->ZQ ZK 149 #[Z6 (ZW ⟨p,0,ZX⟩),Z7 Z9 d,Z7 Z9 b,.agg (aH r.blk)] w1 λe w2=>∃ x,e=Z3 x/\zj w p d b r A F x w2:=λw1 a=>by
  obtain ⟨R,i,c⟩:=h;refine (JN (i.below a lR) d b (by rw [c.n];exact I) (by rw [c.nb];exact s) r.blk (Fk j) (O8 j)).mono ?_;rintro e w2 ⟨x,rfl,M,C⟩;rw [c.lost d I] at C;have z:=(aa.RL a _).trans M;rcases C with ⟨hl,rfl,l⟩|⟨hl,l,t⟩
  . exact ⟨_,rfl,⟨_,l,c.put d b j⟩,z,.inl ⟨hl,rfl⟩⟩
  . exact ⟨_,rfl,⟨_,l,c.lostPut hl b r⟩,z,.inr ⟨hl,t⟩⟩
 obtain ⟨c0,_⟩:=m.cells;have g:=wR j w.drew (u.below ((TW _ w).drew) u.lt);obtain ⟨rv,E⟩:=nM (dK r);simp only [E] at g ⊢;obtain ⟨P,B⟩:=nM (aH r.blk);simp only [B] at g k;have y:∀ w',bW w w'->w'.cell? ⟨v,0,ZX⟩=ZW (Z6 (ZW ⟨p,0,ZX⟩)):=λw' s=>(s.cell (p:=⟨v,0,ZX⟩) m.lt).trans c0;have H:=al k y;clear k m E B u y h;go_enter func116,ntmps116;go_upto_region 1 with fail;go_cut [9] from 10 to 21 (λN O=>zj w p d b r A F N O)
 case first=>
  go_region_with (first
   | (go_at_call 150;refine g.mono ?_;rintro e w1 ⟨rfl,a⟩;have c1:=H.o.2 w1 (((TW _ w).drew).trans a);have J:=ak (((TW _ w).drew).trans a);clear a)
   | (go_at_call 149;refine (H.o.1 w1 J.o).mono ?_;rintro e w2 ⟨x,rfl,i⟩;have f:=ak i;clear i))
  all_goals (go_wp2_with fail;go_meet;case rel=>exact f.o)
 case rest=>
  have K:∀ x W,zj w p d b r A F x W->ZQ ZK 151 #[x] W λe w'=>e=Z3 (ZZ #[])/\w'=W:=by
   rintro x W ⟨_,_,⟨_,rfl⟩|⟨_,q,rfl,t⟩⟩
   . exact JM _
   . exact sV t (by decide)
  have f:=ak hcut;clear hcut g c0;go_wp2_with fail;refine (K _ _ f.o).mono ?_;rintro e w' ⟨rfl,rfl⟩;go_wp2;go_ret;exact ⟨_,rfl,f.o⟩
end
def aG (w:ZT):Prop:=∀ j,j<64->w.cell? ⟨1,j,ZX⟩=ZW (Z7 .u8 ((Lib.deBruijn64tab.getD j 0:Nat):Int))
def aG.mono (h:aG w) (a:1<B) (b:ZR B w w'):aG w':=λj c=>(b.cell (p:=⟨1,j,ZX⟩) a).trans (h j c)
def Py (x a:Nat) (d:x<18446744073709551616) (e:x≠0) (c:x &&& (18446744073709551616-x)=a) :
 IntKind.u64.wrap (bits BinOp.and IntKind.u64 (x:Int) (IntKind.u64.wrap (-(x:Int)))*285870213051353865)/288230376151711744=((a*285870213051353865%18446744073709551616/288230376151711744:Nat):Int):=by
 have b:IntKind.u64.wrap (-(x:Int))=((18446744073709551616-x:Nat):Int):=by rw [Va];omega
 rw [b,bits_and_u64_nat x _ d (by omega),c,Va];omega
def nL (x:Nat):Nat:=Lib.ctzFrom 64 x
def sW (a:x≠0) (b:x<65536):∃ m,x=2^nL x*(2*m+1)/\nL x<64:=Lib.ctzFrom_spec 64 x (by omega) (by omega)
theorem M9 (x k idx:Nat) (w:ZT) (b:((x:Int)==0)=ZU)
 (key:IntKind.u64.wrap (bits BinOp.and IntKind.u64 (x:Int) (IntKind.u64.wrap (-(x:Int)))*285870213051353865)/288230376151711744=(idx:Int))
 (c:idx<64) (d:k<64) (a:w.cell? ⟨1,idx,ZX⟩=ZW (Z7 .u8 k)) :
 ZQ ZK 148 #[Z7 Z8 x] w λe w'=>e=Z3 (Z7 Z9 k)/\w'=w:=by
 go_enter func148,ntmps148;go_wp2_with (simp only [key]);go_ret;exact ⟨rfl,rfl⟩
def JO (x:Nat) (a:x≠0) (j:x<65536) (w:ZT) (i:aG w) :
 ZQ ZK 148 #[Z7 Z8 x] w λe w'=>e=Z3 (Z7 Z9 (nL x))/\w'=w:=by
 obtain ⟨m,f,d⟩:=sW a j;have g:x &&& (18446744073709551616-x)=2^nL x:=by
  have:=Lib.and_neg 64 (nL x) m (by rw [<- f];omega);rw [<- f] at this;exact this
 obtain ⟨c,h⟩:=Lib.deBruijn64_at _ d;have b:=i _ c;rw [h] at b;exact M9 x _ _ w (by simp;omega) (Py x _ (by omega) a g) c d b
theorem Fx (n:x≠0) (p:x<65536):x &&& (x-1)=cZ x (nL x):=by
 obtain ⟨m,d,_⟩:=sW n p;generalize nL x=k at d;have:0<2^k:=VH k;have o:2^(k+1)=2*2^k:=by rw [XR];omega
 have f:x=2^(k+1)*m+2^k:=by rw [d,o,Nat.mul_add,V9,Wx 2 (2^k),Nat.mul_assoc]
 have g:x-1=2^(k+1)*m+(2^k-1):=by omega
 apply Xn;intro j;rw [XA,g,ft];have h:=YR m (i:=k+1) (b:=2^k) (by omega) j;have l:=YR m (i:=k+1) (b:=2^k-1) (by omega) j;rw [l,f,h];by_cases a:j<k+1
 . rw [TT a,TT a,X2,Xt];have c:decide (k<j)=ZU:=(by simp;omega);rw [c,Bool.false_and];by_cases e:k=j
   . simp [e]
   . simp [e]
 . rw [TS a,TS a];have c:decide (k<j)=ZV:=(by simp;omega);rw [c,Bool.true_and,Bool.and_self]
theorem rU (e:x≠0) (g:x<65536):x.testBit (nL x)=ZV/\∀ j,j<nL x->x.testBit j=ZU:=by
 obtain ⟨m,d,_⟩:=sW e g;generalize nL x=k at d;have:0<2^k:=VH k;have f:2^(k+1)=2*2^k:=by rw [XR];omega
 have a:x=2^(k+1)*m+2^k:=by rw [d,f,Nat.mul_add,V9,Wx 2 (2^k),Nat.mul_assoc]
 have c:=λj=>YR m (i:=k+1) (b:=2^k) (by omega) j;constructor
 . rw [a,c,TT (by omega),abm]
 . intro j h;rw [a,c,TT (by omega),X2];simp;omega
def JP (b:x≠0) (a:x<65536):nL x<16:=by
 refine Nat.lt_of_not_le λh=>?_;have:=Wz (x:=x) (i:=nL x) (T7 a (UW (n:=2) (by decide) h));rw [(rU b a).1] at this;cases this
def iC (b:x≠0) (c:x<65536):ab x=nL x::ab (cZ x (nL x)):=by
 have h:nL x∈ab x:=cE.2 ⟨JP b c,(rU b c).1⟩;obtain ⟨pre,R,e⟩:=List.append_of_mem h;rw [AJ e];have f:=qF x;rw [e] at f;cases pre with
 | nil=>exact e
 | cons a pre=>
  have g:=(aaS.1 f).2.2 a (by simp) (nL x) (by simp);have d:=(cE.1 (show a∈ab x by rw [e];simp)).2;rw [(rU b c).2 a g] at d;cases d
def oZ (x k:Nat) (a:x<65536):cZ x k<65536:=by
 unfold cZ;exact WS (YU _ _) a
def wT:ab 0=[]:=by decide
def Q8 (x:Nat):Nat:=(x/2 &&& 6148914691236517205)+(x &&& 6148914691236517205)
def Q9 (x:Nat):Nat:=(x/4 &&& 3689348814741910323)+(x &&& 3689348814741910323)
def sw3 (x:Nat):Nat:=(x/16+x) &&& 1085102592571150095
def sw (x:Nat):Nat:=sw3 (Q9 (Q8 x))
def pb (b:Nat):Nat:=b%2+b/2%2+b/4%2+b/8%2+b/16%2+b/32%2+b/64%2+b/128%2
def tst (n:Nat):Nat->Bool
 | 0=>ZV
 | k+1=>(sw (n*256+k)==pb n*256+pb k)&&tst n k
def Pz:Nat->Bool
 | 0=>ZV
 | n+1=>tst n 256&&Pz n
def aai:Pz 256=ZV:=by decide +kernel
def JQ:∀ {k},tst n k=ZV->∀ j,j<k->sw (n*256+j)=pb n*256+pb j
 | 0,_,j,h=>absurd h (by omega)
 | k+1,h,j,hj=>by
  obtain ⟨a,b⟩:=YV.1 h;by_cases e:j=k
  . rw [e];exact eq_of_beq a
  . exact JQ b j (by omega)
def Fy:∀ {n},Pz n=ZV->∀ i,i<n->tst i 256=ZV
 | 0,_,i,h=>absurd h (by omega)
 | n+1,h,i,hi=>by
  obtain ⟨a,b⟩:=YV.1 h;by_cases e:i=n
  . rw [e];exact a
  . exact Fy b i (by omega)
def Ra (a:x<65536):sw x=pb (x/256)*256+pb (x%256):=by
 have:=JQ (Fy aai (x/256) (by omega)) (x%256) (by omega);rwa [show x/256*256+x%256=x by omega] at this
def PA (x i:Nat):(if x.testBit i=ZV then 1 else 0)=x/2^i%2:=by
 rw [Wu];by_cases h:x/2^i%2=1
 . simp [h]
 . have:=VG (x/2^i);simp [h];omega
def OH (b:Nat):pb b<=8:=by unfold pb;omega
theorem JR (x:Nat):(ab x).length=pb (x/256)+pb (x%256):=by
 have h:∀ n,((YE n).filter (λi=>x.testBit i)).length=((YE n).map (λi=>x/2^i%2)).sum:=by
  intro n;induction n with
  | zero=>rfl
  | succ n ih=>
   rw [Vr,Wr,Ua,ih,Uv,YC];have e:=PA x n;have m:([n].map (λi=>x/2^i%2)).sum=x/2^n%2:=(by simp);rw [m,<- e];by_cases e:x.testBit n=ZV
   . simp [e]
   . simp [e]
 unfold ab pb;rw [h];have a:YE 16=[0,1,2,3,4,5,6,7,8,9,10,11,12,13,14,15]:=by decide
 rw [a];simp only [U0,Wl,XB,List.sum_nil,Nat.reducePow,Nat.div_one];have b:x%256%2=x%2:=by omega
 have c:x%256/2%2=x/2%2:=by omega
 have d:x%256/4%2=x/4%2:=by omega
 have f:x%256/8%2=x/8%2:=by omega
 have g:x%256/16%2=x/16%2:=by omega
 have j:x%256/32%2=x/32%2:=by omega
 have k:x%256/64%2=x/64%2:=by omega
 have l:x%256/128%2=x/128%2:=by omega
 rw [b,c,d,f,g,j,k,l];clear b c d f g j k l h a;simp only [Nat.div_div_eq_div_mul,Nat.reduceMul];generalize x%2=o;generalize x/2%2=p;generalize x/4%2=q;generalize x/8%2=r;generalize x/16%2=s;generalize x/32%2=t;generalize x/64%2=u;generalize x/128%2=v;generalize x/256%2=b0;generalize x/512%2=b1;generalize x/1024%2=b2;generalize x/2048%2=b3;generalize x/4096%2=b4;generalize x/8192%2=b5;generalize x/16384%2=b6;generalize x/32768%2=b7;omega
def A9 (h:k<64):2^k<18446744073709551616:=T7 (Vx (by decide) h) lR
def GQ (k:Nat) (h:k<=16):IntKind.u64.wrap (IntKind.u64.wrap (2^k)-1)=((2^k-1:Nat):Int):=by
 have:=A9 (k:=k) (by omega);have:0<2^k:=VH k;have e:((2:Int)^k)=((2^k:Nat):Int):=by rw [Xk];rfl
 rw [e,Va,Va];omega
theorem lX (k:Nat) (a:k<=16) (w:ZT) :
 ZQ ZK 135 #[Z7 Z9 k] w λe w'=>e=Z3 (Z7 Z8 ((2^k-1:Nat):Int))/\w'=w:=by
 have key:=GQ k a;go_enter func135,ntmps135;go_wp2;go_ret;exact ⟨rfl,rfl⟩
def fG (a b:Nat) (c:a<18446744073709551616) (d:b<18446744073709551616):bits .and .u64 (a:Int) (b:Int)=((a &&& b:Nat):Int):=bits_and_u64_nat a b c d
theorem k1 (x:Nat) (h:x<65536):IntKind.u64.wrap (bits .and .u64 ((x:Int)/2) 6148914691236517205+bits .and .u64 (x:Int) 6148914691236517205)=((Q8 x:Nat):Int)/\Q8 x<131072:=by
 have e:(x:Int)/2=((x/2:Nat):Int):=by omega
 have d:=fG (x/2) 6148914691236517205 (by omega) (by decide);have f:=fG x 6148914691236517205 (by omega) (by decide);have:=WH (n:=x/2) (m:=6148914691236517205);have:=WH (n:=x) (m:=6148914691236517205);unfold Q8;rw [e];refine ⟨?_,by omega⟩;have c:bits .and .u64 ((x/2:Nat):Int) 6148914691236517205=((x/2 &&& 6148914691236517205:Nat):Int):=d;have g:bits .and .u64 (x:Int) 6148914691236517205=((x &&& 6148914691236517205:Nat):Int):=f;rw [c,g,Va];generalize (x/2 &&& 6148914691236517205)=a at *;generalize (x &&& 6148914691236517205)=b at *;omega
theorem k2 (x:Nat) (h:x<131072):IntKind.u64.wrap (bits .and .u64 ((x:Int)/4) 3689348814741910323+bits .and .u64 (x:Int) 3689348814741910323)=((Q9 x:Nat):Int)/\Q9 x<262144:=by
 have e:(x:Int)/4=((x/4:Nat):Int):=by omega
 have d:=fG (x/4) 3689348814741910323 (by omega) (by decide);have f:=fG x 3689348814741910323 (by omega) (by decide);have:=WH (n:=x/4) (m:=3689348814741910323);have:=WH (n:=x) (m:=3689348814741910323);unfold Q9;rw [e];refine ⟨?_,by omega⟩;have c:bits .and .u64 ((x/4:Nat):Int) 3689348814741910323=((x/4 &&& 3689348814741910323:Nat):Int):=d;have g:bits .and .u64 (x:Int) 3689348814741910323=((x &&& 3689348814741910323:Nat):Int):=f;rw [c,g,Va];generalize (x/4 &&& 3689348814741910323)=a at *;generalize (x &&& 3689348814741910323)=b at *;omega
def k3 (x:Nat) (a:x<262144):bits .and .u64 (IntKind.u64.wrap ((x:Int)/16+(x:Int))) 1085102592571150095=((sw3 x:Nat):Int):=by
 have e:IntKind.u64.wrap ((x:Int)/16+(x:Int))=((x/16+x:Nat):Int):=by rw [Va];omega
 rw [e];exact fG (x/16+x) 1085102592571150095 (by omega) (by decide)
theorem k4 (x c:Nat) (a:x<1048576):IntKind.u64.wrap ((x:Int)+(x:Int)/(c:Int))=((x+x/c:Nat):Int):=by
 have:=VP x c;have e:(x:Int)/(c:Int)=((x/c:Nat):Int):=(X3 x c).symm;rw [Va,e];generalize x/c=d at *;omega
def PC (x:Nat):x &&& 127=x%128:=aaW x 7
theorem JS (x:Nat) (v:x<65536) (w:ZT) :
 ZQ ZK 227 #[Z7 Z8 x] w λe w'=>e=Z3 (Z7 Z9 ((ab x).length:Nat))/\w'=w:=by
 obtain ⟨g,b1⟩:=k1 x v;obtain ⟨h,b2⟩:=k2 _ b1;have a:=k3 _ b2;have u:=Ra v;have y:=OH (x/256);have z:=OH (x%256);have t:=JR x;have e:sw3 (Q9 (Q8 x))=pb (x/256)*256+pb (x%256):=u;generalize pb (x/256)=p at *;generalize pb (x%256)=q at *;have b:=k4 (p*256+q) 256 (by omega);have n:p*256+q+(p*256+q)/256=p*257+q:=by omega
 have c:=k4 (p*257+q) 65536 (by omega);have r:p*257+q+(p*257+q)/65536=p*257+q:=by rw [Xo (by omega),VN]
 have d:=k4 (p*257+q) 4294967296 (by omega);have s:p*257+q+(p*257+q)/4294967296=p*257+q:=by rw [Xo (by omega),VN]
 rw [n] at b;rw [r] at c;rw [s] at d;have f:=Fl (p*257+q) 127 (by omega) (by decide);rw [PC,show (p*257+q)%128=p+q by omega,<- t] at f;have i:wrap64 ((p*257+q:Nat):Int)=((p*257+q:Nat):Int):=by unfold wrap64;omega
 rw [e] at a;clear e u t n r s;have H:=hide8 g h a b c d f i;clear g h a b c d f i;go_enter func227,ntmps227;go_wp2;obtain ⟨g,h,a,b,c,d,f,i⟩:=H.o;simp only [g];simp only [h];simp only [a];have j:IntKind.u64.wrap (((p*256+q:Nat):Int)+((p*256+q:Nat):Int)/256)=((p*257+q:Nat):Int):=b;have k:IntKind.u64.wrap (((p*257+q:Nat):Int)+((p*257+q:Nat):Int)/65536)=((p*257+q:Nat):Int):=c;have l:IntKind.u64.wrap (((p*257+q:Nat):Int)+((p*257+q:Nat):Int)/4294967296)=((p*257+q:Nat):Int):=d;have m:bits .and .i64 ((p*257+q:Nat):Int) 127=(((ab x).length:Nat):Int):=f;simp only [j,k,l,i,m];go_ret;exact ⟨rfl,rfl⟩
theorem Ba (x:Nat) (a:x<65536) (w:ZT) :
 ZQ ZK 223 #[Z7 Z8 x] w λe w'=>e=Z3 (Z7 Z9 ((ab x).length:Nat))/\w'=w:=by
 go_enter func223,ntmps223;go_wp2_with fail;refine (JS x a _).mono ?_;rintro e w' ⟨rfl,rfl⟩;go_wp2;go_ret;exact ⟨rfl,rfl⟩
theorem DM (x k:Nat) (c:x<65536) (f:k<=16):bits .andNot .u64 (x:Int) ((2^k-1:Nat):Int)=((x/2^k*2^k:Nat):Int):=by
 have d:=A9 (k:=k) (by omega);have e:0<2^k:=VH k;have h:=X4 x (2^k-1) (by omega) (by omega);rw [h];congr 1;apply Xn;intro j;rw [XA,abi,show 18446744073709551615-(2^k-1)=2^64-(2^k-1+1) by omega,Xs (by omega),Xt,abj];by_cases a:k<=j
 . rw [show j-k+k=j by omega];by_cases b:j<64
   . simp [a,b,show ¬ j<k by omega]
   . have:x.testBit j=ZU:=Wz (T7 c (UW (n:=2) (i:=16) (by decide) (by omega)));simp [this]
 . simp [a,show j<k by omega]
theorem DN (x k:Nat) (a:x<65536) (c:k<16) (w:ZT) :
 ZQ ZK 231 #[Z7 Z8 x,Z7 Z9 k] w λe w'=>e=Z3 (Z7 Z8 (cZ x k:Nat))/\w'=w:=by
 have key:=DM x (k+1) a (by omega);have d:wrap64 ((k:Int)+1)=((k+1:Nat):Int):=by unfold wrap64;omega
 have b:IntKind.i64.wrap ((k:Int)+1)=((k+1:Nat):Int):=by rw [Ux];omega
 have H:=ak key;clear key;go_enter func231,ntmps231;go_wp2_with fail;refine (lX (k+1) (by omega) _).mono ?_;rintro e w' ⟨rfl,rfl⟩;go_wp2;rw [H.o];go_ret;exact ⟨rfl,rfl⟩
section
attribute [local go_sem] Oper.semAt_some
def nO (b:q≠0) (c:q<65536):cZ q (nL q)<q:=by
 refine Nat.lt_of_le_of_ne (YU _ _) λe=>?_;have a:=ft q (nL q) (nL q);rw [e,(rU b c).1] at a;simp at a
abbrev Sh:={ x:Nat // x<16 }
def qK (x:Sh):Array ZS:=#[Z7 Z9 (x.1:Int)]
def shs (s:Nat):List Sh:=(ab s).filterMap (λi=>if h:i<16 then ZW ⟨i,h⟩ else ZX)
def Na (s:Nat):(shs s).map (·.1)=ab s:=by
 unfold shs;have h:∀ L:a8,(∀ i∈L,i<16)->(L.filterMap (λi=>if h:i<16 then ZW (⟨i,h⟩:Sh) else ZX)).map (·.1)=L:=by
  intro L;induction L with
  | nil=>intro _;rfl
  | cons a L ih=>
   intro d;have e:=d a U7;rw [List.filterMap_cons_some (b:=(⟨a,e⟩:Sh)) (by simp [e]),U0,ih (λi c=>d i (UJ _ c))]
 exact h _ (λi c=>(cE.1 c).1)
theorem dN (s:Nat) (w:ZT) :
 ZQ ZK 115 #[Z7 Z8 s] w λe w'=>e=Z3 (.func (.func 147) #[] #[Z6 (ZW ⟨w.heap.size,0,ZX⟩)])/\w'=w.alloc (Z4 #[Z7 Z8 s] 133):=by
 go_enter func115,ntmps115;go_wp2;go_ret;exact ⟨rfl,rfl⟩
theorem Bb (n:Nat) (l Bs s:Nat) (A:s<65536) (J g:List Sh->ZT->Prop)
 (y:∀ pre x W,J pre W->pre.length<(ab s).length->YieldAt Fence.wide (n-1) ZK l (qK x) W λe c=>
  (e=Z3 (Z1 ZV)/\J (pre++[x]) c/\(aG W->aG c))\/(e=Z3 (Z1 ZU)/\g (pre++[x]) c))
 (W:ZT) (E:W.cell? ⟨Bs,0,ZX⟩=ZW (Z7 Z8 s)) (w:aG W) (m:J [] W) :
 CallsIn Fence.wide n ZK 147 #[.func (.yield l) #[] #[],Z6 (ZW ⟨Bs,0,ZX⟩)] W λe c=>(∃ v,e=Z3 v) /\
  ((∃ k,k.map (·.1)=ab s/\J k c)\/(∃ pre,pre.map (·.1)<+:ab s/\g pre c)):=by
 refine Xl func147 rfl trivial ?_ rfl;simp only [ntmps147,UH,UA,UT,YM,YN,Ve,Vf,Vg,Vh,Uq,UX];gi_wp2;gi_loopw [3] (λp wr=>∃ (pre:List Sh) (q:Nat),p=Z7 Z8 q/\q<65536/\ab s=pre.map (·.1)++ab q/\J pre wr/\aG wr)
  (λp _=>(intOf p).toNat)
 case atStart=>
  exact ⟨[],s,rfl,A,rfl,m,w⟩
 case round=>
  obtain ⟨pre,q,rfl,b,d,i,j⟩:=hrel;by_cases a:q=0
  . subst a;gi_wp2;go_end0
    exact ⟨⟨_,rfl⟩,.inl ⟨pre,by rw [d,wT,Wm],i⟩⟩
  . have D:((q:Int) != 0)=ZV:=(by simp;omega);have f:=JP a b;obtain ⟨fn,tmps,assign,body,B,u⟩:=y pre ⟨nL q,f⟩ wr i (by rw [d,iC a b];simp);unfold qK at B;gi_wp2;refine cd (JO q a b wr j) ?_;rintro e w' ⟨rfl,rfl⟩;gi_wp2;refine ⟨λh=>(by cases h),u.mono ?_⟩;rintro e C (⟨rfl,r,t⟩|⟨rfl,o⟩)
    . have F:IntKind.u64.wrap ((q:Int)-1)=((q-1:Nat):Int):=(by rw [Va];omega);have z:=fG q (q-1) (by omega) (by omega);rw [Fx a b] at z;gi_wp2;go_roundw
      case rel=>exact ⟨pre++[⟨nL q,f⟩],cZ q (nL q),rfl,oZ _ _ b,by rw [d,iC a b];simp,r,t j⟩
      case measure=>have:=nO a b;simp only [intOf];omega
    . gi_wp2;refine Us (XC rfl _ _ _) rfl ?_;exact ⟨⟨_,rfl⟩,.inr ⟨pre++[⟨nL q,f⟩],by rw [d,iC a b];simp,o⟩⟩
def Fz (W W':ZT):Prop:=aG W->aG W'
def qM {A B C:ZT} (h:Fz A B) (k:Fz B C):Fz A C:=λx=>k (h x)
def qN (c:3<=w.heap.size) (W:ZT) (l:Nat) (o b:Obj) (hl:w.heap.size<=l) (h:W.heap[l]?=ZW o) (_:o.isCells=ZU) (_:o.isWalk=ZU):Fz W (W.putObj l b):=λa=>
 a.mono (B:=3) (by decide) (Below.RO (TW _ W) (by omega) (T5.1 h).1 _)
def Fz.RM {W':ZT} (b:3<=B) (h:ZR B W W'):Fz W W':=λa=>a.mono (by omega) h
def Fz.refl (W:ZT):Fz W W:=λh=>h
def eR (n Bs s:Nat) (h:s<65536) (w:ZT) (d:Bs<w.heap.size) (g:w.cell? ⟨Bs,0,ZX⟩=ZW (Z7 Z8 s)) (j:3<=w.heap.size) (e:aG w) :
 SeqStopsK Fence.wide n ZK 147 #[Z6 (ZW ⟨Bs,0,ZX⟩)] qK Fz (λi=>i.map (·.1)=ab s) (λpre=>pre.map (·.1)<+:ab s) (ab s).length w:=λl J b W a _ _ f c=>
 Bb n l Bs s h J b f W ((a.cell (p:=⟨Bs,0,ZX⟩) d).trans g) (e.mono (by omega) a) c
end
def gdz (a:α) (l:List α) (d:α):(a::l).getD 0 d=a:=rfl
def gds (a:α) (l:List α) (n:Nat) (d:α):(a::l).getD (n+1) d=l.getD n d:=rfl
theorem PD {a:Act} {x:ZL} {ad:ZP} (ho:o.op=.nilCheck x) (b:a.eval x=Z6 (ZW ad)) (w:ZT):(execOp a.eval o).run P w=.ok (.value (Z6 (ZW ad))) w:=by simp only [execOp,ho,b];go_simp
def kq {D:Nat->Bool} {V:Nat->ZS->Prop}:∀ j u,D j=ZV->V j u->V j u:=λ_ _ _ q=>q
def qO (a:Array ZN) (ty:ZN) (x y:Int) (w:ZT):(Builtin.max_ a ty #[Z7 Z9 x,Z7 Z9 y]).run P w=.ok (Z7 Z9 (if y>x then y else x)) w:=by
 simp [Builtin.max_,Builtin.max2]
def iX (a:Array ZN) (ty:ZN) (x y:Int) (w:ZT):(Builtin.min_ a ty #[Z7 Z9 x,Z7 Z9 y]).run P w=.ok (Z7 Z9 (if y<x then y else x)) w:=by
 simp [Builtin.min_,Builtin.min2]
section
attribute [local go_sem] Oper.semAt_some
abbrev Mb (s:Nat):={ x:Nat // x<16/\s.testBit x=ZV }
def wU {s:Nat} (x:Mb s):Array ZS:=#[Z7 Z9 (x.1:Int)]
def dG {s:Nat} (pre:List (Mb s)):a8:=pre.map (·.1)
def fu (pre:List (Mb s)) (x:Mb s):dG (pre++[x])=dG pre++[x.1]:=by unfold dG;simp
def nP (h:n<=16):ab (2^n-1)=YE n:=by
 have:∀ k:Fin 17,ab (2^k.1-1)=YE k.1:=by decide
 exact this ⟨n,by omega⟩
theorem Bd (n:Nat) (l Bs s:Nat) (A:s<65536) (J g:List (Mb s)->ZT->Prop)
 (y:∀ pre x W,J pre W->pre.length<(ab s).length->YieldAt Fence.wide (n-1) ZK l (wU x) W λe c=>
  (e=Z3 (Z1 ZV)/\J (pre++[x]) c/\(aG W->aG c))\/(e=Z3 (Z1 ZU)/\g (pre++[x]) c))
 (W:ZT) (E:W.cell? ⟨Bs,0,ZX⟩=ZW (Z7 Z8 s)) (w:aG W) (m:J [] W) :
 CallsIn Fence.wide n ZK 147 #[.func (.yield l) #[] #[],Z6 (ZW ⟨Bs,0,ZX⟩)] W λe c=>(∃ v,e=Z3 v) /\
  ((∃ k,k.map (·.1)=ab s/\J k c)\/(∃ pre,pre.map (·.1)<+:ab s/\g pre c)):=by
 refine Xl func147 rfl trivial ?_ rfl;simp only [ntmps147,UH,UA,UT,YM,YN,Ve,Vf,Vg,Vh,Uq,UX];gi_wp2;gi_loopw [3] (λp wr=>∃ (pre:List (Mb s)) (q:Nat),p=Z7 Z8 q/\q<65536/\ab s=pre.map (·.1)++ab q/\J pre wr/\aG wr)
  (λp _=>(intOf p).toNat)
 case atStart=>
  exact ⟨[],s,rfl,A,rfl,m,w⟩
 case round=>
  obtain ⟨pre,q,rfl,b,d,i,j⟩:=hrel;by_cases a:q=0
  . subst a;gi_wp2;go_end0
    exact ⟨⟨_,rfl⟩,.inl ⟨pre,by rw [d,wT,Wm],i⟩⟩
  . have D:((q:Int) != 0)=ZV:=(by simp;omega);have f:nL q<16/\s.testBit (nL q)=ZV:=cE.1 (by rw [d,iC a b];simp);obtain ⟨fn,tmps,assign,body,B,u⟩:=y pre ⟨nL q,f⟩ wr i (by rw [d,iC a b];simp);unfold wU at B;gi_wp2;refine cd (JO q a b wr j) ?_;rintro e w' ⟨rfl,rfl⟩;gi_wp2;refine ⟨λh=>(by cases h),u.mono ?_⟩;rintro e C (⟨rfl,r,t⟩|⟨rfl,o⟩)
    . have F:IntKind.u64.wrap ((q:Int)-1)=((q-1:Nat):Int):=(by rw [Va];omega);have z:=fG q (q-1) (by omega) (by omega);rw [Fx a b] at z;gi_wp2;go_roundw
      case rel=>exact ⟨pre++[⟨nL q,f⟩],cZ q (nL q),rfl,oZ _ _ b,by rw [d,iC a b];simp,r,t j⟩
      case measure=>have:=nO a b;simp only [intOf];omega
    . gi_wp2;refine Us (XC rfl _ _ _) rfl ?_;exact ⟨⟨_,rfl⟩,.inr ⟨pre++[⟨nL q,f⟩],by rw [d,iC a b];simp,o⟩⟩
def m4 (n Bs s:Nat) (h:s<65536) (w:ZT) (d:Bs<w.heap.size) (g:w.cell? ⟨Bs,0,ZX⟩=ZW (Z7 Z8 s)) (j:3<=w.heap.size) (e:aG w) :
 SeqStopsK Fence.wide n ZK 147 #[Z6 (ZW ⟨Bs,0,ZX⟩)] (wU (s:=s)) Fz (λi=>i.map (·.1)=ab s) (λpre=>pre.map (·.1)<+:ab s) (ab s).length w:=λl J b W a _ _ f c=>
 Bd n l Bs s h J b f W ((a.cell (p:=⟨Bs,0,ZX⟩) d).trans g) (e.mono (by omega) a) c
end
section
attribute [local go_sem] Oper.semAt_some
def aG.keep (h:aG w) (e:w'.heap[1]?=w.heap[1]?):aG w':=λj a=>by
 rw [<- h j a];unfold World.cell?;rw [e]
def aG.lt (h:aG w):1<w.heap.size:=Uf (h 0 (by decide))
def bV.keep (h:bV w) (e:w'.heap[2]?=w.heap[2]?):bV w':=λj a=>by
 rw [<- h j a];unfold World.cell?;rw [e]
structure vG (D L G:Nat):Prop where
 r:cV D L G=ZV
 d1:1<=D
 d:D<=12
 l1:1<=L
 l4:L<=4
 g:G<=4
 div:D%L=0
 s:D+L+G<=16
structure pd (w:ZT) (v p D L G ps ho:Nat) (A:aB) (F:aK):Prop where
 vol:bg w v p D L G ps ho
 arr:az w p A F
 laid:bV w
 tab:aG w
 room:3<=w.heap.size
 v:¬ F.S v
 g:¬ F.S 2
 t:¬ F.S 1
 n:A.n=D+L+G
 par:vG D L G
def pd.below {v:Nat} {A:aB} (h:pd w v p D L G ps ho A F) {B:Nat} (a:ZR B w w') (b:w.heap.size<=B):pd w' v p D L G ps ho A F:=
 ⟨h.vol.keep (a.block _ (T7 h.vol.lt b)),h.arr.below a b,h.laid.below a (T7 h.laid.lt b),h.tab.keep (a.block _ (T7 h.tab.lt b)),TV h.room a.size,h.v,h.g,h.t,h.n,h.par⟩
def pd.turn {v:Nat} {A A':aB} (h:pd w v p D L G ps ho A F) (a:aa F.S w w') (b:az w' p A' F) (c:A'.n=A.n):pd w' v p D L G ps ho A' F:=
 ⟨h.vol.keep (a.block _ h.vol.lt h.v),b,h.laid.keep (a.block _ h.laid.lt h.g),h.tab.keep (a.block _ h.tab.lt h.t),TV h.room a.size,h.v,h.g,h.t,c.trans h.n,h.par⟩
def JT {t8:Nat} {x:ZS} {a:Act} {R:ZO->ZT->Prop} (e:fn.results=#[.cell t8 ty]) (c:a.defers=[{ target:=.collected D',args:=#[] }]) (h8:a.tmps.getD t8 ZY=Z6 (ZW ⟨b,0,ZX⟩))
 (hl:∀ w,w.heap[b]?=Z.heap[b]?->(loadVar ty ⟨b,0,ZX⟩).run ZK w=.ok x w) (hK:Z.heap[D']?=ZW (.deferred (ZW []))) (hD:b≠D')
 (hR:R (Z3 x) (Z.putObj D' (.deferred ZX))):bodyPostM Fence.wide n ZK fn R .ret a Z:=by
 obtain ⟨f,g⟩:=a;simp only at c h8;subst c;refine ⟨by simp,.inl ⟨_,_,rfl,Wv hK,?_⟩⟩;have c0:=hl (Z.putObj D' (.deferred ZX)) (UO hD);refine ⟨x,?_,hR⟩;have d:f[t8]?.getD ZY=Z6 (ZW ⟨b,0,ZX⟩):=by simpa using h8
 simp [results,e,asAddr,d,c0]
theorem Be (h:ZM Z b 133 (Z7 Z8 s)) (w:ZT) (e:w.heap[b]?=Z.heap[b]?):(loadVar 133 ⟨b,0,ZX⟩).run ZK w=.ok (Z7 Z8 s) w:=by
 have a:w.cell? ⟨b,0,ZX⟩=ZW (Z7 Z8 s):=(show ZM w b 133 (Z7 Z8 s) from e.trans h).cell;simp [go_sem,a]
end
def Bh (h:k<64):2^k<18446744073709551616:=T7 (Vx (by decide) h) lR
theorem eS (x k:Nat) (c:x<18446744073709551616) (d:k<=60) (w:ZT):ZQ ZK 78 #[Z7 Z8 x,Z7 Z9 k] w λe w'=>e=Z3 (Z7 Z8 ((x|||2^k:Nat):Int))/\w'=w:=by
 have key:bits .or .u64 (x:Int) (IntKind.u64.wrap (2^k))=((x|||2^k:Nat):Int):=by
  have b:=Bh (k:=k) (by omega);have e:((2:Int)^k)=((2^k:Nat):Int):=by rw [Xk];rfl
  have a:IntKind.u64.wrap (2^k)=((2^k:Nat):Int):=by
   rw [e,Va];generalize 2^k=q at *;omega
  rw [a];exact aaV x (2^k) c b
 go_enter func78,ntmps78;go_wp2;go_ret;exact ⟨rfl,rfl⟩
section
attribute [local go_sem] Oper.semAt_some
def jA (f:Nat->Bool) (ds:a8):Nat:=ds.foldl (λs d=>if f d=ZV then s|||2^d else s) 0
def zk (ds:a8) {d:Nat} (h:f d=ZU):jA f (ds++[d])=jA f ds:=by unfold jA;rw [Wp];simp [h]
def zl (ds:a8) {d:Nat} (h:f d=ZV):jA f (ds++[d])=jA f ds|||2^d:=by unfold jA;rw [Wp];simp [h]
theorem wV (q:Nat->Bool) (l:a8) (h:∀ d∈l,d<N):jA q l<2^N:=by
 unfold jA;suffices ∀ (l:a8) (s:Nat),(∀ d∈l,d<N)->s<2^N->l.foldl (λs d=>if q d=ZV then s|||2^d else s) s<2^N from this l 0 h (YD (by decide))
 intro l;induction l with
 | nil=>intro s _ a;exact a
 | cons d l ih=>
  intro s b a;refine ih _ (λx c=>b x (by simp [c])) ?_;show (if q d=ZV then s|||2^d else s)<2^N;split
  . exact WJ a (Vx (by decide) (b d (by simp)))
  . exact a
def zm (f:Nat->Bool) (ds:a8) (h:∀ d∈ds,d<16):jA f ds<65536:=wV (N:=16) f ds h
def sX (w:ZT) (b c f h:ZN) (d e g i:ZS):∃ a,(((w.alloc (Z4 #[d] b)).alloc (Z4 #[e] c)).alloc (Z4 #[g] f)).alloc (Z4 #[i] h)=a/\(ZM a w.heap.size b d/\ZM a (w.heap.size+1) c e/\ZM a (w.heap.size+1+1) f g/\ZM a (w.heap.size+1+1+1) h i)/\a.heap.size=w.heap.size+4/\bW w a:=by
 have j:=Ur (w.alloc (Z4 #[d] b)) c e;have k:=Ur ((w.alloc (Z4 #[d] b)).alloc (Z4 #[e] c)) f g;have l:=Ur (((w.alloc (Z4 #[d] b)).alloc (Z4 #[e] c)).alloc (Z4 #[g] f)) h i;simp only [Ul] at j k l;exact ⟨_,rfl,⟨(((Ur w _ _).alloc _).alloc _).alloc _,(j.alloc _).alloc _,k.alloc _,l⟩,by simp,(((bA w _).alloc (by simp) _).alloc (by simp;omega) _).alloc (by simp;omega) _⟩
structure GR (w:ZT) (v p b:Nat) (T:ZN) (u:ZS) (f:Nat->bE) (A:aB) (F:aK) (B S:Nat) (pre:List (Mb S)) (X:ZT):Prop where
 b0:ZM X w.heap.size 140 (Z6 (ZW ⟨v,0,ZX⟩))
 b1:ZM X (w.heap.size+1) 3 (Z7 Z9 b)
 b2:ZM X (w.heap.size+1+1) T u
 b3:ZM X (w.heap.size+1+1+1) 133 (Z7 Z8 (jA A.lost (dG pre):Nat))
 arr:az X p (A.putAt (dG pre) b f) F
 out:aa F.S w X
 size:B<=X.heap.size
section
variable {w:ZT} {v p D L G ps ho b:Nat} {T:ZN} {u:ZS} {f:Nat->bE} {A:aB} {F:aK} {B S:Nat}
def GR.own (t:w.heap.size+4<=B) (r:∀ k,F.S k->k<w.heap.size):OwnFrom B (GR w v p b T u f A F B S):=by
 rintro pre X Y row ⟨d,g,h,i,j,l,m⟩ c s;have a:∀ k,k<w.heap.size+4->Y.heap[k]?=X.heap[k]?:=λk a=>c.block k (by omega) (λe=>by have:=(s k e.symm).1;omega);exact ⟨(a _ (by omega)).trans d,(a _ (by omega)).trans g,(a _ (by omega)).trans h,(a _ (by omega)).trans i,j.keep λk n=>a k (by have:=r k n;omega),l.later (T:=λk=>w.heap.size<=k) ⟨c.os,c.tape,c.output,c.size,λk o q=>a k (by omega)⟩ (λk o q=>by omega),TV m c.size⟩
def GR.next {pre:List (Mb S)} {x:Mb S} (h:pd w v p D L G ps ho A F) (a:GR w v p b T u f A F B S pre X) (I:w.heap.size+4<=B) (C:az w2 p (A.putAt (dG pre++[x.1]) b f) F) (i:aa F.S X w2) :
 ∀ Y,(Y=w2/\jA A.lost (dG pre++[x.1])=jA A.lost (dG pre))\/Y=w2.setCell ⟨w.heap.size+1+1+1,0,ZX⟩ (Z7 Z8 (jA A.lost (dG pre++[x.1]):Nat)) ->
 (X.heap.size<=Y.heap.size/\∀ k o,B<=k->X.heap[k]?=ZW o->Y.heap[k]?=ZW o)/\aG Y/\GR w v p b T u f A F B S (pre++[x]) Y:=λY j=>by
 have m:∀ k,F.S k->k<w.heap.size:=λk c=>h.arr.RN c;have g:∀ k,w.heap.size<=k->k<X.heap.size->w2.heap[k]?=X.heap[k]?:=λk c y=>i.block k y (λq=>by have:=m k q;omega);have d:∀ k,k≠w.heap.size+1+1+1->Y.heap[k]?=w2.heap[k]?:=λk c=>by
  rcases j with ⟨rfl,_⟩|rfl
  . rfl
  . exact Ud _ _ _ _ c
 have l:Y.heap.size=w2.heap.size/\Y.os=w2.os/\Y.tape=w2.tape/\Y.output=w2.output:=by
  rcases j with ⟨rfl,_⟩|rfl
  . exact ⟨rfl,rfl,rfl,rfl⟩
  . exact ⟨by simp [World.setCell],rfl,rfl,rfl⟩
 have s:=a.b3.lt;have:=i.size;have:=a.size;have n:aa F.S w Y:=(a.out.trans i).later (T:=λk=>k=w.heap.size+1+1+1) ⟨l.2.1,l.2.2.1,l.2.2.2,by omega,λk _ z=>d k z⟩ (λk E H=>by omega);have r:ZM w2 (w.heap.size+1+1+1) 133 (Z7 Z8 (jA A.lost (dG pre):Nat)):=(g _ (by omega) s).trans a.b3;refine ⟨⟨by omega,λk o c ho=>(d k (by omega)).trans ((g k (by omega) (T5.1 ho).1).trans ho)⟩,h.tab.keep (n.block _ h.tab.lt h.t),
  ⟨(d _ (by omega)).trans ((g _ (by omega) (by omega)).trans a.b0),(d _ (by omega)).trans ((g _ (by omega) (by omega)).trans a.b1),(d _ (by omega)).trans ((g _ (by omega) (by omega)).trans a.b2),?_,by rw [fu];exact C.keep λk c=>d k (by have:=m k c;omega),n,by omega⟩⟩
 rw [fu];rcases j with ⟨rfl,e⟩|rfl
 . rw [e];exact r
 . exact r.set _
def GR.done {pre:List (Mb S)} {a:Act} (c:GR w v p b T u f A F B S pre X) (g:dG pre=ab S) (j:∀ k,F.S k->k<w.heap.size) (o:fn.results=#[.cell 8 133]) (l:a.defers=[{ target:=.collected D',args:=#[] }]) (h8:a.tmps.getD 8 ZY=Z6 (ZW ⟨w.heap.size+1+1+1,0,ZX⟩)) (hK:X.heap[D']?=ZW (.deferred (ZW []))) (hD:B<=D') (hB:w.heap.size+4<=B) :
 bodyPostM Fence.wide n ZK fn (λe w'=>e=Z3 (Z7 Z8 (jA A.lost (ab S):Nat))/\az w' p (A.putAt (ab S) b f) F/\aa F.S w w') .ret a (X.setCell ⟨w.heap.size+1+1+1,0,ZX⟩ (Z7 Z8 (jA A.lost (dG pre):Nat))):=by
 have h:=(VY X ⟨w.heap.size+1+1+1,0,ZX⟩ (Z7 Z8 (jA A.lost (dG pre):Nat))).same D' _ hK rfl;refine JT (b:=w.heap.size+1+1+1) (t8:=8) o l h8 (Be (s:=jA A.lost (dG pre)) (c.b3.set _)) h (by omega) ⟨by rw [g],?_,?_⟩
 . have d:=c.arr;rw [g] at d;exact d.keep λk m=>by have:=j k m;exact (UO (by omega)).trans (Ud _ _ _ _ (by show k≠w.heap.size+1+1+1;omega))
 . exact c.out.later (T:=λk=>w.heap.size<=k) ⟨rfl,rfl,rfl,by simp [World.setCell,World.putObj],λk _ i=>(UO (by omega)).trans (Ud _ _ _ _ (by show k≠w.heap.size+1+1+1;omega))⟩ (λk q i=>by omega)
end
theorem eX {v:Nat} {A:aB} (g:pd w v p D L G ps ho A F) (b S:Nat) (hb:b<A.nb) (hS:S<65536) (k6:∀ i,i∈ab S->i<A.n) (r:bE) (hr:r.ok) :
 ZQ ZK 118 #[Z6 (ZW ⟨v,0,ZX⟩),Z7 Z9 b,dK r,Z7 Z8 S] w λe w'=>e=Z3 (Z7 Z8 (jA A.lost (ab S):Nat))/\az w' p (A.putAt (ab S) b (λ_=>r)) F/\aa F.S w w':=by
 obtain ⟨n,HN⟩:∃ n:Nat,b9 (9<=n):=⟨9,TU _⟩;obtain ⟨rv,H⟩:=nM (dK r);have k9:∃ ty l,rv=.iface ty l:=by cases r<;>exact ⟨_,_,H.symm⟩
 obtain ⟨ty,l,rfl⟩:=k9;rw [H];have HR:=ak H;clear H;have K:∀ k,F.S k->k<w.heap.size:=λk s=>g.arr.RN s;refine (Vm (n:=n)).1 ?_;refine Wc func118 rfl trivial ?_ rfl;simp only [ntmps118,UH,UA,UT,YM,YN,Ve,Vf,Vg,Vh,Uq,UX];gi_wp2;obtain ⟨a,hy,⟨T,U,V,W⟩,O,hq⟩:=sX w 140 3 215 133 (Z6 (ZW ⟨v,0,ZX⟩)) (Z7 Z9 (b:Int)) (.iface ty l) (Z7 Z8 0);rw [hy];clear hy;refine cd (dN S a) ?_;rintro e w' ⟨rfl,rfl⟩;have k0:(a.alloc (Z4 #[Z7 Z8 (S:Int)] 133)).heap.size=a.heap.size+1:=by simp
 have hs:(a.alloc (Z4 #[Z7 Z8 (S:Int)] 133)).cell? ⟨a.heap.size,0,ZX⟩=ZW (Z7 Z8 (S:Int)):=(Ur a 133 (Z7 Z8 (S:Int))).cell;have E:bW w (a.alloc (Z4 #[Z7 Z8 (S:Int)] 133)):=hq.alloc (by omega) _;have hv:GR w v p b 215 (.iface ty l) (λ_=>r) A F (a.heap.size+1) S [] (a.alloc (Z4 #[Z7 Z8 (S:Int)] 133)):=
  ⟨T.alloc _,U.alloc _,V.alloc _,W.alloc _,by rw [show dG ([]:List (Mb S))=[] from rfl,wE];exact g.arr.below E lR,aa.RL E _,by omega⟩
 obtain ⟨w6,hz⟩:=nM (a.alloc (Z4 #[Z7 Z8 (S:Int)] 133));have Y:=ak hs;have u:=al hv E;have k5:=ak O;clear hs hv T U V W hq E O;gi_wp2;obtain ⟨O,kc⟩:w.heap.size+4<=a.heap.size/\a.heap.size<=w.heap.size+4:=by have:=k5.out;omega
 rw [hz] at k0 Y u;clear hz;rw [<- k0] at u;refine Wd rfl (by have:=HN.o;omega) (gf:=147) (lb:=#[Z6 (ZW ⟨a.heap.size,0,ZX⟩)]) rfl trivial (U4 func147 (by kernel_rfl) rfl)
  (m4 (n-1) a.heap.size S hS w6 (by omega) Y.out (by have:=g.room;omega) (g.tab.mono (by exact g.tab.lt) u.out.2)) (λh k=>qM h k) (qN (by have:=g.room;omega)) (TW _ _) (λ_=>rfl)
  (GR w v p b 215 (.iface ty l) (λ_=>r) A F w6.heap.size S) (λ_ _ _=>False) (GR.own (by omega) K) (λ_ _ _ _ _ h _ _=>h.elim) u.out.1
  (λx=>{ tmps:=#[Z6 (ZW ⟨v,0,ZX⟩),Z7 Z9 (b:Int),.iface ty l,Z7 Z8 (S:Int),Z6 (ZW ⟨w.heap.size,0,ZX⟩),Z6 (ZW ⟨w.heap.size+1,0,ZX⟩),Z6 (ZW ⟨w.heap.size+1+1,0,ZX⟩),ZY,Z6 (ZW ⟨w.heap.size+1+1+1,0,ZX⟩),Z7 Z9 (x.1:Int),Z7 Z8 (S:Int),.func (.func 147) #[] #[Z6 (ZW ⟨a.heap.size,0,ZX⟩)],Z7 Z9 (x.1:Int),ZY,ZY,ZY,ZY,ZY,ZY,ZY,ZY,ZY,ZY],defers:=[] }) ?assign ?body ?done ?stop
 case assign=>
  intro l2 x X Kk hK;unfold wU;gi_wp2;exact hK
 case body=>
  rintro l2 pre x X c hg;have ka:x.1∈ab S:=cE.2 x.2;have C:=g.turn c.out c.arr rfl;have ke:=zm A.lost (dG pre) (λd hd=>by obtain ⟨y,_,rfl⟩:=T9.1 hd;exact y.2.1);have I:=nK C.vol C.arr x.1 b (k6 _ ka) hb r hr C.laid;rw [HR.o] at I;have c0:=c.b0.cell;have c1:=c.b1.cell;have c2:=c.b2.cell;have j:=ak c;clear c hg C;gi_wp2;refine dq I ?_;clear I c0 c1 c2;rintro e w2 ⟨y,rfl,z,B,k7⟩;rw [sH A (dG pre) x.1 b (λ_=>r)] at z;have M:=j.o.next (w2:=w2) g (by omega) z B;have R:=ak M;rcases k7 with ⟨m,rfl⟩|⟨m,q,rfl,-⟩
  . have HL:=ak m;clear z M B m;gi_wp2;obtain ⟨t,P,Q⟩:=R.o w2 (.inl ⟨rfl,zk (f:=A.lost) _ HL.o⟩);exact ⟨⟨t.1,λk o s ho _=>t.2 k o s ho⟩,λ_=>P,Q⟩
  . have J:ZM w2 (w.heap.size+1+1+1) 133 (Z7 Z8 (jA A.lost (dG pre):Nat)):=(B.block _ j.o.b3.lt (λq=>by have:=K _ q;omega)).trans j.o.b3;have d0:=J.cell;have d1:=J.frozen;have N:=eS (jA A.lost (dG pre)) x.1 (by omega) (by omega) w2;rw [<- zl (f:=A.lost) _ m] at N;unfold rT;clear z B M J m;generalize jA A.lost (dG pre)=ls at *;generalize jA A.lost (dG pre++[x.1])=kf at *;gi_wp2;refine dq N ?_;rintro e w3 ⟨rfl,rfl⟩;clear N;gi_wp2;obtain ⟨t,P,Q⟩:=R.o _ (.inr rfl);exact ⟨⟨t.1,λk o s ho _=>t.2 k o s ho⟩,λ_=>P,Q⟩
 case done=>
  rintro D' xs X Z kb c hK;have c3:=c.b3.cell;have f3:=c.b3.frozen;have j:=al c hK;clear c hK;gi_wp2;exact j.o.1.done kb K results118 rfl rfl j.o.2 Z (by omega)
 case stop=>
  rintro D' cc pre X Z k8 hx hK;exact hx.elim
def ML (w:ZT) (base g:Nat) (R:List a8):Prop:=base<=g/\g<w.heap.size/\∀ i (hi:i<R.length),∃ b off c,w.cell? ⟨g,i,ZX⟩=ZW (Z5 (ZW ⟨b,off,ZX⟩) 44 c)/\base<=b/\b<w.heap.size/\w.rangeAt b off (aJ R[i])/\R[i].length=44/\∀ x∈R[i],x<256
def ML.keep (h:ML w base g R) (f:w.heap.size<=w'.heap.size) (e:∀ k,base<=k->k<w.heap.size->w'.heap[k]?=w.heap[k]?):ML w' base g R:=by
 obtain ⟨a,d,n⟩:=h;refine ⟨a,T7 d f,λi o=>?_⟩;obtain ⟨b,off,c,q,l,m,r,s⟩:=n i o;exact ⟨b,off,c,(Uk (e g a d)).trans q,l,T7 m f,λj v p=>(Uk (e b l m)).trans (r j v p),s⟩
theorem kS {v:Nat} {A:aB} (t:pd w v p D L G ps ho A F) (b S:Nat) (hb:b<A.nb) (r:S<65536) (kr:∀ i,i∈ab S->i<A.n)
 {g m c base:Nat} {R:List a8} (hR:ML w base g R) (hv:∀ i,i∈ab S->i<R.length) (hm:R.length<=m) (h4:∀ k,F.S k->k<base) :
 ZQ ZK 86 #[Z6 (ZW ⟨v,0,ZX⟩),Z7 Z9 b,Z5 (ZW ⟨g,0,ZX⟩) m c,Z7 Z8 S] w λe w'=>e=Z3 (Z7 Z8 (jA A.lost (ab S):Nat))/\az w' p (A.putAt (ab S) b (λi=>.shard (R.getD i []))) F/\aa (F.S) w w':=by
 obtain ⟨n,HN⟩:∃ n:Nat,b9 (9<=n):=⟨9,TU _⟩;have hr:∀ k,F.S k->k<w.heap.size:=λk E=>t.arr.RN E;have k0:∀ i,i∈ab S->(bE.shard (R.getD i [])).ok:=λi a=>by
  have kk:=hv i a;obtain ⟨_,_,_,_,_,_,_,s,B⟩:=hR.2.2 i kk;have e:R.getD i []=R[i]:=by simp [kk]
  rw [e];exact ⟨s,B⟩
 refine (Vm (n:=n)).1 ?_;refine Wc func86 rfl trivial ?_ rfl;simp only [ntmps86,UH,UA,UT,YM,YN,Ve,Vf,Vg,Vh,Uq,UX];gi_wp2;obtain ⟨l,km,⟨h0,O,I,h3⟩,kb,kh⟩:=sX w 140 3 108 133 (Z6 (ZW ⟨v,0,ZX⟩)) (Z7 Z9 (b:Int)) (Z5 (ZW ⟨g,0,ZX⟩) m c) (Z7 Z8 0);rw [km];clear km;refine cd (dN S l) ?_;rintro e w' ⟨rfl,rfl⟩;have kc:(l.alloc (Z4 #[Z7 Z8 (S:Int)] 133)).heap.size=l.heap.size+1:=by simp
 have k7:(l.alloc (Z4 #[Z7 Z8 (S:Int)] 133)).cell? ⟨l.heap.size,0,ZX⟩=ZW (Z7 Z8 (S:Int)):=(Ur l 133 (Z7 Z8 (S:Int))).cell;have U:bW w (l.alloc (Z4 #[Z7 Z8 (S:Int)] 133)):=kh.alloc (by omega) _;have kj:GR w v p b 108 (Z5 (ZW ⟨g,0,ZX⟩) m c) (λi=>.shard (R.getD i [])) A F (l.heap.size+1) S [] (l.alloc (Z4 #[Z7 Z8 (S:Int)] 133)):=
  ⟨h0.alloc _,O.alloc _,I.alloc _,h3.alloc _,by rw [show dG ([]:List (Mb S))=[] from rfl,wE];exact t.arr.below U lR,aa.RL U _,by omega⟩
 obtain ⟨w6,ko⟩:=nM (l.alloc (Z4 #[Z7 Z8 (S:Int)] 133));have ke:=ak k7;have T:=al kj U;have kp:=ak kb;clear k7 kj h0 O I h3 kh U kb;gi_wp2;obtain ⟨kb,q7⟩:w.heap.size+4<=l.heap.size/\l.heap.size<=w.heap.size+4:=by have:=kp.out;omega
 rw [ko] at kc ke T;clear ko;rw [<- kc] at T;refine Wd rfl (by have:=HN.o;omega) (gf:=147) (lb:=#[Z6 (ZW ⟨l.heap.size,0,ZX⟩)]) rfl trivial (U4 func147 (by kernel_rfl) rfl)
  (m4 (n-1) l.heap.size S r w6 (by omega) ke.out (by have:=t.room;omega) (t.tab.mono (by exact t.tab.lt) T.out.2)) (λh k=>qM h k) (qN (by have:=t.room;omega)) (TW _ _) (λ_=>rfl)
  (GR w v p b 108 (Z5 (ZW ⟨g,0,ZX⟩) m c) (λi=>.shard (R.getD i [])) A F w6.heap.size S) (λ_ _ _=>False) (GR.own (by omega) hr) (λ_ _ _ _ _ h _ _=>h.elim) T.out.1
  (λx=>{ tmps:=#[Z6 (ZW ⟨v,0,ZX⟩),Z7 Z9 (b:Int),Z5 (ZW ⟨g,0,ZX⟩) m c,Z7 Z8 (S:Int),Z6 (ZW ⟨w.heap.size,0,ZX⟩),Z6 (ZW ⟨w.heap.size+1,0,ZX⟩),Z6 (ZW ⟨w.heap.size+1+1,0,ZX⟩),ZY,Z6 (ZW ⟨w.heap.size+1+1+1,0,ZX⟩),Z7 Z9 (x.1:Int),Z7 Z8 (S:Int),.func (.func 147) #[] #[Z6 (ZW ⟨l.heap.size,0,ZX⟩)],Z7 Z9 (x.1:Int),ZY,ZY,ZY,ZY,ZY,ZY,ZY,ZY,ZY,ZY,ZY,ZY,ZY,ZY,ZY,ZY,ZY],defers:=[] }) ?assign ?body ?done ?stop
 case assign=>
  intro l2 x X Kk hK;unfold wU;gi_wp2;exact hK
 case body=>
  rintro l2 pre x X a k8;have Y:x.1∈ab S:=cE.2 x.2;have K:=t.turn a.out a.arr rfl;have C:ML X base g R:=hR.keep a.out.size (λk E kx=>a.out.block k kx (λq=>by have:=h4 k q;omega));have N:=aE a K C;clear k8 a K C;gi_wp2;obtain ⟨a,K,C⟩:=N.o;obtain ⟨bl,off,rc,ki,q8,ks,k5,k6,k7⟩:=C.2.2 x.1 (hv _ Y);have q5:=hv _ Y;obtain ⟨sh,ka⟩:=nM (R[x.1]);have hs:R.getD x.1 []=sh:=by rw [<- ka];simp [q5]
  rw [ka] at k5 k6;have q9:(x.1:Int)<(m:Int):=by omega
  have V:(aJ sh).toArray.size=44:=by rw [UH,aW,k6]
  have k9:∀ w',aa F.S X w'->w'.cell? ⟨g,x.1,ZX⟩=ZW (Z5 (ZW ⟨bl,off,ZX⟩) 44 rc)/\w'.rangeAt bl off (aJ sh):=λw' hO=>⟨(Uk (hO.block g C.2.1 λq=>by have:=h4 _ q;have:=C.1;omega)).trans ki,λj u hu=>(Uk (hO.block bl ks λq=>by have:=h4 _ q;omega)).trans (k5 j u hu)⟩;have h5:=λw' (O:az w' p (A.putAt (dG pre) b (λi=>.shard (R.getD i []))) F) (I:pd w' v p D L G ps ho (A.putAt (dG pre) b (λi=>.shard (R.getD i []))) F)=>nK I.vol O x.1 b (kr _ Y) hb _ (k0 _ Y) I.laid;rw [hs] at h5;obtain ⟨k1,k2⟩:=k9 X (aa.refl _ _);refine bB (dr _) 99 [(0,ZV),(1,ZV),(2,ZV),(3,ZV),(4,ZV),(5,ZV),(6,ZV),(7,ZV),(8,ZV),(9,ZV),(10,ZV),(11,ZU),(12,ZV)] (λw'=>w'.cell? ⟨w.heap.size,0,ZX⟩=ZW (Z6 (ZW ⟨v,0,ZX⟩))/\w'.cell? ⟨w.heap.size+1,0,ZX⟩=ZW (Z7 Z9 b)/\w'.cell? ⟨w.heap.size+1+1,0,ZX⟩=ZW (Z5 (ZW ⟨g,0,ZX⟩) m c)/\w'.cell? ⟨g,x.1,ZX⟩=ZW (Z5 (ZW ⟨bl,off,ZX⟩) 44 rc)/\w'.rangeAt bl off (aJ sh)) (by kernel_rfl) (by kernel_rfl) ⟨a.b0.cell,a.b1.cell,a.b2.cell,k1,k2⟩ ?_;iterate 8 (refine aC rfl rfl ?_;apply YG;refine ⟨λw' r=>?_,?_⟩;(obtain ⟨s1,s2,s3,s4,s5⟩:=r;first|(go_simp;done)|(go_simp;exact rfl));simp only [Act.put,TX,TY,TZ])
  refine aC rfl rfl ⟨_,λw' r=>by simp [execOp,Act.eval,aaA (P:=ZK) w' bl off 211 (aJ sh) _ r.2.2.2.2 aa1 rfl (by rw [aW,k6];kernel_rfl)];rfl,?_⟩;have hy:∀ z:Array ZS,z.size=44->YK (λcs x=>cs.setIfInBounds x.snd x.fst) z (aJ sh).toArray.zipIdx 0 44=(aJ sh).toArray:=λz hz=>wO z _ 44 hz V;have ha:∀ w',az w' p (A.putAt (dG pre) b (λi=>.shard (R.getD i []))) F->pd w' v p D L G ps ho (A.putAt (dG pre) b (λi=>.shard (R.getD i []))) F->ZQ ZK 116 #[Z6 (ZW ⟨v,0,ZX⟩),Z7 Z9 (x.1:Nat),Z7 Z9 (b:Nat),.iface 213 (.agg (aJ sh).toArray)] w' _:=h5;have H:=al ha K;obtain ⟨sa,he⟩:=nM ((aJ sh).toArray);rw [he] at V hy H ⊢;clear h5 ha;iterate 2 (refine aC rfl rfl ?_;apply YG;refine ⟨λw' r=>?_,?_⟩;(obtain ⟨s1,s2,s3,s4,s5⟩:=r;first|(go_simp;done)|(go_simp;exact rfl));simp only [Act.put,TX,TY,TZ])
  refine dF (dr _) (H.o.1 X.drew (H.o.2.arr.keep λ_ _=>rfl) (H.o.2.below ((TW _ X).drew) lR)) rfl rfl nofun (by go_simp) ?_;rintro e w2 ⟨y,rfl,hq,kg,kz⟩;rw [<- hs,sH A (dG pre) x.1 b (λi=>.shard (R.getD i []))] at hq;have Q:=(aa.drew X).trans kg;obtain ⟨s,B⟩:=k9 w2 Q;have H2:=ak (a.next (w2:=w2) t (by omega) hq Q);have J:∀ k,w.heap.size<=k->k<X.heap.size->w2.heap[k]?=X.heap[k]?:=λk E kv=>Q.block k kv (λq=>by have:=hr k q;omega);have hp:ZM w2 (w.heap.size+1+1+1) 133 (Z7 Z8 (jA A.lost (dG pre):Nat)):=(J _ (by omega) a.b3.lt).trans a.b3;have d0:=hp.cell;have d1:=hp.frozen;have ky:=zm A.lost (dG pre) (λd hd=>by obtain ⟨y,_,rfl⟩:=T9.1 hd;exact y.2.1);have W:=eS (jA A.lost (dG pre)) x.1 (by omega) (by omega) w2;have Z:=YO (We ((J _ (by omega) a.b0.lt).trans a.b0)) (YO (We ((J _ (by omega) a.b1.lt).trans a.b1)) (YO (We ((J _ (by omega) a.b2.lt).trans a.b2)) (YO s B)));clear hq kg Q a K C ki k5 k9 k1 k2 s B H he kc hs ka J hp ky;rcases kz with ⟨M,rfl⟩|⟨M,q,rfl,-⟩
  . refine ⟨_,rfl,λ_=>Z,?_⟩;simp only [Act.put,TX,TY,TZ];refine aC rfl rfl ?_;apply YG;refine ⟨λw' r=>?_,?_⟩;(obtain ⟨s1,s2,s3,s4,s5⟩:=r;first|(go_simp;done)|(go_simp;exact rfl));simp only [Act.put,TX,TY,TZ];rename_i hK
    refine hK _ _ ?_;have HL:=ak M;clear hK Z hy V W d0 d1 M;gi_wp2;obtain ⟨s,B,q3⟩:=H2.o w2 (.inl ⟨rfl,zk (f:=A.lost) _ HL.o⟩);exact ⟨⟨s.1,λk o E ho _=>s.2 k o E ho⟩,λ_=>B,q3⟩
  . unfold rT;refine ⟨_,rfl,λ_=>Z,?_⟩;simp only [Act.put,TX,TY,TZ];refine aC rfl rfl ?_;apply YG;refine ⟨λw' r=>?_,?_⟩;(obtain ⟨s1,s2,s3,s4,s5⟩:=r;first|(go_simp;done)|(go_simp;exact rfl));simp only [Act.put,TX,TY,TZ];rename_i hK
    refine hK _ _ ?_;rw [<- zl (f:=A.lost) _ M] at W;clear hK Z hy V M;generalize jA A.lost (dG pre)=ls at *;generalize jA A.lost (dG pre++[x.1])=qa at *;gi_wp2;refine dq W ?_;rintro e w3 ⟨rfl,rfl⟩;clear W;gi_wp2;obtain ⟨s,B,q3⟩:=H2.o _ (.inr rfl);exact ⟨⟨s.1,λk o E ho _=>s.2 k o E ho⟩,λ_=>B,q3⟩
 case done=>
  rintro D' xs X kf q6 a hK;have c3:=a.b3.cell;have f3:=a.b3.frozen;have N:=al a hK;clear a hK;gi_wp2;exact N.o.1.done q6 hr results86 rfl rfl N.o.2 kf (by omega)
 case stop=>
  rintro D' cc pre X kf q4 hx hK;exact hx.elim
end
def rB (c j:Nat):Nat:=if j<16 then gm c j else gm c ((j-16)*16)
def tv (f:Nat->Nat) (j:Nat):ZS:=Z7 .u8 ((f j:Nat):Int)
def PE {x y:Int} (a b:Nat) (f:x=(a:Int)) (g:y=(b:Int)) (c:a<256) (d:b<256) (w:ZT) :
 ZQ ZK 188 #[Z7 .u8 x,Z7 .u8 y] w λe w'=>e=Z3 (Z7 .u8 ((gm a b:Nat):Int))/\w'=w:=by
 subst f g;exact lS a b c d w
def fV (c n j:Nat):Nat:=if j<n then gm c j else 0
def MM (q:Nat):Prop:=q=1\/q=2\/q=4\/q=8\/q=16
def aaj (w:ZT) (B c:Nat) (i d:ZS) (wr:ZT):Prop:=
 ∃ q:Nat,MM q/\i=Z7 Z9 q/\d=Z7 .u8 ((gm c q:Nat):Int)/\wr.rowIs (B+1) 287 16 (tv (fV c q))/\wr.rowIs B 287 16 (λ_=>Z7 .u8 0)/\ZR B w wr
def OI (w:ZT) (B c q:Nat) (i:ZS) (wr:ZT):Prop:=
 ∃ k:Nat,k<=q/\i=Z7 Z9 k/\wr.rowIs (B+1) 287 16 (tv (fV c (q+k)))/\wr.rowIs B 287 16 (λ_=>Z7 .u8 0)/\ZR B w wr
def JU (w:ZT):(w.alloc (Z4 (YI 16 (Z7 .u8 0)) 287)).rowIs w.heap.size 287 16 (λ_=>Z7 .u8 0):=by
 have h:=aa5 w (YI 16 (Z7 .u8 0)) 287 (λ_=>Z7 .u8 0) (λi a=>by simp at a;simp [a]);simpa using h
def PF (w:ZT):(w.alloc (Z4 (YI 32 (Z7 .u8 0)) 321)).rowIs w.heap.size 321 32 (λ_=>Z7 .u8 0):=by
 have h:=aa5 w (YI 32 (Z7 .u8 0)) 321 (λ_=>Z7 .u8 0) (λi a=>by simp at a;simp [a]);simpa using h
def JV:∀ i,i<1->i^^^1=1+i:=by decide
def JW:∀ i,i<2->i^^^2=2+i:=by decide
def JX:∀ i,i<4->i^^^4=4+i:=by decide
def JY:∀ i,i<8->i^^^8=8+i:=by decide
def Nb (a:MM q) (b:q<16) (h:i<q):i^^^q=q+i:=by
 rcases a with rfl|rfl|rfl|rfl|rfl
 . exact JV i h
 . exact JW i h
 . exact JX i h
 . exact JY i h
 . omega
def PG:∀ c,c<256->tx (gm c 1)=gm c 2:=by decide +kernel
def PH:∀ c,c<256->tx (gm c 2)=gm c 4:=by decide +kernel
def PI:∀ c,c<256->tx (gm c 4)=gm c 8:=by decide +kernel
def PJ:∀ c,c<256->tx (gm c 8)=gm c 16:=by decide +kernel
def Rb (b:MM q) (d:q<16) (a:c<256):tx (gm c q)=gm c (q*2):=by
 rcases b with rfl|rfl|rfl|rfl|rfl
 . exact PG c a
 . exact PH c a
 . exact PI c a
 . exact PJ c a
 . omega
def JZ (b:MM q) (a:q<16):MM (q*2):=by unfold MM at *;omega
def DO (f:MM q) (d:q<16) (e:k<q) (j:Nat):tv (fV c (q+(k+1))) j=if j=q+k then Z7 .u8 ((fV c (q+k) k^^^gm c q:Nat):Int) else tv (fV c (q+k)) j:=by
 unfold tv fV;by_cases a:j=q+k
 . rw [TT a,TT (by omega),TT (by omega),<- fy,Nb f d e,a]
 . rw [TS a];by_cases b:j<q+k
   . rw [TT b,TT (by omega)]
   . rw [TS b,TS (by omega)]
def pe {f:Nat->Nat} (b:cs.size=n) (h:∀ j,j<n->cs[j]?=ZW (tv f j)):cs.all (λv=>v.oneCell')=ZV:=by
 rw [X5];intro i a;have:=h i (by omega);rw [VV a] at this;simp at this;rw [this];rfl
def GS {x:Int} (a:Nat) (b:x=(a:Int)) (h:a<256) (w:ZT):ZQ ZK 202 #[Z7 .u8 x] w λe w'=>e=Z3 (Z7 .u8 (tx a:Int))/\w'=w:=by
 subst b;exact mY a h w
theorem J1 (c n j:Nat) (a:c<256):fV c n j<256:=by
 unfold fV;split
 . exact bt _ a
 . decide
def Tryz.SB:(ZK.info? 287).map (λi=>i.size)=ZW 16:=by kernel_rfl
theorem mF (c:Nat) (m:c<256) (w:ZT) :
 ZQ ZK 214 #[Z7 .u8 c] w λe w'=>∃ cs:Array ZS,e=Z3 (.agg cs)/\cs.size=16/\(∀ j,j<16->cs[j]?=ZW (tv (fV c 16) j))/\bW w w':=by
 go_enter func214,ntmps214;go_wp2;go_loopw [4,0] (λi d wr=>aaj w w.heap.size c i d wr) (λi _ _=>16-(intOf i).toNat)
 case atStart=>
  refine ⟨1,.inl rfl,rfl,by rw [ew c m],?_,?_,?_⟩
  . have h:=JU (w.alloc (Z4 (YI 16 (Z7 .u8 0)) 287));try change ZR _ _ _ at h
    rw [Uh] at h;refine h.congr λj R=>?_;unfold tv fV;by_cases e:j<1
    . rw [TT e,show j=0 by omega,bD];rfl
    . rw [TS e];rfl
  . exact (JU w).alloc _
  . exact (bA _ _).alloc (by rw [Uh];omega) _
 case round=>
  obtain ⟨q,n,rfl,rfl,b,f,g⟩:=hrel;have A:q<=16:=by unfold MM at n;omega
  have F:gm c q<256:=bt _ m;by_cases x:q<16
  . have X:q<=8:=(by unfold MM at n;omega);have l:=ak n;have J:=ak (show OI w w.heap.size c q (Z7 Z9 (0:Nat)) wr from ⟨0,T8 _,rfl,b,f,g⟩);clear b f g n;have Y:(q:Int)<16:=(by omega);rename ZT=>wo;go_wp2;go_loopw [11] (λi wr=>OI w w.heap.size c q i wr) (λi _=>q-(intOf i).toNat)
    case atStart=>exact J.o
    case round=>
     obtain ⟨k,W,rfl,b,f,g⟩:=hrel;by_cases S:k<q
     . have c1:=b.cell (i:=k) (by omega);have M:=b.cell (i:=q+k) (by omega);have U:=b.frozen (q+k);have T:=J1 c (q+k) k m;have hy:=lg _ _ T F;have B:=(b.set (q+k) (Z7 .u8 ((fV c (q+k) k^^^gm c q:Nat):Int))).congr (λj R=>(DO l.o x S j).symm);have C:=f.setOther (a:=⟨w.heap.size+1,q+k,ZX⟩) (by simp) (Z7 .u8 ((fV c (q+k) k^^^gm c q:Nat):Int));have D:=g.setCell (p:=⟨w.heap.size+1,q+k,ZX⟩) (by simp) (Z7 .u8 ((fV c (q+k) k^^^gm c q:Nat):Int));have r:=aE B C D;clear B C D b f g;unfold tv at c1 M;have O:(k:Int)<q:=(by omega);have V:(k:Int)<16:=(by omega);have Z:(q:Int)+(k:Int)<16:=(by omega);have hx:IntKind.i64.wrap ((q:Int)+(k:Int))=((q+k:Nat):Int):=(by rw [Ux];omega);have hv:wrap64 ((q:Int)+(k:Int))=((q+k:Nat):Int):=(by unfold wrap64;omega);go_wp2;go_roundw
       case rel=>exact ⟨k+1,by omega,by go_num,r.o.1,r.o.2.1,r.o.2.2⟩
       case measure=>simp [intOf];omega
     . have P:k=q:=(by omega);have t:=aE b f g;clear b f g;have O:¬ ((k:Int)<q):=(by omega);go_wp2_with fail;refine (GS (gm c q) rfl F _).mono ?_;rintro e w' ⟨rfl,rfl⟩;go_wp2;go_roundw
       case rel=>exact ⟨q*2,JZ l.o x,by go_num,by rw [Rb l.o x m],by have:=t.o.1;rwa [P,show q+q=q*2 by omega] at this,t.o.2.1,t.o.2.2⟩
       case measure=>have Q:=l.o;unfold MM at Q;simp only [intOf];omega
  . have A:q=16:=(by omega);subst A;obtain ⟨cs,E,y,u⟩:=b;obtain ⟨I,G,hz,_⟩:=f;have N:=pe y u;have L:=ak u;have H:(ZK.info? 287).map (λi=>i.size)=ZW cs.size:=(by rw [Tryz.SB,y]);have s:=ak H;have K:=ak E;have z:=ak G;clear u H E G;go_wp2_with (first
     | refine aaB rfl 287 (Z0 3) rfl (w.heap.size+1) rfl 287 cs (0,0) _ K.o X6 rfl s.o ?_
     | refine Ww rfl 287 (Z0 2) (Z0 26) rfl w.heap.size cs rfl rfl 287 I z.o s.o (by omega) N ?_)
    exact Us (v:=.agg cs) (Wk results214 _ _ w.heap.size 287 cs (0,0) _ rfl (Vp _ _ I cs _ _ z.o) X6 rfl s.o) rfl ⟨cs,rfl,y,L.o,below_setRow g lR cs⟩
def Tryz.Sv:(ZK.info? 321).map (λi=>i.size)=ZW 32:=by kernel_rfl
theorem GT (c j:Nat) (a:c<256) (b:j<32):(if j<16 then fV c 16 j else fV (gm c 16) 16 (j-16))=rB c j:=by
 unfold fV rB;by_cases h:j<16
 . rw [TT h,TT h,TT h]
 . rw [TS h,TS h,TT (by omega),fC a (by decide) (by omega)];congr 1;have:∀ x,x<16->gm 16 x=x*16:=by decide +kernel
   exact this _ (by omega)
def qP (c:Nat):Array ZS:=((YE 32).map (λj=>Value.int .u8 ((if j<16 then fV c 16 j else fV (gm c 16) 16 (j-16):Nat):Int))).toArray
def jY (c:Nat):(qP c).size=32:=by unfold qP;rw [UH,Ue,Vn]
def wW (c j:Nat) (b:c<256) (a:j<32):(qP c)[j]?=ZW (tv (rB c) j):=by
 unfold qP tv;simp only [Xz,UG,WK a,X7,GT c j b a]
def DP (c:Nat):(ZK.info? 321).map (λi=>i.size)=ZW (qP c).size:=by rw [jY,Tryz.Sv]
def Bi {f:Nat->Nat} (b:cs.size=16) (h:∀ j,j<16->cs[j]?=ZW (tv f j)) :
 cs=#[tv f 0,tv f 1,tv f 2,tv f 3,tv f 4,tv f 5,tv f 6,tv f 7,tv f 8,tv f 9,tv f 10,tv f 11,tv f 12,tv f 13,tv f 14,tv f 15]:=by
 have e:cs=((YE 16).map (tv f)).toArray:=by
  refine Yu (by simp [b]) λi a c=>?_;have:=h i (by omega);rw [VV a] at this;simp at this ⊢;exact this
 exact e
theorem ln (c:Nat) (b:c<256) (w:ZT) :
 ZQ ZK 199 #[Z7 .u8 c] w λe w'=>∃ cs:Array ZS,e=Z3 (.agg cs)/\cs.size=32/\(∀ j,j<32->cs[j]?=ZW (tv (rB c) j))/\bW w w':=by
 have C:=PF w;have E:gm c 16<256:=bt _ b;go_enter func199,ntmps199;go_wp2_with fail;refine (mF c b _).mono ?_;rintro e w1 ⟨A,rfl,s,q,a⟩;obtain rfl:=Bi s q;clear s q;simp only [tv];go_wp2_with fail;refine (PE c 16 rfl rfl b (by decide) _).mono ?_;rintro e w' ⟨rfl,rfl⟩;go_wp2_with fail;refine (mF (gm c 16) E _).mono ?_;rintro e w2 ⟨B,rfl,t,r,g⟩;obtain rfl:=Bi t r;clear t r;simp only [tv];obtain ⟨d,x,D,_⟩:=C;have u:w2.heap[w.heap.size]?=ZW (Z4 d 321 (0,0)):=(g.block _ (by have:=a.size;rw [Uh] at this;omega)).trans ((a.block _ (by rw [Uh];omega)).trans x);have n:=ak u;have y:b9 (bW w w2):=ak (((bA w _).trans (a.mono (by rw [Uh];omega))).trans (g.mono (by have:=a.size;rw [Uh] at this;omega)));clear a g x u;have f:=ak (DP c);have m:b9 (d.size=(qP c).size):=ak (by rw [D,jY]);have k:=ak (pe (jY c) (λj i=>wW c j b i));have l:b9 (∀ j,j<32->(qP c)[j]?=ZW (tv (rB c) j)):=ak (λj i=>wW c j b i);have p:=ak (jY c);obtain ⟨cs,h⟩:=nM (qP c);rw [h] at f m k l p;have z:=ak h;clear h;go_wp2_with (refine Ww rfl 321 (Z0 2) (Z0 8) rfl w.heap.size cs rfl (by rw [<- z.o];rfl) 321 d n.o f.o m.o k.o ?_);refine Us (v:=.agg cs) (Wk results199 _ _ w.heap.size 321 cs (0,0) _ rfl (Vp _ _ d cs _ _ n.o) underlying321 rfl f.o) rfl ?_;exact ⟨cs,rfl,p.out,l.o,below_setRow y.o lR _⟩
def lY (w:ZT) (t c:Nat):Prop:=∀ j,j<32->w.cell? ⟨t,j,ZX⟩=ZW (tv (rB c) j)
def Nc:∀ b,b<256->b=(b%16)^^^(b/16*16):=by decide +kernel
def J2 (c b:Nat) (a:b<256):rB c (b%16)^^^rB c (16+b/16)=gm c b:=by
 unfold rB;rw [TT (by omega),TS (by omega),WR,<- fy,<- Nc b a]
theorem FA (c j:Nat) (a:c<256):rB c j<256:=by
 unfold rB;split<;>exact bt _ a
def Rc (b:Nat) (a:b<256):bits .and .u8 (b:Int) 15=((b%16:Nat):Int):=by
 rw [u8_and15 _ (by omega) (by omega)];rfl
theorem wX (t c b:Nat) (g:c<256) (f:b<256) (w:ZT) (a:lY w t c) :
 ZQ ZK 200 #[Z6 (ZW ⟨t,0,ZX⟩),Z7 .u8 b] w λe w'=>e=Z3 (Z7 .u8 ((gm c b:Nat):Int))/\∃ m,w'=w.drewN m:=by
 have c1:=a (b%16) (by omega);have h:=a (16+b/16) (by omega);have j:=FA c (b%16) g;have k:=FA c (16+b/16) g;have d:=J2 c b f;have l:=Rc b f;have i:=lg _ _ j k;unfold tv at c1 h;rw [d] at i;clear a d;go_enter func200,ntmps200;go_wp2;go_quiet (fail);go_wp2;go_ret;exact ⟨rfl,_,rfl⟩
def gS (g F:Nat->Nat) (c off k j:Nat):Nat:=if off<=j/\j<off+k then g j^^^gm c (F (j-off)) else g j
def AdR (w:ZT) (b t N off k c tb fb foff:Nat) (g F:Nat->Nat) (i:ZS) (wr:ZT):Prop:=
 ∃ j:Nat,j<=k/\i=Z7 Z9 j/\wr.rowIs b t N (tv (gS g F c off j))/\lY wr tb c/\(∀ i,i<k->wr.cell? ⟨fb,foff+i,ZX⟩=ZW (Z7 .u8 ((F i:Nat):Int)))/\w.grownBy wr (ZW b)
def DQ (g F:Nat->Nat) (c off j x:Nat):tv (gS g F c off (j+1)) x=if x=off+j then Z7 .u8 ((g (off+j)^^^gm c (F j):Nat):Int) else tv (gS g F c off j) x:=by
 unfold tv gS;by_cases h:x=off+j
 . subst h;rw [TT rfl,TT (by omega),WR]
 . rw [TS h];by_cases a:off<=x/\x<off+j
   . rw [TT a,TT (by omega)]
   . rw [TS a,TS (by omega)]
theorem DR (g F:Nat->Nat) (c off:Nat):gS g F c off 0=g:=by
 funext j;unfold gS;rw [TS (by omega)]
theorem DS (g F:Nat->Nat) (off k:Nat):gS g F 0 off k=g:=by
 funext j;unfold gS;rw [bI,U3];split<;>rfl
def qQ {t:Nat} (h:lY w t c) {a:ZP} (b:t≠a.block) (v:ZS):lY (w.setCell a v) t c:=λj d=>by
 rw [<- h j d];exact Uk (Ud _ _ _ _ b)
def m6 (w:ZT) {ops:Array Oper} {rest:List Oper} {o:Oper} {a:Act} {Q:Exit->Act->ZT->Prop} (h:o.guard=ZX) (x y:ZL) (ho:o.op=.store 321 x y)
 (g c:Nat) (cs old:Array ZS) (m:a.eval x=Z6 (ZW ⟨g,0,ZX⟩)) (n:a.eval y=.agg cs) (f:w.heap[g]?=ZW (Z4 old 321 (0,0))) (hold:old.size=32) (d:cs.size=32) (b:∀ j,j<32->cs[j]?=ZW (tv (rB c) j))
 (hK:∀ w2,lY w2 g c->w.grownBy w2 (ZW g)->wpList ZK ops Q rest (a.put o.dst ZY) w2):wpList ZK ops Q (o::rest) a w:=by
 refine Ww h 321 x y ho g cs m n 321 old f (by rw [Tryz.Sv,d]) (by omega) (pe d b) (hK _ ?_ ?_)
 . intro j l;rw [cell_of_row _ g j cs 321 (0,0) (Vp w g old cs _ _ f)];exact b j l
 . refine ⟨rfl,rfl,rfl,by simp,λk p i=>?_⟩;have:g≠k:=λe=>i (by rw [e]);simp [World.setRow,VC,this]
theorem jl (b t N off n cap l d r c:Nat) (g F:Nat->Nat) (w:ZT) (C:c<256) (A:w.rowIs b t N (tv g)) (O:∀ j,g j<256) (J:∀ j,F j<256) (hn:off+n<=N) (k5:n<=140737488355328)
 (T:∀ i,i<n->w.cell? ⟨l,d+i,ZX⟩=ZW (Z7 .u8 ((F i:Nat):Int))) (k6:l≠b\/d+n<=off\/off+n<=d) :
 ZQ ZK 179 #[Z5 (ZW ⟨b,off,ZX⟩) n cap,Z5 (ZW ⟨l,d,ZX⟩) n r,Z7 .u8 c] w λe w'=>e=Z3 (ZZ #[])/\w'.rowIs b t N (tv (gS g F c off n))/\w.grownBy w' (ZW b):=by
 by_cases H:c=0
 . subst H;go_enter func179,ntmps179;go_wp2;exact Us (v:=ZZ #[]) (by simp [results,results179]) rfl ⟨rfl,by rw [DS];exact A,Ws _ _⟩
 . have kc:((c:Int)==0)=ZU:=(by rw [beq_eq_false_iff_ne];omega);clear H;go_enter func179,ntmps179;go_wp2_with fail;refine (ln c C _).mono ?_;rintro e w1 ⟨cs,rfl,ka,I,p⟩;have k9:=p.size;go_wp2_with (refine m6 _ rfl (Z0 6) (Z0 11) rfl w1.heap.size c cs _ rfl rfl (UC w1 _) rfl ka I ?_;intro w2 M q);have P:b<w.heap.size:=A.lt;have h:w.grownBy w2 ZX:=by
    refine ⟨q.os.trans p.os,q.tape.trans p.tape,q.output.trans p.output,?_,λk E _=>?_⟩
    . have:=q.size;rw [Uh] at this;omega
    . rw [q.block k (by rw [Uh];omega) (by intro e;simp at e;omega),UB _ _ _ (by omega),p.block k E]
   have V:w2.rowIs b t N (tv g):=A.of_block (h.block b P (by simp));have R:∀ i,i<n->w2.cell? ⟨l,d+i,ZX⟩=ZW (Z7 .u8 ((F i:Nat):Int)):=λi D=>by
    have:=T i D;exact h.cell this (by simp)
   have Y:w.grownBy w2 (ZW b):=⟨h.os,h.tape,h.output,h.size,λk E _=>h.block k E (by simp)⟩;have kb:w1.heap.size≠b:=(by omega);clear q h A T I p k9 P;go_loopw [17] (λi wr=>AdR w b t N off n c w1.heap.size l d g F i wr) (λi _=>n-(intOf i).toNat)
   case atStart=>exact ⟨0,T8 _,rfl,by rw [DR];exact V,M,R,Y⟩
   case round=>
    clear M R Y V;obtain ⟨j,Q,rfl,s,u,z,B⟩:=hrel;by_cases k8:j<n
    . have c1:=s.cell (i:=off+j) (by omega);have f1:=s.frozen (off+j);have Z:=z j k8;have G:tv (gS g F c off j) (off+j)=Z7 .u8 ((g (off+j):Nat):Int):=(by unfold tv gS;rw [TS (by omega)]);rw [G] at c1;have W:=lg (g (off+j)) (gm c (F j)) (O _) (bt _ C);have X:=(s.set (off+j) (Z7 .u8 ((g (off+j)^^^gm c (F j):Nat):Int))).congr (λx _=>(DQ g F c off j x).symm);have L:=qQ u (a:=⟨b,off+j,ZX⟩) kb (Z7 .u8 ((g (off+j)^^^gm c (F j):Nat):Int));have U:=eG B (off+j) (Z7 .u8 ((g (off+j)^^^gm c (F j):Nat):Int));have S:∀ i,i<n->(wr.setCell ⟨b,off+j,ZX⟩ (Z7 .u8 ((g (off+j)^^^gm c (F j):Nat):Int))).cell? ⟨l,d+i,ZX⟩=ZW (Z7 .u8 ((F i:Nat):Int)):=λi D=>by
       rw [<- z i D];by_cases k0:l=b
       . exact aaZ _ _ _ _ (by intro e;have h1:off+j=d+i:=Uy Addr.off e;omega)
       . exact Uk (Ud _ _ _ _ k0)
      have K:=J j;have f:=a5 X L S U;have HT:=ak u;generalize F j=y at Z W K f;generalize g (off+j)=x at c1 W f;clear G X L U S s u z B O J;go_wp2;go_region_with ((go_at_call 200;refine (wX w1.heap.size c y C K _ (by exact λj Q=>HT.o j Q)).mono ?_;rintro e w' ⟨rfl,m,rfl⟩));all_goals
       go_wp2;go_roundw
       case rel=>exact ⟨j+1,by omega,by go_num,f.o.1,f.o.2.1,f.o.2.2.1,⟨f.o.2.2.2.os,f.o.2.2.2.tape,f.o.2.2.2.output,f.o.2.2.2.size,f.o.2.2.2.block⟩⟩
       case measure=>simp [intOf];omega
    . have k7:j=n:=(by omega);subst k7;clear u z;go_wp2;go_end0
      exact ⟨rfl,s,B⟩
theorem vH (h ao:Option ZP) (cap a c:Nat) (w:ZT) (n:c<256) :
 ZQ ZK 179 #[.slice h 0 cap,.slice ao 0 a,Z7 .u8 c] w λe w'=>e=Z3 (ZZ #[])/\bW w w':=by
 by_cases d:c=0
 . subst d;go_enter func179,ntmps179;go_wp2;exact Us (v:=ZZ #[]) (by simp [results,results179]) rfl ⟨rfl,TW _ _⟩
 . have p:((c:Int)==0)=ZU:=(by rw [beq_eq_false_iff_ne];omega);clear d;go_enter func179,ntmps179;go_wp2_with fail;refine (ln c n _).mono ?_;rintro e w1 ⟨cs,rfl,m,f,b⟩;have l:=b.size;go_wp2_with (refine m6 _ rfl (Z0 6) (Z0 11) rfl w1.heap.size c cs _ rfl rfl (UC w1 _) rfl m f ?_;intro w2 i g);have j:bW w w2:=by
    refine (b.trans ((TW _ _).alloc l _)).grown g (by rw [Uh];omega) (λk o=>by simp at o;omega)
   clear g i f b;refine VD 1 ?_;rw [Vt];go_wp2;go_end0
   exact ⟨rfl,j⟩
def zn (b ao:Option ZP) (n m cap a c:Nat) (w:ZT) (g:n=0) (f:m=0) (d:c<256) :
 ZQ ZK 179 #[.slice b n cap,.slice ao m a,Z7 .u8 c] w λe w'=>e=Z3 (ZZ #[])/\bW w w':=by
 subst g f;exact vH b ao cap a c w d
def Nd (row:a8) (D:List a8):Nat->Nat->Nat
 | 0,_=>0
 | t+1,k=>Nd row D t k^^^gm (row.getD t 0) ((D.getD t []).getD k 0)
def cH (row:a8) (D:List a8) (n t:Nat):a8:=(YE n).map (Nd row D t)
def ga (row:a8) (D:List a8) (n t:Nat):(cH row D n t).length=n:=by simp [cH]
theorem Bj (row:a8) (D:List a8) (n:Nat):cH row D n 0=YF n 0:=by
 unfold cH;apply Vb
 . simp
 . intro j a b;simp [Nd]
def PK (row:a8) (D:List a8) (a:∀ x∈row,x<256) (t k:Nat):Nd row D t k<256:=by
 induction t with
 | zero=>exact (by decide:(0:Nat)<256)
 | succ t ih=>exact rq ih (bt _ (dm a t))
def pf (row:a8) (D:List a8) (a:∀ x∈row,x<256) (n t:Nat):∀ x∈cH row D n t,x<256:=by
 intro x b;obtain ⟨k,_,rfl⟩:=T9.1 b;exact PK row D a t k
def sY (row:a8) (D:List a8) (n t k:Nat) (a:k<n):(cH row D n t).getD k 0=Nd row D t k:=by simp [cH,a]
def Bk (row:a8) (D:List a8) (n t j:Nat) (a:j<n) :
 tv (gS (λi=>(cH row D n t).getD i 0) (λi=>(D.getD t []).getD i 0) (row.getD t 0) 0 n) j=vb (cH row D n (t+1)) j:=by
 unfold tv vb gS;rw [TT (by omega),sY _ _ _ _ _ a];show Value.int .u8 (((cH row D n t).getD j 0^^^gm (row.getD t 0) ((D.getD t []).getD (j-0) 0):Nat):Int)=_;rw [sY _ _ _ _ _ a,Yp];rfl
def CbR (w:ZT) (row:a8) (D:List a8) (n:Nat) (i:ZS) (wr:ZT):Prop:=
 ∃ t:Nat,t<=row.length/\i=Z7 Z9 t/\aM wr w.heap.size (cH row D n t)/\bW w wr
theorem Bm (vr vd:ZS) (row:a8) (D:List a8) (n:Nat) (w:ZT) (T:Bs w vr row) (hd:Rd w vd D) (hn:n<=4096) (y:∀ i (S:i<D.length),(D[i]).length=n) (r:row.length=D.length) (A:0<D.length) :
 ZQ ZK 204 #[vr,vd] w λe w'=>∃ b,e=Z3 (Z5 (ZW ⟨b,0,ZX⟩) n n)/\w.heap.size<=b/\aM w' b (cH row D n D.length)/\bW w w':=by
 have kc:=T.lt;obtain ⟨ao,cr,rfl,h1,h2,_,M⟩:=T;obtain ⟨rb,h,rfl,kb⟩:=M (by intro e;rw [e] at r;simp at r;omega);rcases hd.cases with ⟨rfl,_⟩|⟨b,off,c,rfl,hl,B⟩
 . simp at A
 obtain ⟨u0,G,kf⟩:=B 0 A;obtain ⟨km,c0,rfl,l1,l2,_,_⟩:=kf;have f:=y 0 A;rw [f] at G;have HR:=ak kb;have HC:=ak B;have J:=ak y;have N:=ak r;clear kb B y r h1 h2 M f l1 l2;rw [VN] at G;go_enter func204,ntmps204;go_wp2_with (at_make;refine cO _ rfl (Z0 11) (Z0 11) rfl _ n rfl rfl rfl (by omega) ?_;intro w1 z O hz;clear hz);rw [<- Bj row D n] at z;clear G;go_loopw [15] (λi wr=>CbR w row D n i wr) (λi _=>row.length-(intOf i).toNat)
 case atStart=>exact ⟨0,T8 _,rfl,z,O⟩
 case round=>
  clear z O;rename ZT=>wo;obtain ⟨t,ht,rfl,d,g⟩:=hrel;have kk:=d.lt;by_cases k9:t<row.length
  . have s:t<D.length:=(by rw [<- N.out];exact k9);have c1:=HR.o t k9;have ko:wo.cell? ⟨rb,h+t,ZX⟩=ZW (Z7 .u8 ((row.getD t 0:Nat):Int)):=(by rw [g.cell (Uf c1)];exact c1);obtain ⟨u,H,kg⟩:=HC.o t s;obtain ⟨fo,L,rfl,q1,q2,q3,I⟩:=kg;have kj:wo.cell? ⟨b,off+t,ZX⟩=ZW (.slice fo (D[t]).length L):=(by rw [g.cell (Uf H)];exact H);rw [J.o t s] at kj;have Z:=dm kc t;have k7:D.getD t []=D[t]:=(by simp [s]);have q:=Bk row D n t;rw [k7] at q;have X:=J.o t s;have k:=ak X;generalize D[t]=l at *;generalize ki:row.getD t 0=x at *;clear c1 H k7 ki X;by_cases f:n=0
    . have P:aM wo w.heap.size (cH row D n (t+1)):=(by rw [f] at d ⊢;exact d);have HN:=ak f;clear q I d f;go_wp2_with fail;refine (zn _ _ _ _ _ _ x _ HN.o HN.o Z).mono ?_;rintro e w2 ⟨rfl,E⟩;have C:=P.below E;have F:=g.trans (E.mono (by omega));clear P E;go_wp2;go_roundw
      case rel=>exact ⟨t+1,by omega,by go_num,C,F⟩
      case measure=>simp [intOf];omega
    . obtain ⟨m,a,rfl,v⟩:=I (by intro e;rw [e] at k;exact f k.o.symm);rw [k.o] at v;have kh:m<w.heap.size:=Uf (v 0 (by omega));have Q:∀ i,i<n->wo.cell? ⟨m,a+i,ZX⟩=ZW (Z7 .u8 ((l.getD i 0:Nat):Int)):=λi S=>by
       rw [g.cell (p:=⟨m,a+i,ZX⟩) kh];exact v i S
      have R:wo.rowIs w.heap.size 5 n (tv (λi=>(cH row D n t).getD i 0)):=by
       have:=d;unfold aM at this;rw [ga] at this;exact this
      have K:=ak q;have HF:=ak Q;have W:=ak R;have k8:=λj=>dm (pf row D kc n t) j;have Y:=λj=>dm q3 j;have V:=ak k8;have U:=ak Y;clear q v Q R d I k8 Y k;go_wp2_with fail;refine (jl w.heap.size 5 n 0 n n m a L x (λi=>(cH row D n t).getD i 0) (λi=>l.getD i 0) wo Z W.out V.out U.out (by omega) (by omega) HF.o (.inl (by omega))).mono ?_;rintro e w2 ⟨rfl,ka,k6⟩;have C:aM w2 w.heap.size (cH row D n (t+1)):=by
       unfold aM;rw [ga];exact ka.congr (λj hj=>K.o j hj)
      have F:=gD g k6 (by omega) lR;clear ka k6 K HF W V U;go_wp2;go_roundw
      case rel=>exact ⟨t+1,by omega,by go_num,C,F⟩
      case measure=>simp [intOf];omega
  . have ke:t=D.length:=(by rw [<- N.out];omega);rw [ke] at d;clear ke;go_wp2;go_ret;exact ⟨w.heap.size,rfl,TU _,d,g⟩
def Bn (D:List a8) (l:a8):Prop:=l.length=(D.getD 0 []).length/\l.length<=4096
def Re (D:List a8):Prop:=∀ i (hi:i<D.length),Bn D D[i]
def EvR (D:List a8) (i:ZS):Prop:=∃ k:Nat,k<=D.length/\i=Z7 Z9 k/\∀ j (hj:j<D.length),j<k->Bn D D[j]
def PL (D:List a8) (w:ZT) (e:ZO) (w':ZT):Prop:=∃ r:Bool,e=Z3 (Z1 r)/\(r=ZV↔Re D)/\w'=w
theorem J3 (v:ZS) (D:List a8) (w:ZT) (E:Rd w v D) (g:0<D.length) :
 ZQ ZK 203 #[v] w λe w'=>PL D w e w':=by
 rcases E.cases with ⟨rfl,_⟩|⟨b,off,c,rfl,hl,l⟩
 . simp at g
 obtain ⟨u0,s,B⟩:=l 0 g;obtain ⟨z,c0,rfl,l1,G,_,_⟩:=B;have q:(D.getD 0 []).length=(D[0]).length:=by simp [g]
 have A:(D[0]).length<=140737488355328:=by omega
 rw [<- q] at s A;rw [VN] at s;have x:=ak l;clear l l1 G q;go_enter func203,ntmps203;go_wp2;go_loop [7] (λi=>EvR D i) (λi=>D.length-(intOf i).toNat)
 case atStart=>exact ⟨0,T8 _,rfl,λj m h=>absurd h (by omega)⟩
 case round=>
  obtain ⟨k,M,rfl,d⟩:=hrel;by_cases r:k<D.length
  . obtain ⟨u,N,C⟩:=x.o k r;obtain ⟨J,I,rfl,n,p,_,_⟩:=C;have L:(D[k]).length<=140737488355328:=(by omega);by_cases a:Bn D D[k]
    . have t1:((((D[k]).length:Nat):Int) != (((D.getD 0 []).length:Nat):Int))=ZU:=(by rw [a.1];simp);have H:¬ (4096:Int)<(((D[k]).length:Nat):Int):=(by have:=a.2;omega);have y:b9 (∀ j (m:j<D.length),j<k+1->Bn D D[j]):=by
       intro j m K;by_cases e:j=k
       . subst e;exact a
       . exact d j m (by omega)
      generalize (D.getD 0 []).length=n0 at *;generalize (D[k]).length=t at *;clear d a n p;go_wp2;go_round
      case rel=>exact ⟨k+1,by omega,by go_num,y.o⟩
      case measure=>simp [intOf];omega
    . have HN:b9 (¬ Re D):=λh=>a (h k r);by_cases f:(D[k]).length=(D.getD 0 []).length
      . have t1:((((D[k]).length:Nat):Int) != (((D.getD 0 []).length:Nat):Int))=ZU:=(by rw [f];simp);have H:(4096:Int)<(((D[k]).length:Nat):Int):=by
         have:¬ (D[k]).length<=4096:=λh=>a ⟨f,h⟩;omega
        generalize (D.getD 0 []).length=n0 at *;generalize (D[k]).length=t at *;clear d a f n p;go_wp2;go_ret;exact ⟨ZU,rfl,⟨λh=>by simp at h,λh=>absurd h HN.o⟩,rfl⟩
      . have t1:((((D[k]).length:Nat):Int) != (((D.getD 0 []).length:Nat):Int))=ZV:=(by rw [bne_iff_ne];omega);generalize (D.getD 0 []).length=n0 at *;generalize (D[k]).length=t at *;clear d a f n p;go_wp2;go_ret;exact ⟨ZU,rfl,⟨λh=>by simp at h,λh=>absurd h HN.o⟩,rfl⟩
  . have HF:b9 (Re D):=λi F=>d i F (by omega);clear d;go_wp2;go_ret;exact ⟨ZV,rfl,⟨λ_=>HF.o,λ_=>rfl⟩,rfl⟩
def dh (D i:Nat):a8:=(YF D 0).set i 1
theorem Bo (D L G i:Nat) (g:D<=12) (d:i<D) (w:ZT) :
 ZQ ZK 157 #[.agg #[Z7 Z9 D,Z7 Z9 L,Z7 Z9 G],Z7 Z9 i] w λe w'=>∃ b,e=Z3 (Z5 (ZW ⟨b,0,ZX⟩) D D)/\w.heap.size<=b/\aM w' b (dh D i)/\bW w w':=by
 go_enter func157,ntmps157;go_wp2_with (at_make;refine cO _ rfl (Z0 7) (Z0 7) rfl D D rfl rfl rfl (by omega) ?_;intro w1 a c f;rw [Uh] at a c f;have h:=a.cell i (by simpa using d);have j:=a.frozen i);go_ret;refine ⟨w.heap.size+1,rfl,by omega,?_,?_⟩
 . exact a.set i 1
 . exact ((bA _ _).trans (c.mono (by omega))).setCell (by simp) _
def dy (D L g:Nat):a8:=(YE D).map λj=>if g*(D/L)<=j/\j<(g+1)*(D/L) then 1 else 0
def eY (D s k:Nat):a8:=(YE D).map λj=>if s<=j/\j<k then 1 else 0
theorem mG (D s:Nat):eY D s s=YF D 0:=by
 unfold eY;apply Vb
 . simp
 . intro i a b;simp
theorem nQ (D s k:Nat) (d:s<=k):(eY D s k).set k 1=eY D s (k+1):=by
 unfold eY;apply Vb
 . simp
 . intro i b c;simp [Wf];by_cases e:k=i
   . subst e;simp;omega
   . simp only [TS e];by_cases a:s<=i/\i<k
     . rw [TT a,TT ⟨a.1,by omega⟩]
     . rw [TS a,TS (by omega)]
def Bp (a:D%L=0) (b:g<L):(g+1)*(D/L)<=D:=by
 have:(g+1)*(D/L)<=L*(D/L):=WU _ b;have:L*(D/L)=D:=Nat.mul_div_cancel' (Nat.dvd_of_mod_eq_zero a);omega
theorem zo (D L G g:Nat) (E:D<=12) (F:1<=L) (H:L<=4) (m:D%L=0) (y:g<L) (w:ZT) :
 ZQ ZK 158 #[.agg #[Z7 Z9 D,Z7 Z9 L,Z7 Z9 G],Z7 Z9 g] w λe w'=>∃ b,e=Z3 (Z5 (ZW ⟨b,0,ZX⟩) D D)/\w.heap.size<=b/\aM w' b (dy D L g)/\bW w w':=by
 have M:=Bp m y;have O:D/L<=D:=VP _ _;have f:dy D L g=eY D (g*(D/L)) ((g+1)*(D/L)):=rfl;have B:wrap64 ((D:Int)/(L:Int))=((D/L:Nat):Int):=by
  rw [<- X3];exact iA (by omega)
 generalize D/L=q at *;have r:g*q<=(g+1)*q:=WU _ (by omega);have l:wrap64 ((g:Int)*(q:Int))=((g*q:Nat):Int):=by
  rw [<- XD];unfold wrap64;omega
 have C:wrap64 (((g:Int)+1)*(q:Int))=(((g+1)*q:Nat):Int):=by
  have:((g:Int)+1)*(q:Int)=(((g+1)*q:Nat):Int):=by push_cast;rfl
  rw [this];unfold wrap64;omega
 generalize g*q=s at *;generalize (g+1)*q=t at *;have HF:=ak f;clear f;go_enter func158,ntmps158;go_wp2_with (at_make;refine cO _ rfl (Z0 9) (Z0 9) rfl D D rfl rfl rfl (by omega) ?_;intro w1 d a A;rw [Uh] at d a A;have z:=a.cell (p:=⟨w.heap.size,0,ZX⟩) (by simp);have x:=a.cell (p:=⟨w.heap.size,1,ZX⟩) (by simp));rw [<- mG D s] at d;go_loopw [7] (λi wr=>∃ k:Nat,s<=k/\k<=t/\i=Z7 Z9 k/\aM wr (w.heap.size+1) (eY D s k)/\bW w wr) (λi _=>t-(intOf i).toNat)
 case atStart=>exact ⟨s,TU _,r,by rw [l],d,(bA _ _).trans (a.mono (by omega))⟩
 case round=>
  obtain ⟨k,u,J,rfl,c,j⟩:=hrel;clear d a z x;by_cases N:k<t
  . have I:=c.cell k (by simp [eY];omega);have K:=c.frozen k;have h:=c.set k 1;rw [nQ _ _ _ u] at h;have n:=j.setCell (p:=⟨w.heap.size+1,k,ZX⟩) (by simp) (Z7 .u8 1);go_wp2;go_roundw
    case rel=>exact ⟨k+1,by omega,by omega,by go_num,h,n⟩
    case measure=>simp [intOf];omega
  . have v:k=t:=(by omega);subst v;go_wp2;go_ret;exact ⟨w.heap.size+1,rfl,by omega,by rw [HF.o];exact c,j⟩
def de (D i:Nat):a8:=(YE D).map λj=>gi ((D+i)^^^j)
def ez (D i k:Nat):a8:=(YE D).map λj=>if j<k then gi ((D+i)^^^j) else 0
theorem lq (D i:Nat):ez D i 0=YF D 0:=by
 unfold ez;apply Vb
 . simp
 . intro j a b;simp
theorem nR (D i:Nat):ez D i D=de D i:=by
 unfold ez de;apply Vb
 . simp
 . intro j a b;simp at a;simp [a]
theorem mH (D i k:Nat):(ez D i k).set k (gi ((D+i)^^^k))=ez D i (k+1):=by
 unfold ez;apply Vb
 . simp
 . intro j b c;simp [Wf];by_cases e:k=j
   . subst e;simp
   . simp only [TS e];by_cases a:j<k
     . rw [TT a,TT (by omega)]
     . rw [TS a,TS (by omega)]
theorem Bq (D i j:Nat) (a:D<=12) (b:i<=4) (c:j<D):(D+i)^^^j<256/\bits .xor .i64 ((D:Int)+(i:Int)) (j:Int)=(((D+i)^^^j:Nat):Int):=by
 refine ⟨rq (by omega) (by omega),?_⟩;have:=zd (D+i) j (by omega) (by omega);rw [<- this];congr 1
theorem vI (D L G i:Nat) (s:D<=12) (t:i<=4) (w:ZT) :
 ZQ ZK 159 #[.agg #[Z7 Z9 D,Z7 Z9 L,Z7 Z9 G],Z7 Z9 i] w λe w'=>∃ b,e=Z3 (Z5 (ZW ⟨b,0,ZX⟩) D D)/\w.heap.size<=b/\aM w' b (de D i)/\bW w w':=by
 go_enter func159,ntmps159;go_wp2_with (at_make;refine cO _ rfl (Z0 8) (Z0 8) rfl D D rfl rfl rfl (by omega) ?_;intro w1 c d u;rw [Uh] at c d u;have f:=d.cell (p:=⟨w.heap.size,0,ZX⟩) (by simp));rw [<- lq D i] at c;simp at f;go_loopw [12] (λj wr=>∃ k:Nat,k<=D/\j=Z7 Z9 k/\aM wr (w.heap.size+1) (ez D i k)/\wr.cell? ⟨w.heap.size,0,ZX⟩=ZW (Z7 Z9 D)/\bW w wr) (λj _=>D-(intOf j).toNat)
 case atStart=>exact ⟨0,T8 _,rfl,c,f,(bA _ _).trans (d.mono (by omega))⟩
 case round=>
  obtain ⟨k,B,rfl,a,q,h⟩:=hrel;clear c d f;by_cases n:k<D
  . have z:=a.cell k (by simp [ez];omega);have A:=a.frozen k;obtain ⟨r,v⟩:=Bq D i k s t n;have g:=a.set k (gi ((D+i)^^^k));rw [mH] at g;have l:=h.setCell (p:=⟨w.heap.size+1,k,ZX⟩) (by simp) (Z7 .u8 (gi ((D+i)^^^k)));have o:(wr.setCell ⟨w.heap.size+1,k,ZX⟩ (Z7 .u8 (gi ((D+i)^^^k)))).cell? ⟨w.heap.size,0,ZX⟩=ZW (Z7 Z9 D):=(by rw [<- q];exact Uk (Ud _ _ _ _ (by simp)));generalize (D+i)^^^k=x at *;have y:(x:Int)<256:=(by omega);go_wp2_with (go_at_call 187;refine (rQ x r _).mono ?_;rintro e w' ⟨rfl,rfl⟩);go_roundw
    case rel=>exact ⟨k+1,by omega,by go_num,g,o,l⟩
    case measure=>simp [intOf];omega
  . have m:k=D:=(by omega);subst m;rw [nR] at a;go_wp2;go_ret;exact ⟨w.heap.size+1,rfl,by omega,a,h⟩
def aT (D L G:Nat):List a8:=(YE D).map (dh D)++(YE L).map (dy D L)++(YE G).map (de D)
def cL (T:List (Nat×Nat×a8)) (D:Nat) (M:List a8):Prop:=T.map (λp=>p.2)=M.map (λr=>(D,r))
def cL.push (h:cL T D M) (b:Nat) (r:a8):cL (T++[(b,D,r)]) D (M++[r]):=by
 unfold cL at *;simp [h]
def cL.length (h:cL T D M):T.length=M.length:=by
 have:=Uy YS h;simpa using this
def Br (D i:Nat):(dh D i).length=D/\∀ x∈dh D i,x<256:=by
 refine ⟨by simp [dh],λx a=>?_⟩;rcases X8 a with h|h
 . have:=Vz h;omega
 . omega
theorem wY (D L g:Nat):(dy D L g).length=D/\∀ x∈dy D L g,x<256:=by
 refine ⟨by simp [dy],λx a=>?_⟩;obtain ⟨j,_,rfl⟩:=T9.1 a;split<;>decide
def sZ (D i:Nat) (c:D<=12) (d:i<=4):(de D i).length=D/\∀ x∈de D i,x<256:=by
 refine ⟨by simp [de],λx b=>?_⟩;obtain ⟨j,a,rfl⟩:=T9.1 b;exact iu (rq (by omega) (by have:=Uu.1 a;omega))
def eu.append {r:a8} {o:Obj} (h:eu w base v T) (g:bW w w1) (k:base<=w.heap.size) (l:w.heap.size<=b) (f:aM w1 b r) (a:r.length=D/\∀ x∈r,x<256) (m:D<=1000000)
 (i:(w1.alloc o).grownBy w2 v.ownBlock) (c:w2.ownsRow base 40 1 v' (T.length+1) (T.map fx++[Z5 (ZW ⟨b,0,ZX⟩) D D])):eu w2 base v' (T++[(b,D,r)]):=by
 have d:=(h.below g).alloc o;refine d.push i (p:=(b,D,r)) ?_ ⟨by show base<=b;omega,f.alloc o,by show D<=r.length;omega,⟨by show D<=140737488355328;omega,by show r.length<=9223372036854775807;omega⟩,a.2⟩ ?_
 . have e:fx (b,D,r)=Z5 (ZW ⟨b,0,ZX⟩) D D:=(by unfold fx;simp [a.1]);rw [e];exact c
 . intro q j;have:=(h.row q j).2.1.lt;show q.1≠b;omega
def cP {wx:ZT} {a b c:ZS} (h:ZR (w.heap.size+1) (w.alloc (Z4 #[a,b,c] t)) wx) :
 wx.cell? ⟨w.heap.size,0,ZX⟩=ZW a/\wx.cell? ⟨w.heap.size,1,ZX⟩=ZW b/\wx.cell? ⟨w.heap.size,2,ZX⟩=ZW c:=by
 have d:=h.cell (p:=⟨w.heap.size,0,ZX⟩) (by simp);have e:=h.cell (p:=⟨w.heap.size,1,ZX⟩) (by simp);have f:=h.cell (p:=⟨w.heap.size,2,ZX⟩) (by simp);rw [World.cell?_alloc_at _ _ _ _ rfl] at d e f;exact ⟨d,e,f⟩
def DT {wa wb:ZT} (c:ZR B w0 wa) (b:B<=wa.heap.size) (a:bW wa wb) (d:wb.grownBy wc ZX):ZR B w0 wc:=
 (c.trans (a.mono b)).grown d (by have:=a.size;omega) (λk e=>by simp at e)
def eu.made (h:wc.ownsRow base 40 1 (Z5 (ZW ⟨g,0,ZX⟩) 0 cap) 0 []):eu wc base (Z5 (ZW ⟨g,0,ZX⟩) 0 cap) []:=
 ⟨h,λp a=>by simp at a,by simp⟩
def cL.nil (D:Nat):cL [] D []:=rfl
def gd (f:Nat->α) (k:Nat):(YE (k+1)).map f=(YE k).map f++[f k]:=by
 rw [Vr,Uv];rfl
theorem jZ (D L G:Nat) (Y:cV D L G=ZV) (E:D<=12) (U:1<=L) (W:L<=4) (X:G<=4) (V:D%L=0) (w:ZT) :
 ZQ ZK 122 #[.agg #[Z7 Z9 D,Z7 Z9 L,Z7 Z9 G]] w λe w'=>∃ v T,e=Z3 (ZZ #[v,.nilIface])/\eu w' (w.heap.size+1) v T/\cL T D (aT D L G)/\bW w w':=by
 obtain ⟨K,F,H,I,J⟩:=Ut Tryz.RV;go_enter func122,ntmps122;go_wp2_with fail;refine (oY D L G _).mono ?_;rintro e wa ⟨rfl,u⟩;try change ZR _ _ _ at u
 rw [Uh] at u;have P:=u.size;try change ZR _ _ _ at P
 rw [Uh] at P;obtain ⟨q,r,s⟩:=cP u;go_wp2_with fail;refine (dw D L G _ (by omega) (by omega) (by omega)).mono ?_;rintro e wb ⟨rfl,M⟩;have Z:=M.size;clear q r s;go_wp2_with (at_make;refine aa6 _ rfl (.const (Z7 Z9 0)) (Z0 13) 108 rfl (w.heap.size+1) 40 K (Z5 ZX 0 0) 1 VL F H I .i64 .i64 (D+L+G) (D+L+G) rfl rfl (by omega) (by rw [J];omega) (by unfold maxLen;omega) (by omega) ?_;intro wc R O;have N:=DT u P M O;obtain ⟨q,r,s⟩:=cP N);have a:=eu.made R;have k6:=O.size;clear R O u M;generalize Value.slice (ZW ⟨wb.heap.size,0,ZX⟩) 0 (D+L+G)=v0 at *;go_loopw [4,17] (λv i wr=>∃ k T,k<=D/\i=Z7 Z9 (k:Nat)/\eu wr (w.heap.size+1) v T/\cL T D ((YE k).map (dh D))/\ZR (w.heap.size+1) (w.alloc (Z4 #[Z7 Z9 D,Z7 Z9 L,Z7 Z9 G] 27)) wr/\w.heap.size+1<=wr.heap.size) (λ_ i _=>D-(intOf i).toNat)
 case atStart=>exact ⟨0,[],T8 _,rfl,a,cL.nil D,N,by omega⟩
 case round=>
  clear a N q r s;obtain ⟨k,T,C,rfl,a,d,f,j⟩:=hrel;obtain ⟨q,r,s⟩:=cP f;by_cases t:k<D
  . have m:=d.length;rw [Ue,Vn] at m;have Q:T.length<=12:=(by omega);clear m;have h:=ak d;clear d;go_wp2_with fail;refine (Bo D L G k E t _).mono ?_;rintro e w1 ⟨b,rfl,y,n,c⟩;have S:=c.size;go_wp2_with (at_builtin;refine WB _ rfl (Z0 20) (Z0 24) 108 rfl (w.heap.size+1) 40 K (Z5 ZX 0 0) 1 24 VL F H I J rfl (by decide) _ T.length (T.map fx) rfl ((a.below c).alloc _).own ⟨w1.heap.size,0,ZX⟩ 1 1 [Z5 (ZW ⟨b,0,ZX⟩) D D] rfl rfl (Yt _ _ _) (by simp [Value.oneCell']) (by unfold maxLen;omega) (by omega) (by rw [Uh];omega) ?_;intro v' w2 l g B);have x:=eu.append a c j y n (Br D k) (by omega) g l;have z:=dP a f c j g;have p:=g.size;try change ZR _ _ _ at p
    rw [Uh] at p;clear a l g B n c f;go_roundw
    case rel=>exact ⟨k+1,_,by omega,by go_num,x,by rw [gd];exact h.o.push b _,z,by omega⟩
    case measure=>simp [intOf];omega
  . have A:D=k:=(by omega);clear t C;subst A;have h:=ak d;clear d;go_wp2_with fail;go_loopw [4,29] (λv i wr=>∃ k T,k<=L/\i=Z7 Z9 (k:Nat)/\eu wr (w.heap.size+1) v T/\cL T D ((YE D).map (dh D)++(YE k).map (dy D L))/\ZR (w.heap.size+1) (w.alloc (Z4 #[Z7 Z9 D,Z7 Z9 L,Z7 Z9 G] 27)) wr/\w.heap.size+1<=wr.heap.size) (λ_ i _=>L-(intOf i).toNat)
    case atStart=>exact ⟨0,T,T8 _,rfl,a,by rw [YP,Wl,Wm];exact h.o,f,j⟩
    case round=>
     clear a f q r s h j;obtain ⟨k,T,C,rfl,a,d,f,j⟩:=hrel;obtain ⟨q,r,s⟩:=cP f;by_cases t:k<L
     . have m:=d.length;simp only [Ua,Ue,Vn] at m;have Q:T.length<=20:=(by omega);clear m;have h:=ak d;clear d;go_wp2_with fail;refine (zo D L G k E U W V t _).mono ?_;rintro e w1 ⟨b,rfl,y,n,c⟩;have S:=c.size;go_wp2_with (at_builtin;refine WB _ rfl (Z0 32) (Z0 36) 108 rfl (w.heap.size+1) 40 K (Z5 ZX 0 0) 1 24 VL F H I J rfl (by decide) _ T.length (T.map fx) rfl ((a.below c).alloc _).own ⟨w1.heap.size,0,ZX⟩ 1 1 [Z5 (ZW ⟨b,0,ZX⟩) D D] rfl rfl (Yt _ _ _) (by simp [Value.oneCell']) (by unfold maxLen;omega) (by omega) (by rw [Uh];omega) ?_;intro v' w2 l g B);have x:=eu.append a c j y n (wY D L k) (by omega) g l;have z:=dP a f c j g;have p:=g.size;try change ZR _ _ _ at p
       rw [Uh] at p;clear a l g B n c f;go_roundw
       case rel=>exact ⟨k+1,_,by omega,by go_num,x,by rw [gd,<- Uz];exact h.o.push b _,z,by omega⟩
       case measure=>simp [intOf];omega
     . have A:L=k:=(by omega);clear t C;subst A;have h:=ak d;clear d;go_wp2_with fail;go_loopw [4,41] (λv i wr=>∃ k T,k<=G/\i=Z7 Z9 (k:Nat)/\eu wr (w.heap.size+1) v T/\cL T D (((YE D).map (dh D)++(YE L).map (dy D L))++(YE k).map (de D))/\ZR (w.heap.size+1) (w.alloc (Z4 #[Z7 Z9 D,Z7 Z9 L,Z7 Z9 G] 27)) wr/\w.heap.size+1<=wr.heap.size) (λ_ i _=>G-(intOf i).toNat)
       case atStart=>exact ⟨0,T,T8 _,rfl,a,by rw [YP,Wl,Wm];exact h.o,f,j⟩
       case round=>
        clear a f q r s h j;obtain ⟨k,T,C,rfl,a,d,f,j⟩:=hrel;obtain ⟨q,r,s⟩:=cP f;by_cases t:k<G
        . have m:=d.length;simp only [Ua,Ue,Vn] at m;have Q:T.length<=20:=(by omega);clear m;have h:=ak d;clear d;go_wp2_with fail;refine (vI D L G k E (by omega) _).mono ?_;rintro e w1 ⟨b,rfl,y,n,c⟩;have S:=c.size;go_wp2_with (at_builtin;refine WB _ rfl (Z0 44) (Z0 48) 108 rfl (w.heap.size+1) 40 K (Z5 ZX 0 0) 1 24 VL F H I J rfl (by decide) _ T.length (T.map fx) rfl ((a.below c).alloc _).own ⟨w1.heap.size,0,ZX⟩ 1 1 [Z5 (ZW ⟨b,0,ZX⟩) D D] rfl rfl (Yt _ _ _) (by simp [Value.oneCell']) (by unfold maxLen;omega) (by omega) (by rw [Uh];omega) ?_;intro v' w2 l g B);have x:=eu.append a c j y n (sZ D k E (by omega)) (by omega) g l;have z:=dP a f c j g;have p:=g.size;try change ZR _ _ _ at p
          rw [Uh] at p;clear a l g B n c f;go_roundw
          case rel=>exact ⟨k+1,_,by omega,by go_num,x,by rw [gd,<- Uz];exact h.o.push b _,z,by omega⟩
          case measure=>simp [intOf];omega
        . have A:G=k:=(by omega);clear t C;subst A;have h:=ak d;clear d;go_wp2;go_ret2;refine ⟨_,T,rfl,a,h.o,?_⟩;exact (bA _ _).trans (f.mono (by omega))
def PM (w0:ZT) (base D N:Nat) (M:Nat->List a8) (v i:ZS) (wr:ZT):Prop:=
 ∃ k T,k<=N/\i=Z7 Z9 (k:Nat)/\eu wr base v T/\cL T D (M k)/\ZR base w0 wr/\base<=wr.heap.size
theorem vJ (D L G:Nat) (hr:cV D L G=ZV) (hD:D<=12) (hL:1<=L) (kr:L<=4) (hG:G<=4) (k7:D%L=0) (w:ZT) :
 ZQ ZK 42 #[.agg #[Z7 Z9 D,Z7 Z9 L,Z7 Z9 G]] w λe w'=>∃ v T,e=Z3 (ZZ #[v,Z7 Z9 0])/\eu w' (w.heap.size+1) v T/\cL T D (aT D L G)/\bW w w':=by
 obtain ⟨Y,Z,ka,kb,kc⟩:=Ut Tryz.RV;have kf:=λg (X:g<L)=>Bp (D:=D) k7 X;have hq:D/L<=D:=VP _ _;have hp:∀ g,dy D L g=eY D (g*(D/L)) ((g+1)*(D/L)):=λ_=>rfl;have e1:wrap64 ((D:Int)/(L:Int))=((D/L:Nat):Int):=by
  rw [<- X3];exact iA (by omega)
 obtain ⟨q,V⟩:∃ q,q=D/L:=⟨_,rfl⟩;rw [<- V] at e1 hq;have HF:b9 (∀ g,dy D L g=eY D (g*q) ((g+1)*q)):=by intro g;rw [V];exact hp g
 have kj:b9 (∀ g,g<L->(g+1)*q<=D):=by intro g X;rw [V];exact kf g X
 clear hp kf V;go_enter func42,ntmps42;go_wp2_with fail;refine (DC D L G _).mono ?_;rintro e wa ⟨rfl,F⟩;try change ZR _ _ _ at F
 rw [Uh] at F;have kh:=F.size;try change ZR _ _ _ at kh
 rw [Uh] at kh;obtain ⟨H,I,J⟩:=cP F;go_wp2_with fail;go_loopw [5,6] (λv i wr=>PM (w.alloc (Z4 #[Z7 Z9 D,Z7 Z9 L,Z7 Z9 G] 70)) (w.heap.size+1) D D (λk=>[]++(YE k).map (dh D)) v i wr) (λ_ i _=>D-(intOf i).toNat)
 case atStart=>exact ⟨0,[],T8 _,rfl,eu.nil _ _,cL.nil D,F,kh⟩
 case round=>
  clear F H I J;rename ZT=>wo;obtain ⟨k,T,N,rfl,b,n,c,h⟩:=hrel;obtain ⟨H,I,J⟩:=cP c;have r:=ak n;have z:=n.length;simp only [Uq,Ue,Vn] at z;have S:T.length<=20:=by omega
  clear z n;by_cases E:k<D
  . go_wp2_with (first
     | (at_make;refine cO _ rfl (Z0 26) (Z0 26) rfl D D rfl rfl rfl (by omega) ?_;intro w1 m hb R;clear R;have hc:=m.cell k (by simpa using E);have hf:=m.frozen k;have A:=m.set k 1;have a:=hb.setCell (p:=⟨wo.heap.size,k,ZX⟩) (by simp) (Z7 .u8 1))
     | (at_builtin;refine WB _ rfl (Z0 31) (Z0 33) 108 rfl (w.heap.size+1) 40 Y (Z5 ZX 0 0) 1 24 VL Z ka kb kc rfl (by decide) _ T.length (T.map fx) rfl ((b.below a).alloc _).own ⟨w1.heap.size,0,ZX⟩ 1 1 [Z5 (ZW ⟨wo.heap.size,0,ZX⟩) D D] rfl rfl (lT _ _ (by simp) _ _) (by simp [Value.oneCell']) (by unfold maxLen;omega) (by omega) (by rw [Uh];have:=a.size;omega)  ?_;intro v' w2 y d Q))
    have O:=eu.append b a h lR A (Br D k) (by omega) d y;have l:=r.o.push wo.heap.size (dh D k);have u:=dP b c a h d;have C:=d.size;have kg:=a.size;try change ZR _ _ _ at C
    rw [Uh] at C;rw [Uz,<- gd] at l;have K:=ak l;clear b y d Q A a c l;go_roundw
    case rel=>exact ⟨k+1,T++[(wo.heap.size,D,dh D k)],by omega,by go_num,O,K.out,u,by omega⟩
    case measure=>simp [intOf];omega
  . have P:D=k:=(by omega);clear E N;subst P;go_wp2_with fail;go_loopw [5,9] (λv i wr=>PM (w.alloc (Z4 #[Z7 Z9 D,Z7 Z9 L,Z7 Z9 G] 70)) (w.heap.size+1) D L (λk=>(YE D).map (dh D)++(YE k).map (dy D L)) v i wr) (λ_ i _=>L-(intOf i).toNat)
    case atStart=>exact ⟨0,T,T8 _,rfl,b,by dsimp only;rw [YP,Wl,Wm];exact r.o,c,h⟩
    case round=>
     clear b c H I J r h S;rename ZT=>wo;obtain ⟨k,T,N,rfl,b,n,c,h⟩:=hrel;obtain ⟨H,I,J⟩:=cP c;have r:=ak n;have z:=n.length;simp only [Ua,Ue,Vn] at z;have S:T.length<=20:=(by omega);clear z n;by_cases E:k<L
     . have ks:=kj.out k E;have ke:=HF.o k;have kk:k*q<=(k+1)*q:=WU _ (by omega);have e2:wrap64 ((k:Int)*(q:Int))=((k*q:Nat):Int):=by
        rw [<- XD];exact iA (by omega)
       have e3:wrap64 (((k:Int)+1)*(q:Int))=(((k+1)*q:Nat):Int):=by
        have:((k:Int)+1)*(q:Int)=(((k+1)*q:Nat):Int):=by push_cast;rfl
        rw [this];exact iA (by omega)
       generalize k*q=s at *;generalize (k+1)*q=t at *;have ki:=ak ke;have E2:=ak e2;have W:=ak e3;clear ke e2 e3;go_wp2_with (at_make;refine cO _ rfl (Z0 47) (Z0 47) rfl D D rfl rfl rfl (by omega) ?_;intro w1 m a R;clear R);rw [<- mG D s] at m;go_loopw [11] (λi wi=>∃ j:Nat,s<=j/\j<=t/\i=Z7 Z9 j/\aM wi wo.heap.size (eY D s j)/\bW wo wi) (λi _=>t-(intOf i).toNat)
       case atStart=>exact ⟨s,TU _,kk,by rw [E2.out],m,a⟩
       case round=>
        clear m a;obtain ⟨j,km,ko,rfl,f,B⟩:=hrel;by_cases U:j<t
        . have ht:(j:Int)<wrap64 (((k:Int)+1)*(q:Int)):=(by rw [W.out];omega);have hc:=f.cell j (by simp [eY];omega);have hf:=f.frozen j;have M:=f.set j 1;rw [nQ _ _ _ km] at M;have u:=B.setCell (p:=⟨wo.heap.size,j,ZX⟩) (by simp) (Z7 .u8 1);go_wp2;go_roundw
          case rel=>exact ⟨j+1,by omega,by omega,by go_num,M,u⟩
          case measure=>simp [intOf];omega
        . have ht:¬ (j:Int)<wrap64 (((k:Int)+1)*(q:Int)):=(by rw [W.out];omega);have k9:t=j:=(by omega);clear U ko W;subst k9;rw [<- ki.out] at f;have A:=f;have a:=B;clear f B;go_wp2_with (at_builtin;refine WB _ rfl (Z0 63) (Z0 65) 108 rfl (w.heap.size+1) 40 Y (Z5 ZX 0 0) 1 24 VL Z ka kb kc rfl (by decide) _ T.length (T.map fx) rfl ((b.below a).alloc _).own ⟨wr.heap.size,0,ZX⟩ 1 1 [Z5 (ZW ⟨wo.heap.size,0,ZX⟩) D D] rfl rfl (lT _ _ (by simp) _ _) (by simp [Value.oneCell']) (by unfold maxLen;omega) (by omega) (by rw [Uh];have:=a.size;omega)  ?_;intro v' w2 y d Q);have O:=eu.append b a h lR A (wY D L k) (by omega) d y;have l:=r.o.push wo.heap.size (dy D L k);have u:=dP b c a h d;have C:=d.size;have kg:=a.size;try change ZR _ _ _ at C
          rw [Uh] at C;rw [Uz,<- gd] at l;have K:=ak l;clear b y d Q A a c l;go_roundw
          case rel=>exact ⟨k+1,T++[(wo.heap.size,D,dy D L k)],by omega,by go_num,O,K.out,u,by omega⟩
          case measure=>simp [intOf];omega
     . have P:L=k:=(by omega);clear E N;subst P;go_wp2_with fail;go_loopw [5,12] (λv i wr=>PM (w.alloc (Z4 #[Z7 Z9 D,Z7 Z9 L,Z7 Z9 G] 70)) (w.heap.size+1) D G (λk=>((YE D).map (dh D)++(YE L).map (dy D L))++(YE k).map (de D)) v i wr) (λ_ i _=>G-(intOf i).toNat)
       case atStart=>exact ⟨0,T,T8 _,rfl,b,by dsimp only;rw [YP,Wl,Wm];exact r.o,c,h⟩
       case round=>
        clear b c H I J r h S;rename ZT=>wo;obtain ⟨k,T,N,rfl,b,n,c,h⟩:=hrel;obtain ⟨H,I,J⟩:=cP c;have r:=ak n;have z:=n.length;simp only [Ua,Ue,Vn] at z;have S:T.length<=20:=(by omega);clear z n;by_cases E:k<G
        . go_wp2_with (at_make;refine cO _ rfl (Z0 74) (Z0 74) rfl D D rfl rfl rfl (by omega) ?_;intro w1 m a R;clear R);rw [<- lq D k] at m;go_loopw [14] (λi wi=>∃ j:Nat,j<=D/\i=Z7 Z9 j/\aM wi wo.heap.size (ez D k j)/\bW wo wi) (λi _=>D-(intOf i).toNat)
          case atStart=>exact ⟨0,T8 _,rfl,m,a⟩
          case round=>
           clear m a;obtain ⟨j,hj,rfl,f,B⟩:=hrel;have k6:=cP (c.trans (B.mono h));obtain ⟨b0,b1,b2⟩:=k6;by_cases U:j<D
           . have hc:=f.cell j (by simp [ez];omega);have hf:=f.frozen j;obtain ⟨kp,kv⟩:=Bq D k j hD (by omega) U;have M:=f.set j (gi ((D+k)^^^j));rw [mH] at M;have u:=B.setCell (p:=⟨wo.heap.size,j,ZX⟩) (by simp) (Z7 .u8 (gi ((D+k)^^^j)));generalize (D+k)^^^j=x at *;go_wp2_with (go_at_call 63;refine (AT x kp _).mono ?_;rintro e w' ⟨rfl,rfl⟩);go_roundw
             case rel=>exact ⟨j+1,by omega,by go_num,M,u⟩
             case measure=>simp [intOf];omega
           . have k9:D=j:=(by omega);clear U hj;subst k9;rw [nR] at f;have A:=f;have a:=B;clear f B;go_wp2_with (at_builtin;refine WB _ rfl (Z0 93) (Z0 95) 108 rfl (w.heap.size+1) 40 Y (Z5 ZX 0 0) 1 24 VL Z ka kb kc rfl (by decide) _ T.length (T.map fx) rfl ((b.below a).alloc _).own ⟨wr.heap.size,0,ZX⟩ 1 1 [Z5 (ZW ⟨wo.heap.size,0,ZX⟩) D D] rfl rfl (lT _ _ (by simp) _ _) (by simp [Value.oneCell']) (by unfold maxLen;omega) (by omega) (by rw [Uh];have:=a.size;omega)  ?_;intro v' w2 y d Q);have O:=eu.append b a h lR A (sZ D k hD (by omega)) (by omega) d y;have l:=r.o.push wo.heap.size (de D k);have u:=dP b c a h d;have C:=d.size;have kg:=a.size;try change ZR _ _ _ at C
             rw [Uh] at C;rw [Uz,<- gd] at l;have K:=ak l;clear b y d Q A a c l;go_roundw
             case rel=>exact ⟨k+1,T++[(wo.heap.size,D,de D k)],by omega,by go_num,O,K.out,u,by omega⟩
             case measure=>simp [intOf];omega
        . have P:G=k:=(by omega);clear E N;subst P;go_wp2;go_ret2;refine ⟨_,rfl,T,b,r.o,?_⟩;exact (bA _ _).trans (c.mono (by omega))
section
open Go.ChangeShapes Go.WideShapes
def Tryz.own:ownKnob ZK.godebug=ZX:=by kernel_rfl
def Tryz.et:ZK.globalNamed "errors.errorType"=ZW 0:=by kernel_rfl
def Tryz.rt:(ZK.cutTypes.find? (λx=>x.1 == "internal/reflectlite.rtype")).map (λx=>x.2)=ZW 157:=by kernel_rfl
def Tryz.oneRow:((YE 379).filter λt=>ZK.rowNamed t [101,114,114,111,114])=[64]:=by kernel_rfl
def Tryz.size:ZK.types.size=379:=by kernel_rfl
def bK (w:ZT):Prop:=w.cell? ⟨0,0,ZX⟩=ZW (.iface 157 (.agg #[Z6 (ZW ⟨3,64,ZX⟩)]))
def td (h:laidMetH ZK [("errors.errorType",Rows.laid_errors_errorType)] W):bK W:=by
 have i:laidMet ZK [] W/\handlesMet ZK [("errors.errorType",Rows.laid_errors_errorType)] W:=h;obtain ⟨name,u,ty,c,d,e,f,a⟩:=i.2 _ (U5.2 rfl);have g:name=[101,114,114,111,114]:=(UM c).symm;subst g;obtain rfl:=UM (Tryz.rt.symm.trans d);have b:ty∈(YE 379).filter λt=>ZK.rowNamed t [101,114,114,111,114]:=Vy.2 ⟨Uu.2 (by rw [<- Tryz.size];exact e),f⟩;rw [Tryz.oneRow] at b;obtain rfl:=U5.1 b;have j:typeHandle ZK 64=Z6 (ZW ⟨3,64,ZX⟩):=by kernel_rfl
 rw [j] at a;unfold bK;simpa using World.var?_cell Tryz.et a 0
end
def fm (M:List a8) (D:List a8) (n:Nat):List a8:=M.map λrow=>cH row D n D.length
def mJ (w:ZT) {ops:Array Oper} {rest:List Oper} {o:Oper} {a:Act} {Q:Exit->Act->ZT->Prop}
 (h:o.guard=ZX) (l c:ZL) (e:o.op=Op.makeSlice 108 l c) (C:Int) (n:Nat) (hl:a.eval l=Z7 Z9 C) (g:a.eval c=Z7 Z9 C) (f:C=(n:Int)) (i:n<=1000000)
 (hK:∀ w',w'.rowIs w.heap.size 40 n (λ_=>Z5 ZX 0 0)->bW w w'->w'.heap.size=w.heap.size+1->wpList ZK ops Q rest (a.put o.dst (Z5 (ZW ⟨w.heap.size,0,ZX⟩) n n)) w') :
 wpList ZK ops Q (o::rest) a w:=by
 refine VT h λK d=>?_;have b:=XT (P:=ZK) 108 40 (Z5 ZX 0 0) 24 VL Tryz.RV rfl .i64 .i64 n (by omega) (by omega) w;subst f;unfold Oper.wp;simp [execOp,e,hl,g,b,Result.andThen];exact d _ _ (hK _ (Xq w _ n _) (bA _ _) (Uh _ _))
def shv (T:List (Nat×Nat×a8)) (i:Nat):ZS:=if i<T.length then fx (T.getD i (0,0,[])) else Z5 ZX 0 0
structure nS (w:ZT) (base g N:Nat) (T:List (Nat×Nat×a8)):Prop where
 tab:w.rowIs g 40 N (shv T)
 row:∀ p∈T,base<=p.1/\aM w p.1 p.2.2/\p.2.1<=p.2.2.length/\(p.2.1<=140737488355328/\p.2.2.length<=9223372036854775807)/\∀ x∈p.2.2,x<256
 nodup:(T.map (λp=>p.1)).Nodup
def nS.below (h:nS w base g N T) (d:bW w w'):nS w' base g N T:=
 ⟨h.tab.of_block (d.block g h.tab.lt),λp e=>by obtain ⟨a,b,c⟩:=h.row p e;exact ⟨a,b.below d,c⟩,h.nodup⟩
theorem nS.push (h:nS w base g N T) (A:base<=b) (s:aM w b l) (B:n<=l.length) (hl:l.length<=140737488355328) (j:∀ x∈l,x<256) (v:∀ p∈T,p.1≠b) :
 nS (w.setCell ⟨g,T.length,ZX⟩ (Z5 (ZW ⟨b,0,ZX⟩) n l.length)) base g N (T++[(b,n,l)]):=by
 have r:∀ c m,aM w c m->c≠g:=by
  intro c m f e;obtain ⟨x,j,_⟩:=f;obtain ⟨y,D,_⟩:=h.tab;rw [e,D] at j;simp at j
 refine ⟨?_,λp d=>?_,?_⟩
 . refine (h.tab.set T.length (Z5 (ZW ⟨b,0,ZX⟩) n l.length)).congr λi E=>?_;unfold shv;by_cases e:i=T.length
   . subst e;simp [fx]
   . rw [TS e];by_cases k:i<T.length
     . rw [TT k,TT (by simp;omega)];simp [Vv k]
     . rw [TS k,TS (by simp;omega)]
 . rcases Ui.1 d with d|d
   . obtain ⟨t,o,u⟩:=h.row p d;exact ⟨t,o.other (r _ _ o) _,u⟩
   . simp at d;subst d;exact ⟨A,s.other (r _ _ s) _,B,⟨by show n<=140737488355328;omega,by show l.length<=9223372036854775807;omega⟩,j⟩
 . rw [Uv,U8];refine ⟨h.nodup,by simp,?_⟩;intro a z c f;obtain ⟨q,C,rfl⟩:=T9.1 z;simp at f;subst f;exact v q C
theorem nS.done (h:nS w base g N T) (d:N=T.length) (f:base<=g) (j:N<=maxLen):eu w base (Z5 (ZW ⟨g,0,ZX⟩) N N) T:=by
 subst d;refine ⟨⟨by simp,.inr ?_⟩,h.row,h.nodup⟩;obtain ⟨c,e,l,k⟩:=h.tab;refine ⟨g,T.length,c,rfl,f,e,TU _,j,by omega,?_⟩;apply Vb
 . simp;omega
 . intro i b a;simp at b a;have:=k i a;rw [VV (by omega)] at this;simp at this;simp [this,shv,a]
def nS.lt (h:nS w base g N T):g<w.heap.size:=h.tab.lt
def EcR (w:ZT) (B g N n:Nat) (M D:List a8) (i:ZS) (wr:ZT):Prop:=
 ∃ k T,k<=N/\i=Z7 Z9 (k:Nat)/\nS wr B g N T/\cL T n (fm (M.take k) D n)/\ZR B w wr/\B<=wr.heap.size
def PN (w:ZT) (n:Nat) (M D:List a8) (x:ZS) (e:ZO) (w':ZT):Prop:=∃ v T,e=Z3 (ZZ #[v,x])/\eu w' w.heap.size v T/\cL T n (fm M D n)/\bW w w'
def cL.at (h:cL T D M) {i:Nat} (a:i<T.length) (b:i<M.length):T[i].2=(D,M[i]):=by
 have:=List.getElem_of_eq h (i:=i) (by simpa using a);simpa using this
def J4 (D L G:Nat):(aT D L G).length=D+L+G:=by simp [aT];omega
def J5 (D L G:Nat) {i:Nat} (b:i<(aT D L G).length):((aT D L G)[i]).length=D:=by
 have a:(aT D L G)[i]∈aT D L G:=T6 b;unfold aT at a;rcases Ui.1 a with a|a
 . rcases Ui.1 a with a|a
   . obtain ⟨j,_,e⟩:=T9.1 a;unfold aT;rw [<- e];simp [dh]
   . obtain ⟨j,_,e⟩:=T9.1 a;unfold aT;rw [<- e];simp [dy]
 . obtain ⟨j,_,e⟩:=T9.1 a;unfold aT;rw [<- e];simp [de]
def GU (M D:List a8) (n k:Nat) (a:k<M.length):fm (M.take (k+1)) D n=fm (M.take k) D n++[cH M[k] D n D.length]:=by
 unfold fm;rw [Yx a,Uv];rfl
theorem DU (D L G:Nat) (hr:cV D L G=ZV) (qd:1<=D) (hD:D<=12) (hL:1<=L) (q0:L<=4) (hG:G<=4) (ka:D%L=0) (vd:ZS) (Dt:List a8) (w:ZT) (V:Rd w vd Dt) (A:Dt.length=D) (q:Re Dt) :
 ZQ ZK 189 #[.agg #[Z7 Z9 D,Z7 Z9 L,Z7 Z9 G],vd] w λe w'=>PN w (Dt.getD 0 []).length (aT D L G) Dt .nilIface e w':=by
 have qf:(((Dt.length:Nat):Int) != (D:Int))=ZU:=by rw [A];simp
 have C:0<Dt.length:=by omega
 obtain ⟨ao,c,rfl,hl,q6⟩:=id V;have q9:(Dt.getD 0 []).length<=4096:=by
  have:=(q 0 C);have Q:=this.2;rw [this.1] at Q;exact Q
 have X:∀ i (h:i<Dt.length),(Dt[i]).length=(Dt.getD 0 []).length:=λi h=>(q i h).1;generalize hn:(Dt.getD 0 []).length=n at *;have hv:=ak X;have HF:=ak q;have hy:=ak A;clear q6 hn X q A;go_enter func189,ntmps189;go_wp2_with fail;refine (jZ D L G hr hD hL q0 hG ka _).mono ?_;rintro e wa ⟨v,T,rfl,s,E,j⟩;try change ZR _ _ _ at s
 try change ZR _ _ _ at j
 rw [Uh] at s j;have qa:=j.size;try change ZR _ _ _ at qa
 rw [Uh] at qa;obtain ⟨p0,p1,p2⟩:=cP j;have m:bW w wa:=(bA _ _).trans (j.mono (by omega));have kk:=V.mono m;go_wp2_with fail;refine (J3 _ Dt _ kk C).mono ?_;rintro e wb ⟨r,rfl,kr,rfl⟩;obtain rfl:r=ZV:=kr.2 HF.o;obtain ⟨mo,hb,rfl,kp⟩:=s.slice;have g:=E.length;rw [J4] at g;obtain ⟨mg,rfl⟩:=kp (by intro e;rw [e] at g;simp at g;omega);have q2:T.length<=20:=by omega
 have qc:=ak g;clear g kp kr;go_wp2_with (at_make;refine mJ _ rfl (Z0 31) (Z0 31) rfl _ T.length rfl rfl rfl (by omega) ?_;intro wc W O hz;clear hz);have kf:nS wc wb.heap.size wb.heap.size T.length []:=⟨W.congr (λi _=>by simp [shv]),λp F=>by simp at F,by simp⟩;have ks:=O.size;generalize hM:aT D L G=M at *;have HM:b9 (∀ i (h:i<M.length),(M[i]).length=D):=by intro i h;subst hM;exact J5 D L G h
 have P:=ak E;have kx:=ak hM;clear W hM E p0 p1 p2;go_loopw [35] (λi wr=>EcR wb wb.heap.size wb.heap.size T.length n M Dt i wr) (λi _=>T.length-(intOf i).toNat)
 case atStart=>exact ⟨0,[],T8 _,rfl,kf,rfl,O,ks⟩
 case round=>
  clear kf O ks;rename ZT=>wo;obtain ⟨k,S,hk,rfl,b,d,f,qb⟩:=hrel;have R:=P.o.length;have u:=d.length;unfold fm at u;rw [Ue,Uo] at u;by_cases z:k<T.length
  . have B:k<M.length:=(by omega);have K:=s.below f;have km:=kk.mono f;have y:=K.Sk z;have a:=K.S3 z;have N:=P.o.at z B;have J:=HM.o k B;obtain ⟨⟨rb,rn,rl⟩,kj⟩:∃ p,p=T[k]:=⟨_,rfl⟩;rw [<- kj] at y a N;simp only [fx,Xm] at y a N;obtain ⟨rfl,rfl⟩:=N;rw [UI (by omega)] at a;rw [J] at y a;have kh:S.length=k:=(by omega);have U:=GU M Dt n k B;have Z:=ak U;have Y:=ak d;have ky:=ak kh;have H:=ak J;clear U d kh J R u kj;go_wp2_with fail;refine (Bm _ _ M[k] Dt n wo (by rw [H.out] at *;exact a) km q9 hv.out (by rw [H.out,hy.out]) C).mono ?_;rintro e w2 ⟨b2,rfl,qe,ke,l⟩;have t:=b.below l;have q5:=t.tab.cell (i:=k) z;have q7:=t.tab.frozen k;have qh:=l.size;have qg:=b.lt;have kg:=t.push (n:=n) (by omega) ke (by rw [ga];omega) (by rw [ga];omega) (pf _ _ (λx hx=>a.lt x hx) _ _) (λp F=>by have:=(b.row p F).2.1.lt;omega);rw [ga,ky.out] at kg;have q3:=(f.trans (l.mono qb)).setCell (p:=⟨wb.heap.size,k,ZX⟩) lR (Z5 (ZW ⟨b2,0,ZX⟩) n n);have I:=Y.out.push b2 (cH M[k] Dt n Dt.length);rw [<- Z.out] at I;have kv:=ak I;generalize shv S k=ov at *;clear b t ke l f a y K km I Z Y H;go_wp2;go_roundw
    case rel=>exact ⟨k+1,_,by omega,by go_num,kg,kv.out,q3,by rw [Yr];omega⟩
    case measure=>simp [intOf];omega
  . have q8:k=T.length:=(by omega);have ko:k=M.length:=(by omega);have kz:cL S n (fm M Dt n):=(by rw [ko,Vu] at d;exact d);have ki:=b.done (by omega) lR (by unfold maxLen;omega);have q4:=m.trans (f.mono m.size);have q1:=ki.weaken (base':=w.heap.size) m.size;clear d b f ki q8 ko R u;go_wp2;go_ret2;exact ⟨_,S,rfl,q1,by rw [kx.out];exact kz,q4⟩
def cW (M:List a8) (lost k:Nat):List a8:=((YE k).filter (λi=>decide (lost/2^i%2=0))).map (λi=>M.getD i [])
def FB (M:List a8) (lost k:Nat) (h:lost/2^k%2=0):cW M lost (k+1)=cW M lost k++[M.getD k []]:=by
 simp [cW,Vr,h]
def Bt (M:List a8) (lost k:Nat) (h:lost/2^k%2≠0):cW M lost (k+1)=cW M lost k:=by
 simp [cW,Vr,h]
def te (M:List a8) (lost k:Nat) (b:k<=M.length):∀ l∈cW M lost k,l∈M:=by
 intro l hl;simp [cW] at hl;obtain ⟨i,⟨a,_⟩,rfl⟩:=hl;rw [Uc (by omega)];exact T6 _
def jB (M:List a8) (lost k:Nat):(cW M lost k).length<=k:=by
 unfold cW;rw [Ue];exact TV (WO _ _) (by simp)
theorem Nf (T:List a8) (v:Nat->Nat):nu T 0 v↔∃ l∈T,v=dJ l:=by
 constructor
 . rintro ⟨i,a,_,rfl⟩;exact ⟨_,T6 a,rfl⟩
 . rintro ⟨l,hl,rfl⟩;obtain ⟨i,a,rfl⟩:=Xu.1 hl;exact ⟨i,a,T8 _,rfl⟩
theorem nT (M:List a8) (lost k:Nat) (v:Nat->Nat):nu (cW M lost k) 0 v↔∃ i,i<k/\lost/2^i%2=0/\v=dJ (M.getD i []):=by
 rw [Nf];constructor
 . rintro ⟨l,hl,rfl⟩;simp only [cW,T9,Vy,Uu,VW] at hl;obtain ⟨i,⟨b,a⟩,rfl⟩:=hl;exact ⟨i,b,a,rfl⟩
 . rintro ⟨i,b,a,rfl⟩;refine ⟨_,?_,rfl⟩;simp only [cW,T9,Vy,Uu,VW];exact ⟨i,⟨b,a⟩,rfl⟩
theorem J6 (D i:Nat) (a:i<D):dJ (dh D i)=gz i:=by
 funext j;unfold dJ dh gz;by_cases e:j=i
 . subst e;simp [a]
 . rw [TS e];simp [Vk e,WC];split<;>rfl
def J7 (D L G i:Nat) (a:i<D):(aT D L G).getD i []=dh D i:=by
 simp [aT,List.getElem?_append,a]
def wZ (M:List a8) (lost less k D:Nat) (d:∀ i,i<k->lost/2^i%2=0->less/2^i%2=0) (h:mu (nu (cW M lost k) 0) 0 D):mu (nu (cW M less k) 0) 0 D:=
 h.mono λr c=>by
  obtain ⟨i,a,b,e⟩:=(nT _ _ _ _).1 c;exact (nT _ _ _ _).2 ⟨i,a,d i a b,e⟩
def GV (M:List a8) (lost k D:Nat) (e:1<=D) (d:∀ i,i<k->lost/2^i%2=1):¬ mu (nu (cW M lost k) 0) 0 D:=by
 intro h;have:=aV.RR (c:=0) (λr b=>by
  obtain ⟨i,a,f,_⟩:=(nT _ _ _ _).1 b;have:=d i a;omega) (h (gz 0) (jT 0) (λj g=>TS (by omega)))
 simp [gz] at this
def FC (lost k:Nat) (hl:lost<18446744073709551616):bits .and .u64 ((lost:Int)/2^k) 1=((lost/2^k%2:Nat):Int):=by
 have c:(lost:Int)/2^k=((lost/2^k:Nat):Int):=by simp
 have h:lost/2^k<18446744073709551616:=WS (VP _ _) hl;have e:=u64_and_nat (lost/2^k) 1 h (by decide);rw [Pc] at e;rw [c];exact e
def Rl (w0 w:ZT) (v:ZS) (K:List a8):Prop:=
 ∃ xs:List ZS,xs.length=K.length/\(∀ i (h:i<xs.length) (h':i<K.length),Bs w0 xs[i] K[i])/\w.ownsRow w0.heap.size 40 1 v xs.length xs/\bW w0 w
def Rl.nil (w:ZT):Rl w w (Z5 ZX 0 0) []:=⟨[],rfl,λi h=>absurd h (by simp),UK _ _ _ _,TW _ _⟩
def Rl.rd (h:Rl w0 w v K) (hl:K.length<=100000):Rd w v K:=by
 obtain ⟨xs,e,f,b,j⟩:=h;rcases b.2 with ⟨d,r⟩|⟨g,cap,cur,a,l,m,n,o,p,q⟩
 . have:K=[]:=UU (by omega);subst this;exact ⟨ZX,0,d,by simp,λh=>absurd rfl h⟩
 . refine ⟨ZW ⟨g,0,ZX⟩,cap,by rw [a,e],by omega,λ_=>⟨g,0,rfl,λi k=>?_⟩⟩;have c:i<xs.length:=(by omega);have:=b.cells (g:=g) (by rw [a];rfl) i xs[i] (by simp [c]);rw [jy] at this;exact ⟨xs[i],by rw [Uj];exact this,(f i c k).mono j⟩
def Rl.push {o:Obj} {xs:List ZS} (b:xs.length=K.length) (j:∀ i (h:i<xs.length) (d:i<K.length),Bs w0 xs[i] K[i])
 (g:w.ownsRow w0.heap.size 40 1 v xs.length xs) (a:bW w0 w) (q:w1=w.alloc o) (p:Bs w0 u l)
 (m:w1.grownBy w2 v.ownBlock) (f:w2.ownsRow w0.heap.size 40 1 v' (xs.length+1) (xs++[u])):Rl w0 w2 v' (K++[l]):=by
 subst q;refine ⟨xs++[u],by simp [b],λi h d=>?_,by simpa using f,(a.alloc a.size o).grown m (by rw [Uh];have:=a.size;omega) λk n=>(g.lt k n).1⟩;by_cases c:i<xs.length
 . rw [XP c,XP (by omega)];exact j i c (by omega)
 . have e:i=xs.length:=(by simp at h;omega);subst e;rw [XO lR,XO (by omega)];simpa [b] using p
def Bs.one (h:Bs w u l):u.oneCell'=ZV:=by
 obtain ⟨ao,c,rfl,_⟩:=h;rfl
def KpR (w:ZT) (M:List a8) (lost:Nat) (v i:ZS) (wr:ZT):Prop:=∃ k:Nat,k<=M.length/\i=Z7 Z9 k/\Rl w wr v (cW M lost k)
theorem J8 (E:ZS) (M:List a8) (lost:Nat) (w:ZT) (A:Rd w E M) (hl:lost<18446744073709551616) (W:M.length<=64) :
 ZQ ZK 124 #[E,Z7 Z8 lost] w λe w'=>∃ v,e=Z3 v/\Rl w w' v (cW M lost M.length):=by
 obtain ⟨U,O,R,S,T⟩:=Ut Tryz.RV;rcases A.cases with ⟨rfl,ao,c,rfl⟩|⟨b,off,c,rfl,_,l⟩
 . go_enter func124,ntmps124;go_wp2;refine VD 1 ?_;rw [Vt];go_wp2;go_ret;exact ⟨_,rfl,Rl.nil _⟩
 . clear A;go_enter func124,ntmps124;go_wp2;go_loopw [5,10] (λv i wr=>KpR w M lost v i wr) (λ_ i _=>M.length-(intOf i).toNat)
   case atStart=>exact ⟨0,T8 _,rfl,Rl.nil _⟩
   case round=>
    rename ZT=>wo;obtain ⟨k,V,rfl,a⟩:=hrel;by_cases C:k<M.length
    . obtain ⟨u,m,j⟩:=l k C;have Q:wo.cell? ⟨b,off+k,ZX⟩=ZW u:=(by rw [a.choose_spec.2.2.2.cell (Uf m)];exact m);obtain ⟨H,I,rfl,_⟩:=id j;have t:=FC lost k hl;have HK:=ak (jB M lost k);have n:=ak j;have x:M.getD k []=M[k]:=(by simp [C]);have J:=ak x;clear l j m x;by_cases d:lost/2^k%2=0
      . rw [d] at t;have K:=ak (FB M lost k d);clear d;obtain ⟨xs,f,B,g,h⟩:=a;have G:=ak B;have N:=ak f;have Y:xs.length<=64:=(by rw [f];exact TV HK.o (by omega));have X:=h.size;clear B f;go_wp2_with (at_builtin;refine WB _ rfl (Z0 20) (Z0 22) 108 rfl w.heap.size 40 U (Z5 ZX 0 0) 1 24 VL O R S T rfl (by decide) _ xs.length xs rfl (aq g (bA _ _)) ⟨wo.heap.size,0,ZX⟩ 1 1 [.slice H (M[k]).length I] rfl rfl (lT _ _ rfl _ _) (by intro q D;simp at D;rw [D];exact n.o.one) (by unfold maxLen;omega) (by omega) (by rw [Uh];omega) ?_;intro v' w2 s p P);have y:=Rl.push N.out G.o g h rfl n.o p s;rw [<- J.out,<- K.out] at y;clear g s p P h Q;go_wp2;go_roundw
        case rel=>exact ⟨k+1,by omega,by go_num,y⟩
        case measure=>simp [intOf];omega
      . have r:lost/2^k%2=1:=(by omega);rw [r] at t;have L:=ak (Bt M lost k d);clear d r;have F:=ak a;clear a;go_wp2;go_roundw
        case rel=>exact ⟨k+1,by omega,by go_num,by rw [L.out];exact F.o⟩
        case measure=>simp [intOf];omega
    . have z:k=M.length:=(by omega);rw [z] at a;clear l z;go_wp2;go_ret;exact ⟨_,rfl,a⟩
def eU (a:Act) (i:Nat) (v:ZS) (h:i<a.tmps.size):(a.put (ZW i) v).eval (.tmp i)=v:=by simp [Act.put,Act.eval,h]
def aA (a:Act) (i j:Nat) (v:ZS) (h:i≠j):(a.put (ZW i) v).eval (.tmp j)=a.eval (.tmp j):=by
 simp [Act.put,Act.eval,Xv,h]
def fH (a:Act) (d:Option Nat) (v:ZS):(a.put d v).tmps.size=a.tmps.size:=by
 cases d<;>simp [Act.put]
def put_comm (a:Act) (i j:Nat) (v u:ZS) (h:i≠j):(a.put (ZW i) v).put (ZW j) u=(a.put (ZW j) u).put (ZW i) v:=by
 simp only [Act.put];rw [abl _ _ h]
def dH {a:Act} (b:o.guard=ZX):Region.wanted o (yielded ops a.tmps)=ZV:=by simp [Region.wanted,b]
def iY {a:Act} {x:ZL} (b:o.guard=ZX) (ho:o.op=.move x) (c:a.eval x=v):Yields P ops o v a:=
 .inl ⟨dH b,λw=>by simp [execOp,ho,c]⟩
def rg:Code->Nat->Option (Array Oper)
 | .region i ops _,n=>if i=n then ZW ops else ZX
 | .seq a b,n=>(rg a n).orElse λ_=>rg b n
 | .cond _ a b,n=>(rg a n).orElse λ_=>rg b n
 | .block _ a,n=>rg a n
 | .loop a,n=>rg a n
 | .scope a,n=>rg a n
 | _,_=>ZX
noncomputable def PO:Array Oper:=((Tryz.f123.body.bind (rg · 12))).getD #[]
def Rf (l:a8):Array Bool:=l.foldl (λa i=>a.setIfInBounds i ZV) (YI 12 ZU)
def gL:(YE 12).map (λi=>(PO[i]?).map λo=>(o.op,o.dst,o.guard))=[
 ZW (.move (Z0 4),ZW 28,ZX),ZW (.move (Z0 6),ZW 29,ZX),ZW (.move (Z0 6),ZW 30,ZX),ZW (.indexAddr 281 (Z0 3) (Z0 30),ZW 31,ZX),
 ZW (.load 113 (Z0 31),ZW 32,ZX),ZW (.move (Z0 4),ZW 33,ZX),ZW (.indexAddr 281 (Z0 3) (Z0 33),ZW 34,ZX),ZW (.load 113 (Z0 34),ZW 35,ZX),
 ZW (.indexAddr 281 (Z0 3) (Z0 28),ZW 36,ZX),ZW (.store 113 (Z0 36) (Z0 32),ZX,ZX),ZW (.indexAddr 281 (Z0 3) (Z0 29),ZW 37,ZX),ZW (.store 113 (Z0 37) (Z0 35),ZX,ZX)]:=by kernel_rfl
def gM {x:Op} {d:Option Nat} (f:i<12) (h:((YE 12).map (λi=>(PO[i]?).map λo=>(o.op,o.dst,o.guard)))[i]?=ZW (ZW (x,d,ZX))):∃ o,PO[i]?=ZW o/\o.op=x/\o.dst=d/\o.guard=ZX:=by
 simp only [UG,WK f,X7,UD,Wq,Xm] at h;obtain ⟨o,a,b,c,e⟩:=h;exact ⟨o,a,b,c,e⟩
theorem nU (gb p:Nat) (e:p<64) {o:Oper} {a:Act} {x y:ZL} (ho:o.op=.indexAddr 281 x y) (b:a.eval x=Z6 (ZW ⟨gb,0,ZX⟩)) (c:a.eval y=Z7 Z9 (p:Nat)) (w:ZT) :
 (execOp a.eval o).run ZK w=.ok (.value (Z6 (ZW ⟨gb,p*64,ZX⟩))) w:=by
 have d:(p:Int)<64:=by omega
 simp only [execOp,ho,b,c];go_simp
def Tryz.S7:(ZK.info? 113).map (λi=>i.size)=ZW 64:=by kernel_rfl
def J9 (a:Act) (gb p r:Nat) (cp cr:List ZS):Act:=
 ((((((((((a.put (ZW 28) (Z7 Z9 (r:Nat))).put (ZW 29) (Z7 Z9 (p:Nat))).put (ZW 30) (Z7 Z9 (p:Nat))).put (ZW 33) (Z7 Z9 (r:Nat))).put (ZW 31) (Z6 (ZW ⟨gb,p*64,ZX⟩))).put (ZW 34) (Z6 (ZW ⟨gb,r*64,ZX⟩))).put (ZW 32) (.agg cp.toArray)).put (ZW 35) (.agg cr.toArray)).put (ZW 36) (Z6 (ZW ⟨gb,r*64,ZX⟩))).put ZX ZY).put (ZW 37) (Z6 (ZW ⟨gb,p*64,ZX⟩)) |>.put ZX ZY
theorem Ka {Q:Exit->Act->ZT->Prop} {a:Act} (gb p r:Nat) (cp e:List ZS) (hR:PO=ops) (g:∀ c n v a w,Q (.panic c) (a.put (ZW n) v) w->Q (.panic c) a w)
 (l:a.tmps.size=47) (Z:p<64) (hr:r<64) (e3:a.eval (Z0 3)=Z6 (ZW ⟨gb,0,ZX⟩)) (T:a.eval (Z0 4)=Z7 Z9 (r:Nat)) (U:a.eval (Z0 6)=Z7 Z9 (p:Nat))
 (lp:cp.length=64) (lr:e.length=64) (op:cp.toArray.all (λv=>v.oneCell')=ZV) (or:e.toArray.all (λv=>v.oneCell')=ZV)
 (X:w.drew.rangeAt gb (p*64) cp) (Y:w.drew.rangeAt gb (r*64) e) (tr:w.drew.there gb (r*64) 64) (tp:w.drew.there gb (p*64) 64)
 (h:Q .normal (J9 a gb p r cp e) ((w.drew.setCells gb (r*64) cp).setCells gb (p*64) e)):(Code.region 12 ops ZV).wp ZK Q a w:=by
 subst hR;obtain ⟨o0,g0,x0,J,k0⟩:=gM (i:=0) (by decide) (by rw [gL];rfl);obtain ⟨o1,g1,x1,d1,k1⟩:=gM (i:=1) (by decide) (by rw [gL];rfl);obtain ⟨o2,g2,x2,L,k2⟩:=gM (i:=2) (by decide) (by rw [gL];rfl);obtain ⟨o3,g3,x3,M,k3⟩:=gM (i:=3) (by decide) (by rw [gL];rfl);obtain ⟨o4,V,x4,N,k4⟩:=gM (i:=4) (by decide) (by rw [gL];rfl);obtain ⟨o5,g5,x5,O,k5⟩:=gM (i:=5) (by decide) (by rw [gL];rfl);obtain ⟨o6,g6,x6,P,k6⟩:=gM (i:=6) (by decide) (by rw [gL];rfl);obtain ⟨o7,W,x7,R,k7⟩:=gM (i:=7) (by decide) (by rw [gL];rfl);obtain ⟨o8,g8,x8,S,k8⟩:=gM (i:=8) (by decide) (by rw [gL];rfl);obtain ⟨o9,g9,x9,d9,k9⟩:=gM (i:=9) (by decide) (by rw [gL];rfl);obtain ⟨h3,x,F,d10,z⟩:=gM (i:=10) (by decide) (by rw [gL];rfl);obtain ⟨h4,y,G,d11,A⟩:=gM (i:=11) (by decide) (by rw [gL];rfl);have f:Region.noSelect PO=ZV:=by kernel_rfl
 have h1:PO.size=12:=by kernel_rfl
 refine wp_region_any (by kernel_rfl) ?_;rw [h1];change wpAny _ _ _ _ _ (Rf []) _ (World.drew _);refine WV g0 f (by kernel_rfl) (by kernel_rfl) (λc a w h=>g c _ _ a w (by rw [J] at h;exact h)) (iY k0 x0 T) ?_;rw [J];refine WV g1 f (by kernel_rfl) (by kernel_rfl) (λc a w h=>g c _ _ a w (by rw [d1] at h;exact h)) (iY (v:=Z7 Z9 (p:Nat)) k1 x1 (by rw [aA _ _ _ _ (by decide)];exact U)) ?_;rw [d1];refine WV g2 f (by kernel_rfl) (by kernel_rfl) (λc a w h=>g c _ _ a w (by rw [L] at h;exact h)) (iY (v:=Z7 Z9 (p:Nat)) k2 x2 (by rw [aA _ _ _ _ (by decide),aA _ _ _ _ (by decide)];exact U)) ?_;rw [L];refine WV g5 f (by kernel_rfl) (by kernel_rfl) (λc a w h=>g c _ _ a w (by rw [O] at h;exact h)) (iY (v:=Z7 Z9 (r:Nat)) k5 x5 (by rw [aA _ _ _ _ (by decide),aA _ _ _ _ (by decide),aA _ _ _ _ (by decide)];exact T)) ?_;rw [O];generalize hb:(((a.put (ZW 28) (Z7 Z9 (r:Nat))).put (ZW 29) (Z7 Z9 (p:Nat))).put (ZW 30) (Z7 Z9 (p:Nat))).put (ZW 33) (Z7 Z9 (r:Nat))=b;have sb:b.tmps.size=47:=by rw [<- hb];simp only [fH,l]
 have b3:b.eval (Z0 3)=Z6 (ZW ⟨gb,0,ZX⟩):=by rw [<- hb];simp only [aA _ _ _ _ (show (33:Nat)≠3 by decide),aA _ _ _ _ (show (30:Nat)≠3 by decide),aA _ _ _ _ (show (29:Nat)≠3 by decide),aA _ _ _ _ (show (28:Nat)≠3 by decide),e3]
 have q:b.eval (Z0 30)=Z7 Z9 (p:Nat):=by rw [<- hb,aA _ _ _ _ (by decide),eU _ _ _ (by simp only [fH,l];decide)]
 have s:b.eval (Z0 33)=Z7 Z9 (r:Nat):=by rw [<- hb,eU _ _ _ (by simp only [fH,l];decide)]
 have m:b.eval (Z0 28)=Z7 Z9 (r:Nat):=by rw [<- hb,aA _ _ _ _ (by decide),aA _ _ _ _ (by decide),aA _ _ _ _ (by decide),eU _ _ _ (by simp only [l];decide)]
 have o:b.eval (Z0 29)=Z7 Z9 (p:Nat):=by rw [<- hb,aA _ _ _ _ (by decide),aA _ _ _ _ (by decide),eU _ _ _ (by simp only [fH,l];decide)]
 unfold J9 at h;rw [hb] at h;clear hb;refine WV g3 f (by kernel_rfl) (by kernel_rfl) (λc a w h=>g c _ _ a w (by rw [M] at h;exact h)) (.inl ⟨dH k3,nU gb p Z x3 b3 q⟩) ?_;rw [M];refine WV g6 f (by kernel_rfl) (by kernel_rfl) (λc a w h=>g c _ _ a w (by rw [P] at h;exact h)) (.inl ⟨dH k6,nU gb r hr x6 (by rw [aA _ _ _ _ (by decide)];exact b3) (by rw [aA _ _ _ _ (by decide)];exact s)⟩) ?_;rw [P];generalize hc:(b.put (ZW 31) (Z6 (ZW ⟨gb,p*64,ZX⟩))).put (ZW 34) (Z6 (ZW ⟨gb,r*64,ZX⟩))=c;have sc:c.tmps.size=47:=by rw [<- hc];simp only [fH,sb]
 have c3:c.eval (Z0 3)=Z6 (ZW ⟨gb,0,ZX⟩):=by rw [<- hc,aA _ _ _ _ (by decide),aA _ _ _ _ (by decide),b3]
 have t:c.eval (Z0 28)=Z7 Z9 (r:Nat):=by rw [<- hc,aA _ _ _ _ (by decide),aA _ _ _ _ (by decide),m]
 have u:c.eval (Z0 29)=Z7 Z9 (p:Nat):=by rw [<- hc,aA _ _ _ _ (by decide),aA _ _ _ _ (by decide),o]
 have j:c.eval (Z0 31)=Z6 (ZW ⟨gb,p*64,ZX⟩):=by rw [<- hc,aA _ _ _ _ (by decide),eU _ _ _ (by rw [sb];decide)]
 have k:c.eval (Z0 34)=Z6 (ZW ⟨gb,r*64,ZX⟩):=by rw [<- hc,eU _ _ _ (by simp only [fH,sb];decide)]
 rw [hc] at h;clear hc;have H:(ZK.info? 113).map (λi=>i.size)=ZW cp.length:=by rw [lp];exact Tryz.S7
 have I:(ZK.info? 113).map (λi=>i.size)=ZW e.length:=by rw [lr];exact Tryz.S7
 have fin:wpAny ZK .any PO Q 4 (Rf [0,1,2,5,3,6,4,7]) ((c.put (ZW 32) (.agg cp.toArray)).put (ZW 35) (.agg e.toArray)) w.drew:=by
  generalize hd:(c.put (ZW 32) (.agg cp.toArray)).put (ZW 35) (.agg e.toArray)=d;have sd:d.tmps.size=47:=by rw [<- hd];simp only [fH,sc]
  have q3:d.eval (Z0 3)=Z6 (ZW ⟨gb,0,ZX⟩):=by rw [<- hd,aA _ _ _ _ (by decide),aA _ _ _ _ (by decide),c3]
  have B:d.eval (Z0 28)=Z7 Z9 (r:Nat):=by rw [<- hd,aA _ _ _ _ (by decide),aA _ _ _ _ (by decide),t]
  have C:d.eval (Z0 29)=Z7 Z9 (p:Nat):=by rw [<- hd,aA _ _ _ _ (by decide),aA _ _ _ _ (by decide),u]
  have D:d.eval (Z0 32)=.agg cp.toArray:=by rw [<- hd,aA _ _ _ _ (by decide),eU _ _ _ (by rw [sc];decide)]
  have E:d.eval (Z0 35)=.agg e.toArray:=by rw [<- hd,eU _ _ _ (by simp only [fH,sc];decide)]
  rw [hd] at h;clear hd;refine WV g8 f (by kernel_rfl) (by kernel_rfl) (λc a w h=>g c _ _ a w (by rw [S] at h;exact h)) (.inl ⟨dH k8,nU gb r hr x8 q3 B⟩) ?_;rw [S];refine X9 (rs:=[9]) (by kernel_rfl) (by simp) ?_;refine XE g9 (λK hK=>?_) Ya;rw [TT (dH k9)];refine wp_store_mid 113 (Z0 36) (Z0 32) x9 gb (r*64) cp.toArray (by rw [eU _ _ _ (by rw [sd];decide)]) (by rw [aA _ _ _ _ (by decide),D]) (by simpa [lp] using tr) (by simpa using H) op ?_;refine hK _ _ ?_;rw [d9];refine WV x f (by kernel_rfl) (by kernel_rfl) (λc a w h=>g c _ _ a w (by rw [d10] at h;exact h)) (.inl ⟨dH z,nU gb p Z F (by show (d.put (ZW 36) _).eval _=_;rw [aA _ _ _ _ (by decide)];exact q3) (by show (d.put (ZW 36) _).eval _=_;rw [aA _ _ _ _ (by decide)];exact C)⟩) ?_;rw [d10];refine X9 (rs:=[11]) (by kernel_rfl) (by simp) ?_;refine XE y (λK hK=>?_) Ya;rw [TT (dH A)];refine wp_store_mid 113 (Z0 37) (Z0 35) G gb (p*64) e.toArray (by rw [eU _ _ _ (by show 37<(d.put (ZW 36) _).tmps.size;rw [fH,sd];decide)]) (by rw [aA _ _ _ _ (by decide)];show (d.put (ZW 36) _).eval _=_;rw [aA _ _ _ _ (by decide),E]) (by simpa [lr] using World.there_setCells tp gb (r*64) cp) (by simpa using I) or ?_;refine hK _ _ ?_;rw [d11];exact wpAny_done (by kernel_rfl) h _
 refine X9 (rs:=[4,7]) (by kernel_rfl) (by simp) ?_;refine XE V (λK hK=>?_) (XE W (λK hK=>?_) Ya)
 . rw [TT (dH k4)];refine aaC 113 (Z0 31) x4 gb (p*64) j cp _ X Yb rfl H ?_;refine hK _ _ ?_;rw [N];refine X9 (rs:=[7]) (by kernel_rfl) (by simp) ?_;refine XE W (λK hK=>?_) Ya;rw [TT (dH k7)];refine aaC 113 (Z0 34) x7 gb (r*64) (by rw [aA _ _ _ _ (by decide)];exact k) e _ Y Yb rfl I ?_;refine hK _ _ ?_;rw [R];exact fin
 . rw [TT (dH k7)];refine aaC 113 (Z0 34) x7 gb (r*64) k e _ Y Yb rfl I ?_;refine hK _ _ ?_;rw [R];refine X9 (rs:=[4]) (by kernel_rfl) (by simp) ?_;refine XE V (λK hK=>?_) Ya;rw [TT (dH k4)];refine aaC 113 (Z0 31) x4 gb (p*64) (by rw [aA _ _ _ _ (by decide)];exact j) cp _ X Yb rfl H ?_;refine hK _ _ ?_;rw [N,put_comm _ _ _ _ _ (by decide)];exact fin
def mid (f:Nat->ZS) (g F:Nat->Nat) (c off k j:Nat):ZS:=if off<=j/\j<off+k then Z7 .u8 ((g j^^^gm c (F (j-off)):Nat):Int) else f j
def AdM (w:ZT) (b t N off k c tb fb foff:Nat) (f:Nat->ZS) (g F:Nat->Nat) (i:ZS) (wr:ZT):Prop:=
 ∃ j:Nat,j<=k/\i=Z7 Z9 j/\wr.rowIs b t N (mid f g F c off j)/\lY wr tb c/\(∀ i,i<k->wr.cell? ⟨fb,foff+i,ZX⟩=ZW (Z7 .u8 ((F i:Nat):Int)))/\w.grownBy wr (ZW b)
def Kb (f:Nat->ZS) (g F:Nat->Nat) (c off j x:Nat):mid f g F c off (j+1) x=if x=off+j then Z7 .u8 ((g (off+j)^^^gm c (F j):Nat):Int) else mid f g F c off j x:=by
 unfold mid;by_cases h:x=off+j
 . subst h;rw [TT rfl,TT (by omega),WR]
 . rw [TS h];by_cases a:off<=x/\x<off+j
   . rw [TT a,TT (by omega)]
   . rw [TS a,TS (by omega)]
theorem Kc (f:Nat->ZS) (g F:Nat->Nat) (c off:Nat):mid f g F c off 0=f:=by
 funext j;unfold mid;rw [TS (by omega)]
theorem Ke {f:Nat->ZS} {g F:Nat->Nat} (a:∀ j,off<=j->j<off+n->f j=Z7 .u8 ((g j:Nat):Int)) (j:Nat):mid f g F 0 off n j=f j:=by
 unfold mid;split
 . rename_i h;rw [bI,U3,a j h.1 h.2]
 . rfl
theorem zq (b t N off n cap p d s c:Nat) (f:Nat->ZS) (g F:Nat->Nat) (w:ZT) (E:c<256) (B:w.rowIs b t N f) (C:∀ j,off<=j->j<off+n->f j=Z7 .u8 ((g j:Nat):Int)) (P:∀ j,g j<256) (L:∀ j,F j<256) (hn:off+n<=N) (k6:n<=140737488355328)
 (V:∀ i,i<n->w.cell? ⟨p,d+i,ZX⟩=ZW (Z7 .u8 ((F i:Nat):Int))) (k7:p≠b\/d+n<=off\/off+n<=d) :
 ZQ ZK 179 #[Z5 (ZW ⟨b,off,ZX⟩) n cap,Z5 (ZW ⟨p,d,ZX⟩) n s,Z7 .u8 c] w λe w'=>e=Z3 (ZZ #[])/\w'.rowIs b t N (mid f g F c off n)/\w.grownBy w' (ZW b):=by
 by_cases J:c=0
 . subst J;go_enter func179,ntmps179;go_wp2;exact Us (v:=ZZ #[]) (by simp [results,results179]) rfl ⟨rfl,B.congr (λj _=>(Ke C j).symm),Ws _ _⟩
 . have ke:((c:Int)==0)=ZU:=(by rw [beq_eq_false_iff_ne];omega);clear J;go_enter func179,ntmps179;go_wp2_with fail;refine (ln c E _).mono ?_;rintro e w1 ⟨cs,rfl,kb,K,q⟩;have ka:=q.size;go_wp2_with (refine m6 _ rfl (Z0 6) (Z0 11) rfl w1.heap.size c cs _ rfl rfl (UC w1 _) rfl kb K ?_;intro w2 Q r);have S:b<w.heap.size:=B.lt;have l:w.grownBy w2 ZX:=by
    refine ⟨r.os.trans q.os,r.tape.trans q.tape,r.output.trans q.output,?_,λk H _=>?_⟩
    . have:=r.size;rw [Uh] at this;omega
    . rw [r.block k (by rw [Uh];omega) (by intro e;simp at e;omega),UB _ _ _ (by omega),q.block k H]
   have Y:w2.rowIs b t N f:=B.of_block (l.block b S (by simp));have T:∀ i,i<n->w2.cell? ⟨p,d+i,ZX⟩=ZW (Z7 .u8 ((F i:Nat):Int)):=λi G=>by
    have:=V i G;exact l.cell this (by simp)
   have k0:w.grownBy w2 (ZW b):=⟨l.os,l.tape,l.output,l.size,λk H _=>l.block k H (by simp)⟩;have kc:w1.heap.size≠b:=(by omega);clear r l B V K q ka S;go_loopw [17] (λi wr=>AdM w b t N off n c w1.heap.size p d f g F i wr) (λi _=>n-(intOf i).toNat)
   case atStart=>exact ⟨0,T8 _,rfl,by rw [Kc];exact Y,Q,T,k0⟩
   case round=>
    clear Q T k0 Y;obtain ⟨j,R,rfl,u,z,A,D⟩:=hrel;by_cases k9:j<n
    . have c1:=u.cell (i:=off+j) (by omega);have f1:=u.frozen (off+j);have c2:=A j k9;have I:mid f g F c off j (off+j)=Z7 .u8 ((g (off+j):Nat):Int):=(by unfold mid;rw [TS (by omega)];exact C _ (by omega) (by omega));rw [I] at c1;have X:=lg (g (off+j)) (gm c (F j)) (P _) (bt _ E);have Z:=(u.set (off+j) (Z7 .u8 ((g (off+j)^^^gm c (F j):Nat):Int))).congr (λx _=>(Kb f g F c off j x).symm);have O:=qQ z (a:=⟨b,off+j,ZX⟩) kc (Z7 .u8 ((g (off+j)^^^gm c (F j):Nat):Int));have W:=eG D (off+j) (Z7 .u8 ((g (off+j)^^^gm c (F j):Nat):Int));have U:∀ i,i<n->(wr.setCell ⟨b,off+j,ZX⟩ (Z7 .u8 ((g (off+j)^^^gm c (F j):Nat):Int))).cell? ⟨p,d+i,ZX⟩=ZW (Z7 .u8 ((F i:Nat):Int)):=λi G=>by
       rw [<- A i G];by_cases k5:p=b
       . exact aaZ _ _ _ _ (by intro e;have h1:off+j=d+i:=Uy Addr.off e;omega)
       . exact Uk (Ud _ _ _ _ k5)
      have M:=L j;have h:=a5 Z O U W;have HT:=ak z;generalize F j=y at c2 X M h;generalize g (off+j)=x at c1 X h;clear I Z O W U u z A D P L C;go_wp2;go_region_with ((go_at_call 200;refine (wX w1.heap.size c y E M _ (by exact λj R=>HT.o j R)).mono ?_;rintro e w' ⟨rfl,m,rfl⟩));all_goals
       go_wp2;go_roundw
       case rel=>exact ⟨j+1,by omega,by go_num,h.o.1,h.o.2.1,h.o.2.2.1,⟨h.o.2.2.2.os,h.o.2.2.2.tape,h.o.2.2.2.output,h.o.2.2.2.size,h.o.2.2.2.block⟩⟩
       case measure=>simp [intOf];omega
    . have k8:j=n:=(by omega);subst k8;clear z A;go_wp2;go_end0
      exact ⟨rfl,u,D⟩
def nr (C:Ck) (k:Nat):ZS:=if k<128 then Z7 .u8 ((C.m (k/16) (k%16):Nat):Int) else if k=128 then Z7 Z9 (C.told:Int) else Z7 Z9 (C.count:Int)
def aF (w:ZT) (b:Nat) (C:Ck):Prop:=w.rowIs b 332 130 (nr C)
structure eA (C:Ck):Prop where
 byt:yS C
 le:C.told<=C.count
 Sa:C.count<=8
def aF.at (h:aF w b C) (r i:Nat) (c:r<8) (a:i<16):w.cell? ⟨b,r*16+i,ZX⟩=ZW (Z7 .u8 ((C.m r i:Nat):Int)):=by
 have:=h.cell (i:=r*16+i) (by omega);rw [this];unfold nr;rw [TT (by omega),show (r*16+i)/16=r by omega,show (r*16+i)%16=i by omega]
def aF.R6 (h:aF w b C):w.cell? ⟨b,128,ZX⟩=ZW (Z7 Z9 (C.told:Int)):=h.cell (i:=128) (by decide)
def aF.So (h:aF w b C):w.cell? ⟨b,129,ZX⟩=ZW (Z7 Z9 (C.count:Int)):=h.cell (i:=129) (by decide)
def aak (C:Ck) (i:Nat) (wo:ZT) (v:ZS) (wr:ZT):Prop:=∃ r:Nat,v=Z7 Z9 r/\C.told<=r/\r<=C.count/\(∀ k,C.told<=k->k<r->C.m k i=0)/\wr=wo
def Rh:Option Nat->ZS
 | some r=>ZZ #[Z7 Z9 (r:Int),Z1 ZV]
 | none=>ZZ #[Z7 Z9 0,Z1 ZU]
theorem xt (b i:Nat) (C:Ck) (w:ZT) (h:aF w b C) (l:eA C) (s:i<16) :
 ZQ ZK 220 #[Z6 (ZW ⟨b,0,ZX⟩),Z7 Z9 i] w λe w'=>e=Z3 (Rh (ei C i))/\w'=w:=by
 have x:=h.R6;have u:=h.So;have n:=l.le;have y:=l.Sa;have z:(i:Int)<16:=by omega
 go_enter func220,ntmps220;go_wp2;go_loopw [6] (λv wr=>aak C i w v wr) (λv _=>C.count-(intOf v).toNat)
 case atStart=>exact ⟨C.told,rfl,TU _,n,λk a b=>absurd b (by omega),rfl⟩
 case round=>
  obtain ⟨r,rfl,t,D,f,rfl⟩:=hrel;by_cases q:r<C.count
  . have c1:=h.at r i (by omega) s;have j:=ak f;clear f;have p:(r:Int)<C.count:=(by omega);have B:(r:Int)<8:=(by omega);by_cases d:C.m r i=0
    . rw [d] at c1;go_wp2;go_roundw
      case rel=>exact ⟨r+1,by go_num,by omega,by omega,λk a b=>by
       by_cases e:k=r
       . rw [e];exact d
       . exact j.o k a (by omega),rfl⟩
      case measure=>simp [intOf];omega
    . have A:((C.m r i:Nat):Int)≠0:=(by omega);have c:=vz t q d j.o;have g:=ak c;clear c d;go_wp2;refine Us (v:=ZZ #[Z7 Z9 (r:Int),Z1 ZV]) (by simp [results,results220]) rfl ?_;rw [g.o];exact ⟨rfl,rfl⟩
  . have p:¬ (r:Int)<C.count:=(by omega);have c:=vA (C:=C) (i:=i) (λk a b=>f k a (by omega));have g:=ak c;clear c f;go_wp2;refine Us (v:=ZZ #[Z7 Z9 0,Z1 ZU]) (by simp [results,results220]) rfl ?_;rw [g.o];exact ⟨rfl,rfl⟩
def RdR (C:Ck) (i:Nat) (wo:ZT) (v:ZS) (wr:ZT):Prop:=∃ r:Nat,v=Z7 Z9 r/\r<=C.told/\(∀ k,k<r->C.m k i=0)/\wr=wo
theorem xu (b i:Nat) (C:Ck) (w:ZT) (j:aF w b C) (l:eA C) (s:i<16) :
 ZQ ZK 224 #[Z6 (ZW ⟨b,0,ZX⟩),Z7 Z9 i] w λe w'=>e=Z3 (Z1 (cF C i))/\w'=w:=by
 have t:=j.R6;have u:=l.le;have x:=l.Sa;have y:(i:Int)<16:=by omega
 go_enter func224,ntmps224;go_wp2;go_loopw [10] (λv wr=>RdR C i w v wr) (λv _=>C.told-(intOf v).toNat)
 case atStart=>exact ⟨0,rfl,T8 _,λk h=>absurd h (by omega),rfl⟩
 case round=>
  obtain ⟨r,rfl,B,f,rfl⟩:=hrel;by_cases q:r<C.told
  . have c1:=j.at r i (by omega) s;have n:=ak f;clear f;have p:(r:Int)<C.told:=(by omega);have A:(r:Int)<8:=(by omega);by_cases d:C.m r i=0
    . rw [d] at c1;go_wp2;go_roundw
      case rel=>exact ⟨r+1,by go_num,by omega,λk b=>by
       by_cases e:k=r
       . rw [e];exact d
       . exact n.o k (by omega),rfl⟩
      case measure=>simp [intOf];omega
    . have z:((C.m r i:Nat):Int)≠0:=(by omega);have c:=qE q d;have g:=ak c;clear c d;go_wp2;go_ret;rw [g.o];exact ⟨rfl,rfl⟩
  . have p:¬ (r:Int)<C.told:=(by omega);have c:=(gV (C:=C) (i:=i)).2 (λk a=>f k (by omega));have g:=ak c;clear c f;go_wp2;go_ret;rw [g.o];exact ⟨rfl,rfl⟩
def kY (C:Ck) (k r i:Nat):Ck:=⟨cT C.m k r i,C.told,C.count⟩
theorem GW (m:Nat->Nat->Nat) (r i:Nat):cT m 0 r i=m:=by funext k j;unfold cT;rw [TS (by omega)]
def GX (m:Nat->Nat->Nat) (k r i:Nat):cT m k r i r=m r:=nz (by omega)
def xw (m:Nat->Nat->Nat) (k r i:Nat):cT m k r i k=m k:=nz (by omega)
theorem GY (m:Nat->Nat->Nat) (r i:Nat):cT m (r+1) r i=cT m r r i:=by
 funext k j;unfold cT;by_cases h:k<r/\k≠r
 . rw [TT h,TT (by omega)]
 . rw [TS h,TS (by omega)]
def Kf (C:Ck) (k r i:Nat) (e:k≠r) (f:k<8) (x:Nat) :
 mid (nr (kY C k r i)) (λx=>cT C.m k r i (x/16) (x%16)) (λj=>C.m r j) (gm (C.m k i) (gi (C.m r i))) (k*16) 16 x=nr (kY C (k+1) r i) x:=by
 unfold mid;by_cases h:k*16<=x/\x<k*16+16
 . rw [TT h];have c:x/16=k:=(by omega);have d:x-k*16=x%16:=(by omega);unfold nr;rw [TT (by omega)];show Value.int .u8 ((cT C.m k r i (x/16) (x%16)^^^gm _ (C.m r (x-k*16)):Nat):Int)=Z7 .u8 ((cT C.m (k+1) r i (x/16) (x%16):Nat):Int);rw [c,d,xw];have:cT C.m (k+1) r i k (x%16)=C.m k (x%16)^^^gm (gm (C.m k i) (gi (C.m r i))) (C.m r (x%16)):=by unfold cT;rw [TT ⟨by omega,e⟩]
   rw [this]
 . rw [TS h];unfold nr;by_cases a:x<128
   . rw [TT a,TT a];have:cT C.m k r i (x/16) (x%16)=cT C.m (k+1) r i (x/16) (x%16):=by
      unfold cT;by_cases b:x/16<k/\x/16≠r
      . rw [TT b,TT (by omega)]
      . rw [TS b,TS (by omega)]
     show Value.int .u8 ((cT C.m k r i (x/16) (x%16):Nat):Int)=Z7 .u8 ((cT C.m (k+1) r i (x/16) (x%16):Nat):Int);rw [this]
   . rw [TS a,TS a];rfl
def OfR (w:ZT) (b r i:Nat) (C:Ck) (v:ZS) (wr:ZT):Prop:=
 ∃ k:Nat,v=Z7 Z9 k/\k<=C.count/\aF wr b (kY C k r i)/\w.grownBy wr (ZW b)
theorem ph (w:ZT) (b o:Nat):(Instr.sliceAt 287 (Z6 (ZW ⟨b,o,ZX⟩)) ZX ZX ZX).run ZK w=.ok (Z5 (ZW ⟨b,o,ZX⟩) 16 16) w:=by
 go_simp
theorem xA (b r i:Nat) (C:Ck) (w:ZT) (f:aF w b C) (d:eA C) (y:r<8) (u:i<16) :
 ZQ ZK 222 #[Z6 (ZW ⟨b,0,ZX⟩),Z7 Z9 r,Z7 Z9 i] w λe w'=>e=Z3 (ZZ #[])/\aF w' b (kY C C.count r i)/\w.grownBy w' (ZW b):=by
 have B:=f.So;have c0:=f.at r i y u;have E:=d.Sa;have A:=d.byt r i;have V:(i:Int)<16:=by omega
 have Y:(r:Int)<8:=by omega
 have l:=ak (show aF w b (kY C 0 r i) by unfold kY;rw [GW];exact f);clear f;go_enter func222,ntmps222;go_wp2_with fail;refine (rQ (C.m r i) A _).mono ?_;rintro e w1 ⟨rfl,R⟩;have S:=R.symm;subst S;go_wp2;go_loopw [21] (λv wr=>OfR w b r i C v wr) (λv _=>C.count-(intOf v).toNat)
 case atStart=>exact ⟨0,rfl,T8 _,l.o,Ws _ _⟩
 case round=>
  clear B c0 l;rename ZT=>wo;obtain ⟨k,rfl,U,a,g⟩:=hrel;by_cases X:k<C.count
  . have G:(k:Int)<C.count:=(by omega);by_cases h:k=r
    . have F:(k:Int)=(r:Int):=(by omega);have HN:b9 (aF wo b (kY C (k+1) r i)):=ak (by unfold kY at *;rw [h] at a ⊢;rw [GY];exact a);clear h a;go_wp2;go_roundw
      case rel=>exact ⟨k+1,by go_num,by omega,HN.o,g⟩
      case measure=>simp [intOf];omega
    . have F:(k:Int)≠(r:Int):=(by omega);have W:(k:Int)<8:=(by omega);have c1:=a.at k i (by omega) u;have n:(kY C k r i).m k i=C.m k i:=(by show cT C.m k r i k i=_;rw [xw]);rw [n] at c1;have z:=d.byt k i;have p:∀ j,j<16->wo.cell? ⟨b,r*16+j,ZX⟩=ZW (Z7 .u8 ((C.m r j:Nat):Int)):=λj K=>by
       have:=a.at r j y K;have D:(kY C k r i).m r j=C.m r j:=(by show cT C.m k r i r j=_;rw [GX]);rwa [D] at this
      have O:gm (C.m k i) (gi (C.m r i))<256:=bt _ z;have t:=Kf C k r i h (by omega);have N:∀ x,cT C.m k r i (x/16) (x%16)<256:=λx=>nA d.byt _ _;have J:=ak p;have M:=ak t;have L:=ak a;clear p t n a;have H:=λw=>ph w b (k*16);have I:=λw=>ph w b (r*16);go_wp2;go_region_with (first
       | (go_at_call 188;refine (lS (C.m k i) (gi (C.m r i)) z (iu A) _).mono ?_;rintro e w' ⟨rfl,rfl⟩)
       | (go_at_call 179;refine (zq b 332 130 (k*16) 16 16 b (r*16) 16 (gm (C.m k i) (gi (C.m r i))) (nr (kY C k r i)) (λx=>cT C.m k r i (x/16) (x%16)) (λj=>C.m r j) _ O (by exact L.out) (λj T E=>by unfold nr;rw [TT (by omega)];rfl) N (λj=>d.byt r j) (by omega) (by omega) (by exact J.out) (.inr (by omega))).mono ?_;rintro e w' ⟨rfl,s,c⟩))
      all_goals
       have Q:aF w' b (kY C (k+1) r i):=s.congr (λx _=>M.out x);have P:w.grownBy w' (ZW b):=gC g ⟨c.os,c.tape,c.output,c.size,c.block⟩;clear s c H I;go_wp2;go_roundw
       case rel=>exact ⟨k+1,by go_num,by omega,Q,P⟩
       case measure=>simp [intOf];omega
  . have q:k=C.count:=(by omega);rw [q] at a;have G:¬ (k:Int)<C.count:=(by omega);clear q;go_wp2;go_end0
    exact ⟨rfl,a,g⟩
def pj (m:Nat->Nat->Nat) (r i j:Nat):Nat->Nat->Nat:=λk x=>if k=r/\x<j then gm (m r x) (gi (m r i)) else m k x
def OJ (C:Ck) (r i j:Nat):Ck:=⟨pj C.m r i j,C.told,C.count⟩
theorem GZ (m:Nat->Nat->Nat) (r i:Nat):pj m r i 0=m:=by funext k x;unfold pj;rw [TS (by omega)]
def Ng (C:Ck) (r i j:Nat) (d:r<8) (c:j<16) (x:Nat):nr (OJ C r i (j+1)) x=if x=r*16+j then Z7 .u8 ((gm (C.m r j) (gi (C.m r i)):Nat):Int) else nr (OJ C r i j) x:=by
 unfold nr;by_cases h:x=r*16+j
 . rw [TT h,TT (by omega)];show Value.int .u8 ((pj C.m r i (j+1) (x/16) (x%16):Nat):Int)=_;unfold pj;rw [TT (by omega),show x%16=j by omega]
 . rw [TS h];by_cases a:x<128
   . rw [TT a,TT a];have:pj C.m r i (j+1) (x/16) (x%16)=pj C.m r i j (x/16) (x%16):=by
      unfold pj;by_cases b:x/16=r/\x%16<j
      . rw [TT b,TT (by omega)]
      . rw [TS b,TS (by omega)]
     show Value.int .u8 ((pj C.m r i (j+1) (x/16) (x%16):Nat):Int)=Z7 .u8 ((pj C.m r i j (x/16) (x%16):Nat):Int);rw [this]
   . rw [TS a,TS a];rfl
def PP (C:Ck) (r i x:Nat):nr (OJ C r i 16) x=nr ⟨eH C.m r i,C.told,C.count⟩ x:=by
 unfold nr;by_cases a:x<128
 . rw [TT a,TT a];have:pj C.m r i 16 (x/16) (x%16)=eH C.m r i (x/16) (x%16):=by
    unfold pj eH;by_cases b:x/16=r
    . rw [TT b,TT (by omega)]
    . rw [TS b,TS (by omega)]
   show Value.int .u8 ((pj C.m r i 16 (x/16) (x%16):Nat):Int)=Z7 .u8 ((eH C.m r i (x/16) (x%16):Nat):Int);rw [this]
 . rw [TS a,TS a];rfl
theorem G0 (cs:List ZS) (k:Nat) (v:ZS) (a:k<16) (b:cs[k]?=ZW v) (w:ZT):(Instr.index 287 (.agg cs.toArray) (Z7 Z9 (k:Int))).run ZK w=.ok v w:=by
 simp [Instr.index,UL X6,asIntOf,go_sem,part];rw [TT a,b];rfl
def fI (f:Nat->Nat):List ZS:=(YE 16).map (λj=>Value.int .u8 ((f j:Nat):Int))
def jC (f:Nat->Nat):(fI f).length=16:=by unfold fI;rw [Ue,Vn]
def rV (f:Nat->Nat) (j:Nat) (a:j<16):(fI f)[j]?=ZW (Z7 .u8 ((f j:Nat):Int)):=by
 unfold fI;rw [UG,WK a];rfl
def tf (h:aF w b C) (r:Nat) (d:r<8):w.rangeAt b (r*16) (fI (C.m r)):=λj v a=>by
 have c:j<16:=by
  have:=(U9.1 a).1;rwa [jC] at this
 rw [rV _ _ c] at a;rw [<- a];exact h.at r j d c
def Tryz.Si (f:Nat->Nat):(ZK.info? 287).map (λi=>i.size)=ZW (fI f).length:=by rw [jC];exact Tryz.SB
def ScR (w:ZT) (b r i:Nat) (C:Ck) (v:ZS) (wr:ZT):Prop:=
 ∃ k:Nat,v=Z7 Z9 k/\k<=16/\aF wr b (OJ C r i k)/\w.grownBy wr (ZW b)
theorem Bu (b r i:Nat) (C:Ck) (w:ZT) (f:aF w b C) (u:eA C) (g:r<8) (G:i<16) :
 ZQ ZK 221 #[Z6 (ZW ⟨b,0,ZX⟩),Z7 Z9 r,Z7 Z9 i] w λe w'=>e=Z3 (ZZ #[])/\aF w' b ⟨eH C.m r i,C.told,C.count⟩/\w.grownBy w' (ZW b):=by
 have c0:=f.at r i g G;have y:=u.byt r i;have L:(i:Int)<16:=by omega
 have M:(r:Int)<8:=by omega
 have l:=ak (show aF w b (OJ C r i 0) by unfold OJ;rw [GZ];exact f);have n:=ak (tf f r g);have A:b9 (∀ j,j<16->(fI (C.m r))[j]?=ZW (Z7 .u8 ((C.m r j:Nat):Int))):=ak (rV (C.m r));have J:=ak (jC (C.m r));have B:=ak (Tryz.Si (C.m r));generalize fI (C.m r)=cs at *;clear f;go_enter func221,ntmps221;go_wp2_with fail;refine (rQ (C.m r i) y _).mono ?_;rintro e w1 ⟨rfl,H⟩;have F:=H.symm;subst F;go_wp2_with (refine aaU rfl 287 (Z0 22) rfl b (r*16) rfl cs _ n.o X6 rfl B.o ?_);go_loopw [24] (λv wr=>ScR w b r i C v wr) (λv _=>16-(intOf v).toNat)
 case atStart=>exact ⟨0,rfl,T8 _,l.o,Ws _ _⟩
 case round=>
  clear c0 l n;rename ZT=>wo;obtain ⟨k,rfl,N,c,h⟩:=hrel;by_cases d:k<16
  . have E:(k:Int)<16:=(by omega);have t:=A.o k d;have c1:=c.at r k g d;have K:=c.frozen (r*16+k);have I:=u.byt r k;have s:aF (wo.setCell ⟨b,r*16+k,ZX⟩ (Z7 .u8 ((gm (C.m r k) (gi (C.m r i)):Nat):Int))) b (OJ C r i (k+1)):=
     (c.set (r*16+k) (Z7 .u8 ((gm (C.m r k) (gi (C.m r i)):Nat):Int))).congr (λx _=>(Ng C r i k g d x).symm)
    have p:=eG h (r*16+k) (Z7 .u8 ((gm (C.m r k) (gi (C.m r i)):Nat):Int));have a:=al s p;clear s p c h;generalize (OJ C r i k).m r k=z at c1;have D:=G0 cs k _ d t;clear t;go_wp2;go_region_with ((go_at_call 188;refine (lS (C.m r k) (gi (C.m r i)) I (iu y) _).mono ?_;rintro e w' ⟨rfl,rfl⟩));all_goals
     clear D;go_wp2;go_roundw
     case rel=>exact ⟨k+1,by go_num,by omega,a.o.1,⟨a.o.2.os,a.o.2.tape,a.o.2.output,a.o.2.size,a.o.2.block⟩⟩
     case measure=>simp [intOf];omega
  . have q:k=16:=(by omega);rw [q] at c;have E:¬ (k:Int)<16:=(by omega);clear q;go_wp2;go_end0
    exact ⟨rfl,c.congr (λx _=>PP C r i x),h⟩
theorem qR {t:Nat}:∀ (a:List ZS) (o:Nat) (w:ZT) (f:Nat->ZS),w.rowIs b t n f->(w.setCells b o a).rowIs b t n (λx=>if o<=x/\x<o+a.length then a.getD (x-o) ZY else f x)
 | [],o,w,f,h=>h.congr (λi _=>by rw [TS (by simp)])
 | v::a,o,w,f,h=>(qR a (o+1) _ _ (h.set o v)).congr (λi _=>by
  by_cases c:i=o
  . subst c;rw [TS (by omega),TT rfl,TT (by simp)];simp
  . by_cases d:o+1<=i/\i<o+1+a.length
    . rw [TT d,TT (by simp;omega),show i-o=(i-(o+1))+1 by omega];simp
    . rw [TS d,TS c,TS (by simp;omega)])
def nV:∀ (a:List ZS) (o:Nat) (w w':ZT),w.grownBy w' (ZW b)->w.grownBy (w'.setCells b o a) (ZW b)
 | [],_,_,_,h=>h
 | v::a,o,w,_,h=>nV a (o+1) w _ (eG h o v)
def rC (m:Nat->Nat->Nat) (q:Nat) (f:Nat->Nat):Nat->Nat->Nat:=λk=>if k=q then f else m k
theorem rW (h:aF w b C) (q:Nat) (d:q<8) (f:Nat->Nat):aF (w.setCells b (q*16) (fI f)) b ⟨rC C.m q f,C.told,C.count⟩:=by
 refine (qR (fI f) (q*16) w (nr C) h).congr (λx _=>?_);rw [jC];unfold nr;by_cases c:q*16<=x/\x<q*16+16
 . rw [TT c,TT (by omega)];show (fI f).getD (x-q*16) ZY=Z7 .u8 ((rC C.m q f (x/16) (x%16):Nat):Int);have e:x/16=q:=(by omega);unfold rC;rw [TT e,Ub,rV _ _ (by omega),show x-q*16=x%16 by omega];rfl
 . rw [TS c];by_cases a:x<128
   . rw [TT a,TT a];show _=Value.int .u8 ((rC C.m q f (x/16) (x%16):Nat):Int);unfold rC;rw [TS (by omega)]
   . rw [TS a,TS a]
def Kg (f:Nat->Nat):(fI f).toArray.all (λv=>v.oneCell')=ZV:=by
 rw [X5];intro i a;have b:i<16:=by simpa [jC] using a
 have:=rV f i b;have e:(fI f).toArray[i]?=ZW (Z7 .u8 ((f i:Nat):Int)):=by simpa using this
 rw [VV a] at e;simp only [UD] at e;rw [e];rfl
def tg (h:aF w b C) (q:Nat) (c:q<8):w.there b (q*16) 16:=λj a=>⟨by rw [h.at q j c a];rfl,h.frozen _⟩
def rX (h:aF w b C) (q:Nat) (a:q<8):(Instr.loadAt 287 (Z6 (ZW ⟨b,q*16,ZX⟩))).run ZK w=.ok (.agg (fI (C.m q)).toArray) w:=
 aaA w b (q*16) 287 (fI (C.m q)) _ (tf h q a) X6 rfl (Tryz.Si _)
theorem xB (h:aF w b C) (n:Nat):aF (w.setCell ⟨b,129,ZX⟩ (Z7 Z9 (n:Int))) b ⟨C.m,C.told,n⟩:=
 (h.set 129 (Z7 Z9 (n:Int))).congr (λx d=>by
  unfold nr;by_cases e:x=129
  . subst e;rw [TT rfl,TS (by decide),TS (by decide)]
  . rw [TS e];by_cases a:x<128
    . rw [TT a,TT a]
    . rw [TS a,TS a];by_cases c:x=128
      . rw [TT c,TT c]
      . omega)
theorem Kh (h:aF w b C) (n:Nat):aF (w.setCell ⟨b,128,ZX⟩ (Z7 Z9 (n:Int))) b ⟨C.m,n,C.count⟩:=
 (h.set 128 (Z7 Z9 (n:Int))).congr (λx c=>by
  unfold nr;by_cases e:x=128
  . subst e;rw [TT rfl,TS (by decide),TT rfl]
  . rw [TS e];by_cases a:x<128
    . rw [TT a,TT a]
    . rw [TS a,TS a,TS e,TS e])
structure St where
 k:Nat
 a:Int
 b:Int
 c:Nat
def G2 (kk:IntKind) (s:St):List ZS:=[.int kk s.k,Z7 Z9 s.a,Z7 Z9 s.b,Z7 .u8 s.c]
def zt (s:St):Prop:=s.k<256/\-9223372036854775808<=s.a/\s.a<=9223372036854775807/\-9223372036854775808<=s.b/\s.b<=9223372036854775807/\s.c<256
def Ps (kk:IntKind) (w:ZT) (v:ZS) (P:List St):Prop:=
 ∃ ao c,v=.slice ao P.length c/\P.length<=4398046511104/\(P≠[]->∃ b off,ao=ZW ⟨b,off,ZX⟩/\∀ i (hi:i<P.length),
  w.cell? ⟨b,off+i*4,ZX⟩=ZW (.int kk P[i].k)/\w.cell? ⟨b,off+i*4+1,ZX⟩=ZW (Z7 Z9 P[i].a)/\w.cell? ⟨b,off+i*4+2,ZX⟩=ZW (Z7 Z9 P[i].b)/\w.cell? ⟨b,off+i*4+3,ZX⟩=ZW (Z7 .u8 P[i].c))
def Ps.mono {P:List St} (h:Ps kk w v P) (a:bW w w'):Ps kk w' v P:=by
 obtain ⟨ao,c,g,j,k⟩:=h;refine ⟨ao,c,g,j,λl=>?_⟩;obtain ⟨b,off,e,m⟩:=k l;refine ⟨b,off,e,λi n=>?_⟩;obtain ⟨c0,c1,d,f⟩:=m i n;exact ⟨by rw [a.cell (Uf c0)];exact c0,by rw [a.cell (Uf c1)];exact c1,by rw [a.cell (Uf d)];exact d,by rw [a.cell (Uf f)];exact f⟩
def Ps.cases {P:List St} (h:Ps kk w v P):(P=[]/\∃ ao c,v=.slice ao 0 c)\/∃ b off c,v=Z5 (ZW ⟨b,off,ZX⟩) P.length c/\P.length<=4398046511104/\∀ i (l:i<P.length),
 w.cell? ⟨b,off+i*4,ZX⟩=ZW (.int kk P[i].k)/\w.cell? ⟨b,off+i*4+1,ZX⟩=ZW (Z7 Z9 P[i].a)/\w.cell? ⟨b,off+i*4+2,ZX⟩=ZW (Z7 Z9 P[i].b)/\w.cell? ⟨b,off+i*4+3,ZX⟩=ZW (Z7 .u8 P[i].c):=by
 obtain ⟨ao,c,d,f,g⟩:=h;by_cases e:P=[]
 . subst e;exact .inl ⟨rfl,ao,c,d⟩
 . obtain ⟨b,off,rfl,j⟩:=g e;exact .inr ⟨b,off,c,d,f,j⟩
def Ps.slice {P:List St} (h:Ps kk w v P):∃ ao c,v=.slice ao P.length c:=by
 obtain ⟨ao,c,a,_⟩:=h;exact ⟨ao,c,a⟩
def iD (s:St) (regs shards:Int):Prop:=(s.k=0\/s.k=2)/\0<=s.a/\s.a<regs/\0<=s.b/\s.b<shards\/s.k=1/\0<=s.a/\s.a<regs/\0<=s.b/\s.b<regs/\s.a≠s.b
def zu (regs:Int) (P:List St):Prop:=0<=regs/\regs<=32/\P.length<=2000
def iF (regs:Int) (P:List St) (shards:Int):Prop:=zu regs P/\∀ i (hi:i<P.length),iD P[i] regs shards
def BIs (p:Prop) (w:ZT) (r:ZO) (w':ZT):Prop:=∃ b:Bool,r=Z3 (Z1 b)/\(b=ZV↔p)/\bW w w'
def aal (p:Prop) (w:ZT) (r:ZO) (w':ZT):Prop:=∃ b:Bool,r=Z3 (Z1 b)/\(b=ZV↔p)/\w'=w
def AC (n e:Int):Prop:=0<=n/\n<e
theorem th (n e:Int) (w:ZT) :
 ZQ ZK 213 #[Z7 Z9 n,Z7 Z9 e] w λr w'=>aal (AC n e) w r w':=by
 by_cases a:0<=n
 . go_enter func213,ntmps213;go_wp2;go_ret;exact ⟨_,rfl,by unfold AC;simp [a],rfl⟩
 . go_enter func213,ntmps213;go_wp2;go_ret;exact ⟨_,rfl,by unfold AC;simp;omega,rfl⟩
def fq (n e:Int) (h:AC n e) (w:ZT) :
 ZQ ZK 213 #[Z7 Z9 n,Z7 Z9 e] w λr w'=>r=Z3 (Z1 ZV)/\w'=w:=by
 refine (th n e w).mono ?_;rintro r w' ⟨b,rfl,a,rfl⟩;exact ⟨by rw [a.2 h],rfl⟩
def jD (n e:Int) (h:¬ AC n e) (w:ZT) :
 ZQ ZK 213 #[Z7 Z9 n,Z7 Z9 e] w λr w'=>r=Z3 (Z1 ZU)/\w'=w:=by
 refine (th n e w).mono ?_;rintro r w' ⟨b,rfl,a,rfl⟩;cases b
 . exact ⟨rfl,rfl⟩
 . exact absurd (a.1 rfl) h
theorem Bv (regs:Int) (v:ZS) (P:List St) (w:ZT) (h:Ps .u8 w v P) :
 ZQ ZK 197 #[.agg #[Z7 Z9 regs,v]] w λr w'=>BIs (zu regs P) w r w':=by
 obtain ⟨ao,c,rfl⟩:=h.slice;clear h;have d:bW w (w.alloc (Z4 #[Z7 Z9 regs,.slice ao P.length c] 206)):=bA _ _;by_cases b:AC regs 33
 . have a:=ak b;clear b;go_enter func197,ntmps197;go_wp2_with (go_at_call 213;refine (fq _ _ a.o _).mono ?_;rintro e w' ⟨rfl,rfl⟩);go_ret;refine ⟨_,rfl,?_,d⟩;have:=a.o;unfold AC at this;unfold zu;simp;omega
 . have a:=ak b;clear b;go_enter func197,ntmps197;go_wp2_with (go_at_call 213;refine (jD _ _ a.o _).mono ?_;rintro e w' ⟨rfl,rfl⟩);go_ret;refine ⟨_,rfl,?_,d⟩;have:=a.o;unfold AC at this;unfold zu;simp;omega
theorem G3 (s:St) (regs d:Int) (w:ZT) :
 ZQ ZK 198 #[.agg #[Z7 .u8 s.k,Z7 Z9 s.a,Z7 Z9 s.b,Z7 .u8 s.c],Z7 Z9 regs,Z7 Z9 d] w λr w'=>BIs (iD s regs d) w r w':=by
 obtain ⟨k,a,b,c⟩:=s;have j:bW w (w.alloc (Z4 #[Z7 .u8 k,Z7 Z9 a,Z7 Z9 b,Z7 .u8 c] 299)):=bA _ _;by_cases l:k=0\/k=2
 . by_cases g:AC a regs
   . by_cases i:AC b d
     . have f:=ak g;have h:=ak i;clear g i;rcases l with rfl|rfl;all_goals
        go_enter func198,ntmps198;go_wp2_with fail;refine (fq _ _ f.o _).mono ?_;rintro e w' ⟨rfl,rfl⟩;go_wp2_with fail;refine (fq _ _ h.o _).mono ?_;rintro e w' ⟨rfl,rfl⟩;go_wp2;go_ret;refine ⟨_,rfl,?_,j⟩;have:=f.o;have:=h.o;unfold AC at *;unfold iD;simp;omega
     . have f:=ak g;have h:=ak i;clear g i;rcases l with rfl|rfl;all_goals
        go_enter func198,ntmps198;go_wp2_with fail;refine (fq _ _ f.o _).mono ?_;rintro e w' ⟨rfl,rfl⟩;go_wp2_with fail;refine (jD _ _ h.o _).mono ?_;rintro e w' ⟨rfl,rfl⟩;go_wp2;go_ret;refine ⟨_,rfl,?_,j⟩;have:=f.o;have:=h.o;unfold AC at *;unfold iD;simp;omega
   . have f:=ak g;clear g;rcases l with rfl|rfl;all_goals
      go_enter func198,ntmps198;go_wp2_with (go_at_call 213;refine (jD _ _ f.o _).mono ?_;rintro e w' ⟨rfl,rfl⟩);go_ret;refine ⟨_,rfl,?_,j⟩;have:=f.o;unfold AC at *;unfold iD;simp;omega
 . by_cases k1:k=1
   . subst k1;clear l;by_cases g:AC a regs
     . by_cases i:AC b regs
       . have f:=ak g;have h:=ak i;clear g i;go_enter func198,ntmps198;go_wp2_with fail;refine (fq _ _ f.o _).mono ?_;rintro e w' ⟨rfl,rfl⟩;go_wp2_with fail;refine (fq _ _ h.o _).mono ?_;rintro e w' ⟨rfl,rfl⟩;go_wp2;go_ret;refine ⟨_,rfl,?_,j⟩;have:=f.o;have:=h.o;unfold AC at *;unfold iD;simp;omega
       . have f:=ak g;have h:=ak i;clear g i;go_enter func198,ntmps198;go_wp2_with fail;refine (fq _ _ f.o _).mono ?_;rintro e w' ⟨rfl,rfl⟩;go_wp2_with fail;refine (jD _ _ h.o _).mono ?_;rintro e w' ⟨rfl,rfl⟩;go_wp2;go_ret;refine ⟨_,rfl,?_,j⟩;have:=f.o;have:=h.o;unfold AC at *;unfold iD;simp;omega
     . have f:=ak g;clear g;go_enter func198,ntmps198;go_wp2_with (go_at_call 213;refine (jD _ _ f.o _).mono ?_;rintro e w' ⟨rfl,rfl⟩);go_ret;refine ⟨_,rfl,?_,j⟩;have:=f.o;unfold AC at *;unfold iD;simp;omega
   . have p:((k:Int)==0)=ZU:=(by rw [beq_eq_false_iff_ne];omega);have q:((k:Int)==1)=ZU:=(by rw [beq_eq_false_iff_ne];omega);have t:((k:Int)==2)=ZU:=(by rw [beq_eq_false_iff_ne];omega);have m:=ak l;have n:=ak k1;clear l k1;go_enter func198,ntmps198;go_wp2;go_ret;refine ⟨_,rfl,?_,j⟩;have:=m.out;have:=n.out;unfold iD;simp;omega
def PQ (regs:Int) (P:List St) (shards:Int) (w:ZT) (r:ZO) (w':ZT):Prop:=(iF regs P shards->r=Z3 .nilIface)/\(¬ iF regs P shards->r=Z3 (.iface 66 (Z7 Z9 4)))/\bW w w'
def ChR (w:ZT) (regs shards:Int) (P:List St) (i:ZS) (wr:ZT):Prop:=∃ k:Nat,k<=P.length/\i=Z7 Z9 k/\(∀ j (hj:j<P.length),j<k->iD P[j] regs shards)/\bW w wr
theorem Ri {x:ZS} (h:ZR (n+1) (w.alloc (Z4 #[x,y] t)) w') (a:n=w.heap.size):w'.cell? ⟨n,0,ZX⟩=ZW x/\w'.cell? ⟨n,1,ZX⟩=ZW y:=by
 subst a;constructor
 . rw [h.cell (by simp)];simp
 . rw [h.cell (by simp)];simp
theorem G4 (regs d:Int) (v:ZS) (P:List St) (w:ZT) (h:Ps .u8 w v P) :
 ZQ ZK 176 #[.agg #[Z7 Z9 regs,v],Z7 Z9 d] w λr w'=>PQ regs P d w r w':=by
 have n:bW w (w.alloc (Z4 #[Z7 Z9 regs,v] 206)):=bA _ _;have y:=h.mono n;obtain ⟨ao,c,rfl⟩:=h.slice;go_enter func176,ntmps176;go_wp2_with fail;refine (Bv regs _ P _ y).mono ?_;rintro r w1 ⟨b,rfl,q,l⟩;try change ZR _ _ _ at l
 rw [Uh] at l;obtain ⟨M,X⟩:=Ri l rfl;have L:=l.size;try change ZR _ _ _ at L
 rw [Uh] at L;have m:=n.trans (l.mono (by omega));cases b
 . have HN:=ak (show ¬ iF regs P d from λg=>by have:=q.2 g.1;simp at this);clear q l y h n;go_wp2;go_ret;exact ⟨λg=>absurd g HN.o,λ_=>rfl,m⟩
 . have G:=ak (q.1 rfl);have z:=h.mono m;clear q l y n h;rcases z.cases with ⟨rfl,N,O,e⟩|⟨b,off,O,e,_,C⟩
   . simp at e;obtain ⟨rfl,rfl⟩:=e;clear z;go_wp2;refine VD 1 ?_;rw [Vt];go_wp2;go_ret;exact ⟨λ_=>rfl,λg=>absurd ⟨G.o,λi t=>by simp at t⟩ g,m⟩
   . simp at e;obtain ⟨rfl,rfl⟩:=e;clear z;go_wp2;go_loopw [14] (λi wr=>ChR w1 regs d P i wr) (λi _=>P.length-(intOf i).toNat)
     case atStart=>exact ⟨0,T8 _,rfl,λj _ D=>absurd D (by omega),TW _ _⟩
     case round=>
      rename ZT=>wo;obtain ⟨k,U,rfl,p,f⟩:=hrel;have E:=(f.cell (Uf M)).trans M;by_cases K:k<P.length
      . obtain ⟨c0,c1,u,x⟩:=C k K;have Q:=(f.cell (Uf c0)).trans c0;have d1:=(f.cell (Uf c1)).trans c1;have R:=(f.cell (Uf u)).trans u;have S:=(f.cell (Uf x)).trans x;have B:=ak p;clear C p c0 c1 u x;have F:=(((TW wo.heap.size wo).alloc lR (Z4 #[Z7 .u8 P[k].k,Z7 Z9 P[k].a,Z7 Z9 P[k].b,Z7 .u8 P[k].c] 299)).cell (Uf E)).trans E;have H:=f.alloc f.size (Z4 #[Z7 .u8 P[k].k,Z7 Z9 P[k].a,Z7 Z9 P[k].b,Z7 .u8 P[k].c] 299);have W:=f.size;go_wp2_with fail;refine (G3 P[k] regs d _).mono ?_;rintro r w2 ⟨b2,rfl,J,s⟩;try change ZR _ _ _ at s
        rw [Uh] at s;have I:=H.trans (s.mono (by omega));have A:=ak J;clear s J Q d1 R S E F f H;cases b2
        . go_wp2;go_ret;exact ⟨λg=>absurd (A.out.2 (g.2 k K)) (by simp),λ_=>rfl,m.trans (I.mono (by omega))⟩
        . go_wp2;go_roundw
          case rel=>
           refine ⟨k+1,by omega,by go_num,λj D V=>?_,I⟩;by_cases e:j=k
           . subst e;first|exact A.out.1 rfl|exact A.out.1 trivial
           . exact B.out j D (by omega)
          case measure=>simp [intOf];omega
      . have T:k=P.length:=(by omega);subst T;have B:=ak p;clear C p;go_wp2;go_ret;exact ⟨λ_=>rfl,λg=>absurd ⟨G.o,λi t=>B.out i t t⟩ g,m.trans (f.mono (by omega))⟩
def eB (kk:IntKind):List St->List ZS
 | []=>[]
 | s::P=>G2 kk s++eB kk P
def qS (kk:IntKind):∀ P Q,eB kk (P++Q)=eB kk P++eB kk Q
 | [],_=>rfl
 | s::P,Q=>by simp [eB,qS kk P Q]
def FD (kk:IntKind):∀ (P:List St) (i:Nat) (b:i<P.length) (j:Nat),j<4->(eB kk P)[i*4+j]?=(G2 kk P[i])[j]?
 | s::P,0,_,j,a=>by
  simp only [eB,aaD,Uj,aa7];rw [Vv (by simpa [G2] using a)]
 | s::P,i+1,b,j,a=>by
  have e:(i+1)*4+j=(G2 kk s).length+(i*4+j):=by simp [G2];omega
  simp only [eB,X1];rw [e,U6 (Nat.le_add_right _ _),WR];exact FD kk P i (by simpa using b) j a
def By (w:ZT) (n:Nat) (b:n=w.heap.size) (x y z u:ZS) (t:ZN):∀ j v,[x,y,z,u][j]?=ZW v->(w.alloc (Z4 #[x,y,z,u] t)).cell? ((⟨n,0,ZX⟩:ZP).add j)=ZW v:=by
 subst b;intro j v a;rw [jy];rcases j with _|_|_|_|j;all_goals simp at a
 all_goals subst a;simp
def Nh {e:ZN} {P:List St} (h:w.ownsRow base e 4 v P.length (eB kk P)) (hl:P.length<=4398046511104):Ps kk w v P:=by
 rcases h.2 with ⟨b,c⟩|⟨g,cap,cur,a,k,l,m,n,o,p⟩
 . have:P=[]:=UU c;subst this;exact ⟨ZX,0,b,by simp,λh=>absurd rfl h⟩
 . subst a;refine ⟨ZW ⟨g,0,ZX⟩,cap,rfl,hl,λ_=>⟨g,0,rfl,λi d=>?_⟩⟩;have at':∀ j,j<4->w.cell? ⟨g,0+i*4+j,ZX⟩=(G2 kk P[i])[j]?:=λj f=>by
    rw [Uj,h.cellAt (i*4+j) (by omega),FD kk P i d j f]
   exact ⟨at' 0 (by decide),at' 1 (by decide),at' 2 (by decide),at' 3 (by decide)⟩
def Bz {ob:Option Nat} (h:w0.grownBy w ob) (o:Obj):w0.grownBy (w.alloc o) ob:=
 ⟨h.os,h.tape,h.output,by rw [Uh];have:=h.size;omega,λk a b=>by rw [<- h.block k a b];exact ((TW w.heap.size w).alloc lR o).block k (T7 a h.size)⟩
def dz (w:ZT) (b i:Nat) (v:ZS):w.grownBy (w.setCell ⟨b,i,ZX⟩ v) (ZW b):=
 ⟨rfl,rfl,rfl,by simp,λk _ a=>by
  have:b≠k:=λe=>a (by rw [e]);simp [World.setCell,VC,this]⟩
def nW (w:ZT) (o:Obj) (k:Nat) (h:k<w.heap.size):(w.alloc o).heap[k]?=w.heap[k]?:=((TW w.heap.size w).alloc lR o).block k h
def Ki (w:ZT) (a b c:Obj):(((w.alloc a).alloc b).alloc c).heap.size=w.heap.size+3/\(((w.alloc a).alloc b).alloc c).heap[w.heap.size]?=ZW a/\(((w.alloc a).alloc b).alloc c).heap[w.heap.size+1]?=ZW b/\(((w.alloc a).alloc b).alloc c).heap[w.heap.size+1+1]?=ZW c:=by
 have d:=Uh w a;have e:=Uh (w.alloc a) b;have:=Uh ((w.alloc a).alloc b) c;refine ⟨by omega,?_,?_,?_⟩
 . rw [nW _ _ _ (by omega),nW _ _ _ (by omega)];exact UC w a
 . rw [nW _ _ _ (by omega),<- d];exact UC _ b
 . rw [<- d,<- e];exact UC _ c
def ay {ob:Nat} {x:ZS} (h:w.heap[ob]?=ZW (Z4 #[x,y] t (0,0))):w.cell? ⟨ob,0,ZX⟩=ZW x/\w.cell? ⟨ob,1,ZX⟩=ZW y/\w.frozen? ⟨ob,1,ZX⟩=ZU/\w.frozen? ⟨ob,0,ZX⟩=ZU:=by
 simp [World.cell?,World.frozen?,h]
def bG (P:List St) (k:Nat):St:=P.getD k ⟨3,0,0,0⟩
def dU (P:List St) (k:Nat) (h:k<P.length):bG P k=P[k]:=by simp [bG,h]
def fl (P:List St) (D:List a8):Nat->Option Nat
 | 0=>ZX
 | k+1=>match fl P D k with
  | some n=>ZW n
  | none=>if (bG P k).k=0 then ZW (D.getD (bG P k).b.toNat []).length else ZX
def nX (gone i:Nat):Prop:=gone/2^i%2=1
def Ni (P:List St) (D:List a8) (gone i:Nat):Prop:=(bG P i).k=0->¬ nX gone (bG P i).b.toNat/\fl P D (i+1)=ZW (D.getD (bG P i).b.toNat []).length/\(D.getD (bG P i).b.toNat []).length<=4096
def gE (P:List St) (D:List a8) (gone:Nat):Prop:=∀ i,i<P.length->Ni P D gone i
def eC (P:List St) (D:List a8):Nat:=(fl P D P.length).getD 0
def nY (P:List St) (D:List a8) (k n:Nat) (h:fl P D k=ZW n):fl P D (k+1)=ZW n:=by simp [fl,h]
def zv (P:List St) (D:List a8) (k:Nat) (h:fl P D k=ZX) (a:(bG P k).k=0):fl P D (k+1)=ZW (D.getD (bG P k).b.toNat []).length:=by simp [fl,h,a]
def ti (P:List St) (D:List a8) (k:Nat) (a:(bG P k).k≠0):fl P D (k+1)=fl P D k:=by
 cases h:fl P D k<;>simp [fl,h,a]
def FE (P:List St) (D:List a8) (k n:Nat) (h:fl P D k=ZW n):∀ m,k<=m->fl P D m=ZW n:=by
 intro m a;induction m with
 | zero => have:k=0:=by omega
           subst this;exact h
 | succ m ih=>
  by_cases e:k=m+1
  . subst e;exact h
  . exact nY P D m n (ih (by omega))
def PR {P:List St} {D:List a8} (h:gE P D gone) (i:Nat) (a:i<P.length) (c:(bG P i).k=0):(D.getD (bG P i).b.toNat []).length=eC P D:=by
 have:=(h i a c).2.1;have:=FE P D (i+1) _ this P.length (by omega);simp [eC,this]
def OK {P:List St} {D:List a8} (h:gE P D gone):∀ k,k<=P.length->∀ n,fl P D k=ZW n->n<=4096
 | 0,_,n,e=>by simp [fl] at e
 | k+1,hk,n,e=>by
  cases a:fl P D k with
  | some m=>
   have:=OK h k (by omega) m a;rw [nY P D k m a] at e;simp at e;omega
  | none=>
   by_cases b:(bG P k).k=0
   . have q:=(h k (by omega) b);rw [q.2.1] at e;have:=UM e;omega
   . rw [ti P D k b,a] at e;simp at e
def G5 {P:List St} {D:List a8} (h:gE P D gone):eC P D<=4096:=by
 unfold eC;cases hf:fl P D P.length with
 | none=>simp
 | some n=>exact OK h P.length lR n hf
def iG (x y:a8) (c:Nat):a8:=(YE x.length).map λj=>x.getD j 0^^^gm c (y.getD j 0)
def dQ (D:List a8) (s:St) (R:List a8):List a8:=
 if s.k=0 then R.set s.a.toNat (D.getD s.b.toNat []) else if s.k=1 then R.set s.a.toNat (iG (R.getD s.a.toNat []) (R.getD s.b.toNat []) s.c) else R
def gY (s:St) (R:List a8) (O:List (Int×a8)):List (Int×a8):=if s.k=2 then O++[(s.b,R.getD s.a.toNat [])] else O
def bP (P:List St) (D:List a8) (R0:List a8):Nat->List a8
 | 0=>R0
 | k+1=>dQ D (bG P k) (bP P D R0 k)
def dB (P:List St) (D:List a8) (R0:List a8):Nat->List (Int×a8)
 | 0=>[]
 | k+1=>gY (bG P k) (bP P D R0 k) (dB P D R0 k)
def eV (r n:Nat):List a8:=YF r (YF n 0)
def In (w:ZT) (b:Nat) (D:List a8) (gone:Nat):Prop:=∀ i (hi:i<D.length),(nX gone i->w.cell? ⟨b,i,ZX⟩=ZW (Z5 ZX 0 0))/\(¬ nX gone i->∃ a c,w.cell? ⟨b,i,ZX⟩=ZW (Z5 (ZW a) (D[i]).length c)/\Bs w (Z5 (ZW a) (D[i]).length c) D[i])
def In.mono {D:List a8} (h:In w b D gone) (d:bW w w'):In w' b D gone:=λi l=>by
 obtain ⟨g,j⟩:=h i l;refine ⟨λf=>by have:=g f;rw [d.cell (Uf this)];exact this,λf=>?_⟩;obtain ⟨a,c,e,k⟩:=j f;exact ⟨a,c,by rw [d.cell (Uf e)];exact e,k.mono d⟩
def zw (P:List St):Nat:=P.foldl (λs t=>if t.k=0 then s|||2^t.b.toNat else s) 0
def BA (P:List St) (t:St):zw (P++[t])=if t.k=0 then zw P|||2^t.b.toNat else zw P:=by unfold zw;rw [Wp];rfl
def Kj {P:List St} (a:k<P.length):zw (P.take (k+1))=if P[k].k=0 then zw (P.take k)|||2^P[k].b.toNat else zw (P.take k):=by
 rw [Vd,Uc a,Option.toList_some,BA]
theorem nZ (P:List St) (i:Nat):(zw P).testBit i=ZV↔∃ s∈P,s.k=0/\s.b.toNat=i:=by
 obtain ⟨Q,rfl⟩:∃ Q,P=Q.reverse:=⟨P.reverse,by simp⟩;induction Q with
 | nil=>simp [zw]
 | cons t Q ih=>
  rw [List.reverse_cons,BA];by_cases h:t.k=0
  . rw [TT h,VZ,X2,Xw,ih,VW];constructor
    . rintro (⟨s,a,c⟩|a)
      . exact ⟨s,UF _ a,c⟩
      . exact ⟨t,by simp,h,a⟩
    . rintro ⟨s,a,c,d⟩;rcases Ui.1 a with q|q
      . exact .inl ⟨s,q,c,d⟩
      . rw [U5] at q;exact .inr (by rw [<- q];exact d)
  . rw [TS h,ih];constructor
    . rintro ⟨s,a,c⟩;exact ⟨s,UF _ a,c⟩
    . rintro ⟨s,a,c⟩;rcases Ui.1 a with q|q
      . exact ⟨s,q,c⟩
      . rw [U5] at q;exact absurd (q▸c.1) h
def Kl {P:List St} (h:∀ s∈P,s.k=0->s.b.toNat<16):zw P<65536:=by
 refine Nat.lt_pow_two_of_testBit (n:=16) _ λi e=>?_;cases hb:(zw P).testBit i
 . rfl
 . obtain ⟨s,a,c,d⟩:=(nZ P i).1 hb;have:=h s a c;omega
def LoR (w:ZT) (P:List St) (lv iv:ZS) (wr:ZT):Prop:=∃ k:Nat,k<=P.length/\iv=Z7 Z9 k/\lv=Z7 Z8 (zw (P.take k):Nat)/\bW w wr
theorem G6 (regs:Int) {v:ZS} {P:List St} {w:ZT} (h:Ps .u8 w v P) (u:∀ s∈P,s.k=0->0<=s.b/\s.b<16) (hl:P.length<=5000) :
 ZQ ZK 169 #[.agg #[Z7 Z9 regs,v]] w λe w'=>e=Z3 (Z7 Z8 (zw P:Nat))/\bW w w':=by
 obtain ⟨ao,c,rfl⟩:=h.slice;have m:bW w (w.alloc (Z4 #[Z7 Z9 regs,.slice ao P.length c] 206)):=bA w _;have n:(w.alloc (Z4 #[Z7 Z9 regs,.slice ao P.length c] 206)).heap[w.heap.size]?=ZW (Z4 #[Z7 Z9 regs,.slice ao P.length c] 206 (0,0)):=Ug _ _;obtain ⟨w1,t⟩:=nM (w.alloc (Z4 #[Z7 Z9 regs,.slice ao P.length c] 206));rw [t] at m n;have k1:w1.cell? ⟨w.heap.size,1,ZX⟩=ZW (.slice ao P.length c):=by simp [World.cell?,n]
 have H:=aE m h u;clear m n h u;go_enter func169,ntmps169;go_wp2;go_loopw [3,9] (λE p wr=>LoR w P E p wr) (λ_ p _=>P.length-(intOf p).toNat)
 case atStart=>exact ⟨0,T8 _,rfl,rfl,H.o.1⟩
 case round=>
  clear k1 t;rename ZT=>wo;obtain ⟨k,K,rfl,rfl,f⟩:=hrel;by_cases j:k<P.length
  . rcases (H.o.2.1.mono f).cases with ⟨rfl,_⟩|⟨b,off,F,e,_,y⟩
    . simp at j
    simp at e;obtain ⟨rfl,rfl⟩:=e;obtain ⟨G,d1,I,J⟩:=y k j;have r:=f.alloc f.size (Z4 #[Z7 .u8 P[k].k,Z7 Z9 P[k].a,Z7 Z9 P[k].b,Z7 .u8 P[k].c] 299);have HT:=ak (Kj j);have HP:=ak (H.o.2.2 _ (T6 j));have A:=ak (Kl (P:=P.take k) (λs D z=>by have:=H.o.2.2 s (UV D) z;omega));have i:=ak r;clear y f r;generalize P[k].k=q at *;generalize P[k].b=sb at *;by_cases g:q=0
    . have tk:((q:Int)==0)=ZV:=(by simp [g]);have L:=HP.o g;have d:=HT.o;rw [TT g] at d;have l:=ak d;clear g d HT;obtain ⟨x,rfl⟩:∃ x:Nat,sb=(x:Int):=⟨sb.toNat,by omega⟩;go_wp2_with fail;refine (eS (zw (P.take k)) x (by have:=A.out;omega) (by omega) _).mono ?_;rintro e M ⟨rfl,C⟩;subst C;go_wp2;go_roundw
      case rel=>exact ⟨k+1,by omega,by go_num,by rw [l.out,Vw],i.o⟩
      case measure=>simp [intOf]<;>omega
    . have tk:((q:Int)==0)=ZU:=(by simp;omega);have d:=HT.o;rw [TS g] at d;have l:=ak d;clear g d HT;go_wp2;go_roundw
      case rel=>exact ⟨k+1,by omega,by go_num,by rw [l.out],i.o⟩
      case measure=>simp [intOf]<;>omega
  . have B:k=P.length:=(by omega);subst B;rw [Vu];have i:=ak f;clear f;go_wp2;go_ret;exact ⟨rfl,i.o⟩
def pr:List (Int×Nat×Nat×a8)->List ZS
 | []=>[]
 | q::O=>[Z7 Z9 q.1,fx q.2]++pr O
def qT:∀ O a,pr (O++a)=pr O++pr a
 | [],_=>rfl
 | q::O,a=>by simp [pr,qT O a]
def FF:∀ (O:List (Int×Nat×Nat×a8)) (i:Nat) (a:i<O.length),(pr O)[i*2]?=ZW (Z7 Z9 O[i].1)/\(pr O)[i*2+1]?=ZW (fx O[i].2)
 | q::O,0,_=>by simp [pr]
 | q::O,i+1,a=>by
  have:=FF O i (by simpa using a);have b:(i+1)*2=i*2+2:=by omega
  have c:(i+1)*2+1=i*2+1+2:=by omega
  simp only [pr,X1];refine ⟨?_,?_⟩
  . rw [b];simpa using this.1
  . rw [c];simpa using this.2
structure mw (t:ZN) (w:ZT) (base:Nat) (v:ZS) (O:List (Int×Nat×Nat×a8)):Prop where
 own:w.ownsRow base t 2 v O.length (pr O)
 row:∀ q∈O,base<=q.2.1/\aM w q.2.1 q.2.2.2/\q.2.2.1<=q.2.2.2.length/\(q.2.2.1<=140737488355328/\q.2.2.2.length<=9223372036854775807)/\∀ x∈q.2.2.2,x<256
 nodup:(O.map (λq=>q.2.1)).Nodup
def mw.nil (t:ZN) (w:ZT) (base:Nat):mw t w base (Z5 ZX 0 0) []:=⟨UK _ _ _ _,λq a=>by simp at a,by simp⟩
def mw.below (h:mw t w base v O) (d:bW w w'):mw t w' base v O:=
 ⟨aq h.own d,λq e=>by obtain ⟨a,b,c⟩:=h.row q e;exact ⟨a,b.below d,c⟩,h.nodup⟩
def mw.cases (h:mw t w base v O):(O=[]/\v=Z5 ZX 0 0)\/∃ g cap,v=Z5 (ZW ⟨g,0,ZX⟩) O.length cap/\∀ i (b:i<O.length),w.cell? ⟨g,i*2,ZX⟩=ZW (Z7 Z9 O[i].1)/\w.cell? ⟨g,i*2+1,ZX⟩=ZW (fx O[i].2):=by
 rcases h.own.2 with ⟨c,d⟩|⟨g,cap,cur,a,_⟩
 . exact .inl ⟨UU d,c⟩
 . refine .inr ⟨g,cap,a,λi b=>?_⟩;have ho:=h.own;rw [a] at ho;obtain ⟨e,f⟩:=FF O i b;exact ⟨by rw [ho.cellAt (i*2) (by omega)];exact e,by rw [ho.cellAt (i*2+1) (by omega)];exact f⟩
def bv (l:a8):List ZS:=l.map λx=>Value.int .u8 ((x:Nat):Int)
theorem Km (h:w.heap[g]?=ZW (Z4 (((bv l).toArray)++Builtin.zeroCells #[Z7 .u8 0] m) 5 (0,0))):aM w g (l++YF m 0):=by
 have e:((bv l).toArray++Builtin.zeroCells #[Z7 .u8 0] m)=((l++YF m 0).map (λx=>Value.int .u8 ((x:Nat):Int))).toArray:=by
  apply Array.ext';simp [bv,Builtin.zeroCells,Nat.mod_one,List.map_const']
 rw [e] at h;refine ⟨_,h,by simp,λi a=>?_⟩;rw [Xz,UG,Uc a];simp [vb,Uc a]
def DV {rest:List Oper} {a:Act} {Q:Exit->Act->ZT->Prop} (b:o.guard=ZX) (s x:ZL) (t:ZN) (ho:o.op=.call { callee:=.builtin .append,args:=#[s,x],argTypes:=#[t,t] })
 (vs vx v':ZS) (hs:a.eval s=vs) (hx:a.eval x=vx) (h0:(Builtin.append_ #[t,t] o.type #[vs,vx]).run ZK w=.ok v' w') (h:wpList ZK ops Q rest (a.put o.dst v') w'):wpList ZK ops Q (o::rest) a w:=by
 refine VT b λK hK=>?_;unfold Oper.wp;simp [execOp,ho,resolve,invoke,builtin,hs,hx,h0,Result.andThen];exact hK _ _ h
theorem DW (d:ZP) (c:Nat) (l:a8) (w:ZT) (h:Bs w (Z5 (ZW d) l.length c) l) (hl:l.length<=100000) :
 ZQ ZK 180 #[Z5 (ZW d) l.length c] w λe w'=>∃ b m,e=Z3 (Z5 (ZW ⟨b,0,ZX⟩) l.length (l.length+m))/\w.heap.size<=b/\aM w' b (l++YF m 0)/\l.length+m<=9223372036854775807/\bW w w':=by
 obtain ⟨M,E,H,I,J⟩:=Ut Tryz.R2;have D:=λN=>XF (P:=ZK) N 40 5 (ZW d) l.length c 0 0 Um;have n:∀ j u,(bv l)[j]?=ZW u->(w.alloc (Z4 #[] 5)).cell? (d.add j)=ZW u:=by
  intro j u s;obtain ⟨t,O,e,_,_,_,z⟩:=h.mono ((TW _ _).alloc lR (Z4 #[] 5));have g:j<l.length:=by
   obtain ⟨q,_⟩:=U9.1 s;simpa [bv] using q
  obtain ⟨p,a,k,G⟩:=z (by intro e;rw [e] at g;simp at g);simp at e;rw [<- e.1] at k;simp at k;subst k;have x:(⟨p,a,ZX⟩:ZP).add j=⟨p,a+j,ZX⟩:=by unfold Addr.add;split<;>simp_all
  rw [x,G j g,<- s];simp [bv,g]
 have f:bW w (w.alloc (Z4 #[] 5)):=bA _ _;by_cases y:l.length=0
 . have F:l=[]:=UU y;subst F;clear h n;go_enter func180,ntmps180;simp only [UT] at D;go_wp2;go_ret;exact ⟨w.heap.size,0,rfl,TU _,⟨#[],UC w _,rfl,λi K=>by simp at K⟩,by omega,f⟩
 . have r:=run_append_grow (P:=ZK) (w:=w.alloc (Z4 #[] 5)) 40 40 5 M (Z7 .u8 0) Um E H ⟨w.heap.size,0,ZX⟩ 0 0 [] (by simp) (λj v L=>by simp at L) d l.length c (bv l) (by rw [I];simp [bv]) n (by omega) (by omega) (by rw [J];have:=aaE (need:=0+l.length) (old:=0) (bytes:=1) (by omega) (by omega);omega);obtain ⟨cp,Q,C,o⟩:∃ cp,l.length<=cp/\cp<=9223372036854775807/\(Builtin.append_ #[40,40] 40 #[Z5 (ZW ⟨w.heap.size,0,ZX⟩) 0 0,Z5 (ZW d) l.length c]).run ZK (w.alloc (Z4 #[] 5))=.ok (Z5 (ZW ⟨w.heap.size+1,0,ZX⟩) l.length cp) ((w.alloc (Z4 #[] 5)).drew.alloc (Z4 ((bv l).toArray++Builtin.zeroCells #[Z7 .u8 0] (cp-l.length)) 5)):=by
    refine ⟨grownCap (w.alloc (Z4 #[] 5)) (0+l.length) 0 5,by have:=aaF (w.alloc (Z4 #[] 5)) (0+l.length) 0 5;omega,by have:=aaG (w.alloc (Z4 #[] 5)) (0+l.length) 0 5 (by unfold maxLen;omega);unfold maxLen at this;omega,?_⟩;rw [r,Uh];simp [Value.cells]
   obtain ⟨m,rfl⟩:∃ m,cp=l.length+m:=⟨cp-l.length,by omega⟩;rw [WR] at o;have A:=ak o;clear o r n h;go_enter func180,ntmps180;go_wp2_with (at_builtin;refine DV rfl (Z0 5) (Z0 6) 40 rfl _ _ _ rfl rfl A.out ?_);go_ret;have B:aM ((w.alloc (Z4 #[] 5)).drew.alloc (Z4 ((bv l).toArray++Builtin.zeroCells #[Z7 .u8 0] m) 5)) (w.heap.size+1) (l++YF m 0):=by
    refine Km ?_;have:=UC (w.alloc (Z4 #[] 5)).drew (Z4 ((bv l).toArray++Builtin.zeroCells #[Z7 .u8 0] m) 5);rwa [show (w.alloc (Z4 #[] 5)).drew.heap.size=w.heap.size+1 from Uh _ _] at this
   exact ⟨w.heap.size+1,m,rfl,by omega,B,C,((show bW w (w.alloc (Z4 #[] 5)).drew from ⟨f.os,f.tape,f.output,f.size,f.block⟩).alloc (show w.heap.size<=(w.alloc _).heap.size by rw [Uh];omega) _)⟩
def DX (k n:Nat):eV (k+1) n=eV k n++[YF n 0]:=by
 unfold eV;rw [List.replicate_succ']
def MkR (w:ZT) (B g r n:Nat) (i:ZS) (wr:ZT):Prop:=
 ∃ k T,k<=r/\i=Z7 Z9 (k:Nat)/\nS wr B g r T/\cL T n (eV k n)/\ZR B w wr/\B<=wr.heap.size
def PS (r n:Nat) (w:ZT) (e:ZO) (w':ZT):Prop:=∃ g T,e=Z3 (Z5 (ZW ⟨g,0,ZX⟩) r r)/\eu w' w.heap.size (Z5 (ZW ⟨g,0,ZX⟩) r r) T/\cL T n (eV r n)/\bW w w'
def pt (h:cL T D M):T.length=M.length:=by simpa using Uy YS h
theorem zx (r n:Nat) (w:ZT) (M:r<=32) (L:n<=4096) :
 ZQ ZK 178 #[Z7 Z9 r,Z7 Z9 n] w λe w'=>PS r n w e w':=by
 go_enter func178,ntmps178;go_wp2_with (at_make;refine mJ _ rfl (Z0 7) (Z0 7) rfl _ r rfl rfl rfl (by omega) ?_;intro wc j f G;clear G);have m:nS wc w.heap.size w.heap.size r []:=⟨j.congr (λi _=>by simp [shv]),λp h=>by simp at h,by simp⟩;have v:=f.size;clear j;go_loopw [11] (λi wr=>MkR w w.heap.size w.heap.size r n i wr) (λi _=>r-(intOf i).toNat)
 case atStart=>exact ⟨0,[],T8 _,rfl,m,rfl,f,v⟩
 case round=>
  clear m f v;rename ZT=>wo;obtain ⟨k,T,K,rfl,g,a,u,E⟩:=hrel;have s:=pt a;have A:T.length=k:=by rw [s];simp [eV]
  by_cases D:k<r
  . have c:=ak a;clear a s
    go_wp2_with (at_make;refine cO _ rfl (Z0 16) (Z0 16) rfl _ n rfl rfl rfl (by omega) ?_;intro w2 B t J
                 have d:=g.below t;have H:=d.tab.cell (i:=k) D;have I:=d.tab.frozen k)
    have q:=d.push (b:=wo.heap.size) (n:=n) (l:=YF n 0) (by omega) B (by simp) (by simp;omega) (by intro x F;have:=Vz F;omega) (λp h e=>by have:=(g.row p h).2.1.lt;omega);rw [A,XS] at q;refine ⟨⟨k+1,_,by omega,by go_num,q,?_,(u.trans (t.mono E)).setCell (by simp) _,by simp;omega⟩,by simp [intOf];omega⟩;have z:=c.o;unfold cL at z ⊢;rw [DX,Uv,Uv,z];rfl
  . have C:k=r:=(by omega);subst C;have y:=g.done (by omega) lR (by unfold maxLen;omega);have HT:=ak y;have c:=ak a;clear y a;go_wp2;go_ret;exact ⟨_,T,rfl,HT.o,c.o,u⟩
def LlR (w:ZT) (P:List St) (D:List a8) (gone:Nat) (lv sv iv:ZS) (wr:ZT):Prop:=
 ∃ k:Nat,k<=P.length/\iv=Z7 Z9 k/\lv=Z7 Z9 ((fl P D k).getD 0:Nat)/\sv=Z1 (fl P D k).isSome/\(∀ i,i<k->Ni P D gone i)/\bW w wr
def PT (P:List St) (D:List a8) (gone:Nat) (w:ZT) (r:ZO) (w':ZT):Prop:=
 (gE P D gone->r=Z3 (ZZ #[Z7 Z9 (eC P D:Nat),.nilIface]))/\(¬ gE P D gone->r=Z3 (ZZ #[Z7 Z9 0,.iface 66 (Z7 Z9 2)]))/\bW w w'
theorem px (v:ZS) (P:List St) (V ci:Nat) (D:List a8) (gone:Nat) (w:ZT) (h:Ps .u8 w v P) (L:In w V D gone) (hq:∀ l∈D,l.length<=100000)
 (N:∀ i,i<P.length->(bG P i).k=0->0<=(bG P i).b/\(bG P i).b<(D.length:Int)) (hl:P.length<=5000) :
 ZQ ZK 177 #[v,Z5 (ZW ⟨V,0,ZX⟩) D.length ci] w λr w'=>PT P D gone w r w':=by
 obtain ⟨ao,c,rfl⟩:=h.slice;go_enter func177,ntmps177;go_wp2;go_loopw [6,7,13] (λlv sv S wr=>LlR w P D gone lv sv S wr) (λ_ _ S _=>P.length-(intOf S).toNat)
 case atStart=>exact ⟨0,T8 _,rfl,rfl,rfl,λi A=>absurd A (by omega),TW _ _⟩
 case round=>
  rename ZT=>wo;obtain ⟨k,hk,rfl,rfl,rfl,J,I⟩:=hrel;have k8:=I.size;by_cases y:k<P.length
  . rcases (h.mono I).cases with ⟨rfl,_⟩|⟨b,off,cc,e,_,W⟩
    . simp at y
    simp at e;obtain ⟨rfl,rfl⟩:=e;obtain ⟨d0,d1,d2,d3⟩:=W k y;have Z:=dU P k y;have K:=N k y;have E:=ak J;have u:=ak (nY P D k);have s:=ak (zv P D k);have H:=ak (ti P D k);have d:b9 (Ni P D gone k↔((bG P k).k=0->¬ nX gone (bG P k).b.toNat/\fl P D (k+1)=ZW (D.getD (bG P k).b.toNat []).length/\(D.getD (bG P k).b.toNat []).length<=4096)):=Yc;rw [Z] at K s H d;have j:=I.alloc k8 (Z4 #[Z7 .u8 P[k].k,Z7 Z9 P[k].a,Z7 Z9 P[k].b,Z7 .u8 P[k].c] 299);have M:=L.mono j;clear W J L h N Z;generalize P[k].k=T at *;generalize P[k].b=sb at *;by_cases z:T=0
    . have tk:((T:Int) != 0)=ZU:=(by simp [z]);obtain ⟨q1,q2⟩:=K z;have G:=ak z;clear z;obtain ⟨x,rfl⟩:∃ x:Nat,sb=(x:Int):=⟨sb.toNat,by omega⟩;have O:x<D.length:=(by omega);obtain ⟨Q,R⟩:=M x O;have X:D.getD x []=D[x]:=(by simp [O]);have k9:=hq _ (T6 O);rw [Vw,X] at s d;clear K q1 q2 M X H;by_cases F:nX gone x
      . have ha:=Q F;have t:b9 (¬ gE P D gone):=λhl=>((d.out.1 (hl k y)) G.out).1 F;have k5:=λU=>XF (P:=ZK) U 40 5 ZX 0 0 0 0 Um;clear Q R d s u;cases hf:fl P D k
        . go_wp2;go_ret2;exact ⟨λhl=>absurd hl t.o,λ_=>rfl,j⟩
        . go_wp2;go_ret2;exact ⟨λhl=>absurd hl t.o,λ_=>rfl,j⟩
      . obtain ⟨ax,cx,ha,hz⟩:=R F;have k5:=λU=>XF (P:=ZK) U 40 5 (ZW ax) (D[x]).length cx 0 0 Um;clear Q R hz;generalize D[x].length=n at *;cases hf:fl P D k with
        | none=>
         have f:=s.out hf G.out;by_cases g:n<=4096
         . have C:=d.out.2 (λ_=>⟨F,f,g⟩);have B:=ak C;have p:=ak f;clear d s u f C;go_wp2;go_roundw
           case rel=>
            refine ⟨k+1,by omega,by go_num,by first|(rw [p.out];rfl)|rw [p.out],by first|(rw [p.out];rfl)|rw [p.out],λi A=>?_,j⟩;by_cases e:i=k
            . subst e;exact B.out
            . exact E.out i (by omega)
           case measure=>simp [intOf];omega
         . have t:b9 (¬ gE P D gone):=λhl=>g ((d.out.1 (hl k y)) G.out).2.2;have k7:(4096:Int)<(n:Int):=(by omega);clear d s u f;go_wp2;go_ret2;exact ⟨λhl=>absurd hl t.o,λ_=>rfl,j⟩
        | some m=>
         have f:=u.out m hf;by_cases g:n=m/\n<=4096
         . obtain ⟨rfl,g⟩:=g;have C:=d.out.2 (λ_=>⟨F,f,g⟩);have B:=ak C;have p:=ak f;have tt:(((n:Nat):Int) != (n:Int))=ZU:=(by simp);clear d s u f C;go_wp2;go_roundw
           case rel=>
            refine ⟨k+1,by omega,by go_num,by first|(rw [p.out];rfl)|rw [p.out],by first|(rw [p.out];rfl)|rw [p.out],λi A=>?_,j⟩;by_cases e:i=k
            . subst e;exact B.out
            . exact E.out i (by omega)
           case measure=>simp [intOf];omega
         . have t:b9 (¬ gE P D gone):=λhl=>by
            have q:=(d.out.1 (hl k y)) G.out;rw [f] at q;have:=q.2.1;simp at this;omega
           clear d s u f;by_cases Y:n=m
           . have k7:(4096:Int)<(m:Int):=(by omega);have tt:(((n:Nat):Int) != (m:Int))=ZU:=(by simp;omega);clear g Y;go_wp2;go_ret2;exact ⟨λhl=>absurd hl t.o,λ_=>rfl,j⟩
           . have tt:(((n:Nat):Int) != (m:Int))=ZV:=(by simp;omega);clear g Y;go_wp2;go_ret2;exact ⟨λhl=>absurd hl t.o,λ_=>rfl,j⟩
    . have tk:((T:Int) != 0)=ZV:=(by simp;omega);have HF:=ak (H.out z);have B:=ak (d.out.2 (λe=>absurd e z));clear H s u d K M z;go_wp2;go_roundw
      case rel=>
       refine ⟨k+1,by omega,by go_num,by rw [HF.o],by rw [HF.o],λi A=>?_,j⟩;by_cases e:i=k
       . subst e;exact B.out
       . exact E.out i (by omega)
      case measure=>simp [intOf];omega
  . have k6:k=P.length:=(by omega);subst k6;have E:=ak J;clear h L N J;go_wp2;go_ret2;exact ⟨λ_=>rfl,λg=>absurd (λi A=>E.out i A) g,I⟩
def Ko (w:ZT) (ty:ZN) (g n cap:Nat) (old src:a8) (ao:Option ZP) (c:Nat) (d:aM w g old) (A:Bs w (.slice ao src.length c) src) (C:src.length=n) (ho:old.length=n) :
 ∃ w',(Builtin.copy_ #[40,40] ty #[Z5 (ZW ⟨g,0,ZX⟩) n cap,.slice ao src.length c]).run ZK w=.ok (Z7 Z9 (n:Nat)) w'/\aM w' g src/\w.grownBy w' (ZW g):=by
 subst C;have m:(ZK.info? 5).map (λi=>i.size)=ZW 1:=by kernel_rfl
 by_cases a:src.length=0
 . have z:src=[]:=UU a;have y:old=[]:=UU (by omega);subst z y;exact ⟨w,run_copy_none (P:=ZK) w 40 40 ty 5 (ZW ⟨g,0,ZX⟩) ao 0 cap 0 c Um m (by simp),d,Ws _ _⟩
 . obtain ⟨r,D,e,_,_,F,t⟩:=A;simp at e;obtain ⟨b,off,f,B⟩:=t (by intro e;rw [e] at a;simp at a);rw [<- e.1] at f;subst f;have h:=run_copy_row (P:=ZK) w 40 40 ty 5 g 0 src.length cap ⟨b,off,ZX⟩ src.length c _ 5 (bv src) Um m d.heap (by simp [bv]) (λj v o=>by
    have l:j<src.length:=by
     obtain ⟨q,_⟩:=U9.1 o;simpa [bv] using q
    rw [Vl,B j l,<- o];simp [bv,l]) (by simp [bv];omega) (by intro v p;simp [bv] at p;obtain ⟨x,_,rfl⟩:=p;rfl)
   have s:(YL 0 (List.map (λx=>Value.int .u8 ((x:Nat):Int)) old).toArray.toList++bv src++YQ (0+(bv src).length) (List.map (λx=>Value.int .u8 ((x:Nat):Int)) old).toArray.toList)=src.map (λx=>Value.int .u8 ((x:Nat):Int)):=by
    simp [bv];omega
   rw [s] at h;refine ⟨w.setRow g (src.map (λx=>Value.int .u8 ((x:Nat):Int))).toArray,by rw [h];simp [bv,goInt],?_,?_⟩
   . exact aM.of_heap (Vp w g (old.map (λx=>Value.int .u8 ((x:Nat):Int))).toArray (src.map (λx=>Value.int .u8 ((x:Nat):Int))).toArray 5 _ d.heap)
   . refine ⟨rfl,rfl,rfl,by simp [World.setRow],λk E u=>setRow_other w g k _ (λe=>u (by rw [e]))⟩
def G7 {a:Act} {K:Act->ZT->Prop} {Q:Exit->Act->ZT->Prop} {E:Prop} (b:o.guard=ZX) (d s:ZL) (ho:o.op=.call { callee:=.builtin .copy,args:=#[d,s],argTypes:=#[40,40] })
 (vd vs v':ZS) (hd:a.eval d=vd) (hs:a.eval s=vs) (h0:(Builtin.copy_ #[40,40] o.type #[vd,vs]).run ZK w=.ok v' w') (h:K (a.put o.dst v') w'):if Region.wanted o (yielded ops a.tmps)=ZV then Oper.wp ZK o a w K Q else E:=by
 rw [TT (by simp [Region.wanted,b])];unfold Oper.wp;simp [execOp,ho,resolve,invoke,builtin,hd,hs,h0,Result.andThen];exact h
def zy {xs:List ZS} (h:w.ownsRow base 254 2 v n xs) {b:Nat} {l:a8} (i:aM w b l):v.ownBlock≠ZW b:=by
 intro e;rcases h.2 with ⟨f,_⟩|⟨g,cap,cur,d,k,a,_⟩
 . rw [f] at e;simp [Value.ownBlock] at e
 . rw [d] at e;simp [Value.ownBlock] at e;subst e;obtain ⟨c,j,_⟩:=i;rw [j] at a;simp at a
def mw.aside (h:mw 254 w base v O) (j:aM w b l) (f:w.grownBy w' (ZW b)) (i:∀ q∈O,q.2.1≠b):mw 254 w' base v O:=
 ⟨h.own.kept f (.inr (zy h.own j)),λq g=>by
  obtain ⟨a,c,d⟩:=h.row q g;exact ⟨a,c.grown f (by intro e;simp at e;exact i q g e),d⟩,h.nodup⟩
def G8 (h:cL T n R) (i:Nat) (b:i<T.length) (l:a8):cL (T.set i (T[i].1,T[i].2.1,l)) n (R.set i l):=by
 have:=pt h;have a:=h.at b (by omega);unfold cL at *;rw [List.map_set,List.map_set,h,a]
section
def tj (x y:a8) (c:Nat):(iG x y c).length=x.length:=by simp [iG]
def G9 {x y:a8} (e:∀ a∈x,a<256) (d:c<256):∀ a∈iG x y c,a<256:=by
 intro a b;simp only [iG,T9,Uu] at b;obtain ⟨j,_,rfl⟩:=b;exact V4 (n:=8) (dm e j) (bt _ d)
theorem zA (b d n c:Nat) (x y:a8) (w:ZT) (p:c<256) (r:aM w b x) (s:aM w d y) (f:x.length=n) (t:y.length=n) (l:d≠b) (m:∀ a∈x,a<256) (o:∀ a∈y,a<256) (z:n<=100000) :
 ZQ ZK 179 #[Z5 (ZW ⟨b,0,ZX⟩) n n,Z5 (ZW ⟨d,0,ZX⟩) n n,Z7 .u8 c] w λe w'=>e=Z3 (ZZ #[])/\aM w' b (iG x y c)/\w.grownBy w' (ZW b):=by
 have q:w.rowIs b 5 n (tv (λi=>x.getD i 0)):=by
  have:=r;unfold aM at this;rw [f] at this;exact this
 refine (jl b 5 n 0 n n d 0 n c (λi=>x.getD i 0) (λi=>y.getD i 0) w p q (λj=>dm m j) (λj=>dm o j) (by omega) (by omega) (λi u=>by rw [Uj];exact s.cell i (by omega)) (.inl l)).mono ?_;rintro e w' ⟨rfl,g,h⟩;refine ⟨rfl,?_,h⟩;unfold aM;rw [tj,f];refine g.congr λj v=>?_;have k:j<x.length:=by omega
 unfold tv vb gS iG;rw [TT (by omega)];simp [k]
structure Rn (w0:ZT) (B:Nat) (P:List St) (D R0:List a8) (n r gR k:Nat) (vO:ZS) (T:List (Nat×Nat×a8)) (O:List (Int×Nat×Nat×a8)) (wr:ZT):Prop where
 tab:eu wr B (Z5 (ZW ⟨gR,0,ZX⟩) r r) T
 hold:cL T n (bP P D R0 k)
 len:∀ l∈bP P D R0 k,l.length=n
 outs:mw 254 wr B vO O
 vals:O.map (λq=>(q.1,q.2.2.2.take q.2.2.1))=dB P D R0 k
 apart:∀ p∈T,∀ q∈O,p.1≠q.2.1
 below:ZR B w0 wr
 size:B<=wr.heap.size
variable {w0:ZT} {B:Nat} {P:List St} {D R0:List a8} {n r gR k:Nat} {vO:ZS} {T:List (Nat×Nat×a8)} {O:List (Int×Nat×Nat×a8)} {w:ZT}
def Rn.next (h:Rn w0 B P D R0 n r gR k vO T O w) {w':ZT} (a:bW w w'):Rn w0 B P D R0 n r gR k vO T O w':=
 ⟨h.tab.below a,h.hold,h.len,h.outs.below a,h.vals,h.apart,h.below.trans (a.mono h.size),TV h.size a.size⟩
def Rn.tlen (h:Rn w0 B P D R0 n r gR k vO T O w):T.length=r:=by
 rcases h.tab.shape with ⟨e,_⟩|⟨g,cap,e,_⟩
 . simp at e
 . simp at e;omega
def Rn.reg (h:Rn w0 B P D R0 n r gR k vO T O w) (A:Nat) (C:A<r):∃ g,(∃ a:A<T.length,T[A]=(g,n,(bP P D R0 k).getD A []))/\w.cell? ⟨gR,A,ZX⟩=ZW (Z5 (ZW ⟨g,0,ZX⟩) n n)/\aM w g ((bP P D R0 k).getD A [])/\((bP P D R0 k).getD A []).length=n/\(∀ x∈(bP P D R0 k).getD A [],x<256)/\g≠gR/\B<=g/\g<w.heap.size/\gR<w.heap.size/\B<=gR:=by
 have:=h.tlen;have a:A<T.length:=by omega
 have:=pt h.hold;have c:A<(bP P D R0 k).length:=by omega
 have d:=h.hold.at a c;have o:(bP P D R0 k).getD A []=(bP P D R0 k)[A]:=by simp [c]
 have l:=h.len _ (T6 c);obtain ⟨m,b,y,z,i⟩:=h.tab.row _ (T6 a);rw [o];have p:T[A]=(T[A].1,n,(bP P D R0 k)[A]):=by rw [<- d]
 have j:T[A].2.2=(bP P D R0 k)[A]:=by rw [d]
 have q:T[A].2.1=n:=by rw [d]
 rcases h.tab.shape with ⟨e,_⟩|⟨g,cap,e,v,_,_,s,u,_,t⟩
 . simp at e
 . simp at e;obtain ⟨rfl,_⟩:=e;have f:=u A a;unfold fx at f;rw [j,q,l] at f;rw [j] at b i;exact ⟨T[A].1,⟨a,p⟩,f,b,l,i,t _ (T6 a),m,b.lt,s,v⟩
def Rn.write (h:Rn w0 B P D R0 n r gR k vO T O w) {w':ZT} {A g:Nat} {l0 src:a8} (s:∃ s:A<T.length,T[A]=(g,n,l0)) (C:l0.length=n) (b:w.grownBy w' (ZW g)) (y:aM w' g src) (hl:src.length=n) (z:∀ x∈src,x<256)
 (t:bP P D R0 (k+1)=(bP P D R0 k).set A src) (ho:dB P D R0 (k+1)=dB P D R0 k):∃ T',Rn w0 B P D R0 n r gR (k+1) vO T' O w':=by
 obtain ⟨f,e⟩:=s;have d:=T6 f;obtain ⟨m,o,_⟩:=h.tab.row _ d;have a:T[A].1=g:=by rw [e]
 have v:T[A].2.2=l0:=by rw [e]
 rw [a] at m o;refine ⟨T.set A (T[A].1,T[A].2.1,src),?_,?_,?_,?_,?_,?_,?_,?_⟩
 . exact h.tab.wrote f (by rw [a];exact b) (by rw [a];exact y) (by rw [v];omega) z
 . rw [t];exact G8 h.hold A f src
 . rw [t];intro l i;rcases X8 i with i|rfl
   . exact h.len l i
   . exact hl
 . exact h.outs.aside o b (λq c u=>h.apart _ d q c (by rw [a,u]))
 . rw [ho];exact h.vals
 . intro p j q c;rcases X8 j with j|rfl
   . exact h.apart p j q c
   . exact h.apart _ d q c
 . exact gD h.below b h.size m
 . exact TV h.size b.size
def Rn.reg_ne (h:Rn w0 B P D R0 n r gR k vO T O w) {A X g d:Nat} {l p:a8} (c:∃ c:A<T.length,T[A]=(g,n,l)) (a:∃ c:X<T.length,T[X]=(d,n,p)) (o:A≠X):d≠g:=by
 obtain ⟨f,e⟩:=c;obtain ⟨a,m⟩:=a;have i:=VU.1 h.tab.nodup;intro q;have j:T[A].1=T[X].1:=by rw [e,m];exact q.symm
 rcases Ys o with b|b
 . exact i A X (by simpa using f) (by simpa using a) b (by simpa using j)
 . exact i X A (by simpa using a) (by simpa using f) b (by simpa using j.symm)
def tq {B':Nat} {xs ys:List ZS} {vO:ZS} (h:w.ownsRow B 40 1 (Z5 (ZW ⟨g,0,ZX⟩) c m) n xs) {n':Nat} (l:w.ownsRow B' 254 2 vO n' ys):vO.ownBlock≠ZW g:=by
 intro e;rcases h.2 with ⟨a,_⟩|⟨q,cap,cur,f,o,j,_⟩
 . simp at a
 . simp at f;obtain ⟨rfl,_⟩:=f;rcases l.2 with ⟨a,_⟩|⟨r,b,d,k,p,i,_⟩
   . rw [a] at e;simp [Value.ownBlock] at e
   . rw [k] at e;simp [Value.ownBlock] at e;subst e;rw [j] at i;simp at i
theorem xC (P:List St) (D R0:List a8):∀ k,(dB P D R0 k).length<=k
 | 0=>TU _
 | k+1=>by
  have:=xC P D R0 k;unfold dB gY;split<;>simp<;>omega
def Rn.olen (h:Rn w0 B P D R0 n r gR k vO T O w):O.length<=k:=by
 have:=Uy YS h.vals;rw [Ue] at this;rw [this];exact xC P D R0 k
def Rn.put (h:Rn w0 B P D R0 n r gR k vO T O w) {w1 v:ZT} {o:Obj} {b m:Nat} {l:a8} {sh:Int} {vO':ZS} (G:bW w w1) (I:w.heap.size<=b) (E:aM w1 b (l++YF m 0)) (hl:l.length=n) (K:n<=100000) (J:n+m<=9223372036854775807) (H:∀ x∈l,x<256)
 (g:(w1.alloc o).grownBy v vO.ownBlock) (C:v.ownsRow B 254 2 vO' (O.length+1) (pr O++[Z7 Z9 sh,Z5 (ZW ⟨b,0,ZX⟩) n (n+m)]))
 (A:bP P D R0 (k+1)=bP P D R0 k) (ho:dB P D R0 (k+1)=dB P D R0 k++[(sh,l)]):Rn w0 B P D R0 n r gR (k+1) vO' T (O++[(sh,b,n,l++YF m 0)]) v:=by
 have f:=(h.next G).next ((TW w1.heap.size w1).alloc lR o);have:=h.size;have hll:(l++YF m 0).length=n+m:=by simp [hl]
 have y:=E.alloc o;refine ⟨?_,by rw [A];exact h.hold,by rw [A];exact h.len,?_,?_,?_,?_,?_⟩
 . refine ⟨f.tab.own.kept g (.inr λe=>?_),λp s=>?_,f.tab.nodup⟩
   . exact tq f.tab.own f.outs.own (by rw [<- e];rfl)
   . obtain ⟨t,i,u⟩:=f.tab.row p s;exact ⟨t,i.grown g (λe=>zy f.outs.own i e.symm),u⟩
 . refine ⟨?_,λq d=>?_,?_⟩
   . rw [qT];simpa [pr,fx,hll,hl] using C
   . rcases Ui.1 d with d|d
     . obtain ⟨t,i,u⟩:=f.outs.row q d;exact ⟨t,i.grown g (λe=>zy f.outs.own i e.symm),u⟩
     . simp at d;subst d;refine ⟨by show B<=b;omega,y.grown g (λe=>zy f.outs.own y e.symm),by show n<=(l++YF m 0).length;omega,⟨by show n<=140737488355328;omega,by show (l++YF m 0).length<=9223372036854775807;omega⟩,?_⟩;intro x j;rcases Ui.1 j with j|j
       . exact H x j
       . have:=Vz j;omega
   . rw [Uv,U8];refine ⟨h.outs.nodup,by simp,?_⟩;intro a F c z;obtain ⟨q,d,rfl⟩:=T9.1 F;simp at z;subst z;have:=(h.outs.row q d).2.1.lt;omega
 . rw [ho,Uv,h.vals];simp [<- hl]
 . intro p s q d;rcases Ui.1 d with d|d
   . exact h.apart p s q d
   . simp at d;subst d;have:=(h.tab.row p s).2.1.lt;show p.1≠b;omega
 . exact f.below.grown g f.size (λq d=>(f.outs.own.lt q d).1)
 . exact TV f.size g.size
end
section
open Go.ChangeShapes Go.WideShapes
abbrev ts:List (String×DataW Unit):=[("math/bits.deBruijn64tab",Rows.laid_math_bits_deBruijn64tab),("errors.errorType",Rows.laid_errors_errorType),("stripes/record.halves",Rows.laid_stripes_record_halves)]
def FG:List Int:=(YE 64).map λj=>((Lib.deBruijn64tab.getD j 0:Nat):Int)
def rY:List Int:=cG.map λ(x:Nat)=>(x:Int)
def Tryz.bt3:ZK.globalNamed "math/bits.deBruijn64tab"=ZW 1:=by kernel_rfl
def Tryz.bt3Type:(ZK.globals[1]?).map (·.type)=ZW 113:=by kernel_rfl
def Tryz.TL:ZK.cellsOf 113=64:=by kernel_rfl
def Tryz.SW:ZK.cellsOf 5=1:=by kernel_rfl
def Tryz.hv3:ZK.globalNamed "stripes/record.halves"=ZW 2:=by kernel_rfl
def Tryz.hv3Type:(ZK.globals[2]?).map (·.type)=ZW 323:=by kernel_rfl
def Tryz.TO:ZK.cellsOf 323=16:=by kernel_rfl
def Tryz.Th:ZK.cellsOf 303=1:=by kernel_rfl
def Ha:(Rows.laid_math_bits_deBruijn64tab:DataW Unit)=Lib.tabData .u8 FG:=by rfl
def Kp:(Rows.laid_stripes_record_halves:DataW Unit)=Lib.tabData .u32 rY:=by rfl
def Hb {x:String×DataW Unit} {r:List (String×DataW Unit)} (h:laidMet P (x::r) w):laidMet P r w:=by
 obtain ⟨ps,i,c,a⟩:=h;obtain ⟨n,d⟩:=x;obtain ⟨g,t,cs,fuel,p,q,_,_,_,_,f,rfl⟩:=i;exact ⟨q,f,List.Nodup.sublist (abn _ _) c,λb off e=>a b off (VM _ e)⟩
theorem BB (h:laidMetH ZK ts W):bK W/\aG W/\bV W/\3<=W.heap.size:=by
 have d:laidMet ZK [("math/bits.deBruijn64tab",Rows.laid_math_bits_deBruijn64tab),("stripes/record.halves",Rows.laid_stripes_record_halves)] W/\handlesMet ZK [("errors.errorType",Rows.laid_errors_errorType)] W:=h;have l:bK W:=td (show laidMetH ZK [("errors.errorType",Rows.laid_errors_errorType)] W from ⟨⟨[],rfl,List.nodup_nil,λb off k=>by cases k⟩,d.2⟩);have c:=d.1;have e:=Hb c;rw [Ha] at c;rw [Kp] at e;have n:=Lib.tabIs_of_head Tryz.bt3 Tryz.bt3Type Yb Xg Tryz.SW Tryz.TL c;have m:=Lib.tabIs_of_head Tryz.hv3 Tryz.hv3Type underlying323 underlying303 Tryz.Th Tryz.TO e;have g:aG W:=λj a=>by
  have:=n.cell Tryz.bt3 j (by simpa [FG] using a);rw [this];unfold FG;simp [a]
 have f:bV W:=λj a=>by
  have hl:cG.length=16:=rfl;have:=m.cell Tryz.hv3 j (by unfold rY;rw [Ue,hl];exact a);rw [this];unfold rY;congr 2;rw [Ub,Ub,UG,Uc (by omega)];rfl
 refine ⟨l,g,f,?_⟩;have o:=Uf (g 0 (by decide));have i:=Uf (f 0 (by decide));have p:2<W.heap.size:=i;omega
noncomputable def tw (os:Os):ZT:=
 { World.holding ZK os ⟨#[],#[],[]⟩ with heap:=(((World.holding ZK os ⟨#[],#[],[]⟩).heap.modify 0 fun|Z4 _ t frozen=>Z4 #[.iface 157 (.agg #[Z6 (ZW ⟨3,64,ZX⟩)])] t frozen|o=>o).modify 1 fun|Z4 _ t frozen=>Z4 (FG.map λz=>Value.int .u8 z).toArray t frozen|o=>o).modify 2 fun|Z4 _ t frozen=>Z4 (rY.map λz=>Value.int .u32 z).toArray t frozen|o=>o }
def tA (os:Os) (args:Array ZS):laidMetH ZK ts ((tw os).forCall (λ_ _=>0) ⟨#[],args,[]⟩).memory:=
 laidMetH_of_parts (laidMet_of_run' 8 (by kernel_rfl) (by kernel_rfl)) (by kernel_rfl)
end
