import Derived.Test.YtfbmmcnpjhmjaaaGreatDoorM02
import Derived.ChangeKeysEq
import Derived.Laws.StructEq
import Derived.Lib.TrailingZeros
import Derived.Laws.BitsAllLaws
set_option maxRecDepth 100000
set_option linter.defProp false
set_option maxHeartbeats 8000000
open Go.IntKind renaming i64 -> Z9, u64 -> Z8
open Go.Value renaming int -> Z7, pointer -> Z6, slice -> Z5, bool -> Z2
open Go.Obj renaming cells -> Z4
open Go.Ending renaming returned -> Z3
open Go.Operand renaming tmp -> Z1
open Go renaming undef -> Z0, World -> ZV, Value -> ZU, Calls -> ZS
open Option renaming none -> ZZ, some -> ZY
open Bool renaming true -> ZX, false -> ZW
open Go.RowKit renaming Below -> ZT
open List renaming range -> XG, getElem?_eq_getElem -> XH, length_drop -> XJ, getD_eq_getElem?_getD -> XK, drop_drop -> XL, length_map -> XM, length_range -> XN, replicate -> XO, getElem?_map -> XP, size_toArray -> XQ, append_assoc -> XT, setIfInBounds_toArray -> XX, set_cons_succ -> XY, set_cons_zero -> XZ, ext_getElem -> X0, mem_map -> X1, map_nil -> X2, nil_append -> X3, length_append -> X4, length_take -> X5, mem_of_mem_take -> X6, mem_of_mem_drop -> X7, length_cons -> X8, map_cons -> Ya, append_nil -> Yb, take_add_one -> Ye, map_take -> Yh, map_drop -> Yi, take -> Yn, mem_append -> Yo, mem_range -> Yq, length_nil -> Yu, push_toArray -> YA, append_toArray -> YB, cons_append -> YC, getElem_mem -> YD, take_length -> YE, eq_nil_of_length_eq_zero -> YF, drop_eq_getElem_cons -> YH, getElem?_eq_some_iff -> YK, map_toArray -> YL, getElem?_range -> YM, eq_of_mem_replicate -> YN, all_eq_true -> YO, getElem_set -> YP, range_succ -> YT, map_append -> YU, range_zero -> YV, flatMap_append -> Y9, prefix_append_right_inj -> Za, mem_append_left -> Zb, mem_singleton -> Zc
open Nat renaming lt_of_lt_of_le -> XI, zero_le -> XR, add_assoc -> XU, zero_add -> XV, le_refl -> XW, two_pow_pos -> Yc, and_le_left -> Yd, le_trans -> Yf, mod_eq_of_lt -> Yg, min_eq_left -> Yj, pow_succ -> Yk, pow_le_pow_right -> Yl, mul_one -> Yp, testBit_two_pow_mul_add -> Ys, testBit_two_pow -> Yt, reduceAdd -> Yw, reduceSub -> Yx, lt_of_le_of_lt -> YG, mul_le_mul_right -> YQ, div_le_self -> YR, eq_of_testBit_eq -> YW, testBit_and -> YX, testBit_two_pow_sub_one -> YY, testBit_lt_two_pow -> YZ, div_mul_le_self -> Y3, pow_lt_pow_right -> Y5, div_eq_of_lt -> Y7
open Array renaming getD_eq_getD_getElem? -> XS, getElem?_eq_none -> X9, foldl -> Ym, getElem?_eq_some_iff -> Yr, replicate_succ -> Yy, replicate_zero -> Yz, getElem?_setIfInBounds -> YI, ext_getElem? -> YJ, replicate -> Y8
open Int renaming natCast_ediv -> YS, natCast_pow -> Y6, toNat_natCast -> Zd
open Bool renaming and_eq_true_iff -> Y4
open Go.Proofs.Tryz renaming prog -> ZR
open Go.Proofs.Tryz
namespace Go.Proofs.YtfbmmcnpjhmjaaaGreatDoor
open Go.RowKit Go.Deep Gf Go.Shelf
variable {a a':Act} {A:ay} {ops:Array Oper} {vals:Array ZU} {Q:Exit->Act->ZV->Prop} {Fc:Fence} {F:bh} {M:List (List Nat)} {T:List (Nat×Nat×List Nat)} {sh:List (Op×Option Nat×List Nat)} {l src s:List Nat} {vs:List ZU} {base n b off c q cap D r B L G p ps ho g x k lo hi gone:Nat} {K:Nat->Prop} {o:Oper} {P:Program} {α:Type} {t:TypeId} {v:ZU} {Vi:ZU->ZV->Prop} {w w0 w' w1 wc:ZV} {S:ZV->Prop}
def aQ (D L G t f n:Nat):Array ZU:=#[Z7 Z9 D,Z7 Z9 L,Z7 Z9 G,Z7 Z8 t,Z7 Z9 f,Z7 Z9 n]
def Bs.Ue (h:w.ownsRow base 5 1 v n (aH l)) (c:∀ x∈l,x<256) (p:l.length<=1000000):Bs w v l:=by
 have b:l.length=n:=by have:=h.1;rw [bp] at this;omega
 rcases h.2 with ⟨rfl,d⟩|⟨g,cap,cur,rfl,e,f,i,j,m,o⟩
 . subst d;have:l=[]:=YF b;subst this;exact ⟨ZZ,0,rfl,by simp,by simp,c,λh=>absurd rfl h⟩
 . refine ⟨ZY ⟨g,0,ZZ⟩,cap,by rw [b],by omega,by omega,c,λ_=>⟨g,0,rfl,λk a=>?_⟩⟩;have:=h.cells (g:=g) rfl k (Z7 .u8 ((l.getD k 0:Nat):Int)) (by unfold aH;rw [XP,XH a,XK,XH a];rfl);rw [mN] at this;rw [XV];exact this
def FY (w:ZV) (a b c d:Nat):(w.alloc (Z4 #[Z7 .u8 (a:Int),Z7 .u8 (b:Int),Z7 .u8 (c:Int),Z7 .u8 (d:Int)] 5)).ownsRow w.heap.size 5 1 (Z5 (ZY ⟨w.heap.size,0,ZZ⟩) 4 4) 4 (aH [a,b,c,d]):=
 ⟨rfl,.inr ⟨w.heap.size,4,_,rfl,XW _,blk_alloc_new _ _,XW _,by unfold maxLen;omega,rfl,rfl⟩⟩
theorem CR (w:ZV):ZS ZR 252 #[.agg #[]] w λe w'=>e=Z3 (Z5 ZZ 0 0)/\bW w w':=by
 go_enter func252,ntmps252;go_wp2;go_ret;exact ⟨rfl,bA w _⟩
theorem FZ (D L G t f n:Nat) (w:ZV) (Y:(aX.root D L G t f n).ok) :
 ZS ZR 238 #[.agg (aQ D L G t f n)] w λe w'=>∃ v,e=Z3 v/\Bs w' v (aX.root D L G t f n).body/\bW w w':=by
 obtain ⟨l,m,o,B,C,E⟩:=Y;have M:(w.alloc (Z4 (aQ D L G t f n) 117)).heap[w.heap.size]?=ZY (Z4 (aQ D L G t f n) 117 (0,0)):=blk_alloc_new _ _;have R:(w.alloc (Z4 (aQ D L G t f n) 117)).heap.size=w.heap.size+1:=by simp
 have y:=FY (w.alloc (Z4 (aQ D L G t f n) 117)) 1 D L G;have i:((w.alloc (Z4 (aQ D L G t f n) 117)).alloc (Z4 #[Z7 .u8 1,Z7 .u8 (D:Int),Z7 .u8 (L:Int),Z7 .u8 (G:Int)] 5)).heap[w.heap.size]?=ZY (Z4 (aQ D L G t f n) 117 (0,0)):=(blk_alloc_lt _ _ _ (by simp)).trans M;have x:bW w ((w.alloc (Z4 (aQ D L G t f n) 117)).alloc (Z4 #[Z7 .u8 1,Z7 .u8 (D:Int),Z7 .u8 (L:Int),Z7 .u8 (G:Int)] 5)):=(bA w _).alloc (by simp) _;have A:((w.alloc (Z4 (aQ D L G t f n) 117)).alloc (Z4 #[Z7 .u8 1,Z7 .u8 (D:Int),Z7 .u8 (L:Int),Z7 .u8 (G:Int)] 5)).heap.size=w.heap.size+2:=by simp
 rw [R] at y;unfold aQ at *;obtain ⟨w1,z⟩:=nM ((w.alloc (Z4 #[Z7 Z9 D,Z7 Z9 L,Z7 Z9 G,Z7 Z8 t,Z7 Z9 f,Z7 Z9 n] 117)).alloc (Z4 #[Z7 .u8 1,Z7 .u8 (D:Int),Z7 .u8 (L:Int),Z7 .u8 (G:Int)] 5));have J:w1.ownsRow (w.heap.size+1) 5 1 (Z5 (ZY ⟨w.heap.size+1,0,ZZ⟩) 4 4) 4 (aH [1,D,L,G]):=by rw [<- z];exact y
 rw [z] at i x A;have c1:w1.cell? ⟨w.heap.size,3,ZZ⟩=ZY (Z7 Z8 t):=by simp [World.cell?,i]
 have a:=hide4 J i x A;clear y J i x M R A;go_enter func238,ntmps238;go_wp2_with fail;refine (eY (w.heap.size+1) _ 4 (aH [1,D,L,G]) t 8 w1 a.out.1 (by have:=a.out.2.2.2;omega) (by decide) (by decide)).mono ?_;rintro e w2 ⟨Z,rfl,N,h,F⟩;have p:w2.heap[w.heap.size]?=ZY (Z4 #[Z7 Z9 D,Z7 Z9 L,Z7 Z9 G,Z7 Z8 t,Z7 Z9 f,Z7 Z9 n] 117 (0,0)):=(h.block _ (by have:=a.out.2.2.2;omega) (λe=>by simp [Value.ownBlock] at e)).trans a.out.2.1;have H:bW w w2:=a.out.2.2.1.trans (h.below λk u=>⟨by have:=a.out.2.2.2;omega,λe=>by simp [Value.ownBlock] at e;omega⟩);have P:=h.size;have T:w2.cell? ⟨w.heap.size,4,ZZ⟩=ZY (Z7 Z9 f):=by simp [World.cell?,p]
 have b:=hide5 N p H P F;clear N h F p H P z;go_wp2_with fail;refine (eY (w.heap.size+1) _ (4+8) (aH [1,D,L,G]++aH (be t 8)) f 4 w2 b.out.1 (by have:=a.out.2.2.2;have:=b.out.2.2.2.1;omega) (by decide) (by decide)).mono ?_;rintro e j ⟨v3,rfl,O,hi,W⟩;have s:∀ k,k<=w.heap.size->¬ Z.ownBlock=ZY k:=λk u e=>by have:=(b.out.1.lt k e).1;omega
 have q:j.heap[w.heap.size]?=ZY (Z4 #[Z7 Z9 D,Z7 Z9 L,Z7 Z9 G,Z7 Z8 t,Z7 Z9 f,Z7 Z9 n] 117 (0,0)):=(hi.block _ (by have:=a.out.2.2.2;have:=b.out.2.2.2.1;omega) (s _ lR)).trans b.out.2.1;have I:bW w j:=b.out.2.2.1.trans (hi.below λk u=>⟨by have:=a.out.2.2.2;have:=b.out.2.2.2.1;omega,s k (by omega)⟩);have Q:=Yf b.out.2.2.2.1 hi.size;have U:j.cell? ⟨w.heap.size,5,ZZ⟩=ZY (Z7 Z9 n):=by simp [World.cell?,q]
 have c:=hide4 O q I Q;clear O hi W q I Q T s;go_wp2_with fail;refine (eY (w.heap.size+1) _ (4+8+4) (aH [1,D,L,G]++aH (be t 8)++aH (be f 4)) n 4 j c.out.1 (by have:=a.out.2.2.2;have:=c.out.2.2.2;omega) (by decide) (by decide)).mono ?_;rintro e w4 ⟨v4,rfl,d,K,X⟩;have g:bW w w4:=c.out.2.2.1.trans (K.below λk u=>⟨by have:=a.out.2.2.2;have:=c.out.2.2.2;omega,λe=>by have:=(c.out.1.lt k e).1;omega⟩);have S:=hide2 d g;clear d K X g U;go_wp2;go_ret;obtain ⟨d,g⟩:=S.out;refine ⟨v4,rfl,?_,g⟩;have V:aH [1,D,L,G]++aH (be t 8)++aH (be f 4)++aH (be n 4)=aH (aX.root D L G t f n).body:=by
  rw [<- cd,<- cd,<- cd];simp only [aX.body,Yg l,Yg m,Yg o,XT]
 rw [V] at d;exact Bs.Ue d (ml (r:=.root D L G t f n) ⟨l,m,o,B,C,E⟩) (Yf (jP (r:=.root D L G t f n) ⟨l,m,o,B,C,E⟩) (by decide))
def Bs.mid (d:l.length<=c) (f:l.length<=1000000) (e:∀ x∈l,x<256) (h:w.rangeAt b off (aH l)):Bs w (Z5 (ZY ⟨b,off,ZZ⟩) l.length c) l:=
 ⟨_,c,rfl,d,by omega,e,λ_=>⟨b,off,rfl,λk a=>h k _ (by unfold aH;rw [XP,XH a,XK,XH a];rfl)⟩⟩
theorem nv (s:Nat) (h:w.rangeAt b off (aH l)):w.rangeAt b off (aH (l.take s)):=λj v a=>by
 unfold aH at a;rw [Yh,List.getElem?_take] at a;split at a
 . exact h j v a
 . cases a
def fQ (s:Nat) (h:w.rangeAt b off (aH l)):w.rangeAt b (off+s) (aH (l.drop s)):=λj v a=>by
 unfold aH at a;rw [Yi,List.getElem?_drop] at a;rw [XU];exact h (s+j) v a
theorem jQ (q b off c s:Nat) (l:List Nat) (w:ZV) (d:w.heap[q]?=ZY (Z4 #[Z5 (ZY ⟨b,off,ZZ⟩) l.length c] 34 (0,0))) (m:c<=1000) (g:∀ x∈l,x<256) (f:w.rangeAt b off (aH l)) (i:s<=l.length) (o:s<c) :
 ZS ZR 201 #[Z7 Z9 s,Z6 (ZY ⟨q,0,ZZ⟩)] w λe w'=>e=Z3 (Z7 Z8 (gD (l.take s):Nat))/\w'=w.setCell ⟨q,0,ZZ⟩ (Z5 (ZY ⟨b,off+s,ZZ⟩) (l.length-s) (c-s)):=by
 have a:Bs w (Z5 (ZY ⟨b,off,ZZ⟩) (l.take s).length c) (l.take s):=Bs.mid (by rw [X5];omega) (by rw [X5];omega) (λx h=>g x (X6 h)) (nv s f);rw [X5,Yj i] at a;have j:w.cell? ⟨q,0,ZZ⟩=ZY (Z5 (ZY ⟨b,off,ZZ⟩) l.length c):=by simp [World.cell?,d]
 have k:w.frozen? ⟨q,0,ZZ⟩=ZW:=by simp [World.frozen?,d]
 go_enter func201,ntmps201;go_wp2_with fail;refine (OB _ (l.take s) w a).mono ?_;rintro e w' ⟨rfl,rfl⟩;have n:¬ c=s:=by omega
 clear a f g;go_wp2;go_ret;exact ⟨rfl,rfl⟩
structure F0 (w0 w:ZV) (q b off c:Nat) (l:List Nat) (vals:Array ZU):Prop where
 box:w.heap[q]?=ZY (Z4 #[Z5 (ZY ⟨b,off,ZZ⟩) l.length c] 34 (0,0))
 res:w.heap[q+1]?=ZY (Z4 #[Z7 Z9 0,Z7 Z9 0,Z7 Z9 0,Z7 Z8 0,Z7 Z9 0,Z7 Z9 0] 117 (0,0))
 rv:w.heap[q+1+1]?=ZY (Z4 vals 117 (0,0))
 below:ZT q w0 w
 V0:w.rangeAt b off (aH l)
 lt:b<q
def aj {j:Nat} {cs:Array ZU} (h:w.heap[b]?=ZY (Z4 cs t (0,0))) (v:ZU):(w.setCell ⟨b,j,ZZ⟩ v).heap[b]?=ZY (Z4 (cs.setIfInBounds j v) t (0,0)):=by
 simp [World.setCell,Array.getElem?_modify,h]
def vX {l:List ZU} (h:w.rangeAt b off l) {a:Addr} (c:b≠a.block) (v:ZU):(w.setCell a v).rangeAt b off l:=λj u d=>by
 have:=h j u d;rw [<- this];exact World.cell?_of_block (blk_setCell_other _ _ _ _ c)
def F0.step (h:F0 w0 w q b off c l vals) (s j:Nat) (v:ZU) :
 F0 w0 ((w.setCell ⟨q,0,ZZ⟩ (Z5 (ZY ⟨b,off+s,ZZ⟩) (l.length-s) (c-s))).setCell ⟨q+1+1,j,ZZ⟩ v) q b (off+s) (c-s) (l.drop s) (vals.setIfInBounds j v):=by
 obtain ⟨a,d,e,f,g,i⟩:=h;refine ⟨?_,?_,?_,?_,?_,i⟩
 . rw [blk_setCell_other _ _ _ _ (by show q≠q+1+1;omega),aj a,XJ];rfl
 . rw [blk_setCell_other _ _ _ _ (by show q+1≠q+1+1;omega),blk_setCell_other _ _ _ _ (by show q+1≠q;omega)];exact d
 . exact aj ((blk_setCell_other _ _ _ _ (by show q+1+1≠q;omega)).trans e) v
 . exact (f.setCell (p:=⟨q,0,ZZ⟩) lR _).setCell (p:=⟨q+1+1,j,ZZ⟩) (by show q<=q+1+1;omega) _
 . exact vX (vX (fQ s g) (by show b≠q;omega) _) (by show b≠q+1+1;omega) _
def F0.cells (h:F0 w0 w q b off c l vals) (s j:Nat) (u:ZU) (a:vals[j]?=ZY u) :
 (w.setCell ⟨q,0,ZZ⟩ (Z5 (ZY ⟨b,off+s,ZZ⟩) (l.length-s) (c-s))).cell? ⟨q+1+1,j,ZZ⟩=ZY u/\(w.setCell ⟨q,0,ZZ⟩ (Z5 (ZY ⟨b,off+s,ZZ⟩) (l.length-s) (c-s))).frozen? ⟨q+1+1,j,ZZ⟩=ZW:=by
 have e:(w.setCell ⟨q,0,ZZ⟩ (Z5 (ZY ⟨b,off+s,ZZ⟩) (l.length-s) (c-s))).heap[q+1+1]?=_:=(blk_setCell_other _ _ _ _ (by show q+1+1≠q;omega)).trans h.rv;exact ⟨by simp [World.cell?,e,a],by simp [World.frozen?,e]⟩
def F2:∀ (l:List Nat),l.length<=7->(∀ x∈l,x<256)->gD l<256^l.length:=by
 intro l d a;induction hn:l.length generalizing l with
 | zero=>
  have:l=[]:=YF hn;subst this;decide
 | succ n ih=>
  rcases List.eq_nil_or_concat l with rfl|⟨b,x,rfl⟩
  . simp at hn
  . rw [List.concat_eq_append] at *;simp at hn;have c:b.length<=7:=(by simp at d;omega);have f:=ih b c (λy e=>a y (by simp [e])) hn;have g:=a x (by simp);rw [Ai,Yk];exact YG (Nat.mod_le _ _) (by omega)
theorem CS (b off:Nat) (l:List Nat) (w:ZV) (hl:l.length=59) (hx:∀ x∈l,x<256) (hr:w.rangeAt b off (aH l)) (hb:b<w.heap.size) :
 ZS ZR 191 #[Z5 (ZY ⟨b,off,ZZ⟩) l.length 59] w λe w'=>e=Z3 (.agg (aQ (gD (l.take 1)) (gD ((l.drop 1).take 1)) (gD ((l.drop 2).take 1)) (gD ((l.drop 3).take 8)) (gD ((l.drop 11).take 4)) (gD ((l.drop 15).take 4))))/\bW w w':=by
 have ko:∀ (fn:Fn) (first cap:Array ZU) (w:ZV),(Instr.makeFunc fn first cap).run ZR w=.ok (.func fn first cap) w:=λ_ _ _ _=>rfl;have V:∀ s,∀ x∈l.drop s,x<256:=λs x h=>hx x (X7 h);have k5:∀ s k,k<=7->gD ((l.drop s).take k)<256^k:=λs k hk=>by
  have hf:((l.drop s).take k).length<=k:=by rw [X5];omega
  exact XI (F2 _ (by omega) (λx h=>V s x (X6 h))) (Yl (by decide) hf)
 have U:F0 w (((w.alloc (Z4 #[Z5 (ZY ⟨b,off,ZZ⟩) l.length 59] 34)).alloc (Z4 #[Z7 Z9 0,Z7 Z9 0,Z7 Z9 0,Z7 Z8 0,Z7 Z9 0,Z7 Z9 0] 117)).alloc (Z4 #[Z7 Z9 0,Z7 Z9 0,Z7 Z9 0,Z7 Z8 0,Z7 Z9 0,Z7 Z9 0] 117)) w.heap.size b off 59 l #[Z7 Z9 0,Z7 Z9 0,Z7 Z9 0,Z7 Z8 0,Z7 Z9 0,Z7 Z9 0]:=by
  refine ⟨?_,?_,?_,((bA w _).alloc (by simp) _).alloc (by simp;omega) _,World.rangeAt_alloc (World.rangeAt_alloc (World.rangeAt_alloc hr _) _) _,hb⟩
  . rw [blk_alloc_lt _ _ _ (by simp;omega),blk_alloc_lt _ _ _ (by simp)];exact blk_alloc_new _ _
  . rw [blk_alloc_lt _ _ _ (by simp)];have:=blk_alloc_new (w.alloc (Z4 #[Z5 (ZY ⟨b,off,ZZ⟩) l.length 59] 34)) (Z4 #[Z7 Z9 0,Z7 Z9 0,Z7 Z9 0,Z7 Z8 0,Z7 Z9 0,Z7 Z9 0] 117);simpa using this
  . have:=blk_alloc_new ((w.alloc (Z4 #[Z5 (ZY ⟨b,off,ZZ⟩) l.length 59] 34)).alloc (Z4 #[Z7 Z9 0,Z7 Z9 0,Z7 Z9 0,Z7 Z8 0,Z7 Z9 0,Z7 Z9 0] 117)) (Z4 #[Z7 Z9 0,Z7 Z9 0,Z7 Z9 0,Z7 Z8 0,Z7 Z9 0,Z7 Z9 0] 117);simpa using this
 obtain ⟨w1,k6⟩:=nM (((w.alloc (Z4 #[Z5 (ZY ⟨b,off,ZZ⟩) l.length 59] 34)).alloc (Z4 #[Z7 Z9 0,Z7 Z9 0,Z7 Z9 0,Z7 Z8 0,Z7 Z9 0,Z7 Z9 0] 117)).alloc (Z4 #[Z7 Z9 0,Z7 Z9 0,Z7 Z9 0,Z7 Z8 0,Z7 Z9 0,Z7 Z9 0] 117));rw [k6] at U;have a:=hide3 V k5 hl;have H0:Hid (F0 w w1 w.heap.size b (off+0) 59 (l.drop 0) #[Z7 Z9 0,Z7 Z9 0,Z7 Z9 0,Z7 Z8 0,Z7 Z9 0,Z7 Z9 0]):=U;clear U hr hx V k5 hl hb;go_enter func191,ntmps191;go_wp2_with fail;obtain ⟨f,hi⟩:∃ x,gD ((l.drop 0).take 1)=x:=⟨_,rfl⟩;have b0:f<4294967296:=XI (hi▸a.out.2.1 0 1 (by decide)) (by decide);have M:=H0.out;refine (jQ w.heap.size b (off+0) 59 1 (l.drop 0) w1 M.box (by decide) (a.out.1 0) M.V0 (by rw [XJ,a.out.2.2];decide) (by decide)).mono ?_;rintro e y0 ⟨rfl,ke⟩;rw [hi];have G:=M.step 1 0 (Z7 Z9 (f:Nat));obtain ⟨r,B⟩:=M.cells 1 0 _ rfl;rw [<- ke] at G r B;clear ke;obtain ⟨w2,k7⟩:∃ z,y0.setCell ⟨w.heap.size+1+1,0,ZZ⟩ (Z7 Z9 (f:Nat))=z:=⟨_,rfl⟩;rw [k7] at G;have hq:F0 w w2 w.heap.size b (off+1) 58 (l.drop 1) #[Z7 Z9 (f:Nat),Z7 Z9 0,Z7 Z9 0,Z7 Z8 0,Z7 Z9 0,Z7 Z9 0]:=by
  rw [XL,XU off] at G;exact G
 have H1:=hide hq;clear M G hq;go_wp2_with fail;obtain ⟨g,W⟩:∃ x,gD ((l.drop 1).take 1)=x:=⟨_,rfl⟩;have b1:g<4294967296:=XI (W▸a.out.2.1 1 1 (by decide)) (by decide);have N:=H1.out;refine (jQ w.heap.size b (off+1) 58 1 (l.drop 1) w2 N.box (by decide) (a.out.1 1) N.V0 (by rw [XJ,a.out.2.2];decide) (by decide)).mono ?_;rintro e y1 ⟨rfl,kf⟩;rw [W];have H:=N.step 1 1 (Z7 Z9 (g:Nat));obtain ⟨t,C⟩:=N.cells 1 1 _ rfl;rw [<- kf] at H t C;clear kf;obtain ⟨w3,k8⟩:∃ z,y1.setCell ⟨w.heap.size+1+1,1,ZZ⟩ (Z7 Z9 (g:Nat))=z:=⟨_,rfl⟩;rw [k8] at H;have hs:F0 w w3 w.heap.size b (off+2) 57 (l.drop 2) #[Z7 Z9 (f:Nat),Z7 Z9 (g:Nat),Z7 Z9 0,Z7 Z8 0,Z7 Z9 0,Z7 Z9 0]:=by
  rw [XL,XU off] at H;exact H
 have H2:=hide hs;clear N H hs;go_wp2_with fail;obtain ⟨i,X⟩:∃ x,gD ((l.drop 2).take 1)=x:=⟨_,rfl⟩;have b2:i<4294967296:=XI (X▸a.out.2.1 2 1 (by decide)) (by decide);have O:=H2.out;refine (jQ w.heap.size b (off+2) 57 1 (l.drop 2) w3 O.box (by decide) (a.out.1 2) O.V0 (by rw [XJ,a.out.2.2];decide) (by decide)).mono ?_;rintro e y2 ⟨rfl,kg⟩;rw [X];have I:=O.step 1 2 (Z7 Z9 (i:Nat));obtain ⟨u,D⟩:=O.cells 1 2 _ rfl;rw [<- kg] at I u D;clear kg;obtain ⟨w4,k9⟩:∃ z,y2.setCell ⟨w.heap.size+1+1,2,ZZ⟩ (Z7 Z9 (i:Nat))=z:=⟨_,rfl⟩;rw [k9] at I;have hv:F0 w w4 w.heap.size b (off+3) 56 (l.drop 3) #[Z7 Z9 (f:Nat),Z7 Z9 (g:Nat),Z7 Z9 (i:Nat),Z7 Z8 0,Z7 Z9 0,Z7 Z9 0]:=by
  rw [XL,XU off] at I;exact I
 have H3:=hide hv;clear O I hv;go_wp2_with fail;obtain ⟨m,kc⟩:∃ x,gD ((l.drop 3).take 8)=x:=⟨_,rfl⟩;have P:=H3.out;refine (jQ w.heap.size b (off+3) 56 8 (l.drop 3) w4 P.box (by decide) (a.out.1 3) P.V0 (by rw [XJ,a.out.2.2];decide) (by decide)).mono ?_;rintro e y3 ⟨rfl,kh⟩;rw [kc];have J:=P.step 8 3 (Z7 Z8 (m:Nat));obtain ⟨y,E⟩:=P.cells 8 3 _ rfl;rw [<- kh] at J y E;clear kh;obtain ⟨w5,ka⟩:∃ z,y3.setCell ⟨w.heap.size+1+1,3,ZZ⟩ (Z7 Z8 (m:Nat))=z:=⟨_,rfl⟩;rw [ka] at J;have hy:F0 w w5 w.heap.size b (off+11) 48 (l.drop 11) #[Z7 Z9 (f:Nat),Z7 Z9 (g:Nat),Z7 Z9 (i:Nat),Z7 Z8 (m:Nat),Z7 Z9 0,Z7 Z9 0]:=by
  rw [XL,XU off] at J;exact J
 have H4:=hide hy;clear P J hy;go_wp2_with fail;obtain ⟨n,Y⟩:∃ x,gD ((l.drop 11).take 4)=x:=⟨_,rfl⟩;have b4:n<4294967296:=XI (Y▸a.out.2.1 11 4 (by decide)) (by decide);have Q:=H4.out;refine (jQ w.heap.size b (off+11) 48 4 (l.drop 11) w5 Q.box (by decide) (a.out.1 11) Q.V0 (by rw [XJ,a.out.2.2];decide) (by decide)).mono ?_;rintro e y4 ⟨rfl,ki⟩;rw [Y];have K:=Q.step 4 4 (Z7 Z9 (n:Nat));obtain ⟨A,F⟩:=Q.cells 4 4 _ rfl;rw [<- ki] at K A F;clear ki;obtain ⟨w6,kb⟩:∃ z,y4.setCell ⟨w.heap.size+1+1,4,ZZ⟩ (Z7 Z9 (n:Nat))=z:=⟨_,rfl⟩;rw [kb] at K;have hz:F0 w w6 w.heap.size b (off+15) 44 (l.drop 15) #[Z7 Z9 (f:Nat),Z7 Z9 (g:Nat),Z7 Z9 (i:Nat),Z7 Z8 (m:Nat),Z7 Z9 (n:Nat),Z7 Z9 0]:=by
  rw [XL,XU off] at K;exact K
 have H5:=hide hz;clear Q K hz;go_wp2_with fail;obtain ⟨o,Z⟩:∃ x,gD ((l.drop 15).take 4)=x:=⟨_,rfl⟩;have b5:o<4294967296:=XI (Z▸a.out.2.1 15 4 (by decide)) (by decide);have R:=H5.out;refine (jQ w.heap.size b (off+15) 44 4 (l.drop 15) w6 R.box (by decide) (a.out.1 15) R.V0 (by rw [XJ,a.out.2.2];decide) (by decide)).mono ?_;rintro e y5 ⟨rfl,kj⟩;rw [Z];have L:=R.step 4 5 (Z7 Z9 (o:Nat));obtain ⟨S,T⟩:=R.cells 4 5 _ rfl;rw [<- kj] at L S T;clear kj;obtain ⟨d,km⟩:∃ z,y5.setCell ⟨w.heap.size+1+1,5,ZZ⟩ (Z7 Z9 (o:Nat))=z:=⟨_,rfl⟩;rw [km] at L;have k0:F0 w d w.heap.size b (off+19) 40 (l.drop 19) #[Z7 Z9 (f:Nat),Z7 Z9 (g:Nat),Z7 Z9 (i:Nat),Z7 Z8 (m:Nat),Z7 Z9 (n:Nat),Z7 Z9 (o:Nat)]:=by
  rw [XL,XU off] at L;exact L
 have c:=hide k0;clear R L k0;have g0:d.cell? ⟨w.heap.size+1+1,0,ZZ⟩=ZY (Z7 Z9 (f:Nat)):=by simp [World.cell?,c.out.rv]
 have g1:d.cell? ⟨w.heap.size+1+1,1,ZZ⟩=ZY (Z7 Z9 (g:Nat)):=by simp [World.cell?,c.out.rv]
 have g2:d.cell? ⟨w.heap.size+1+1,2,ZZ⟩=ZY (Z7 Z9 (i:Nat)):=by simp [World.cell?,c.out.rv]
 have g3:d.cell? ⟨w.heap.size+1+1,3,ZZ⟩=ZY (Z7 Z8 (m:Nat)):=by simp [World.cell?,c.out.rv]
 have g4:d.cell? ⟨w.heap.size+1+1,4,ZZ⟩=ZY (Z7 Z9 (n:Nat)):=by simp [World.cell?,c.out.rv]
 have g5:d.cell? ⟨w.heap.size+1+1,5,ZZ⟩=ZY (Z7 Z9 (o:Nat)):=by simp [World.cell?,c.out.rv]
 have r0:d.cell? ⟨w.heap.size+1,0,ZZ⟩=ZY (Z7 Z9 0):=by simp [World.cell?,c.out.res]
 have r1:d.cell? ⟨w.heap.size+1,1,ZZ⟩=ZY (Z7 Z9 0):=by simp [World.cell?,c.out.res]
 have r2:d.cell? ⟨w.heap.size+1,2,ZZ⟩=ZY (Z7 Z9 0):=by simp [World.cell?,c.out.res]
 have r3:d.cell? ⟨w.heap.size+1,3,ZZ⟩=ZY (Z7 Z8 0):=by simp [World.cell?,c.out.res]
 have r4:d.cell? ⟨w.heap.size+1,4,ZZ⟩=ZY (Z7 Z9 0):=by simp [World.cell?,c.out.res]
 have r5:d.cell? ⟨w.heap.size+1,5,ZZ⟩=ZY (Z7 Z9 0):=by simp [World.cell?,c.out.res]
 have q:∀ k,d.frozen? ⟨w.heap.size+1,k,ZZ⟩=ZW:=λk=>by simp [World.frozen?,c.out.res]
 have f0:=q 0;have f1:=q 1;have f2:=q 2;have f3:=q 3;have f4:=q 4;have f5:=q 5;clear q k6 k7 k8 k9 ka kb r t u y A B C D E F H0 H1 H2 H3 H4 H5;go_wp2;have hh:=aj (j:=5) (aj (j:=4) (aj (j:=3) (aj (j:=2) (aj (j:=1) (aj (j:=0) c.out.res (Z7 Z9 (f:Nat))) (Z7 Z9 (g:Nat))) (Z7 Z9 (i:Nat))) (Z7 Z8 (m:Nat))) (Z7 Z9 (n:Nat))) (Z7 Z9 (o:Nat));refine bodyPost_ret (v:=.agg (aQ f g i m n o)) (results_cell_row results191 _ _ (w.heap.size+1) 117 (aQ f g i m n o) (0,0) _ rfl hh underlying117 rfl (by kernel_rfl)) rfl ?_;have kk:=c.out.below;refine ⟨?_,(((((kk.setCell (p:=⟨w.heap.size+1,0,ZZ⟩) (by show w.heap.size<=w.heap.size+1;omega) _).setCell (p:=⟨w.heap.size+1,1,ZZ⟩) (by show w.heap.size<=w.heap.size+1;omega) _).setCell (p:=⟨w.heap.size+1,2,ZZ⟩) (by show w.heap.size<=w.heap.size+1;omega) _).setCell (p:=⟨w.heap.size+1,3,ZZ⟩) (by show w.heap.size<=w.heap.size+1;omega) _).setCell (p:=⟨w.heap.size+1,4,ZZ⟩) (by show w.heap.size<=w.heap.size+1;omega) _).setCell (p:=⟨w.heap.size+1,5,ZZ⟩) (by show w.heap.size<=w.heap.size+1;omega) _⟩;rw [<- hi,<- W,<- X,<- kc,<- Y,<- Z,List.drop_zero]
def br:aX->ZU
 | .blank=>.iface 235 (.agg #[])
 | .root D L G t f n=>.iface 117 (.agg (aQ D L G t f n))
 | .filled=>.iface 174 (.agg #[])
 | .shard l=>.iface 217 (.agg (aH l).toArray)
def mq (h:bJ w b l):w.rangeAt b 0 (aH l):=λj v c=>by
 have:(an l)[j]?=ZY v:=by unfold an;simpa using c
 have a:w.heap[b]?=ZY (Z4 (an l) 255 (0,0)):=h;simp [World.cell?,a,this]
def Ji (h:bJ w b l) (i:Nat) (hi:i<l.length):w.cell? ⟨b,i,ZZ⟩=ZY (Z7 .u8 ((l.getD i 0:Nat):Int)):=by
 have:=mq h i (Z7 .u8 ((l.getD i 0:Nat):Int)) (by unfold aH;rw [XP,XH hi,XK,XH hi];rfl);rwa [XV] at this
def sI (l:List Nat) (i:Nat) (h:i<l.length):(l.drop i).take 1=[l.getD i 0]:=by
 rw [YH h,XK,XH h];rfl
def Jj (b:l.length=64) (a:l.getD 4 0=1):FO l=.root (gD ((l.drop 5).take 1)) (gD (((l.drop 5).drop 1).take 1)) (gD (((l.drop 5).drop 2).take 1)) (gD (((l.drop 5).drop 3).take 8)) (gD (((l.drop 5).drop 11).take 4)) (gD (((l.drop 5).drop 15).take 4)):=by
 unfold FO;rw [if_pos a,XL,XL,XL,XL,XL,sI l 5 (by omega),sI l (5+1) (by omega),sI l (5+2) (by omega)]
theorem Ak:∀ (l:List ZU) (k:Nat) (z:Array ZU),((l.zipIdx k).foldl (λcs x=>cs.setIfInBounds x.2 x.1) z).size=z.size/\∀ i,((l.zipIdx k).foldl (λcs x=>cs.setIfInBounds x.2 x.1) z)[i]?=if k<=i/\i<k+l.length/\i<z.size then l[i-k]? else z[i]?
 | [],k,z=>⟨rfl,λi=>by
  show z[i]?=if k<=i/\i<k+0/\i<z.size then _ else z[i]?;rw [if_neg (by omega)]⟩
 | v::l,k,z=>by
  obtain ⟨b,c⟩:=Ak l (k+1) (z.setIfInBounds k v);rw [List.zipIdx_cons,List.foldl_cons];refine ⟨by rw [b];simp,λi=>?_⟩;rw [c i,Array.size_setIfInBounds,YI];simp only [X8];by_cases e:k=i
  . subst e;rw [if_neg (by omega),if_pos rfl];by_cases a:k<z.size
    . rw [if_pos a,if_pos (by omega),Nat.sub_self];rfl
    . rw [if_neg a,if_neg (by omega)];simp [a]
  . rw [if_neg e];by_cases a:k+1<=i/\i<k+1+l.length/\i<z.size
    . rw [if_pos a,if_pos (by omega),show i-k=(i-(k+1))+1 by omega];rfl
    . rw [if_neg a,if_neg (by omega)]
theorem vY (z a:Array ZU) (n:Nat) (f:z.size=n) (c:a.size=n):Ym (λcs x=>cs.setIfInBounds x.snd x.fst) z a.zipIdx 0 n=a:=by
 have e:Ym (λcs x=>cs.setIfInBounds x.snd x.fst) z a.zipIdx 0 n=(a.toList.zipIdx).foldl (λcs x=>cs.setIfInBounds x.2 x.1) z:=by
  rw [<- c,show a.size=a.zipIdx.size by simp,<- Array.foldl_toList,Array.toList_zipIdx]
 rw [e];obtain ⟨d,b⟩:=Ak a.toList 0 z;apply YJ;intro i;rw [b i];by_cases hi:i<n
 . rw [if_pos (by simp;omega)];simp
 . rw [if_neg (by omega)];simp [X9 (show z.size<=i by omega),X9 (show a.size<=i by omega)]
theorem F3 (l:List Nat) (w:ZV) (q:l.length=64) (m:∀ x∈l,x<256) :
 ZS ZR 176 #[.agg (an l)] w λe w'=>e=Z3 (br (FO l))/\bW w w':=by
 have o:=bJ.new w l;have c:bW w (w.alloc (Z4 (an l) 255)):=bA w _;have b:(w.alloc (Z4 (an l) 255)).heap.size=w.heap.size+1:=by simp
 have G:(an l).size=64:=by rw [bB,q]
 obtain ⟨w1,hi⟩:=nM (w.alloc (Z4 (an l) 255));rw [hi] at o c b;have t:=Ji o 4 (by omega);have j:w1.rangeAt w.heap.size 5 (aH (l.drop 5)):=by have:=fQ 5 (mq o);rwa [XV] at this
 have i:w1.rangeAt w.heap.size 20 (aH (l.drop 20)):=by have:=fQ 20 (mq o);rwa [XV] at this
 have k:∀ x∈l.drop 5,x<256:=λx h=>m x (X7 h);have d:(l.drop 5).length=59:=by rw [XJ,q]
 have f:(l.drop 20).length=44:=by rw [XJ,q]
 by_cases g:l.getD 4 0=1
 . have a:=Jj q g;rw [g] at t;have p:=CS w.heap.size 5 (l.drop 5) w1 d k j (by omega);rw [d] at p;rw [a];obtain ⟨ra,v⟩:=nM (aQ (gD ((l.drop 5).take 1)) (gD (((l.drop 5).drop 1).take 1)) (gD (((l.drop 5).drop 2).take 1)) (gD (((l.drop 5).drop 3).take 8)) (gD (((l.drop 5).drop 11).take 4)) (gD (((l.drop 5).drop 15).take 4)));rw [v] at p;have E:=hide v;clear v;have H:=hide2 c b;clear a i j k f m d c b;go_enter func176,ntmps176;go_wp2_with fail;refine p.mono ?_;rintro e w2 ⟨rfl,B⟩;clear p;have D:=hide B;clear B;go_wp2;go_ret;exact ⟨by rw [show br (.root (gD ((l.drop 5).take 1)) (gD (((l.drop 5).drop 1).take 1)) (gD (((l.drop 5).drop 2).take 1)) (gD (((l.drop 5).drop 3).take 8)) (gD (((l.drop 5).drop 11).take 4)) (gD (((l.drop 5).drop 15).take 4)))=.iface 117 (.agg ra) from (by unfold br;rw [<- E.out])];rfl,H.out.1.trans (D.out.mono (by have:=H.out.2;omega))⟩
 . by_cases n:l.getD 4 0=2
   . have a:FO l=.filled:=(by unfold FO;rw [if_neg g,if_pos n]);rw [n] at t;rw [a];have H:=hide2 c b;clear a i j k f m d c b;unfold br;go_enter func176,ntmps176;go_wp2;go_ret;exact ⟨rfl,H.out.1⟩
   . by_cases u:l.getD 4 0=3
     . have a:FO l=.shard (l.drop 20):=(by unfold FO;rw [if_neg g,if_neg n,if_pos u]);rw [u] at t;rw [a];have H:=hide4 c b i f;clear a i j k f m d c b;have I:∀ (s:Addr) (w:ZV),(Instr.arrayAt 215 (Z5 (ZY s) 44 44)).run ZR w=.ok (Z6 (ZY s)) w:=λs w=>by simp [Instr.arrayAt,run_underlying underlying215]
       have C:(aH (l.drop 20)).toArray.size=44:=(by rw [XQ,bp];exact H.out.2.2.2);go_enter func176,ntmps176;obtain ⟨r,y⟩:=nM ((aH (l.drop 20)).toArray);rw [y] at C;have A:=hide y;go_wp2_with (refine wpList_load_mid rfl 215 (Z1 17) rfl w.heap.size 20 rfl (aH (l.drop 20)) _ H.out.2.2.1 underlying215 rfl (by rw [bp,H.out.2.2.2];kernel_rfl) ?_;rw [A.out];clear y);have F:∀ z:Array ZU,z.size=44->Ym (λcs x=>cs.setIfInBounds x.snd x.fst) z r.zipIdx 0 44=r:=λz b=>vY z r 44 b C;rw [F _ rfl];go_ret;exact ⟨by rw [show br (.shard (l.drop 20))=.iface 217 (.agg r) from (by unfold br;rw [<- A.out])];rfl,H.out.1⟩
     . have a:FO l=.blank:=(by unfold FO;rw [if_neg g,if_neg n,if_neg u]);rw [a];have H:=hide2 c b;have J:¬ ((l.getD 4 0:Nat):Int)=1:=(by omega);have K:¬ ((l.getD 4 0:Nat):Int)=2:=(by omega);have L:¬ ((l.getD 4 0:Nat):Int)=3:=(by omega);clear a i j k f m d c b;generalize l.getD 4 0=x at *;unfold br;go_enter func176,ntmps176;go_wp2;go_ret;exact ⟨rfl,H.out.1⟩
def jM (l:List Nat) (off:Nat) (src:List Nat):List Nat:=l.take off++(src++l.drop (off+src.length))
def oi (h:off+src.length<=l.length):(jM l off src).length=l.length:=by unfold jM;simp;omega
theorem oj (h:TypeId) (p:bJ w b l) (r:Bs w v src) (i:src≠[]) (y:src.length<=n) (t:off+src.length<=l.length) :
 (Builtin.copy_ #[34,34] h #[Z5 (ZY ⟨b,off,ZZ⟩) n cap,v]).run ZR w=.ok (Z7 Z9 (src.length:Nat)) (w.setRow b (an (jM l off src))):=by
 obtain ⟨ao,c,rfl,z,A,B,k⟩:=r;obtain ⟨g,o,rfl,s⟩:=k i;have m:=run_copy_row (P:=ZR) w 34 34 h 5 b off n cap ⟨g,o,ZZ⟩ src.length c (an l) 255 (aH src) underlying34 (by kernel_rfl) p (by rw [bp];exact (Yj y).symm) (λj u f=>by
  have a:j<src.length:=by obtain ⟨q,_⟩:=YK.1 f;rwa [bp] at q
  rw [Addr.add_mid,s j a,<- f];unfold aH;rw [XP,XH a,XK,XH a];rfl) (by rw [bp,bB];exact t) (λu d=>by
  unfold aH at d;rw [X1] at d;obtain ⟨x,_,rfl⟩:=d;rfl)
 rw [m];have e:(Yn off (an l).toList++aH src++List.drop (off+(aH src).length) (an l).toList).toArray=an (jM l off src):=by
  rw [vR,bp];unfold an jM;rw [cd,cd,XT];unfold aH;rw [Yh,Yi]
 simp only [XT] at e ⊢;rw [e,bp];rfl
noncomputable def Sw:Array Oper:=((Tryz.f156.body.bind (mW · 5))).getD #[]
def Ry:List (Op×Option Nat×List Nat):=[(Op.slice 255 (Z1 3) ZZ (ZY (Operand.const (Value.int IntKind.i64 4))) ZZ,ZY 13,[]),
 (Op.slice 255 (Z1 3) (ZY (Operand.const (Value.int IntKind.i64 4))) ZZ ZZ,ZY 14,[]),
 (Op.call { callee:=Callee.value (Operand.func 175),args:=#[Z1 14],argTypes:=#[34] },ZY 15,[1]),
 (Op.convert 296 47 (Z1 15),ZY 16,[2]),
 (Op.call { callee:=Callee.value (Operand.func 149),args:=#[Operand.const (Value.slice ZZ 0 0),Z1 16,Operand.const (Value.int IntKind.i64 4)],argTypes:=#[34,47,3] },ZY 17,[3,2]),
 (Op.call { callee:=Callee.builtin Builtin.copy,args:=#[Z1 13,Z1 17],argTypes:=#[34,34] },ZY 18,[0,4,4])]
def F4:aN Sw 13 19 Ry:=bx (by kernel_rfl) (by kernel_rfl)
def Rz (w0:ZV) (b c:Nat) (i:Nat) (u:ZU) (w:ZV):Prop:=match i with
 | 0=>u=Z5 (ZY ⟨b,0,ZZ⟩) 4 64
 | 1=>u=Z5 (ZY ⟨b,4,ZZ⟩) 60 60
 | 2=>u=Z7 .u32 (c:Nat)
 | 3=>u=Z7 Z8 (c:Nat)
 | 4=>w.ownsRow w0.heap.size 5 1 u (0+4) (aH (be c 4))
 | _=>True
def Al (j:b<w0.heap.size) (g:∀ k,k≠b->k<w.heap.size->w'.heap[k]?=w.heap[k]?) (a:w.os=w'.os/\w.tape=w'.tape/\w.output=w'.output/\w.heap.size<=w'.heap.size) (i:Nat) (u:ZU) (h:Rz w0 b c i u w):Rz w0 b c i u w':=by
 match i with
 | 0|1|2|3=>exact h
 | 4=>exact World.ownsRow.kept h (row:=ZY b) ⟨a.1.symm,a.2.1.symm,a.2.2.1.symm,a.2.2.2,λk d f=>g k (λe=>f (by rw [e])) d⟩ (.inr λe=>by have:=(World.ownsRow.lt h b e).1;omega)
 | n+5=>trivial
def RA (w0:ZV) (b c:Nat) (l:List Nat) (D:Nat->Bool) (w:ZV):Prop:=bJ w b (if D 5=ZX then jM l 0 (be c 4) else l)/\aa (λk=>k=b) w0 w
def oq {D:Nat->Bool} (h:RA w0 b c l D w) (i:Nat) (hi:i≠5) (a:aa (λ_=>False) w w'):RA w0 b c l (dR D i) w':=by
 refine ⟨?_,h.2.later a (λ_ _ q=>q.elim)⟩;unfold dR;rw [if_neg (λe:5=i=>hi e.symm)];exact h.1.keep (a.block _ h.1.lt (λq=>q))
def bk.out (h:bk w) (a:aa (λk=>k=b) w w') (c:b≠2):bk w':=λj d=>by
 have:=h j d;rw [<- this];exact World.cell?_of_block (a.block _ (block_lt_of_cell this) (λe=>c e.symm))
theorem kt (L:Sw=ops) (d:bJ w b l) (C:l.length=64) (Y:∀ x∈l,x<256) (X:bk w) (N:b≠2) (hs:a.tmps.size=20)
 (F:a.eval (Z1 3)=Z6 (ZY ⟨b,0,ZZ⟩)) (J:∀ (w':ZV) (vs:List ZU),vs.length=6->bJ w' b (jM l 0 (be (I6 (l.drop 4)) 4))->aa (λk=>k=b) w w'->Q .normal (Act.putFrom a 13 vs) w'):(Code.region 5 ops ZX).wp ZR Q a w:=by
 subst L;obtain ⟨c,E⟩:=nM (I6 (l.drop 4));have y:c<4294967296:=E▸Ov _;rw [E] at J;have I:=d.lt;refine cB (by kernel_rfl) F4 a w (by omega) (Rz w b c) (RA w b c l) ⟨d,aa.drew w⟩ ?_ ?_
 . intro i hi;match i,hi with
   | 0,_=>
    intro o a' w' D z ho g p s y r d m;have u0:a'.eval (Z1 3)=Z6 (ZY ⟨b,0,ZZ⟩):=(p.slot 3 (by omega)).trans F;exact ae (v:=Z5 (ZY ⟨b,0,ZZ⟩) 4 64) (by simp only [execOp,show o.op=Op.slice 255 (Z1 3) ZZ (ZY (Operand.const (Value.int IntKind.i64 4))) ZZ from ho,u0];go_simp) g ⟨oq d 0 (by decide) (aa.refl _ _),rfl,kq⟩
   | 1,_=>
    intro o a' w' D z ho g p s y r d m;have u0:a'.eval (Z1 3)=Z6 (ZY ⟨b,0,ZZ⟩):=(p.slot 3 (by omega)).trans F;exact ae (v:=Z5 (ZY ⟨b,4,ZZ⟩) 60 60) (by simp only [execOp,show o.op=Op.slice 255 (Z1 3) (ZY (Operand.const (Value.int IntKind.i64 4))) ZZ ZZ from ho,u0];go_simp) g ⟨oq d 1 (by decide) (aa.refl _ _),rfl,kq⟩
   | 2,_=>
    intro o a' w' D z ho g p s y r d m;have u0:a'.eval (Z1 14)=Z5 (ZY ⟨b,4,ZZ⟩) 60 60:=m 1 (r 1 (by decide));have O:D 5=ZW:=by
     cases q:D 5 with
     | false=>rfl
     | true=>have:=(y 5 q).2 4 (by decide);have:=(y 4 this).2 2 (by decide);rw [s] at this;cases this
    have B:bJ w' b l:=(by have:=d.1;rw [if_neg (by rw [O];decide)] at this;exact this);have K:Bs w' (Z5 (ZY ⟨b,4,ZZ⟩) (l.drop 4).length 60) (l.drop 4):=Bs.mid (by rw [XJ,C];decide) (by rw [XJ,C];decide) (λx h=>Y x (X7 h)) (by have:=fQ 4 (mq B);rwa [XV] at this);rw [show (l.drop 4).length=60 by rw [XJ,C]] at K;refine dD (f:=175) (args:=#[Z5 (ZY ⟨b,4,ZZ⟩) 60 60]) (w1:=w') (by simp only [execOp,show o.op=Op.call { callee:=Callee.value (Operand.func 175),args:=#[Z1 14],argTypes:=#[34] } from ho];go_simp;simpa [Act.eval] using u0) g (Mm _ (l.drop 4) w' K (X.out d.2 N)) ?_;rintro e A ⟨rfl,rfl⟩;rw [E];exact ⟨_,rfl,oq d 2 (by decide) (aa.refl _ _),rfl,kq⟩
   | 3,_=>
    intro o a' w' D z ho g p s G r d m;have u0:a'.eval (Z1 15)=Z7 .u32 (c:Nat):=m 2 (r 2 (by decide));exact ae (v:=Z7 Z8 (c:Nat)) (by simp only [execOp,show o.op=Op.convert 296 47 (Z1 15) from ho,u0];go_simp;rw [IntKind.wrap_u64];omega) g ⟨oq d 3 (by decide) (aa.refl _ _),rfl,kq⟩
   | 4,_=>
    intro o a' w' D z ho g p s G r d m;have u0:a'.eval (Z1 16)=Z7 Z8 (c:Nat):=m 3 (r 3 (by decide));refine dD (f:=149) (args:=#[Z5 ZZ 0 0,Z7 Z8 (c:Nat),Z7 Z9 (4:Nat)]) (w1:=w') (by simp only [execOp,show o.op=Op.call { callee:=Callee.value (Operand.func 149),args:=#[Operand.const (Value.slice ZZ 0 0),Z1 16,Operand.const (Value.int IntKind.i64 4)],argTypes:=#[34,47,3] } from ho];go_simp;simpa [Act.eval] using u0) g (eY w.heap.size (Z5 ZZ 0 0) 0 [] c 4 w' (World.ownsRow_nil _ _ _ _) d.2.size (by decide) (by decide)) ?_;rintro e A ⟨Z,rfl,W,P,hr⟩;have t:aa (λ_=>False) w' A:=P.mono (λk _ q=>by simp [Value.ownBlock] at q);refine ⟨Z,rfl,oq d 4 (by decide) t,W,λj u T q=>Al I (λk _ p=>t.block k p (λq=>q)) ⟨t.os.symm,t.tape.symm,t.output.symm,t.size⟩ j u q⟩
   | 5,_=>
    intro o a' w' D z ho g p s G r d m;have u0:a'.eval (Z1 13)=Z5 (ZY ⟨b,0,ZZ⟩) 4 64:=m 0 (r 0 (by decide));have u1:w'.ownsRow w.heap.size 5 1 (a'.eval (Z1 17)) (0+4) (aH (be c 4)):=m 4 (r 4 (by decide));have B:bJ w' b l:=(by have:=d.1;rw [if_neg (by rw [s];decide)] at this;exact this);have R:=oj (n:=4) (cap:=64) (off:=0) o.type B (Bs.Ue u1 (sC _ _) (by rw [bY];decide)) (by intro e;have:=bY c 4;rw [e] at this;cases this) (by rw [bY];decide) (by rw [bY,C];decide);refine ae (v:=Z7 Z9 ((be c 4).length:Nat)) (w':=w'.setRow b (an (jM l 0 (be c 4)))) (by simp only [execOp,show o.op=Op.call { callee:=Callee.builtin Builtin.copy,args:=#[Z1 13,Z1 17],argTypes:=#[34,34] } from ho,resolve,invoke,builtin,Sem.run_bind,Sem.run_pure,Result.andThen_ok,YL,Ya,X2,u0,R]) g ⟨⟨?_,d.2.later (aa.setRow (S:=λk=>k=b) _ _ _ rfl) (λ_ _ q=>q)⟩,trivial,λj u T q=>Al I (λk V p=>(aI _ _ _).block k p (λe=>V (by cases e;rfl))) ⟨rfl,rfl,rfl,by simp [World.setRow]⟩ j u q⟩;show bJ _ b (if dR D 5 5=ZX then _ else _);rw [if_pos (by unfold dR;rw [if_pos rfl])];exact B.setRow _
   | n+6,hn=>exact absurd hn (by show ¬ n+6<6;omega)
 . rintro a' w' U ⟨D,M,H⟩ m;have e:a'=Act.putFrom a 13 ((XG 6).map λi=>a'.eval (.tmp (13+i))):=U.out _ (by rw [XM,XN]) (by omega) (λi hi=>by
    rw [XM,XN] at hi;rw [XK,XP,YM hi];rfl)
   rw [e];have:=H.1;rw [if_pos (M 5 (by decide))] at this;exact J w' _ (by rw [XM,XN]) this H.2
def EY (h:vs.length=6):∃ a b c d e f,vs=[a,b,c,d,e,f]:=by
 match vs,h with
 | [a,b,c,d,e,f],_=>exact ⟨_,_,_,_,_,_,rfl⟩
structure CT (w0 w:ZV) (r b:Nat) (l:List Nat):Prop where
 res:bJ w r zb
 blk:bJ w b l
 below:bW w0 w
 rs:r=w0.heap.size
 bs:b=w0.heap.size+1
def CT.new (w:ZV):CT w ((w.alloc (Z4 (an zb) 255)).alloc (Z4 (an zb) 255)) w.heap.size (w.heap.size+1) zb:=by
 refine ⟨(blk_alloc_lt _ _ _ (by simp)).trans (blk_alloc_new _ _),?_,(bA w _).alloc (by simp) _,rfl,rfl⟩;have:=blk_alloc_new (w.alloc (Z4 (an zb) 255)) (Z4 (an zb) 255);simpa [bJ] using this
def CT.mono (h:CT w0 w r b l) (a:bW w w'):CT w0 w' r b l:=
 ⟨h.res.keep (a.block _ h.res.lt),h.blk.keep (a.block _ h.blk.lt),h.below.trans (a.mono (by have:=h.res.lt;have:=h.rs;omega)),h.rs,h.bs⟩
def CT.set {l':List Nat} (h:CT w0 w r b l) (a:aa (λk=>k=b) w w') (c:bJ w' b l'):CT w0 w' r b l':=
 ⟨h.res.keep (a.block _ h.res.lt (λe=>by have:=h.rs;have:=h.bs;omega)),c,h.below.trans (a.below λk d=>⟨by have:=h.blk.lt;have:=h.bs;omega,λe=>by have:=h.bs;omega⟩),h.rs,h.bs⟩
def bk.below (h:bk w) (b:ZT B w w') (a:2<B):bk w':=λj c=>(b.cell (p:=⟨2,j,ZZ⟩) a).trans (h j c)
def bk.lt (h:bk w):2<w.heap.size:=block_lt_of_cell (h 0 (by decide))
theorem yA {body:List Nat} (c:body.length<=60):jM (jM zb 4 body) 0 (be (I6 ((jM zb 4 body).drop 4)) 4)=cY body:=by
 have a:(jM zb 4 body).drop 4=body++XO (60-body.length) 0:=by
  unfold jM;rw [List.drop_append_of_le_length (by simp [zb]),show (Yn 4 zb).drop 4=[] by simp [zb]];simp only [X3];congr 1;unfold zb;rw [List.drop_replicate];congr 1;omega
 have b:∀ (X s:List Nat),jM X 0 s=s++X.drop s.length:=λX s=>by unfold jM;rw [List.take_zero,X3,XV]
 rw [b,bY,a];rfl
def CU (b:∀ x∈l,x<256) (c:∀ x∈src,x<256):∀ x∈jM l off src,x<256:=by
 intro x a;unfold jM at a;simp only [Yo] at a;rcases a with h|h|h
 . exact b x (X6 h)
 . exact c x h
 . exact b x (X7 h)
def Jk:∀ x∈zb,x<256:=λx a=>by have:=YN a;omega
theorem Am (w:ZV):ZS ZR 156 #[br .blank] w λe w'=>e=Z3 (.agg (an aX.blank.blk))/\bW w w':=by
 have l:=zeroBlk;have i:(an zb).size=64:=by rw [bB,bE]
 have b:=CT.new w;obtain ⟨w1,h⟩:=nM ((w.alloc (Z4 (an zb) 255)).alloc (Z4 (an zb) 255));rw [h] at b;have c:=hide b;clear b;unfold br;go_enter func156,ntmps156;go_wp2_with fail;refine (CR w1).mono ?_;rintro e w2 ⟨rfl,d⟩;have f:=c.out.mono d;have a:=hide f;clear f d c;go_wp2_with (first|(refine mi rfl (Z1 3) rfl (w.heap.size+1) zb rfl a.out.blk bE ?_)|(refine gq rfl (Z1 2) (Z1 19) rfl w.heap.size zb zb rfl rfl a.out.res bE bE ?_));have g:=a.out.res.setRow zb;refine bodyPost_ret (v:=.agg (an zb)) (results_cell_row results156 _ _ w.heap.size 255 (an zb) (0,0) _ rfl g underlying255 rfl (fm bE)) rfl ?_;exact ⟨rfl,a.out.below.trans ⟨rfl,rfl,rfl,by simp [World.setRow],λk j=>(aI _ _ _).block k (by have:=a.out.res.lt;omega) (λe=>by cases e;omega)⟩⟩
theorem CV (D L G t f n:Nat) (w:ZV) (m:(aX.root D L G t f n).ok) (I:bk w) :
 ZS ZR 156 #[br (.root D L G t f n)] w λe w'=>e=Z3 (.agg (an (aX.root D L G t f n).blk))/\bW w w':=by
 have X:=zeroBlk;have Z:(an zb).size=64:=by rw [bB,bE]
 have p:=CT.new w;obtain ⟨w1,U⟩:=nM ((w.alloc (Z4 (an zb) 255)).alloc (Z4 (an zb) 255));rw [U] at p;have hi:=jP m;have s:=ml m;have y:(aX.root D L G t f n).blk=cY (aX.root D L G t f n).body:=by unfold aX.blk;rw [if_neg (by simp [aX.body])]
 have q:0<(aX.root D L G t f n).body.length:=by simp [aX.body]
 have g:=FZ D L G t f n w1 m;rw [y];obtain ⟨body,x⟩:=nM ((aX.root D L G t f n).body);rw [x] at hi s q g ⊢;have d:=hide3 p s I;unfold br;obtain ⟨ra,E⟩:=nM (aQ D L G t f n);simp only [E] at g ⊢;clear p s I m y E x;go_enter func156,ntmps156;go_wp2_with fail;refine g.mono ?_;clear g;rintro e w2 ⟨v,rfl,r,B⟩;have h:=d.out.1.mono B;obtain ⟨ao,c,rfl,N,O,P,Q⟩:=id r;have Y:(0:Int)<((body.length:Nat):Int):=by omega
 have C:body≠[]:=by intro e;rw [e] at q;simp at q
 have R:=oj (n:=60) (cap:=60) (off:=4) 3 h.blk r C (by omega) (by rw [bE];omega);have i:CT w (w2.setRow (w.heap.size+1) (an (jM zb 4 body))) w.heap.size (w.heap.size+1) (jM zb 4 body):=h.set (aa.setRow (S:=λk=>k=w.heap.size+1) _ _ _ rfl) (h.blk.setRow _);obtain ⟨V,H⟩:=nM (w2.setRow (w.heap.size+1) (an (jM zb 4 body)));rw [H] at R i;have T:(jM zb 4 body).length=64:=by rw [oi (by rw [bE];omega),bE]
 have K:=d.out.2.2.lt;have hv3:bk V:=d.out.2.2.below i.below K;have o:=hide2 i hv3;clear h r B N O P Q H i hv3 C;go_wp2_with fail;refine kt (by kernel_rfl) o.out.1.blk T (CU Jk d.out.2.1) o.out.2 (by omega) rfl rfl ?_;intro w4 vs F z A;obtain ⟨x0,x1,x2,x3,x4,x5,rfl⟩:=EY F;have j:=o.out.1.set A z;rw [yA hi] at j;have l:(cY body).length=64:=by unfold cY;simp [bY];omega
 obtain ⟨b,u⟩:=nM (cY body);rw [u] at j l;have M:=hide u;have a:=hide j;clear j z A F u;rename_i hK
 refine hK _ _ ?_;clear hK;simp only [Act.putFrom,Act.put,XX,XY,XZ];go_wp2_with (first|(refine mi rfl (Z1 3) rfl (w.heap.size+1) b rfl a.out.blk l ?_)|(refine gq rfl (Z1 2) (Z1 19) rfl w.heap.size b zb rfl rfl a.out.res bE l ?_));have J:=a.out.res.setRow b;refine bodyPost_ret (v:=.agg (an b)) (results_cell_row results156 _ _ w.heap.size 255 (an b) (0,0) _ rfl J underlying255 rfl (fm l)) rfl ?_;exact ⟨by rw [M.out],a.out.below.trans ⟨rfl,rfl,rfl,by simp [World.setRow],λk W=>(aI _ _ _).block k (by have:=a.out.res.lt;omega) (λe=>by cases e;omega)⟩⟩
def jc (r:aX):Prop:=∀ w,bk w->ZS ZR 156 #[br r] w λe w'=>e=Z3 (.agg (an r.blk))/\bW w w'
def An:jc .blank:=λw _=>Am w
def CW {t f:Nat} (a:(aX.root D L G t f n).ok):jc (.root D L G t f n):=λw b=>CV D L G t f n w a b
noncomputable def Sx:Array Oper:=((Tryz.f160.body.bind (mW · 2))).getD #[]
def RB:List (Op×Option Nat×List Nat):=[(Op.move (Z1 4),ZY 7,[]),
 (Op.call { callee:=Callee.value (Operand.func 156),args:=#[Z1 7],argTypes:=#[219] },ZY 8,[0]),
 (Op.load 255 (Z1 1),ZY 9,[]),
 (Op.binOp BinOp.neq 255 (Z1 8) (Z1 9) 255,ZY 10,[1,2])]
def F5:aN Sx 7 11 RB:=bx (by kernel_rfl) (by kernel_rfl)
def Tryz.UK:ZR.cellsOf 5=1:=by kernel_rfl
def vZ (l:List Nat) (i:Nat) (hi:i<l.length) (w:ZV):(part 5 (an l) (i*1)).run ZR w=.ok (Z7 .u8 ((l.getD i 0:Nat):Int)) w:=by
 have a:(an l)[i]?=ZY (Z7 .u8 ((l.getD i 0:Nat):Int)):=by
  unfold an aH;rw [List.getElem?_toArray,XP,XH hi,XK,XH hi];rfl
 rw [Yp];have b:=underlying5;simp [part,isAgg,run_underlying b,a]
theorem Ao (d:Nat) (l1 a:List Nat) (w:ZV):∀ (b:List Nat),(∀ i∈b,i<l1.length/\i<a.length)->(Op.eqItems (d+1) 5 1 (an l1) (an a) b).run ZR w=.ok (b.all λi=>l1.getD i 0==a.getD i 0) w
 | [],_=>by simp [Op.eqItems]
 | i::b,h=>by
  obtain ⟨k,l⟩:=h i (by simp);have ih:=Ao d l1 a w b (λj n=>h j (by simp [n]));have m:=run_equalIn_int (P:=ZR) (w:=w) d 5 .u8 .u8 ((l1.getD i 0:Nat):Int) ((a.getD i 0:Nat):Int) underlying5;simp only [Op.eqItems,Sem.run_bind,vZ l1 i k w,vZ a i l w,Result.andThen_ok,m,List.all_cons];generalize l1.getD i 0=x;generalize a.getD i 0=y;by_cases e:x=y
  . subst e;rw [if_neg (by simp),ih];simp
  . have c:¬ ((x:Nat):Int)=((y:Nat):Int):=λq=>e (by omega);have f:((x:Int)==(y:Int))=ZW:=(by simpa using c);have g:(x==y)=ZW:=(by simpa using e);rw [f,g];simp
theorem Jl {l1 l2:List Nat} (c:l1.length=64) (d:l2.length=64):((XG 64).all λi=>l1.getD i 0==l2.getD i 0)=decide (l1=l2):=by
 rw [Bool.eq_iff_iff,YO,decide_eq_true_eq];constructor
 . intro h;refine X0 (by omega) λi a b=>?_;have:=h i (Yq.2 (by omega));simpa [a,b] using this
 . rintro rfl i _;simp
def OC (l1 a:List Nat) (c:l1.length=64) (d:a.length=64) (w:ZV):(Op.equalIn 10000 255 (.agg (an l1)) (.agg (an a))).run ZR w=.ok (decide (l1=a)) w:=by
 obtain ⟨f,b,_⟩:=info_parts Tryz.TW;rw [show (10000:Nat)=9998+1+1 from rfl,run_equalIn_array w (9998+1) (t:=255) (e:=5) (n:=64) (an l1) (an a) underlying255 b,Tryz.UK,Ao 9998 l1 a w _ (λi hi=>by have:=Yq.1 hi;omega),Jl c d]
theorem F6 {r:aX} (z:Sx=ops) (E:jc r) (F:r.ok) (p:bJ w b l) (t:l.length=64) (u:bk w) (H:a.tmps.size=12)
 (x:a.eval (Z1 1)=Z6 (ZY ⟨b,0,ZZ⟩)) (y:a.eval (Z1 4)=br r) (C:∀ (w':ZV),bW w w'->Q .normal (Act.putFrom a 7 [br r,.agg (an r.blk),.agg (an l),Z2 (!decide (r.blk=l))]) w'):(Code.region 2 ops ZX).wp ZR Q a w:=by
 subst z;refine cB (by kernel_rfl) F5 a w (by omega) (λi v _=>v=[br r,.agg (an r.blk),.agg (an l),Z2 (!decide (r.blk=l))].getD i Z0) (λ_ w'=>bJ w' b l/\bW w w') ⟨p,(Below.refl _ w).drew⟩ ?_ ?_
 . intro i hi;match i,hi with
   | 0,_=>exact λo a' w' D q ho g j k m h p d=>ae (ag ho ((j.slot 4 (by omega)).trans y) w') g ⟨p,rfl,kq⟩
   | 1,_=>
    intro o a' w' D q ho g j k m h c d;have u0:a'.eval (Z1 7)=br r:=d 0 (h 0 (by decide));refine dD (f:=156) (args:=#[br r]) (w1:=w') (by simp only [execOp,show o.op=Op.call { callee:=Callee.value (Operand.func 156),args:=#[Z1 7],argTypes:=#[219] } from ho];go_simp;simpa [Act.eval] using u0) g (E w' (u.below c.2 u.lt)) ?_;rintro e G ⟨rfl,s⟩;exact ⟨_,rfl,⟨c.1.keep (s.block _ c.1.lt),c.2.trans (s.mono c.2.size)⟩,rfl,kq⟩
   | 2,_=>
    intro o a' w' D q ho g j k m h c d;have u0:a'.eval (Z1 1)=Z6 (ZY ⟨b,0,ZZ⟩):=(j.slot 1 (by omega)).trans x;exact ae (v:=.agg (an l)) (by simp [execOp,show o.op=Op.load 255 (Z1 1) from ho,u0,np c.1 t]) g ⟨c,rfl,kq⟩
   | 3,_=>
    intro o a' w' D q ho g j k m h c d;have u0:a'.eval (Z1 8)=.agg (an r.blk):=d 1 (h 1 (by decide));have u1:a'.eval (Z1 9)=.agg (an l):=d 2 (h 2 (by decide));exact ae (v:=Z2 (!decide (r.blk=l))) (by simp only [execOp,show o.op=Op.binOp BinOp.neq 255 (Z1 8) (Z1 9) 255 from ho,u0,u1];go_simp;rw [OC r.blk l (eJ F) t w'];rfl) g ⟨c,rfl,kq⟩
   | n+4,hn=>exact absurd hn (by show ¬ n+4<4;omega)
 . rintro a' w' A ⟨D,I,c⟩ d;have B:∀ i:Nat,i<4->a'.eval (.tmp (7+i))=[br r,.agg (an r.blk),.agg (an l),Z2 (!decide (r.blk=l))].getD i Z0:=by
    intro i hi;match i,hi with
    | 0,_=>exact d 0 (by decide)
    | 1,_=>exact d 1 (by decide)
    | 2,_=>exact d 2 (by decide)
    | 3,_=>exact d 3 (by decide)
    | n+4,hn=>exact absurd hn (by show ¬ n+4<4;omega)
   rw [A.out [br r,.agg (an r.blk),.agg (an l),Z2 (!decide (r.blk=l))] rfl (by omega) B];exact C w' c.2
theorem Qu (r:aX) (w:ZV) (z:jc r) (g:r.ok) (v:bk w) :
 ZS ZR 160 #[.agg (an r.blk)] w λe w'=>e=Z3 (.tuple #[br r,Z2 ZX])/\bW w w':=by
 have c:=eJ g;have n:=jv g;have u:=Mg g;have f:=bJ.new w r.blk;have j:bW w (w.alloc (Z4 (an r.blk) 255)):=bA w _;have y:(an r.blk).size=64:=by rw [bB,c]
 obtain ⟨w1,t⟩:=nM (w.alloc (Z4 (an r.blk) 255));rw [t] at f j;have b:=F3 r.blk w1 c n;rw [u] at b;obtain ⟨rv,m⟩:=nM (br r);obtain ⟨l,k⟩:=nM (r.blk);rw [k] at c n f y b t ⊢;rw [m] at b ⊢;have h:=hide2 m k;have a:=hide2 f j;clear n u f j m k;go_enter func160,ntmps160;go_wp2_with (refine mi rfl (Z1 1) rfl w.heap.size l rfl a.out.1 c ?_);refine b.mono ?_;rintro e w2 ⟨rfl,i⟩;have q:=a.out.1.keep (i.block _ a.out.1.lt);have o:=a.out.2.trans (i.mono a.out.2.size);have d:=hide2 q o;clear b i q o;go_wp2_with fail;refine F6 (by kernel_rfl) z g d.out.1 c (v.below d.out.2 v.lt) rfl rfl h.out.1.symm ?_;intro A s;rw [h.out.1,h.out.2,decide_eq_true (rfl:l=l)];have p:=d.out.2.trans (s.mono d.out.2.size);have x:=hide p;clear s p;rename_i hK
 refine hK _ _ ?_;clear hK;simp only [Act.putFrom,Act.put,XX,XY,XZ];go_wp2;go_ret2;exact ⟨rfl,x.out⟩
theorem aL.Uv (h:aL w b l):w.heap[b]?=ZY (Z4 (aH l).toArray 5 (0,0)):=by
 obtain ⟨c,a,f,d⟩:=h;have e:c=(aH l).toArray:=by
  apply YJ;intro i;by_cases hi:i<l.length
  . rw [d i hi];unfold vb aH;simp [XK,XH hi]
  . rw [X9 (by omega),X9 (by rw [XQ,bp];omega)]
 rw [<- e];exact a
def aL.U7 (h:w.heap[b]?=ZY (Z4 (aH l).toArray 5 (0,0))):aL w b l:=
 ⟨_,h,by rw [XQ,bp],λi hi=>by
  unfold vb aH;simp [XK,XH hi]⟩
theorem Ap (h:TypeId) (d:aL w b l) (t:Bs w v src) (A:src.length<=n) (z:off+src.length<=l.length) :
 ∃ w',(Builtin.copy_ #[34,34] h #[Z5 (ZY ⟨b,off,ZZ⟩) n cap,v]).run ZR w=.ok (Z7 Z9 (src.length:Nat)) w'/\aL w' b (jM l off src)/\w.grownBy w' (ZY b):=by
 obtain ⟨ao,c,rfl,B,C,D,r⟩:=t;have m:(ZR.info? 5).map (λi=>i.size)=ZY 1:=by kernel_rfl
 by_cases k:src=[]
 . subst k;refine ⟨w,run_copy_none (P:=ZR) w 34 34 h 5 (ZY ⟨b,off,ZZ⟩) ao n cap 0 c underlying34 m (by simp),?_,World.grownBy.refl _ _⟩;have e:jM l off []=l:=(by unfold jM;simp);rw [e];exact d
 . obtain ⟨g,o,rfl,y⟩:=r k;have s:=run_copy_row (P:=ZR) w 34 34 h 5 b off n cap ⟨g,o,ZZ⟩ src.length c (aH l).toArray 5 (aH src) underlying34 m d.Uv (by rw [bp];exact (Yj A).symm) (λj u p=>by
    have a:j<src.length:=(by obtain ⟨q,_⟩:=YK.1 p;rwa [bp] at q);rw [Addr.add_mid,y j a,<- p];unfold aH;rw [XP,XH a,XK,XH a];rfl) (by rw [bp,XQ,bp];exact z) (λu f=>by
    unfold aH at f;rw [X1] at f;obtain ⟨x,_,rfl⟩:=f;rfl)
   have e:(Yn off (aH l)++aH src++List.drop (off+(aH src).length) (aH l)).toArray=(aH (jM l off src)).toArray:=by
    rw [bp];unfold jM;rw [cd,cd,XT];unfold aH;rw [Yh,Yi]
   refine ⟨w.setRow b (aH (jM l off src)).toArray,?_,aL.U7 (setRow_heap w b (aH l).toArray (aH (jM l off src)).toArray _ _ d.Uv),aI _ _ _⟩;rw [s];simp only [XT] at e ⊢;rw [e,bp];rfl
def F7 (w:ZV) (a:Nat):(w.alloc (Z4 #[Z7 .u8 (a:Int)] 5)).ownsRow w.heap.size 5 1 (Z5 (ZY ⟨w.heap.size,0,ZZ⟩) 1 1) 1 (aH [a]):=
 ⟨rfl,.inr ⟨w.heap.size,1,_,rfl,XW _,blk_alloc_new _ _,XW _,by unfold maxLen;omega,rfl,rfl⟩⟩
theorem Aq (w:ZV):ZS ZR 250 #[.agg #[]] w λe w'=>∃ v,e=Z3 v/\Bs w' v aX.filled.body/\bW w w':=by
 have ho:=F7 (w.alloc (Z4 #[] 174)) 2;have a:bW w ((w.alloc (Z4 #[] 174)).alloc (Z4 #[Z7 .u8 ((2:Nat):Int)] 5)):=(bA w _).alloc (by simp) _;have H:=hide2 ho a;clear ho a;go_enter func250,ntmps250;go_wp2;go_ret;have b:=Bs.Ue H.out.1 (λx c=>by simp at c;omega) (by decide);simp only [World.size_alloc] at b;exact ⟨_,rfl,b,H.out.2⟩
noncomputable def Sy:Array Oper:=((Tryz.f251.body.bind (mW · 3))).getD #[]
def RD:List (Op×Option Nat×List Nat):=[(Op.move (Z1 3),ZY 7,[]),
 (Op.slice 34 (Z1 7) (ZY (Operand.const (Value.int IntKind.i64 16))) ZZ ZZ,ZY 8,[0]),
 (Op.fieldAddr 217 (Z1 1) 0,ZY 9,[]),
 (Op.slice 215 (Z1 9) ZZ ZZ ZZ,ZY 10,[2]),
 (Op.call { callee:=Callee.builtin Builtin.copy,args:=#[Z1 8,Z1 10],argTypes:=#[34,34] },ZY 11,[1,3])]
def F8:aN Sy 7 12 RD:=bx (by kernel_rfl) (by kernel_rfl)
def S5 (b q:Nat) (i:Nat) (u:ZU) (_:ZV):Prop:=match i with
 | 0=>u=Z5 (ZY ⟨b,0,ZZ⟩) 60 60
 | 1=>u=Z5 (ZY ⟨b,16,ZZ⟩) 44 44
 | 2=>u=Z6 (ZY ⟨q,0,ZZ⟩)
 | 3=>u=Z5 (ZY ⟨q,0,ZZ⟩) 44 44
 | _=>True
def RE (w0:ZV) (b:Nat) (l s:List Nat) (D:Nat->Bool) (w:ZV):Prop:=aL w b (if D 4=ZX then jM l 16 s else l)/\aa (λk=>k=b) w0 w
def rV {D:Nat->Bool} (h:RE w0 b l s D w) (i:Nat) (hi:i≠4):RE w0 b l s (dR D i) w:=by
 refine ⟨?_,h.2⟩;unfold dR;rw [if_neg (λe:4=i=>hi e.symm)];exact h.1
theorem yB (E:Sy=ops) (c:aL w b l) (W:l.length=60) (A:w.heap[q]?=ZY (Z4 (aH s).toArray 217 (0,0))) (O:s.length=44) (R:∀ x∈s,x<256) (J:q≠b) (X:a.tmps.size=13)
 (C:a.eval (Z1 3)=Z5 (ZY ⟨b,0,ZZ⟩) 60 60) (B:a.eval (Z1 1)=Z6 (ZY ⟨q,0,ZZ⟩)) (I:∀ (w':ZV) (vs:List ZU),vs.length=5->aL w' b (jM l 16 s)->aa (λk=>k=b) w w'->Q .normal (Act.putFrom a 7 vs) w'):(Code.region 3 ops ZX).wp ZR Q a w:=by
 subst E;refine cB (by kernel_rfl) F8 a w (by omega) (S5 b q) (RE w b l s) ⟨c,aa.drew w⟩ ?_ ?_
 . intro i hi;match i,hi with
   | 0,_=>exact λo a' w' S r ho d h m t g c f=>ae (ag ho ((h.slot 3 (by omega)).trans C) w') d ⟨rV c _ (by decide),rfl,kq⟩
   | 1,_=>
    intro o a' w' D r ho d h m t g c f;have u0:a'.eval (Z1 7)=Z5 (ZY ⟨b,0,ZZ⟩) 60 60:=f 0 (g 0 (by decide));exact ae (v:=Z5 (ZY ⟨b,16,ZZ⟩) 44 44) (by simp only [execOp,show o.op=Op.slice 34 (Z1 7) (ZY (Operand.const (Value.int IntKind.i64 16))) ZZ ZZ from ho,u0];go_simp) d ⟨rV c 1 (by decide),rfl,kq⟩
   | 2,_=>
    intro o a' w' D r ho d h m t g c f;have u0:a'.eval (Z1 1)=Z6 (ZY ⟨q,0,ZZ⟩):=(h.slot 1 (by omega)).trans B;exact ae (v:=Z6 (ZY ⟨q,0,ZZ⟩)) (by simp only [execOp,show o.op=Op.fieldAddr 217 (Z1 1) 0 from ho,u0];go_simp) d ⟨rV c 2 (by decide),rfl,kq⟩
   | 3,_=>
    intro o a' w' D r ho d h m t g c f;have u0:a'.eval (Z1 9)=Z6 (ZY ⟨q,0,ZZ⟩):=f 2 (g 2 (by decide));exact ae (v:=Z5 (ZY ⟨q,0,ZZ⟩) 44 44) (by simp only [execOp,show o.op=Op.slice 215 (Z1 9) ZZ ZZ ZZ from ho,u0];go_simp) d ⟨rV c 3 (by decide),rfl,kq⟩
   | 4,_=>
    intro o a' w' D r ho d h m U g c f;have u0:a'.eval (Z1 8)=Z5 (ZY ⟨b,16,ZZ⟩) 44 44:=f 1 (g 1 (by decide));have u1:a'.eval (Z1 10)=Z5 (ZY ⟨q,0,ZZ⟩) 44 44:=f 3 (g 3 (by decide));have G:aL w' b l:=(by have:=c.1;rw [if_neg (by rw [m];decide)] at this;exact this);have N:w'.heap[q]?=ZY (Z4 (aH s).toArray 217 (0,0)):=(c.2.block q (Yr.1 A).1 (λe=>J e)).trans A;have z:Bs w' (Z5 (ZY ⟨q,0,ZZ⟩) s.length 44) s:=Bs.mid (by omega) (by omega) R (λj u P=>by
     have:(aH s).toArray[j]?=ZY u:=by simpa using P
     simp [World.cell?,N,this])
    rw [O] at z;obtain ⟨w2,K,F,p⟩:=Ap (n:=44) (cap:=44) (off:=16) o.type G z (by omega) (by omega);refine ae (v:=Z7 Z9 (s.length:Nat)) (w':=w2) (by simp only [execOp,show o.op=Op.call { callee:=Callee.builtin Builtin.copy,args:=#[Z1 8,Z1 10],argTypes:=#[34,34] } from ho,resolve,invoke,builtin,Sem.run_bind,Sem.run_pure,Result.andThen_ok,YL,Ya,X2,u0,u1,K]) d ⟨⟨?_,c.2.later (T:=λk=>k=b) ⟨p.os,p.tape,p.output,p.size,λk h M=>p.block k h (λe=>M (by cases e;rfl))⟩ (λ_ _ q=>q)⟩,trivial,λj u V q=>by
     match j,q with
     | 0,q|1,q|2,q|3,q=>exact q
     | j+4,_=>trivial⟩
    show aL _ b (if dR D 4 4=ZX then _ else _);rw [if_pos (by unfold dR;rw [if_pos rfl])];exact F
   | n+5,hn=>exact absurd hn (by show ¬ n+5<5;omega)
 . rintro a' w' L ⟨D,H,y⟩ f;have e:a'=Act.putFrom a 7 ((XG 5).map λi=>a'.eval (.tmp (7+i))):=L.out _ (by rw [XM,XN]) (by omega) (λi hi=>by
    rw [XM,XN] at hi;rw [XK,XP,YM hi];rfl)
   rw [e];have:=y.1;rw [if_pos (H 4 (by decide))] at this;exact I w' _ (by rw [XM,XN]) this y.2
def Qv (h:vs.length=5):∃ a b c d e,vs=[a,b,c,d,e]:=by
 match vs,h with
 | [a,b,c,d,e],_=>exact ⟨a,b,c,d,e,rfl⟩
theorem CY (l:List Nat) (w:ZV) (B:(aX.shard l).ok) :
 ZS ZR 251 #[.agg (aH l).toArray] w λe w'=>∃ v,e=Z3 v/\Bs w' v (aX.shard l).body/\bW w w':=by
 obtain ⟨a,A⟩:=B;have j:=blk_alloc_new w (Z4 (aH l).toArray 217);have d:bW w (w.alloc (Z4 (aH l).toArray 217)):=bA w _;have m:(w.alloc (Z4 (aH l).toArray 217)).heap.size=w.heap.size+1:=by simp
 have C:(aH l).toArray.size=44:=by rw [XQ,bp,a]
 obtain ⟨w1,z⟩:=nM (w.alloc (Z4 (aH l).toArray 217));rw [z] at j d m;obtain ⟨ra,f⟩:=nM ((aH l).toArray);have H:=hide5 j d m A f;rw [f] at z C ⊢;clear j d m A f;go_enter func251,ntmps251;go_wp2_with (at_make;refine eH _ rfl (.const (Z7 Z9 60)) (.const (Z7 Z9 60)) rfl _ 60 rfl rfl rfl (by omega) ?_;intro w2 h t hi;have E:=h.cell 0 (by decide);have F:=h.frozen 0);have q:aL (w2.setCell ⟨w1.heap.size,0,ZZ⟩ (Z7 .u8 3)) w1.heap.size ((XO 60 0).set 0 3):=h.set 0 3;have G:=H.out.2.2.1;have x:(w2.setCell ⟨w1.heap.size,0,ZZ⟩ (Z7 .u8 3)).heap[w.heap.size]?=ZY (Z4 (aH l).toArray 217 (0,0)):=(blk_setCell_other _ _ _ _ (by show w.heap.size≠w1.heap.size;omega)).trans ((t.block _ (by omega)).trans H.out.1);have c:bW w (w2.setCell ⟨w1.heap.size,0,ZZ⟩ (Z7 .u8 3)):=(H.out.2.1.trans (t.mono (by omega))).setCell (p:=⟨w1.heap.size,0,ZZ⟩) (by show w.heap.size<=w1.heap.size;omega) _;refine yB (by kernel_rfl) q (by simp) x a H.out.2.2.2.1 (by omega) rfl rfl rfl ?_;intro D vs y b s;obtain ⟨J,K,L,M,N,rfl⟩:=Qv y;have u:bW w D:=c.trans (s.below λk I=>⟨by have:=c.size;omega,λe=>by omega⟩);have i:jM ((XO 60 0).set 0 3) 16 l=(aX.shard l).body:=by
  unfold jM aX.body;rw [a];simp [XO]
 rw [i] at b;have g:=Bs.Uj (n:=60) b (by rw [<- i,oi (by simp [a])];simp) (by decide) (ml (r:=.shard l) ⟨a,H.out.2.2.2.1⟩);rw [List.take_of_length_le (jP (r:=.shard l) ⟨a,H.out.2.2.2.1⟩),show (aX.shard l).body.length=60 by rw [<- i,oi (by simp [a])];simp] at g;have o:=hide2 g u;clear g u b s c x q y;rename_i hK
 refine hK _ _ ?_;clear hK;simp only [Act.putFrom,Act.put,XX,XY,XZ];go_wp2;go_ret;exact ⟨_,rfl,o.out.1,o.out.2⟩
theorem yC (w:ZV) (D:bk w) :
 ZS ZR 156 #[br .filled] w λe w'=>e=Z3 (.agg (an aX.filled.blk))/\bW w w':=by
 have Q:=zeroBlk;have T:(an zb).size=64:=by rw [bB,bE]
 have l:=CT.new w;obtain ⟨w1,N⟩:=nM ((w.alloc (Z4 (an zb) 255)).alloc (Z4 (an zb) 255));rw [N] at l;have A:=jP (r:=.filled) trivial;have q:=ml (r:=.filled) trivial;have u:aX.filled.blk=cY aX.filled.body:=by unfold aX.blk;rw [if_neg (by simp [aX.body])]
 have o:0<aX.filled.body.length:=by simp [aX.body]
 have m:=Aq w1;rw [u];obtain ⟨body,t⟩:=nM (aX.filled.body);rw [t] at A q o m ⊢;have d:=hide3 l q D;unfold br;clear l q D u t;go_enter func156,ntmps156;go_wp2_with fail;refine m.mono ?_;clear m;rintro e w2 ⟨v,rfl,p,z⟩;have f:=d.out.1.mono z;obtain ⟨ao,c,rfl,H,I,J,K⟩:=id p;have R:(0:Int)<((body.length:Nat):Int):=by omega
 have hi:body≠[]:=by intro e;rw [e] at o;simp at o
 have L:=oj (n:=60) (cap:=60) (off:=4) 3 f.blk p hi (by omega) (by rw [bE];omega);have g:CT w (w2.setRow (w.heap.size+1) (an (jM zb 4 body))) w.heap.size (w.heap.size+1) (jM zb 4 body):=f.set (aa.setRow (S:=λk=>k=w.heap.size+1) _ _ _ rfl) (f.blk.setRow _);obtain ⟨O,C⟩:=nM (w2.setRow (w.heap.size+1) (an (jM zb 4 body)));rw [C] at L g;have M:(jM zb 4 body).length=64:=by rw [oi (by rw [bE];omega),bE]
 have F:=d.out.2.2.lt;have hv3:bk O:=d.out.2.2.below g.below F;have j:=hide2 g hv3;clear f p z H I J K C g hv3 hi;go_wp2_with fail;refine kt (by kernel_rfl) j.out.1.blk M (CU Jk d.out.2.1) j.out.2 (by omega) rfl rfl ?_;intro U vs B x y;obtain ⟨V,W,X,Y,Z,x5,rfl⟩:=EY B;have h:=j.out.1.set y x;rw [yA A] at h;have i:(cY body).length=64:=by unfold cY;simp [bY];omega
 obtain ⟨b,s⟩:=nM (cY body);rw [s] at h i;have G:=hide s;have a:=hide h;clear h x y B s;rename_i hK
 refine hK _ _ ?_;clear hK;simp only [Act.putFrom,Act.put,XX,XY,XZ];go_wp2_with (first|(refine mi rfl (Z1 3) rfl (w.heap.size+1) b rfl a.out.blk i ?_)|(refine gq rfl (Z1 2) (Z1 19) rfl w.heap.size b zb rfl rfl a.out.res bE i ?_));have E:=a.out.res.setRow b;refine bodyPost_ret (v:=.agg (an b)) (results_cell_row results156 _ _ w.heap.size 255 (an b) (0,0) _ rfl E underlying255 rfl (fm i)) rfl ?_;exact ⟨by rw [G.out],a.out.below.trans ⟨rfl,rfl,rfl,by simp [World.setRow],λk P=>(aI _ _ _).block k (by have:=a.out.res.lt;omega) (λe=>by cases e;omega)⟩⟩
theorem Ar (l:List Nat) (w:ZV) (m:(aX.shard l).ok) (F:bk w) :
 ZS ZR 156 #[br (.shard l)] w λe w'=>e=Z3 (.agg (an (aX.shard l).blk))/\bW w w':=by
 have T:=zeroBlk;have V:(an zb).size=64:=by rw [bB,bE]
 have p:=CT.new w;obtain ⟨w1,P⟩:=nM ((w.alloc (Z4 (an zb) 255)).alloc (Z4 (an zb) 255));rw [P] at p;have hi:=jP m;have s:=ml m;have x:(aX.shard l).blk=cY (aX.shard l).body:=by unfold aX.blk;rw [if_neg (by simp [aX.body])]
 have q:0<(aX.shard l).body.length:=by simp [aX.body]
 have f:=CY l w1 m;rw [x];obtain ⟨body,u⟩:=nM ((aX.shard l).body);rw [u] at hi s q f ⊢;have d:=hide3 p s F;unfold br;obtain ⟨ra,C⟩:=nM ((aH l).toArray);simp only [C] at f ⊢;clear p s F m x C u;go_enter func156,ntmps156;go_wp2_with fail;refine f.mono ?_;clear f;rintro e w2 ⟨v,rfl,r,A⟩;have g:=d.out.1.mono A;obtain ⟨ao,c,rfl,J,K,L,M⟩:=id r;have U:(0:Int)<((body.length:Nat):Int):=by omega
 have B:body≠[]:=by intro e;rw [e] at q;simp at q
 have N:=oj (n:=60) (cap:=60) (off:=4) 3 g.blk r B (by omega) (by rw [bE];omega);have h:CT w (w2.setRow (w.heap.size+1) (an (jM zb 4 body))) w.heap.size (w.heap.size+1) (jM zb 4 body):=g.set (aa.setRow (S:=λk=>k=w.heap.size+1) _ _ _ rfl) (g.blk.setRow _);obtain ⟨Q,E⟩:=nM (w2.setRow (w.heap.size+1) (an (jM zb 4 body)));rw [E] at N h;have O:(jM zb 4 body).length=64:=by rw [oi (by rw [bE];omega),bE]
 have H:=d.out.2.2.lt;have hv3:bk Q:=d.out.2.2.below h.below H;have o:=hide2 h hv3;clear g r A J K L M E h hv3 B;go_wp2_with fail;refine kt (by kernel_rfl) o.out.1.blk O (CU Jk d.out.2.1) o.out.2 (by omega) rfl rfl ?_;intro W vs D y z;obtain ⟨X,Y,Z,x3,x4,x5,rfl⟩:=EY D;have i:=o.out.1.set z y;rw [yA hi] at i;have j:(cY body).length=64:=by unfold cY;simp [bY];omega
 obtain ⟨b,t⟩:=nM (cY body);rw [t] at i j;have I:=hide t;have a:=hide i;clear i y z D t;rename_i hK
 refine hK _ _ ?_;clear hK;simp only [Act.putFrom,Act.put,XX,XY,XZ];go_wp2_with (first|(refine mi rfl (Z1 3) rfl (w.heap.size+1) b rfl a.out.blk j ?_)|(refine gq rfl (Z1 2) (Z1 19) rfl w.heap.size b zb rfl rfl a.out.res bE j ?_));have G:=a.out.res.setRow b;refine bodyPost_ret (v:=.agg (an b)) (results_cell_row results156 _ _ w.heap.size 255 (an b) (0,0) _ rfl G underlying255 rfl (fm j)) rfl ?_;exact ⟨by rw [I.out],a.out.below.trans ⟨rfl,rfl,rfl,by simp [World.setRow],λk R=>(aI _ _ _).block k (by have:=a.out.res.lt;omega) (λe=>by cases e;omega)⟩⟩
def yD:jc .filled:=λw a=>yC w a
def lF (a:(aX.shard l).ok):jc (.shard l):=λw b=>Ar l w a b
def bt (w:ZV) (v p D L G ps ho:Nat):Prop:=w.heap[v]?=ZY (Z4 #[Z6 (ZY ⟨p,0,ZZ⟩),Z7 Z9 D,Z7 Z9 L,Z7 Z9 G,Z6 (ZY ⟨ps,0,ZZ⟩),Z7 Z8 ho] 130 (0,0))
def bt.keep {v:Nat} (h:bt w v p D L G ps ho) (e:w'.heap[v]?=w.heap[v]?):bt w' v p D L G ps ho:=e.trans h
def bt.lt {v:Nat} (h:bt w v p D L G ps ho):v<w.heap.size:=(Yr.1 h).1
def bt.cells {v:Nat} (h:bt w v p D L G ps ho):w.cell? ⟨v,0,ZZ⟩=ZY (Z6 (ZY ⟨p,0,ZZ⟩))/\w.cell? ⟨v,1,ZZ⟩=ZY (Z7 Z9 D)/\w.cell? ⟨v,2,ZZ⟩=ZY (Z7 Z9 L)/\w.cell? ⟨v,3,ZZ⟩=ZY (Z7 Z9 G)/\w.cell? ⟨v,4,ZZ⟩=ZY (Z6 (ZY ⟨ps,0,ZZ⟩))/\w.cell? ⟨v,5,ZZ⟩=ZY (Z7 Z8 ho):=by
 have a:w.heap[v]?=ZY (Z4 #[Z6 (ZY ⟨p,0,ZZ⟩),Z7 Z9 D,Z7 Z9 L,Z7 Z9 G,Z6 (ZY ⟨ps,0,ZZ⟩),Z7 Z8 ho] 130 (0,0)):=h;simp [World.cell?,a]
def bk.outside {S:Nat->Prop} (h:bk w) (a:aa S w w') (b:¬ S 2):bk w':=λj c=>by
 have:=h j c;rw [<- this];exact World.cell?_of_block (a.block _ (block_lt_of_cell this) b)
theorem CZ (n:Int) (w:ZV):ZS ZR 72 #[.nilIface,.iface 66 (Z7 Z9 n)] w λe w'=>e=Z3 (Z2 ZW)/\w'=w:=by
 have a:∀ d w,(Op.equalIn (d+1) 63 .nilIface (.iface 66 (Z7 Z9 n))).run ZR w=.ok ZW w:=λd w=>by
  simp only [Op.equalIn,Sem.run_bind,run_underlying underlying63,Result.andThen_ok];rfl
 have b:∀ w,(Op.equalIn 10000 63 .nilIface (.iface 66 (Z7 Z9 n))).run ZR w=.ok ZW w:=λw=>a 9999 w;have c:∀ w,(binOp .eql 63 .nilIface (.iface 66 (Z7 Z9 n))).run ZR w=.ok (Z2 ZW) w:=λw=>by
  simp only [binOp];simp [Op.equal,Op.maxDepth,b]
 clear a b;go_enter func72,ntmps72;go_wp2;go_ret;exact ⟨rfl,rfl⟩
theorem Jm (w:ZV):ZS ZR 157 #[.nilIface] w λe w'=>e=Z3 (.tuple #[])/\w'=w:=by
 go_enter func157,ntmps157;go_wp2_with fail;refine (CZ 13 w).mono ?_;rintro e w' ⟨rfl,rfl⟩;go_wp2;first|go_end0|skip
 exact ⟨rfl,rfl⟩
theorem sJ {v:Nat} (O:bt w v p D L G ps ho) (h:aq w p A F) (R:A.fit) (d b:Nat) (Q:d<A.n) (P:b<A.nb) (Y:A.wait≠0) (U:A.lost d=ZW) (N:A.bad d b=ZW)
 (r:aX) (I:r.ok) (V:jc r) (z:A.blk d b=r.blk) (X:bk w) (S:¬ F.has p A.n 2) :
 ZS ZR 137 #[Z6 (ZY ⟨v,0,ZZ⟩),Z7 Z9 d,Z7 Z9 b] w λe w'=>e=Z3 (.tuple #[br r,.nilIface])/\aq w' p (A.TI d (wrap64 (A.reads d+1))) F/\aa (F.has p A.n) w w':=by
 obtain ⟨M,_⟩:=O.cells;have hz:=zeroBlk;have hx:(an zb).size=64:=by rw [bB,bE]
 have i:=Mo h R d b Q P Y U N;rw [z] at i;obtain ⟨l,s⟩:=nM (r.blk);have f:=eJ I;rw [s] at i f;have J:=hide s;clear s z;go_enter func137,ntmps137;go_wp2_with fail;refine i.mono ?_;rintro e w1 ⟨rfl,j,o⟩;have C:=bJ.new w1 zb;have hs:(an l).size=64:=by rw [bB,f]
 have x:=j.alloc (Z4 (an zb) 255);have B:aa (F.has p A.n) w (w1.alloc (Z4 (an zb) 255)):=o.trans (aa.alloc _ _);have E:∀ k,F.has p A.n k->k≠w1.heap.size:=λk c e=>by have:=j.TH (k:=k) c;omega
 have a:=hide4 C x B E;have hy:=o.size;clear i j o C x B E M;go_wp2_with (first|(refine gq rfl (Z1 8) (Z1 20) rfl w1.heap.size l zb rfl rfl a.out.1 bE f ?_)|(refine mi rfl (Z1 8) rfl w1.heap.size l rfl (a.out.1.setRow l) f ?_));have W:=a.out.1.setRow l;have m:aq ((w1.alloc (Z4 (an zb) 255)).setRow w1.heap.size (an l)) p (A.TI d (wrap64 (A.reads d+1))) F:=a.out.2.1.keep λk c=>(aI _ _ _).block k (a.out.2.1.TH c) (λe=>a.out.2.2.2 k c (by cases e;rfl));have g:aa (F.has p A.n) w ((w1.alloc (Z4 (an zb) 255)).setRow w1.heap.size (an l)):=a.out.2.2.1.later (T:=λk=>k=w1.heap.size) (aa.setRow _ _ _ rfl) (λk c e=>absurd e (by omega));obtain ⟨Z,H⟩:=nM ((w1.alloc (Z4 (an zb) 255)).setRow w1.heap.size (an l));rw [H] at m g ⊢;have ho:=Qu r Z V I (X.outside g S);rw [J.out] at ho;refine ho.mono ?_;rintro e w4 ⟨rfl,q⟩;have y:=m.below q lR;have hi:aa (F.has p A.n) w w4:=g.trans (aa.TG q _);have u:=hide2 y hi;clear ho q y hi m g W H a;obtain ⟨rv,t⟩:=nM (br r);have K:=hide t;simp only [t];clear t;go_wp2;go_ret2;exact ⟨by rw [K.out];rfl,u.out.1,u.out.2⟩
noncomputable def Sz:Array Oper:=((Tryz.f130.body.bind (mW · 1))).getD #[]
def Qw:List (Op×Option Nat×List Nat):=[(Op.move (Z1 0),ZY 10,[]),
 (Op.nilCheck (Z1 10),ZY 11,[0]),
 (Op.fieldAddr 130 (Z1 11) 0,ZY 12,[1]),
 (Op.load 31 (Z1 12),ZY 13,[2]),
 (Op.move (Z1 1),ZY 14,[]),
 (Op.move (Z1 2),ZY 15,[]),
 (Op.move (Z1 3),ZY 16,[]),
 (Op.call { callee:=Callee.value (Operand.func 156),args:=#[Z1 16],argTypes:=#[219] },ZY 17,[6]),
 (Op.call { callee:=Callee.value (Operand.func 155),args:=#[Z1 13,Z1 14,Z1 15,Z1 17],argTypes:=#[31,3,3,255] },ZY 18,[3,4,5,7,7]),
 (Op.assign (Z1 18),ZY 9,[8,8,0,1,2,3,4,5,6,7,8])]
def F9:aN Sz 9 19 Qw:=bx (by kernel_rfl) (by kernel_rfl)
def OD (v p d b:Nat) (r:aX):List ZU:=[Z6 (ZY ⟨v,0,ZZ⟩),Z6 (ZY ⟨v,0,ZZ⟩),Z6 (ZY ⟨v,0,ZZ⟩),Z6 (ZY ⟨p,0,ZZ⟩),Z7 Z9 d,Z7 Z9 b,br r,.agg (an r.blk),.nilIface,.nilIface]
def yE (A:ay) (d b:Nat) (r:aX) (D:Nat->Bool):ay:=if D 8=ZX then (A.TK d b r.blk).TN d b ZW else A
def RF (w0:ZV) (v p D L G ps ho:Nat) (A:ay) (F:bh) (d b:Nat) (r:aX) (Dn:Nat->Bool) (w:ZV):Prop:=aq w p (yE A d b r Dn) F/\bt w v p D L G ps ho/\aa (F.has p A.n) w0 w
def jd {v:Nat} {d:Nat} {r:aX} {Dn:Nat->Bool} (h:RF w0 v p D L G ps ho A F d b r Dn w) (i:Nat) (hi:i≠8) (a:bW w w'):RF w0 v p D L G ps ho A F d b r (dR Dn i) w':=by
 refine ⟨?_,h.2.1.keep (a.block _ h.2.1.lt),h.2.2.trans (aa.TG a _)⟩;have e:yE A d b r (dR Dn i)=yE A d b r Dn:=by unfold yE dR;rw [if_neg (λe:8=i=>hi e.symm)]
 rw [e];exact h.1.below a lR
theorem rI {v:Nat} (M:Sz=ops) (g:bt w v p D L G ps ho) (h:aq w p A F) (W:A.fit) (d b:Nat) (V:d<A.n) (z:b<A.nb) (hw:A.wait<0) (X:A.lost d=ZW)
 (r:aX) (E:r.ok) (Y:jc r) (Z:bk w) (x:¬ F.has p A.n 2) (R:¬ F.has p A.n v) (hc:a.tmps.size=22) (H:a.eval (Z1 0)=Z6 (ZY ⟨v,0,ZZ⟩)) (I:a.eval (Z1 1)=Z7 Z9 d) (J:a.eval (Z1 2)=Z7 Z9 b) (K:a.eval (Z1 3)=br r)
 (T:∀ w',aq w' p ((A.TK d b r.blk).TN d b ZW) F->aa (F.has p A.n) w w'->Q .normal (Act.putFrom a 9 [.nilIface,Z6 (ZY ⟨v,0,ZZ⟩),Z6 (ZY ⟨v,0,ZZ⟩),Z6 (ZY ⟨v,0,ZZ⟩),Z6 (ZY ⟨p,0,ZZ⟩),Z7 Z9 d,Z7 Z9 b,br r,.agg (an r.blk),.nilIface]) w') :
 (Code.region 1 ops ZX).wp ZR Q a w:=by
 subst M;refine cB (by kernel_rfl) F9 a w (by omega) (λi u _=>u=(OD v p d b r).getD i Z0) (RF w v p D L G ps ho A F d b r) ⟨h.keep λ_ _=>rfl,g,aa.drew w⟩ ?_ ?_
 . intro i hi;match i,hi with
   | 0,_=>exact λo a' w' q x ho k m s t l j g=>ae (ag ho ((m.slot 0 (by omega)).trans H) w') k ⟨jd j _ (by decide) (Below.refl _ _),rfl,kq⟩
   | 1,_|2,_=>
    intro o a' w' q x ho k m s t l j g;have u0:=g _ (l _ (.head _));simp only [Qw,OD,bZ,cT,pM,pL] at ho u0;exact ae (by simp only [execOp,ho,u0,OD,pM,pL];go_simp) k ⟨jd j _ (by decide) (Below.refl _ _),rfl,kq⟩
   | 3,_=>
    intro o a' w' q x ho k m s t l j g;have u0:a'.eval (Z1 12)=Z6 (ZY ⟨v,0,ZZ⟩):=g 2 (l 2 (by decide));have c:=j.2.1.cells.1;exact ae (v:=Z6 (ZY ⟨p,0,ZZ⟩)) (by simp only [execOp,show o.op=Op.load 31 (Z1 12) from ho,u0];go_simp) k ⟨jd j _ (by decide) (Below.refl _ _),rfl,kq⟩
   | 4,_=>exact λo a' w' q x ho k m s t l j g=>ae (ag ho ((m.slot 1 (by omega)).trans I) w') k ⟨jd j _ (by decide) (Below.refl _ _),rfl,kq⟩
   | 5,_=>exact λo a' w' q x ho k m s t l j g=>ae (ag ho ((m.slot 2 (by omega)).trans J) w') k ⟨jd j _ (by decide) (Below.refl _ _),rfl,kq⟩
   | 6,_=>exact λo a' w' q x ho k m s t l j g=>ae (ag ho ((m.slot 3 (by omega)).trans K) w') k ⟨jd j _ (by decide) (Below.refl _ _),rfl,kq⟩
   | 7,_=>
    intro o a' w' q O ho k m s t l j g;have u0:a'.eval (Z1 16)=br r:=g 6 (l 6 (by decide));refine dD (f:=156) (args:=#[br r]) (w1:=w') (by simp only [execOp,show o.op=Op.call { callee:=Callee.value (Operand.func 156),args:=#[Z1 16],argTypes:=#[219] } from ho];go_simp;simpa [Act.eval] using u0) k (Y w' (Z.outside j.2.2 x)) ?_;rintro e B ⟨rfl,z⟩;exact ⟨_,rfl,jd j 7 (by decide) z,rfl,kq⟩
   | 8,_=>
    intro o a' w' q O ho k m s t l j g;have u0:a'.eval (Z1 13)=Z6 (ZY ⟨p,0,ZZ⟩):=g 3 (l 3 (by decide));have u1:a'.eval (Z1 14)=Z7 Z9 d:=g 4 (l 4 (by decide));have u2:a'.eval (Z1 15)=Z7 Z9 b:=g 5 (l 5 (by decide));have u3:a'.eval (Z1 17)=.agg (an r.blk):=g 7 (l 7 (by decide));have y:aq w' p A F:=(by have:=j.1;unfold yE at this;rw [if_neg (by rw [s];decide)] at this;exact this);refine dD (f:=155) (args:=#[Z6 (ZY ⟨p,0,ZZ⟩),Z7 Z9 d,Z7 Z9 b,.agg (an r.blk)]) (w1:=w') (by simp only [execOp,show o.op=Op.call { callee:=Callee.value (Operand.func 155),args:=#[Z1 13,Z1 14,Z1 15,Z1 17],argTypes:=#[31,3,3,255] } from ho];go_simp;exact ⟨by simpa [Act.eval] using u0,by simpa [Act.eval] using u1,by simpa [Act.eval] using u2,by simpa [Act.eval] using u3⟩) k (Jh y W d b V z hw X r.blk (eJ E) (jv E)) ?_;rintro e B ⟨rfl,N,C⟩;refine ⟨_,rfl,⟨?_,j.2.1.keep (C.block _ j.2.1.lt R),j.2.2.trans C⟩,rfl,kq⟩;have e:yE A d b r (dR q 8)=(A.TK d b r.blk).TN d b ZW:=(by unfold yE dR;rw [if_pos (by rw [if_pos rfl])]);rw [e];exact N
   | 9,_=>
    intro o a' w' q x ho k m s t l j g;have u0:a'.eval (Z1 18)=.nilIface:=g 8 (l 8 (by decide));exact ae (v:=.nilIface) (by simp [execOp,show o.op=Op.assign (Z1 18) from ho,u0]) k ⟨jd j _ (by decide) (Below.refl _ _),rfl,kq⟩
   | n+10,hn=>exact absurd hn (by show ¬ n+10<10;omega)
 . rintro a' w' P ⟨q,S,j⟩ g;have e:yE A d b r q=(A.TK d b r.blk).TN d b ZW:=(by unfold yE;rw [if_pos (S 8 (by decide))]);have y:=j.1;rw [e] at y;have U:∀ i:Nat,i<10->a'.eval (.tmp (9+i))=[.nilIface,Z6 (ZY ⟨v,0,ZZ⟩),Z6 (ZY ⟨v,0,ZZ⟩),Z6 (ZY ⟨v,0,ZZ⟩),Z6 (ZY ⟨p,0,ZZ⟩),Z7 Z9 d,Z7 Z9 b,br r,.agg (an r.blk),.nilIface].getD i Z0:=by
    intro i hi;match i,hi with
    | 0,_=>exact g 9 (by decide)
    | 1,_=>exact g 0 (by decide)
    | 2,_=>exact g 1 (by decide)
    | 3,_=>exact g 2 (by decide)
    | 4,_=>exact g 3 (by decide)
    | 5,_=>exact g 4 (by decide)
    | 6,_=>exact g 5 (by decide)
    | 7,_=>exact g 6 (by decide)
    | 8,_=>exact g 7 (by decide)
    | 9,_=>exact g 8 (by decide)
    | n+10,hn=>exact absurd hn (by show ¬ n+10<10;omega)
   rw [P.out [.nilIface,Z6 (ZY ⟨v,0,ZZ⟩),Z6 (ZY ⟨v,0,ZZ⟩),Z6 (ZY ⟨v,0,ZZ⟩),Z6 (ZY ⟨p,0,ZZ⟩),Z7 Z9 d,Z7 Z9 b,br r,.agg (an r.blk),.nilIface] rfl (by omega) U];exact T w' y j.2.2
theorem qV {v:Nat} (k:bt w v p D L G ps ho) (h:aq w p A F) (o:A.fit) (d b:Nat) (m:d<A.n) (l:b<A.nb) (y:A.wait<0) (s:A.lost d=ZW)
 (r:aX) (u:r.ok) (t:jc r) (x:bk w) (q:¬ F.has p A.n 2) (j:¬ F.has p A.n v) :
 ZS ZR 130 #[Z6 (ZY ⟨v,0,ZZ⟩),Z7 Z9 d,Z7 Z9 b,br r] w λe w'=>e=Z3 .nilIface/\aq w' p ((A.TK d b r.blk).TN d b ZW) F/\aa (F.has p A.n) w w':=by
 obtain ⟨rv,a⟩:=nM (br r);simp only [a];have f:=hide a;clear a;go_enter func130,ntmps130;go_wp2_with fail;refine rI (by kernel_rfl) k h o d b m l y s r u t x q j rfl rfl rfl rfl f.out.symm ?_;intro w1 g i;rw [f.out];have c:=hide2 g i;clear g i;rename_i hK
 refine hK _ _ ?_;clear hK;simp only [Act.putFrom,Act.put,XX,XY,XZ];generalize an r.blk=z;go_wp2_with fail;refine (Jm w1).mono ?_;rintro e w' ⟨rfl,rfl⟩;go_wp2;go_ret;exact ⟨rfl,c.out.1,c.out.2⟩
def bU (D L G:Int):Bool:=decide (1<=D/\D<=12/\1<=L/\L<=4/\0<=G/\G<=4/\D%L=0/\D+L+G<=16)
def Ay {a b:Bool} (h:a=b):Ending.returned (Z2 a)=Z3 (Z2 b):=by rw [h]
theorem ep (D L G:Int) (w:ZV) (a:0<=D/\D<=100) (b:0<=L/\L<=100) (c:0<=G/\G<=100) :
 ZS ZR 9 #[.agg #[Z7 Z9 D,Z7 Z9 L,Z7 Z9 G]] w λe w'=>e=Z3 (Z7 Z9 (D+L+G))/\bW w w':=by
 obtain ⟨d,f⟩:=a;obtain ⟨b1,b2⟩:=b;obtain ⟨c1,g⟩:=c;go_enter func9,ntmps9;go_wp2;go_ret;exact ⟨rfl,bA _ _⟩
theorem pQ (D L G:Int) (w:ZV) :
 ZS ZR 59 #[.agg #[Z7 Z9 D,Z7 Z9 L,Z7 Z9 G]] w λe w'=>e=Z3 (Z2 (bU D L G))/\bW w w':=by
 go_enter func59,ntmps59;go_wp2_with (go_at_call 9;refine (ep D L G _ (by omega) (by omega) (by omega)).mono ?_;rintro e w' ⟨rfl,a⟩);all_goals go_ret
 . refine ⟨Ay (b:=bU D L G) ?_,(bA _ _).trans (a.mono (by simp))⟩;unfold bU;rw [decide_eq_decide];constructor
   . intro h;exact ⟨by omega,by omega,by omega,by omega,by omega,by omega,by assumption,h⟩
   . intro h;exact h.2.2.2.2.2.2.2
 all_goals
  refine ⟨Ay (b:=bU D L G) ?_,bA _ _⟩;unfold bU;symm;rw [decide_eq_false_iff_not];intro h;omega
def dK (D i:Nat):List Nat:=(XO D 0).set i 1
theorem Az (D L G i:Nat) (f:D<=12) (hi:i<D) (w:ZV) :
 ZS ZR 60 #[.agg #[Z7 Z9 D,Z7 Z9 L,Z7 Z9 G],Z7 Z9 i] w λe w'=>∃ b,e=Z3 (Z5 (ZY ⟨b,0,ZZ⟩) D D)/\w.heap.size<=b/\aL w' b (dK D i)/\bW w w':=by
 go_enter func60,ntmps60;go_wp2_with (at_make;refine eH _ rfl (Z1 7) (Z1 7) rfl D D rfl rfl rfl (by omega) ?_;intro w1 a c d;rw [nblk_alloc] at a c d;have g:=a.cell i (by simpa using hi);have h:=a.frozen i);go_ret;refine ⟨w.heap.size+1,rfl,by omega,?_,?_⟩
 . exact a.set i 1
 . exact ((bA _ _).trans (c.mono (by omega))).setCell (by simp) _
def fa (D L g:Nat):List Nat:=(XG D).map λj=>if g*(D/L)<=j/\j<(g+1)*(D/L) then 1 else 0
def jf (D s k:Nat):List Nat:=(XG D).map λj=>if s<=j/\j<k then 1 else 0
theorem ve (D s:Nat):jf D s s=XO D 0:=by
 unfold jf;apply X0
 . simp
 . intro i a b;simp
theorem yK (D s k:Nat) (d:s<=k):(jf D s k).set k 1=jf D s (k+1):=by
 unfold jf;apply X0
 . simp
 . intro i b c;simp [YP];by_cases e:k=i
   . subst e;simp;omega
   . simp only [if_neg e];by_cases a:s<=i/\i<k
     . rw [if_pos a,if_pos ⟨a.1,by omega⟩]
     . rw [if_neg a,if_neg (by omega)]
def Js (a:D%L=0) (b:g<L):(g+1)*(D/L)<=D:=by
 have c:(g+1)*(D/L)<=L*(D/L):=YQ _ b;have d:L*(D/L)=D:=Nat.mul_div_cancel' (Nat.dvd_of_mod_eq_zero a);omega
theorem yL (D L G g:Nat) (E:D<=12) (F:1<=L) (H:L<=4) (n:D%L=0) (y:g<L) (w:ZV) :
 ZS ZR 61 #[.agg #[Z7 Z9 D,Z7 Z9 L,Z7 Z9 G],Z7 Z9 g] w λe w'=>∃ b,e=Z3 (Z5 (ZY ⟨b,0,ZZ⟩) D D)/\w.heap.size<=b/\aL w' b (fa D L g)/\bW w w':=by
 have M:=Js n y;have N:D/L<=D:=YR _ _;have f:fa D L g=jf D (g*(D/L)) ((g+1)*(D/L)):=rfl;have B:wrap64 ((D:Int)/(L:Int))=((D/L:Nat):Int):=by
  rw [<- YS];exact nj (by omega)
 generalize D/L=q at *;have r:g*q<=(g+1)*q:=YQ _ (by omega);have m:wrap64 ((g:Int)*(q:Int))=((g*q:Nat):Int):=by
  rw [<- Int.natCast_mul];unfold wrap64;omega
 have C:wrap64 (((g:Int)+1)*(q:Int))=(((g+1)*q:Nat):Int):=by
  have:((g:Int)+1)*(q:Int)=(((g+1)*q:Nat):Int):=by push_cast;rfl
  rw [this];unfold wrap64;omega
 generalize g*q=s at *;generalize (g+1)*q=t at *;have l:=hide f;clear f;go_enter func61,ntmps61;go_wp2_with (at_make;refine eH _ rfl (Z1 9) (Z1 9) rfl D D rfl rfl rfl (by omega) ?_;intro w1 d a A;rw [nblk_alloc] at d a A;have z:=a.cell (p:=⟨w.heap.size,0,ZZ⟩) (by simp);have x:=a.cell (p:=⟨w.heap.size,1,ZZ⟩) (by simp));rw [<- ve D s] at d;go_loopw [7] (λi wr=>∃ k:Nat,s<=k/\k<=t/\i=Z7 Z9 k/\aL wr (w.heap.size+1) (jf D s k)/\bW w wr) (λi _=>t-(intOf i).toNat)
 case atStart=>exact ⟨s,XW _,r,by rw [m],d,(bA _ _).trans (a.mono (by omega))⟩
 case round=>
  obtain ⟨k,u,J,rfl,c,j⟩:=hrel;clear d a z x;by_cases hi:k<t
  . have I:=c.cell k (by simp [jf];omega);have K:=c.frozen k;have h:=c.set k 1;rw [yK _ _ _ u] at h;have o:=j.setCell (p:=⟨w.heap.size+1,k,ZZ⟩) (by simp) (Z7 .u8 1);go_wp2;go_roundw
    case rel=>exact ⟨k+1,by omega,by omega,by go_num,h,o⟩
    case measure=>simp [intOf];omega
  . have v:k=t:=(by omega);subst v;go_wp2;go_ret;exact ⟨w.heap.size+1,rfl,by omega,by rw [l.out];exact c,j⟩
def cF (D i:Nat):List Nat:=(XG D).map λj=>gi ((D+i)^^^j)
def fD (D i k:Nat):List Nat:=(XG D).map λj=>if j<k then gi ((D+i)^^^j) else 0
theorem sR (D i:Nat):fD D i 0=XO D 0:=by
 unfold fD;apply X0
 . simp
 . intro j a b;simp
theorem yM (D i:Nat):fD D i D=cF D i:=by
 unfold fD cF;apply X0
 . simp
 . intro j a b;simp at a;simp [a]
theorem vh (D i k:Nat):(fD D i k).set k (gi ((D+i)^^^k))=fD D i (k+1):=by
 unfold fD;apply X0
 . simp
 . intro j b c;simp [YP];by_cases e:k=j
   . subst e;simp
   . simp only [if_neg e];by_cases a:j<k
     . rw [if_pos a,if_pos (by omega)]
     . rw [if_neg a,if_neg (by omega)]
theorem Jt (D i j:Nat) (a:D<=12) (hi:i<=4) (b:j<D):(D+i)^^^j<256/\bits .xor .i64 ((D:Int)+(i:Int)) (j:Int)=(((D+i)^^^j:Nat):Int):=by
 refine ⟨j8 (by omega) (by omega),?_⟩;have:=Mi (D+i) j (by omega) (by omega);rw [<- this];congr 1
theorem vk (D L G i:Nat) (s:D<=12) (hi:i<=4) (w:ZV) :
 ZS ZR 62 #[.agg #[Z7 Z9 D,Z7 Z9 L,Z7 Z9 G],Z7 Z9 i] w λe w'=>∃ b,e=Z3 (Z5 (ZY ⟨b,0,ZZ⟩) D D)/\w.heap.size<=b/\aL w' b (cF D i)/\bW w w':=by
 go_enter func62,ntmps62;go_wp2_with (at_make;refine eH _ rfl (Z1 8) (Z1 8) rfl D D rfl rfl rfl (by omega) ?_;intro w1 c d t;rw [nblk_alloc] at c d t;have f:=d.cell (p:=⟨w.heap.size,0,ZZ⟩) (by simp));rw [<- sR D i] at c;simp at f;go_loopw [12] (λj wr=>∃ k:Nat,k<=D/\j=Z7 Z9 k/\aL wr (w.heap.size+1) (fD D i k)/\wr.cell? ⟨w.heap.size,0,ZZ⟩=ZY (Z7 Z9 D)/\bW w wr) (λj _=>D-(intOf j).toNat)
 case atStart=>exact ⟨0,XR _,rfl,c,f,(bA _ _).trans (d.mono (by omega))⟩
 case round=>
  obtain ⟨k,A,rfl,a,q,h⟩:=hrel;clear c d f;by_cases n:k<D
  . have y:=a.cell k (by simp [fD];omega);have z:=a.frozen k;obtain ⟨r,u⟩:=Jt D i k s hi n;have g:=a.set k (gi ((D+i)^^^k));rw [vh] at g;have l:=h.setCell (p:=⟨w.heap.size+1,k,ZZ⟩) (by simp) (Z7 .u8 (gi ((D+i)^^^k)));have o:(wr.setCell ⟨w.heap.size+1,k,ZZ⟩ (Z7 .u8 (gi ((D+i)^^^k)))).cell? ⟨w.heap.size,0,ZZ⟩=ZY (Z7 Z9 D):=(by rw [<- q];exact World.cell?_of_block (blk_setCell_other _ _ _ _ (by simp)));generalize (D+i)^^^k=x at *;have v:(x:Int)<256:=(by omega);go_wp2_with (go_at_call 90;refine (rT x r _).mono ?_;rintro e w' ⟨rfl,rfl⟩);go_roundw
    case rel=>exact ⟨k+1,by omega,by go_num,g,o,l⟩
    case measure=>simp [intOf];omega
  . have m:k=D:=(by omega);subst m;rw [yM] at a;go_wp2;go_ret;exact ⟨w.heap.size+1,rfl,by omega,a,h⟩
def aO (D L G:Nat):List (List Nat):=(XG D).map (dK D)++(XG L).map (fa D L)++(XG G).map (cF D)
def di (T:List (Nat×Nat×List Nat)) (D:Nat) (M:List (List Nat)):Prop:=T.map (λp=>p.2)=M.map (λr=>(D,r))
def di.push (h:di T D M) (b:Nat) (r:List Nat):di (T++[(b,D,r)]) D (M++[r]):=by
 unfold di at *;simp [h]
theorem di.length (h:di T D M):T.length=M.length:=by
 have:=congrArg List.length h;simpa using this
def Ju (D i:Nat):(dK D i).length=D/\∀ x∈dK D i,x<256:=by
 refine ⟨by simp [dK],λx a=>?_⟩;rcases List.mem_or_eq_of_mem_set a with h|h
 . have:=YN h;omega
 . omega
theorem Gg (D L g:Nat):(fa D L g).length=D/\∀ x∈fa D L g,x<256:=by
 refine ⟨by simp [fa],λx a=>?_⟩;obtain ⟨j,_,rfl⟩:=X1.1 a;split<;>decide
def Dd (D i:Nat) (c:D<=12) (hi:i<=4):(cF D i).length=D/\∀ x∈cF D i,x<256:=by
 refine ⟨by simp [cF],λx b=>?_⟩;obtain ⟨j,a,rfl⟩:=X1.1 b;exact dh (j8 (by omega) (by have:=Yq.1 a;omega))
def iV.append {w2:ZV} {v':ZU} {r:List Nat} {o:Obj} (h:iV w base v T) (g:bW w w1) (k:base<=w.heap.size) (l:w.heap.size<=b) (f:aL w1 b r) (a:r.length=D/\∀ x∈r,x<256) (m:D<=1000000)
 (i:(w1.alloc o).grownBy w2 v.ownBlock) (c:w2.ownsRow base 34 1 v' (T.length+1) (T.map lB++[Z5 (ZY ⟨b,0,ZZ⟩) D D])):iV w2 base v' (T++[(b,D,r)]):=by
 have d:=(h.below g).alloc o;refine d.push i (p:=(b,D,r)) ?_ ⟨by show base<=b;omega,f.alloc o,by show D<=r.length;omega,⟨by show D<=140737488355328;omega,by show r.length<=9223372036854775807;omega⟩,a.2⟩ ?_
 . have e:lB (b,D,r)=Z5 (ZY ⟨b,0,ZZ⟩) D D:=(by unfold lB;simp [a.1]);rw [e];exact c
 . intro q j;have:=(h.row q j).2.1.lt;show q.1≠b;omega
def fT {wx:ZV} {a b c:ZU} (h:ZT (w.heap.size+1) (w.alloc (Z4 #[a,b,c] t)) wx) :
 wx.cell? ⟨w.heap.size,0,ZZ⟩=ZY a/\wx.cell? ⟨w.heap.size,1,ZZ⟩=ZY b/\wx.cell? ⟨w.heap.size,2,ZZ⟩=ZY c:=by
 have d:=h.cell (p:=⟨w.heap.size,0,ZZ⟩) (by simp);have e:=h.cell (p:=⟨w.heap.size,1,ZZ⟩) (by simp);have f:=h.cell (p:=⟨w.heap.size,2,ZZ⟩) (by simp);rw [World.cell?_alloc_at _ _ _ _ rfl] at d e f;exact ⟨d,e,f⟩
def De {wa wb:ZV} (c:ZT B w0 wa) (b:B<=wa.heap.size) (a:bW wa wb) (d:wb.grownBy wc ZZ):ZT B w0 wc:=
 (c.trans (a.mono b)).grown d (by have:=a.size;omega) (λk e=>by simp at e)
def iV.made (h:wc.ownsRow base 34 1 (Z5 (ZY ⟨g,0,ZZ⟩) 0 cap) 0 []):iV wc base (Z5 (ZY ⟨g,0,ZZ⟩) 0 cap) []:=
 ⟨h,λp a=>by simp at a,by simp⟩
def di.nil (D:Nat):di [] D []:=rfl
def nA (f:Nat->α) (k:Nat):(XG (k+1)).map f=(XG k).map f++[f k]:=by
 rw [YT,YU];rfl
theorem kA (D L G:Nat) (Y:bU D L G=ZX) (C:D<=12) (S:1<=L) (V:L<=4) (X:G<=4) (U:D%L=0) (w:ZV) :
 ZS ZR 41 #[.agg #[Z7 Z9 D,Z7 Z9 L,Z7 Z9 G]] w λe w'=>∃ v T,e=Z3 (.tuple #[v,.nilIface])/\iV w' (w.heap.size+1) v T/\di T D (aO D L G)/\bW w w':=by
 obtain ⟨I,hi,E,F,H⟩:=info_parts Tryz.Uc;go_enter func41,ntmps41;go_wp2_with fail;refine (pQ D L G _).mono ?_;rintro e wa ⟨rfl,t⟩;try change ZT _ _ _ at t
 rw [nblk_alloc] at t;have N:=t.size;try change ZT _ _ _ at N
 rw [nblk_alloc] at N;obtain ⟨p,q,r⟩:=fT t;go_wp2_with fail;refine (ep D L G _ (by omega) (by omega) (by omega)).mono ?_;rintro e W ⟨rfl,J⟩;have Z:=J.size;clear p q r;go_wp2_with (at_make;refine wpList_make_own _ rfl (.const (Z7 Z9 0)) (Z1 13) 95 rfl (w.heap.size+1) 34 I (Z5 ZZ 0 0) 1 underlying95 hi E F .i64 .i64 (D+L+G) (D+L+G) rfl rfl (by omega) (by rw [H];omega) (by unfold maxLen;omega) (by omega) ?_;intro wc P M;have K:=De t N J M;obtain ⟨p,q,r⟩:=fT K);have a:=iV.made P;have k6:=M.size;clear P M t J;generalize Value.slice (ZY ⟨W.heap.size,0,ZZ⟩) 0 (D+L+G)=v0 at *;go_loopw [4,17] (λv i wr=>∃ k T,k<=D/\i=Z7 Z9 (k:Nat)/\iV wr (w.heap.size+1) v T/\di T D ((XG k).map (dK D))/\ZT (w.heap.size+1) (w.alloc (Z4 #[Z7 Z9 D,Z7 Z9 L,Z7 Z9 G] 25)) wr/\w.heap.size+1<=wr.heap.size) (λ_ i _=>D-(intOf i).toNat)
 case atStart=>exact ⟨0,[],XR _,rfl,a,di.nil D,K,by omega⟩
 case round=>
  clear a K p q r;obtain ⟨k,T,B,rfl,a,d,f,j⟩:=hrel;obtain ⟨p,q,r⟩:=fT f;by_cases s:k<D
  . have m:=d.length;rw [XM,XN] at m;have O:T.length<=12:=(by omega);clear m;have h:=hide d;clear d;go_wp2_with fail;refine (Az D L G k C s _).mono ?_;rintro e w1 ⟨b,rfl,x,n,c⟩;have Q:=c.size;go_wp2_with (at_builtin;refine wpList_append_own _ rfl (Z1 20) (Z1 24) 95 rfl (w.heap.size+1) 34 I (Z5 ZZ 0 0) 1 24 underlying95 hi E F H rfl (by decide) _ T.length (T.map lB) rfl ((a.below c).alloc _).own ⟨w1.heap.size,0,ZZ⟩ 1 1 [Z5 (ZY ⟨b,0,ZZ⟩) D D] rfl rfl (cell_one_new _ _ _) (by simp [Value.oneCell']) (by unfold maxLen;omega) (by omega) (by rw [nblk_alloc];omega) ?_;intro R w2 l g A);have u:=iV.append a c j x n (Ju D k) (by omega) g l;have y:=kl a f c j g;have o:=g.size;try change ZT _ _ _ at o
    rw [nblk_alloc] at o;clear a l g A n c f;go_roundw
    case rel=>exact ⟨k+1,_,by omega,by go_num,u,by rw [nA];exact h.out.push b _,y,by omega⟩
    case measure=>simp [intOf];omega
  . have z:D=k:=(by omega);clear s B;subst z;have h:=hide d;clear d;go_wp2_with fail;go_loopw [4,29] (λv i wr=>∃ k T,k<=L/\i=Z7 Z9 (k:Nat)/\iV wr (w.heap.size+1) v T/\di T D ((XG D).map (dK D)++(XG k).map (fa D L))/\ZT (w.heap.size+1) (w.alloc (Z4 #[Z7 Z9 D,Z7 Z9 L,Z7 Z9 G] 25)) wr/\w.heap.size+1<=wr.heap.size) (λ_ i _=>L-(intOf i).toNat)
    case atStart=>exact ⟨0,T,XR _,rfl,a,by rw [YV,X2,Yb];exact h.out,f,j⟩
    case round=>
     clear a f p q r h j;obtain ⟨k,T,B,rfl,a,d,f,j⟩:=hrel;obtain ⟨p,q,r⟩:=fT f;by_cases s:k<L
     . have m:=d.length;simp only [X4,XM,XN] at m;have O:T.length<=20:=(by omega);clear m;have h:=hide d;clear d;go_wp2_with fail;refine (yL D L G k C S V U s _).mono ?_;rintro e w1 ⟨b,rfl,x,n,c⟩;have Q:=c.size;go_wp2_with (at_builtin;refine wpList_append_own _ rfl (Z1 32) (Z1 36) 95 rfl (w.heap.size+1) 34 I (Z5 ZZ 0 0) 1 24 underlying95 hi E F H rfl (by decide) _ T.length (T.map lB) rfl ((a.below c).alloc _).own ⟨w1.heap.size,0,ZZ⟩ 1 1 [Z5 (ZY ⟨b,0,ZZ⟩) D D] rfl rfl (cell_one_new _ _ _) (by simp [Value.oneCell']) (by unfold maxLen;omega) (by omega) (by rw [nblk_alloc];omega) ?_;intro R w2 l g A);have u:=iV.append a c j x n (Gg D L k) (by omega) g l;have y:=kl a f c j g;have o:=g.size;try change ZT _ _ _ at o
       rw [nblk_alloc] at o;clear a l g A n c f;go_roundw
       case rel=>exact ⟨k+1,_,by omega,by go_num,u,by rw [nA,<- XT];exact h.out.push b _,y,by omega⟩
       case measure=>simp [intOf];omega
     . have z:L=k:=(by omega);clear s B;subst z;have h:=hide d;clear d;go_wp2_with fail;go_loopw [4,41] (λv i wr=>∃ k T,k<=G/\i=Z7 Z9 (k:Nat)/\iV wr (w.heap.size+1) v T/\di T D (((XG D).map (dK D)++(XG L).map (fa D L))++(XG k).map (cF D))/\ZT (w.heap.size+1) (w.alloc (Z4 #[Z7 Z9 D,Z7 Z9 L,Z7 Z9 G] 25)) wr/\w.heap.size+1<=wr.heap.size) (λ_ i _=>G-(intOf i).toNat)
       case atStart=>exact ⟨0,T,XR _,rfl,a,by rw [YV,X2,Yb];exact h.out,f,j⟩
       case round=>
        clear a f p q r h j;obtain ⟨k,T,B,rfl,a,d,f,j⟩:=hrel;obtain ⟨p,q,r⟩:=fT f;by_cases s:k<G
        . have m:=d.length;simp only [X4,XM,XN] at m;have O:T.length<=20:=(by omega);clear m;have h:=hide d;clear d;go_wp2_with fail;refine (vk D L G k C (by omega) _).mono ?_;rintro e w1 ⟨b,rfl,x,n,c⟩;have Q:=c.size;go_wp2_with (at_builtin;refine wpList_append_own _ rfl (Z1 44) (Z1 48) 95 rfl (w.heap.size+1) 34 I (Z5 ZZ 0 0) 1 24 underlying95 hi E F H rfl (by decide) _ T.length (T.map lB) rfl ((a.below c).alloc _).own ⟨w1.heap.size,0,ZZ⟩ 1 1 [Z5 (ZY ⟨b,0,ZZ⟩) D D] rfl rfl (cell_one_new _ _ _) (by simp [Value.oneCell']) (by unfold maxLen;omega) (by omega) (by rw [nblk_alloc];omega) ?_;intro R w2 l g A);have u:=iV.append a c j x n (Dd D k C (by omega)) (by omega) g l;have y:=kl a f c j g;have o:=g.size;try change ZT _ _ _ at o
          rw [nblk_alloc] at o;clear a l g A n c f;go_roundw
          case rel=>exact ⟨k+1,_,by omega,by go_num,u,by rw [nA,<- XT];exact h.out.push b _,y,by omega⟩
          case measure=>simp [intOf];omega
        . have z:G=k:=(by omega);clear s B;subst z;have h:=hide d;clear d;go_wp2;go_ret2;refine ⟨_,T,rfl,a,h.out,?_⟩;exact (bA _ _).trans (f.mono (by omega))
def aJ (w:ZV):Prop:=∀ j,j<64->w.cell? ⟨1,j,ZZ⟩=ZY (Z7 .u8 ((Lib.deBruijn64tab.getD j 0:Nat):Int))
def aJ.mono (h:aJ w) (a:1<B) (b:ZT B w w'):aJ w':=λj c=>(b.cell (p:=⟨1,j,ZZ⟩) a).trans (h j c)
def OF (x a:Nat) (d:x<18446744073709551616) (e:x≠0) (c:x &&& (18446744073709551616-x)=a) :
 IntKind.u64.wrap (bits BinOp.and IntKind.u64 (x:Int) (IntKind.u64.wrap (-(x:Int)))*285870213051353865)/288230376151711744=((a*285870213051353865%18446744073709551616/288230376151711744:Nat):Int):=by
 have b:IntKind.u64.wrap (-(x:Int))=((18446744073709551616-x:Nat):Int):=by rw [IntKind.wrap_u64];omega
 rw [b,bits_and_u64_nat x _ d (by omega),c,IntKind.wrap_u64];omega
def oB (x:Nat):Nat:=Lib.ctzFrom 64 x
def sS (a:x≠0) (b:x<65536):∃ m,x=2^oB x*(2*m+1)/\oB x<64:=Lib.ctzFrom_spec 64 x (by omega) (by omega)
theorem Mt (x k idx:Nat) (w:ZV) (b:((x:Int)==0)=ZW)
 (key:IntKind.u64.wrap (bits BinOp.and IntKind.u64 (x:Int) (IntKind.u64.wrap (-(x:Int)))*285870213051353865)/288230376151711744=(idx:Int))
 (hi:idx<64) (c:k<64) (a:w.cell? ⟨1,idx,ZZ⟩=ZY (Z7 .u8 k)) :
 ZS ZR 154 #[Z7 Z8 x] w λe w'=>e=Z3 (Z7 Z9 k)/\w'=w:=by
 go_enter func154,ntmps154;go_wp2_with (simp only [key]);go_ret;exact ⟨rfl,rfl⟩
def Jv (x:Nat) (a:x≠0) (i:x<65536) (w:ZV) (h:aJ w) :
 ZS ZR 154 #[Z7 Z8 x] w λe w'=>e=Z3 (Z7 Z9 (oB x))/\w'=w:=by
 obtain ⟨m,d,c⟩:=sS a i;have f:x &&& (18446744073709551616-x)=2^oB x:=by
  have:=Lib.and_neg 64 (oB x) m (by rw [<- d];omega);rw [<- d] at this;exact this
 obtain ⟨hi,g⟩:=Lib.deBruijn64_at _ c;have b:=h _ hi;rw [g] at b;exact Mt x _ _ w (by simp;omega) (OF x _ (by omega) a f) hi c b
theorem E1 (n:x≠0) (p:x<65536):x &&& (x-1)=bO x (oB x):=by
 obtain ⟨m,d,_⟩:=sS n p;generalize oB x=k at d;have q:0<2^k:=Yc k;have o:2^(k+1)=2*2^k:=by rw [Yk];omega
 have f:x=2^(k+1)*m+2^k:=by rw [d,o,Nat.mul_add,Yp,Nat.mul_comm 2 (2^k),Nat.mul_assoc]
 have g:x-1=2^(k+1)*m+(2^k-1):=by omega
 apply YW;intro j;rw [YX,g,lG];have h:=Ys m (i:=k+1) (b:=2^k) (by omega) j;have l:=Ys m (i:=k+1) (b:=2^k-1) (by omega) j;rw [l,f,h];by_cases a:j<k+1
 . rw [if_pos a,if_pos a,Yt,YY];have c:decide (k<j)=ZW:=(by simp;omega);rw [c,Bool.false_and];by_cases e:k=j
   . simp [e]
   . simp [e]
 . rw [if_neg a,if_neg a];have c:decide (k<j)=ZX:=(by simp;omega);rw [c,Bool.true_and,Bool.and_self]
theorem rW (e:x≠0) (g:x<65536):x.testBit (oB x)=ZX/\∀ j,j<oB x->x.testBit j=ZW:=by
 obtain ⟨m,d,_⟩:=sS e g;generalize oB x=k at d;have l:0<2^k:=Yc k;have f:2^(k+1)=2*2^k:=by rw [Yk];omega
 have a:x=2^(k+1)*m+2^k:=by rw [d,f,Nat.mul_add,Yp,Nat.mul_comm 2 (2^k),Nat.mul_assoc]
 have c:=λj=>Ys m (i:=k+1) (b:=2^k) (by omega) j;constructor
 . rw [a,c,if_pos (by omega),Nat.testBit_two_pow_self]
 . intro j h;rw [a,c,if_pos (by omega),Yt];simp;omega
def Df (b:x≠0) (a:x<65536):oB x<16:=by
 refine Nat.lt_of_not_le λh=>?_;have:=YZ (x:=x) (i:=oB x) (XI a (Yl (n:=2) (by decide) h));rw [(rW b a).1] at this;cases this
def iI (b:x≠0) (c:x<65536):ab x=oB x::ab (bO x (oB x)):=by
 have h:oB x∈ab x:=bX.2 ⟨Df b c,(rW b c).1⟩;obtain ⟨pre,R,e⟩:=List.append_of_mem h;rw [At e];have f:=qX x;rw [e] at f;cases pre with
 | nil=>exact e
 | cons a pre=>
  have g:=(List.pairwise_append.1 f).2.2 a (by simp) (oB x) (by simp);have d:=(bX.1 (show a∈ab x by rw [e];simp)).2;rw [(rW b c).2 a g] at d;cases d
def pR (x k:Nat) (a:x<65536):bO x k<65536:=by
 unfold bO;exact YG (Y3 _ _) a
def wB:ab 0=[]:=by decide
def Qx (x:Nat):Nat:=(x/2 &&& 6148914691236517205)+(x &&& 6148914691236517205)
def Qy (x:Nat):Nat:=(x/4 &&& 3689348814741910323)+(x &&& 3689348814741910323)
def RG (x:Nat):Nat:=(x/16+x) &&& 1085102592571150095
def sw (x:Nat):Nat:=RG (Qy (Qx x))
def pb (b:Nat):Nat:=b%2+b/2%2+b/4%2+b/8%2+b/16%2+b/32%2+b/64%2+b/128%2
def Rk (n:Nat):Nat->Bool
 | 0=>ZX
 | k+1=>(sw (n*256+k)==pb n*256+pb k)&&Rk n k
def OG:Nat->Bool
 | 0=>ZX
 | n+1=>Rk n 256&&OG n
def RH:OG 256=ZX:=by decide +kernel
def Jw:∀ {k},Rk n k=ZX->∀ j,j<k->sw (n*256+j)=pb n*256+pb j
 | 0,_,j,h=>absurd h (by omega)
 | k+1,h,j,hj=>by
  obtain ⟨a,b⟩:=Y4.1 h;by_cases e:j=k
  . rw [e];exact eq_of_beq a
  . exact Jw b j (by omega)
def E2:∀ {n},OG n=ZX->∀ i,i<n->Rk i 256=ZX
 | 0,_,i,h=>absurd h (by omega)
 | n+1,h,i,hi=>by
  obtain ⟨a,b⟩:=Y4.1 h;by_cases e:i=n
  . rw [e];exact a
  . exact E2 b i (by omega)
def Qz (a:x<65536):sw x=pb (x/256)*256+pb (x%256):=by
 have:=Jw (E2 RH (x/256) (by omega)) (x%256) (by omega);rwa [show x/256*256+x%256=x by omega] at this
def OH (x i:Nat):(if x.testBit i=ZX then 1 else 0)=x/2^i%2:=by
 rw [Nat.testBit_eq_decide_div_mod_eq];by_cases h:x/2^i%2=1
 . simp [h]
 . have:=Nat.mod_two_eq_zero_or_one (x/2^i);simp [h];omega
def NZ (b:Nat):pb b<=8:=by unfold pb;omega
theorem Jy (x:Nat):(ab x).length=pb (x/256)+pb (x%256):=by
 have h:∀ n,((XG n).filter (λi=>x.testBit i)).length=((XG n).map (λi=>x/2^i%2)).sum:=by
  intro n;induction n with
  | zero=>rfl
  | succ n ih=>
   rw [YT,List.filter_append,X4,ih,YU,List.sum_append];have e:=OH x n;have m:([n].map (λi=>x/2^i%2)).sum=x/2^n%2:=(by simp);rw [m,<- e];by_cases e:x.testBit n=ZX
   . simp [e]
   . simp [e]
 unfold ab pb;rw [h];have a:XG 16=[0,1,2,3,4,5,6,7,8,9,10,11,12,13,14,15]:=by decide
 rw [a];simp only [Ya,X2,List.sum_cons,List.sum_nil,Nat.reducePow,Nat.div_one];have b:x%256%2=x%2:=by omega
 have c:x%256/2%2=x/2%2:=by omega
 have d:x%256/4%2=x/4%2:=by omega
 have f:x%256/8%2=x/8%2:=by omega
 have g:x%256/16%2=x/16%2:=by omega
 have j:x%256/32%2=x/32%2:=by omega
 have k:x%256/64%2=x/64%2:=by omega
 have l:x%256/128%2=x/128%2:=by omega
 rw [b,c,d,f,g,j,k,l];clear b c d f g j k l h a;simp only [Nat.div_div_eq_div_mul,Nat.reduceMul];generalize x%2=o;generalize x/2%2=p;generalize x/4%2=q;generalize x/8%2=r;generalize x/16%2=s;generalize x/32%2=t;generalize x/64%2=u;generalize x/128%2=v;generalize x/256%2=b0;generalize x/512%2=b1;generalize x/1024%2=b2;generalize x/2048%2=b3;generalize x/4096%2=w;generalize x/8192%2=y;generalize x/16384%2=z;generalize x/32768%2=A;omega
def AA (h:k<64):2^k<18446744073709551616:=XI (Y5 (by decide) h) lR
def Gh (k:Nat) (h:k<=16):IntKind.u64.wrap (IntKind.u64.wrap (2^k)-1)=((2^k-1:Nat):Int):=by
 have a:=AA (k:=k) (by omega);have b:0<2^k:=Yc k;have e:((2:Int)^k)=((2^k:Nat):Int):=by rw [Y6];rfl
 rw [e,IntKind.wrap_u64,IntKind.wrap_u64];omega
theorem mu (k:Nat) (a:k<=16) (w:ZV) :
 ZS ZR 113 #[Z7 Z9 k] w λe w'=>e=Z3 (Z7 Z8 ((2^k-1:Nat):Int))/\w'=w:=by
 have key:=Gh k a;go_enter func113,ntmps113;go_wp2;go_ret;exact ⟨rfl,rfl⟩
def gj (a b:Nat) (c:a<18446744073709551616) (d:b<18446744073709551616):bits .and .u64 (a:Int) (b:Int)=((a &&& b:Nat):Int):=bits_and_u64_nat a b c d
theorem k1 (x:Nat) (h:x<65536):IntKind.u64.wrap (bits .and .u64 ((x:Int)/2) 6148914691236517205+bits .and .u64 (x:Int) 6148914691236517205)=((Qx x:Nat):Int)/\Qx x<131072:=by
 have e:(x:Int)/2=((x/2:Nat):Int):=by omega
 have d:=gj (x/2) 6148914691236517205 (by omega) (by decide);have f:=gj x 6148914691236517205 (by omega) (by decide);have b1:=Yd (n:=x/2) (m:=6148914691236517205);have b2:=Yd (n:=x) (m:=6148914691236517205);unfold Qx;rw [e];refine ⟨?_,by omega⟩;have c:bits .and .u64 ((x/2:Nat):Int) 6148914691236517205=((x/2 &&& 6148914691236517205:Nat):Int):=d;have g:bits .and .u64 (x:Int) 6148914691236517205=((x &&& 6148914691236517205:Nat):Int):=f;rw [c,g,IntKind.wrap_u64];generalize (x/2 &&& 6148914691236517205)=a at *;generalize (x &&& 6148914691236517205)=b at *;omega
theorem k2 (x:Nat) (h:x<131072):IntKind.u64.wrap (bits .and .u64 ((x:Int)/4) 3689348814741910323+bits .and .u64 (x:Int) 3689348814741910323)=((Qy x:Nat):Int)/\Qy x<262144:=by
 have e:(x:Int)/4=((x/4:Nat):Int):=by omega
 have d:=gj (x/4) 3689348814741910323 (by omega) (by decide);have f:=gj x 3689348814741910323 (by omega) (by decide);have b1:=Yd (n:=x/4) (m:=3689348814741910323);have b2:=Yd (n:=x) (m:=3689348814741910323);unfold Qy;rw [e];refine ⟨?_,by omega⟩;have c:bits .and .u64 ((x/4:Nat):Int) 3689348814741910323=((x/4 &&& 3689348814741910323:Nat):Int):=d;have g:bits .and .u64 (x:Int) 3689348814741910323=((x &&& 3689348814741910323:Nat):Int):=f;rw [c,g,IntKind.wrap_u64];generalize (x/4 &&& 3689348814741910323)=a at *;generalize (x &&& 3689348814741910323)=b at *;omega
def k3 (x:Nat) (a:x<262144):bits .and .u64 (IntKind.u64.wrap ((x:Int)/16+(x:Int))) 1085102592571150095=((RG x:Nat):Int):=by
 have e:IntKind.u64.wrap ((x:Int)/16+(x:Int))=((x/16+x:Nat):Int):=by rw [IntKind.wrap_u64];omega
 rw [e];exact gj (x/16+x) 1085102592571150095 (by omega) (by decide)
theorem k4 (x c:Nat) (a:x<1048576):IntKind.u64.wrap ((x:Int)+(x:Int)/(c:Int))=((x+x/c:Nat):Int):=by
 have:=YR x c;have e:(x:Int)/(c:Int)=((x/c:Nat):Int):=(YS x c).symm;rw [IntKind.wrap_u64,e];generalize x/c=d at *;omega
def OI (x:Nat):x &&& 127=x%128:=Nat.and_two_pow_sub_one_eq_mod x 7
theorem Jz (x:Nat) (u:x<65536) (w:ZV) :
 ZS ZR 210 #[Z7 Z8 x] w λe w'=>e=Z3 (Z7 Z9 ((ab x).length:Nat))/\w'=w:=by
 obtain ⟨g,b1⟩:=k1 x u;obtain ⟨h,b2⟩:=k2 _ b1;have a:=k3 _ b2;have t:=Qz u;have v:=NZ (x/256);have y:=NZ (x%256);have s:=Jy x;have e:RG (Qy (Qx x))=pb (x/256)*256+pb (x%256):=t;generalize pb (x/256)=p at *;generalize pb (x%256)=q at *;have b:=k4 (p*256+q) 256 (by omega);have n:p*256+q+(p*256+q)/256=p*257+q:=by omega
 have c:=k4 (p*257+q) 65536 (by omega);have o:p*257+q+(p*257+q)/65536=p*257+q:=by rw [Y7 (by omega),Nat.add_zero]
 have d:=k4 (p*257+q) 4294967296 (by omega);have r:p*257+q+(p*257+q)/4294967296=p*257+q:=by rw [Y7 (by omega),Nat.add_zero]
 rw [n] at b;rw [o] at c;rw [r] at d;have f:=Mh (p*257+q) 127 (by omega) (by decide);rw [OI,show (p*257+q)%128=p+q by omega,<- s] at f;have i:wrap64 ((p*257+q:Nat):Int)=((p*257+q:Nat):Int):=by unfold wrap64;omega
 rw [e] at a;clear e t s n o r;have H:=hide8 g h a b c d f i;clear g h a b c d f i;go_enter func210,ntmps210;go_wp2;obtain ⟨g,h,a,b,c,d,f,i⟩:=H.out;simp only [g];simp only [h];simp only [a];have j:IntKind.u64.wrap (((p*256+q:Nat):Int)+((p*256+q:Nat):Int)/256)=((p*257+q:Nat):Int):=b;have k:IntKind.u64.wrap (((p*257+q:Nat):Int)+((p*257+q:Nat):Int)/65536)=((p*257+q:Nat):Int):=c;have l:IntKind.u64.wrap (((p*257+q:Nat):Int)+((p*257+q:Nat):Int)/4294967296)=((p*257+q:Nat):Int):=d;have m:bits .and .i64 ((p*257+q:Nat):Int) 127=(((ab x).length:Nat):Int):=f;simp only [j,k,l,i,m];go_ret;exact ⟨rfl,rfl⟩
theorem AB (x:Nat) (a:x<65536) (w:ZV) :
 ZS ZR 206 #[Z7 Z8 x] w λe w'=>e=Z3 (Z7 Z9 ((ab x).length:Nat))/\w'=w:=by
 go_enter func206,ntmps206;go_wp2_with fail;refine (Jz x a _).mono ?_;rintro e w' ⟨rfl,rfl⟩;go_wp2;go_ret;exact ⟨rfl,rfl⟩
theorem Dg (x k:Nat) (c:x<65536) (f:k<=16):bits .andNot .u64 (x:Int) ((2^k-1:Nat):Int)=((x/2^k*2^k:Nat):Int):=by
 have d:=AA (k:=k) (by omega);have e:0<2^k:=Yc k;have h:=u64_andNot_nat x (2^k-1) (by omega) (by omega);rw [h];congr 1;apply YW;intro j;rw [YX,Nat.testBit_mul_two_pow,show 18446744073709551615-(2^k-1)=2^64-(2^k-1+1) by omega,Nat.testBit_two_pow_sub_succ (by omega),YY,Nat.testBit_div_two_pow];by_cases a:k<=j
 . rw [show j-k+k=j by omega];by_cases b:j<64
   . simp [a,b,show ¬ j<k by omega]
   . have:x.testBit j=ZW:=YZ (XI c (Yl (n:=2) (i:=16) (by decide) (by omega)));simp [this]
 . simp [a,show j<k by omega]
theorem Dh (x k:Nat) (a:x<65536) (c:k<16) (w:ZV) :
 ZS ZR 214 #[Z7 Z8 x,Z7 Z9 k] w λe w'=>e=Z3 (Z7 Z8 (bO x k:Nat))/\w'=w:=by
 have key:=Dg x (k+1) a (by omega);have d:wrap64 ((k:Int)+1)=((k+1:Nat):Int):=by unfold wrap64;omega
 have b:IntKind.i64.wrap ((k:Int)+1)=((k+1:Nat):Int):=by rw [IntKind.wrap_i64];omega
 have H:=hide key;clear key;go_enter func214,ntmps214;go_wp2_with fail;refine (mu (k+1) (by omega) _).mono ?_;rintro e w' ⟨rfl,rfl⟩;go_wp2;rw [H.out];go_ret;exact ⟨rfl,rfl⟩
section
attribute [local go_sem] Oper.semAt_some
def oC (b:q≠0) (c:q<65536):bO q (oB q)<q:=by
 refine Nat.lt_of_le_of_ne (Y3 _ _) λe=>?_;have a:=lG q (oB q) (oB q);rw [e,(rW b c).1] at a;simp at a
abbrev Sh:={ x:Nat // x<16 }
def qY (x:Sh):Array ZU:=#[Z7 Z9 (x.1:Int)]
def Rm (s:Nat):List Sh:=(ab s).filterMap (λi=>if h:i<16 then ZY ⟨i,h⟩ else ZZ)
def Mu (s:Nat):(Rm s).map (·.1)=ab s:=by
 unfold Rm;have h:∀ L:List Nat,(∀ i∈L,i<16)->(L.filterMap (λi=>if h:i<16 then ZY (⟨i,h⟩:Sh) else ZZ)).map (·.1)=L:=by
  intro L;induction L with
  | nil=>intro _;rfl
  | cons a L ih=>
   intro c;have d:=c a List.mem_cons_self;rw [List.filterMap_cons_some (b:=(⟨a,d⟩:Sh)) (by simp [d]),Ya,ih (λi hi=>c i (List.mem_cons_of_mem _ hi))]
 exact h _ (λi hi=>(bX.1 hi).1)
theorem dC (s:Nat) (w:ZV) :
 ZS ZR 129 #[Z7 Z8 s] w λe w'=>e=Z3 (.func (.func 153) #[] #[Z6 (ZY ⟨w.heap.size,0,ZZ⟩)])/\w'=w.alloc (Z4 #[Z7 Z8 s] 124):=by
 go_enter func129,ntmps129;go_wp2;go_ret;exact ⟨rfl,rfl⟩
theorem AC (n:Nat) (l Bs s:Nat) (A:s<65536) (J g:List Sh->ZV->Prop)
 (y:∀ pre x W,J pre W->pre.length<(ab s).length->YieldAt Fence.wide (n-1) ZR l (qY x) W λe c=>
  (e=Z3 (Z2 ZX)/\J (pre++[x]) c/\(aJ W->aJ c))\/(e=Z3 (Z2 ZW)/\g (pre++[x]) c))
 (W:ZV) (E:W.cell? ⟨Bs,0,ZZ⟩=ZY (Z7 Z8 s)) (w:aJ W) (m:J [] W) :
 CallsIn Fence.wide n ZR 153 #[.func (.yield l) #[] #[],Z6 (ZY ⟨Bs,0,ZZ⟩)] W λe c=>(∃ v,e=Z3 v) /\
  ((∃ k,k.map (·.1)=ab s/\J k c)\/(∃ pre,pre.map (·.1)<+:ab s/\g pre c)):=by
 refine callsIn_of_wp func153 rfl trivial ?_ rfl;simp only [ntmps153,XQ,X8,Yu,Yw,Yx,Yy,Yz,YA,YB,X3,YC];gi_wp2;gi_loopw [3] (λp wr=>∃ (pre:List Sh) (q:Nat),p=Z7 Z8 q/\q<65536/\ab s=pre.map (·.1)++ab q/\J pre wr/\aJ wr)
  (λp _=>(intOf p).toNat)
 case atStart=>
  exact ⟨[],s,rfl,A,rfl,m,w⟩
 case round=>
  obtain ⟨pre,q,rfl,b,d,i,j⟩:=hrel;by_cases a:q=0
  . subst a;gi_wp2;go_end0
    exact ⟨⟨_,rfl⟩,.inl ⟨pre,by rw [d,wB,Yb],i⟩⟩
  . have D:((q:Int) != 0)=ZX:=(by simp;omega);have f:=Df a b;obtain ⟨fn,tmps,assign,body,B,u⟩:=y pre ⟨oB q,f⟩ wr i (by rw [d,iI a b];simp);unfold qY at B;gi_wp2;refine de (Jv q a b wr j) ?_;rintro e w' ⟨rfl,rfl⟩;gi_wp2;refine ⟨λh=>(by cases h),u.mono ?_⟩;rintro e C (⟨rfl,r,t⟩|⟨rfl,o⟩)
    . have F:IntKind.u64.wrap ((q:Int)-1)=((q-1:Nat):Int):=(by rw [IntKind.wrap_u64];omega);have z:=gj q (q-1) (by omega) (by omega);rw [E1 a b] at z;gi_wp2;go_roundw
      case rel=>exact ⟨pre++[⟨oB q,f⟩],bO q (oB q),rfl,pR _ _ b,by rw [d,iI a b];simp,r,t j⟩
      case measure=>have:=oC a b;simp only [intOf];omega
    . gi_wp2;refine bodyPost_ret (results_none rfl _ _ _) rfl ?_;exact ⟨⟨_,rfl⟩,.inr ⟨pre++[⟨oB q,f⟩],by rw [d,iI a b];simp,o⟩⟩
def E3 (W W':ZV):Prop:=aJ W->aJ W'
def qZ {A B C:ZV} (h:E3 A B) (k:E3 B C):E3 A C:=λx=>k (h x)
def re (d:3<=w.heap.size) (W:ZV) (l:Nat) (o b:Obj) (c:w.heap.size<=l) (h:W.heap[l]?=ZY o) (_:o.isCells=ZW) (_:o.isWalk=ZW):E3 W (W.putObj l b):=λa=>
 a.mono (B:=3) (by decide) (Below.TO (Below.refl _ W) (by omega) (Yr.1 h).1 _)
def E3.TF {W W':ZV} (b:3<=B) (h:ZT B W W'):E3 W W':=λa=>a.mono (by omega) h
def E3.refl (W:ZV):E3 W W:=λh=>h
def eS (n Bs s:Nat) (h:s<65536) (w:ZV) (d:Bs<w.heap.size) (g:w.cell? ⟨Bs,0,ZZ⟩=ZY (Z7 Z8 s)) (j:3<=w.heap.size) (e:aJ w) :
 SeqStopsK Fence.wide n ZR 153 #[Z6 (ZY ⟨Bs,0,ZZ⟩)] qY E3 (λi=>i.map (·.1)=ab s) (λpre=>pre.map (·.1)<+:ab s) (ab s).length w:=λl J b W a _ _ f c=>
 AC n l Bs s h J b f W ((a.cell (p:=⟨Bs,0,ZZ⟩) d).trans g) (e.mono (by omega) a) c
end
section
attribute [local go_sem] Oper.semAt_some
abbrev Mb (s:Nat):={ x:Nat // x<16/\s.testBit x=ZX }
def wE {s:Nat} (x:Mb s):Array ZU:=#[Z7 Z9 (x.1:Int)]
def cE {s:Nat} (pre:List (Mb s)):List Nat:=pre.map (·.1)
def bI {s:Nat} (pre:List (Mb s)) (x:Mb s):cE (pre++[x])=cE pre++[x.1]:=by unfold cE;simp
def oF (h:n<=16):ab (2^n-1)=XG n:=by
 have:∀ k:Fin 17,ab (2^k.1-1)=XG k.1:=by decide
 exact this ⟨n,by omega⟩
theorem AH (n:Nat) (l Bs s:Nat) (A:s<65536) (J g:List (Mb s)->ZV->Prop)
 (y:∀ pre x W,J pre W->pre.length<(ab s).length->YieldAt Fence.wide (n-1) ZR l (wE x) W λe c=>
  (e=Z3 (Z2 ZX)/\J (pre++[x]) c/\(aJ W->aJ c))\/(e=Z3 (Z2 ZW)/\g (pre++[x]) c))
 (W:ZV) (F:W.cell? ⟨Bs,0,ZZ⟩=ZY (Z7 Z8 s)) (w:aJ W) (m:J [] W) :
 CallsIn Fence.wide n ZR 153 #[.func (.yield l) #[] #[],Z6 (ZY ⟨Bs,0,ZZ⟩)] W λe c=>(∃ v,e=Z3 v) /\
  ((∃ k,k.map (·.1)=ab s/\J k c)\/(∃ pre,pre.map (·.1)<+:ab s/\g pre c)):=by
 refine callsIn_of_wp func153 rfl trivial ?_ rfl;simp only [ntmps153,XQ,X8,Yu,Yw,Yx,Yy,Yz,YA,YB,X3,YC];gi_wp2;gi_loopw [3] (λp wr=>∃ (pre:List (Mb s)) (q:Nat),p=Z7 Z8 q/\q<65536/\ab s=pre.map (·.1)++ab q/\J pre wr/\aJ wr)
  (λp _=>(intOf p).toNat)
 case atStart=>
  exact ⟨[],s,rfl,A,rfl,m,w⟩
 case round=>
  obtain ⟨pre,q,rfl,b,d,i,j⟩:=hrel;by_cases a:q=0
  . subst a;gi_wp2;go_end0
    exact ⟨⟨_,rfl⟩,.inl ⟨pre,by rw [d,wB,Yb],i⟩⟩
  . have E:((q:Int) != 0)=ZX:=(by simp;omega);have D:=Df a b;have f:oB q<16/\s.testBit (oB q)=ZX:=bX.1 (by rw [d,iI a b];simp);obtain ⟨fn,tmps,assign,body,B,u⟩:=y pre ⟨oB q,f⟩ wr i (by rw [d,iI a b];simp);unfold wE at B;gi_wp2;refine de (Jv q a b wr j) ?_;rintro e w' ⟨rfl,rfl⟩;gi_wp2;refine ⟨λh=>(by cases h),u.mono ?_⟩;rintro e C (⟨rfl,r,t⟩|⟨rfl,o⟩)
    . have G:IntKind.u64.wrap ((q:Int)-1)=((q-1:Nat):Int):=(by rw [IntKind.wrap_u64];omega);have z:=gj q (q-1) (by omega) (by omega);rw [E1 a b] at z;gi_wp2;go_roundw
      case rel=>exact ⟨pre++[⟨oB q,f⟩],bO q (oB q),rfl,pR _ _ b,by rw [d,iI a b];simp,r,t j⟩
      case measure=>have:=oC a b;simp only [intOf];omega
    . gi_wp2;refine bodyPost_ret (results_none rfl _ _ _) rfl ?_;exact ⟨⟨_,rfl⟩,.inr ⟨pre++[⟨oB q,f⟩],by rw [d,iI a b];simp,o⟩⟩
def nC (n Bs s:Nat) (h:s<65536) (w:ZV) (d:Bs<w.heap.size) (g:w.cell? ⟨Bs,0,ZZ⟩=ZY (Z7 Z8 s)) (j:3<=w.heap.size) (e:aJ w) :
 SeqStopsK Fence.wide n ZR 153 #[Z6 (ZY ⟨Bs,0,ZZ⟩)] (wE (s:=s)) E3 (λi=>i.map (·.1)=ab s) (λpre=>pre.map (·.1)<+:ab s) (ab s).length w:=λl J b W a _ _ f c=>
 AH n l Bs s h J b f W ((a.cell (p:=⟨Bs,0,ZZ⟩) d).trans g) (e.mono (by omega) a) c
end
def E4 (Fc:Fence) (n:Nat) (P:Program) (Q:Exit->Act->ZV->Prop) (lo hi:Nat) (sh:List (Op×Option Nat×List Nat)) (a0:Act) (V:Nat->ZU->ZV->Prop) (B:(Nat->Bool)->ZV->Prop) (i:Nat):Prop:=
 ∀ (o:Oper) (a:Act) (w:ZV) (D:Nat->Bool),o.guard=ZZ->o.op=(bZ sh i).1->o.dst=(bZ sh i).2.1->dQ lo hi a0 a->D i=ZW->(∀ j,D j=ZX->j<sh.length/\∀ k∈(bZ sh j).2.2,D k=ZX) ->
  (∀ k∈(bZ sh i).2.2,D k=ZX)->B D w->(∀ j,D j=ZX->V j (cT (bZ sh j).2.1 a) w) ->
  o.wpIn Fc n P a w (λa' w'=>∃ v,a'=a.put o.dst v/\(o.dst=ZZ->v=Z0)/\B (dR D i) w'/\V i v w'/\∀ j u,D j=ZX->V j u w->V j u w') Q
theorem Di (x:aN ops lo hi sh) (p:Act) (hy:hi<=p.tmps.size)
 (V:Nat->ZU->ZV->Prop) (B:(Nat->Bool)->ZV->Prop) (Z:∀ i,i<sh.length->E4 Fc n P Q lo hi sh p V B i)
 (hh:∀ (a:Act) (w:ZV),dQ lo hi p a->(∀ s,(∀ i,i<sh.length->(bZ sh i).2.1≠ZY s)->a.eval (.tmp s)=p.eval (.tmp s))->(∃ D,(∀ i,i<sh.length->D i=ZX)/\B D w)->(∀ i,i<sh.length->V i (cT (bZ sh i).2.1 a) w)->Q .normal a w) :
 ∀ (f:Nat) (listed:Array Bool) (a:Act) (w:ZV),listed.size=sh.length->fP listed=f->dQ lo hi p a->(∀ s,(∀ i,i<sh.length->(bZ sh i).2.1≠ZY s)->a.eval (.tmp s)=p.eval (.tmp s))->(∀ j,listed.getD j ZW=ZX->j<sh.length/\∀ k∈(bZ sh j).2.2,listed.getD k ZW=ZX)->B (λj=>listed.getD j ZW) w ->
  (∀ i,listed.getD i ZW=ZX->V i (cT (bZ sh i).2.1 a) w)->wpAnyIn Fc n P .any ops Q f listed a w:=by
 have k5:=x.size;have X:∀ listed:Array Bool,listed.size=sh.length->fP listed≠0->Region.ready .any ops listed≠[]:=by
  intro listed I y hr;have hg:∀ i,i<sh.length->listed.getD i ZW=ZX:=by
   intro i;induction i using Nat.strongRecOn with
   | ind i ih=>
    intro c;by_cases g:listed.getD i ZW=ZX
    . exact g
    . exfalso;have z:i∈Region.ready .any ops listed:=ix.2 ⟨by omega,by simpa [XS,show i<listed.size by omega] using g,λk m=>by
       obtain ⟨o,_,_,_,_,e⟩:=x.get i c;rw [e] at m;have:=x.early i c k m;exact ih k this (by omega)⟩
      rw [hr] at z;cases z
  apply y;unfold fP;rw [List.length_eq_zero_iff,List.filter_eq_nil_iff];intro b Y;obtain ⟨i,c,rfl⟩:=List.getElem_of_mem Y;have hz:i<listed.size:=by simpa using c
  have:=hg i (by omega);simp [XS,hz] at this;simp [this]
 intro f;induction f with
 | zero=>
  intro listed a w I y m J G K F;refine ⟨?_,hh a w m J ⟨_,λi c=>fq y i (by omega),K⟩ λi c=>F i (fq y i (by omega))⟩;rw [List.eq_nil_iff_forall_not_mem];intro i z;obtain ⟨W,r,_⟩:=ix.1 z;have:=fq y i (by omega);simp [XS,show i<listed.size by omega] at this r;rw [this] at r;cases r
 | succ f ih=>
  intro listed a w I y m J G K F;refine ⟨λe=>absurd e (X listed I (by omega)),λi z=>?_⟩;obtain ⟨W,r,N⟩:=ix.1 z;have c:i<sh.length:=by omega
  have R:i<listed.size:=by omega
  obtain ⟨o,T,U,A,L,M⟩:=x.get i c;have hq:listed.getD i ZW=ZW:=by simpa [XS,R] using r
  have E:∀ j,(listed.setIfInBounds i ZX).getD j ZW=dR (λj=>listed.getD j ZW) i j:=by
   intro j;unfold dR;by_cases l:j=i
   . subst l;rw [if_pos rfl];simp [XS,R]
   . rw [if_neg l,XS,YI,if_neg (λq:i=j=>l q.symm),<- XS]
  unfold wpOpIn;rw [T];show if Region.wanted o (yielded ops a.tmps)=ZX then _ else _;rw [if_pos (by simp [Region.wanted,L])];refine (Oper.wpIn_mono (λa' w' h=>?_) (Z i c o a w (λj=>listed.getD j ZW) L U A m hq G (λk t=>?_) K F))
  . obtain ⟨v,rfl,hu,hp,hv,k0⟩:=h;have O:∀ d,o.dst=ZY d->lo<=d/\d<hi:=λd g=>by rw [A] at g;exact (x.Vc i i d c c g).1
    refine ih _ _ _ (by simpa using I) (by have:=sF r;omega) (m.put v O) (λs S=>?_) (λj H=>?_) ?_ λj u=>?_
    . refine Eq.trans ?_ (J s S);cases g:o.dst with
      | none=>rfl
      | some d=>exact iB _ _ _ _ (λe=>S i c (by rw [show (bZ sh i).2.1=o.dst from A.symm,g,e]))
    . rw [E] at H;unfold dR at H;by_cases l:j=i
      . subst l;refine ⟨c,λk t=>?_⟩;rw [E];unfold dR;by_cases C:k=j
        . rw [if_pos C]
        . rw [if_neg C];rw [<- M] at t;exact N k t
      . rw [if_neg l] at H;obtain ⟨q1,q2⟩:=G j H;refine ⟨q1,λk t=>?_⟩;rw [E];unfold dR;by_cases C:k=i
        . rw [if_pos C]
        . rw [if_neg C];exact q2 k t
    . have e:(λj=>(listed.setIfInBounds i ZX).getD j ZW)=dR (λj=>listed.getD j ZW) i:=funext E;rw [e];exact hp
    . rw [E] at u;unfold dR at u;by_cases l:j=i
      . subst l;have:cT (bZ sh j).2.1 (a.put o.dst v)=v:=by
         show cT (sh.getD j (.move (.const Z0),ZZ,[])).2.1 (a.put o.dst v)=v;rw [<- A];cases g:o.dst with
         | none=>exact (hu g).symm
         | some d=>exact rU _ _ _ (XI (O d g).2 (by rw [m.size];exact hy))
        rw [this];exact hv
      . rw [if_neg l] at u;have:cT (bZ sh j).2.1 (a.put o.dst v)=cT (bZ sh j).2.1 a:=by
         cases hx:(bZ sh j).2.1 with
         | none=>rfl
         | some d'=>
          cases g:o.dst with
          | none=>rfl
          | some d=>
           refine iB _ _ _ _ λq=>l ?_;subst q;rw [A] at g;exact (x.Vc j i d (G j u).1 c hx).2 g
        rw [this];exact k0 j _ u (F j u)
  . exact N k (by rw [M];exact t)
theorem dO {m:Nat} (q:P.follows .mixedOrders=ZX) (d:aN ops lo hi sh) (b:Act) (w0:ZV) (l:hi<=b.tmps.size)
 (V:Nat->ZU->ZV->Prop) (B:(Nat->Bool)->ZV->Prop) (p:B (λ_=>ZW) w0.drew) (g:∀ i,i<sh.length->E4 Fc n P Q lo hi sh b V B i)
 (k:∀ (a:Act) (w:ZV),dQ lo hi b a->(∀ s,(∀ i,i<sh.length->(bZ sh i).2.1≠ZY s)->a.eval (.tmp s)=b.eval (.tmp s))->(∃ D,(∀ i,i<sh.length->D i=ZX)/\B D w)->(∀ i,i<sh.length->V i (cT (bZ sh i).2.1 a) w)->Q .normal a w):(Code.region m ops ZX).wpIn Fc n P Q b w0:=by
 refine wpIn_region_any q ?_;have o:=d.size;have c:∀ i,(Y8 ops.size ZW).getD i ZW=ZW:=λi=>by
  simp only [XS,Array.getElem?_replicate];split<;>rfl
 refine Di d b l V B g k _ _ b w0.drew (by simp [o]) ?_ (dQ.refl _ _ _) (λ_ _=>rfl) (λj f=>?_) ?_ λi h=>?_
 . unfold fP;simp
 . rw [c] at f;cases f
 . have e:(λj=>(Y8 ops.size ZW).getD j ZW)=λ_=>ZW:=funext c;rw [e];exact p
 . rw [c] at h;cases h
def aU {l:Nat} {B:ZV->Prop} (g:(execOp a.eval o).run P w=.ok (.value v) w') (b:∀ c,o.op≠.defer c) {d:Nat} (f:o.dst=ZY d) (h:B w'/\Vi v w'/\S w') :
 o.wpIn (Fence.wide.inRound l) n P a w (λa' w'=>∃ v,a'=a.put o.dst v/\(o.dst=ZZ->v=Z0)/\B w'/\Vi v w'/\S w') Q:=by
 refine ⟨λ_ _=>trivial,?_⟩;rw [Oper.semAt_plain _ _ _ b,g];exact ⟨v,rfl,λe=>(by rw [f] at e;cases e),h.1,h.2.1,h.2.2⟩
def sU {l:Nat} {B:ZV->Prop} (d:(execOp a.eval o).run P w=.ok .skip w') (b:∀ c,o.op≠.defer c) (h:B w'/\Vi Z0 w'/\S w') :
 o.wpIn (Fence.wide.inRound l) n P a w (λa' w'=>∃ v,a'=a.put o.dst v/\(o.dst=ZZ->v=Z0)/\B w'/\Vi v w'/\S w') Q:=by
 refine ⟨λ_ _=>trivial,?_⟩;rw [Oper.semAt_plain _ _ _ b,d];exact ⟨Z0,rfl,λ_=>rfl,h.1,h.2.1,h.2.2⟩
def oD {l:Nat} {f:FuncId} {args:Array ZU} {Rr:Ending->ZV->Prop} {B:ZV->Prop} (k:(execOp a.eval o).run P w=.ok (.enter f args) w1) (b:∀ c,o.op≠.defer c) {d:Nat} (j:o.dst=ZY d) (i:ZS P f args w1 Rr)
 (h:∀ e w',Rr e w'->∃ v,e=Z3 v/\B w'/\Vi v w'/\S w'):o.wpIn (Fence.wide.inRound l) n P a w (λa' w'=>∃ v,a'=a.put o.dst v/\(o.dst=ZZ->v=Z0)/\B w'/\Vi v w'/\S w') Q:=by
 refine ⟨λ_ _=>trivial,?_⟩;rw [Oper.semAt_plain _ _ _ b,k];refine ⟨λh=>(by cases h),CallsIn.inRound l (callsIn_wide.2 (i.mono λe w' g=>?_))⟩;obtain ⟨v,rfl,m,p,q⟩:=h e w' g;exact ⟨v,rfl,λe=>(by rw [j] at e;cases e),m,p,q⟩
def N0 (ds:List (Option Nat)) (l1 n1 l2 n2:Nat):Bool:=ds.all λx=>match x with
 | none=>ZX
 | some d=>(decide (l1<=d)&&decide (d<l1+n1)) || (decide (l2<=d)&&decide (d<l2+n2))
theorem RI {l1 l2:Nat} {vs1 vs2:List ZU} {ds:List (Option Nat)} (g:a'.tmps.size=a.tmps.size) (h:a'.defers=a.defers) (f:∀ s,(∀ x∈ds,x≠ZY s)->a'.eval (.tmp s)=a.eval (.tmp s)) (b:N0 ds l1 vs1.length l2 vs2.length=ZX)
 (r:l1+vs1.length<=l2) (m:l2+vs2.length<=a.tmps.size) (j:∀ i,i<vs1.length->a'.eval (.tmp (l1+i))=vs1.getD i Z0) (k:∀ i,i<vs2.length->a'.eval (.tmp (l2+i))=vs2.getD i Z0):a'=Act.putFrom (Act.putFrom a l1 vs1) l2 vs2:=by
 obtain ⟨d,o⟩:=fA vs1 a l1;obtain ⟨p,q⟩:=fA vs2 (Act.putFrom a l1 vs1) l2;refine yx (g.trans (p.trans d).symm) (h.trans (q.trans o).symm) λs _=>?_;rw [fC vs2 _ l2 s (by rw [d];exact m)];by_cases e:l2<=s/\s<l2+vs2.length
 . rw [if_pos e];have:=k (s-l2) (by omega);rwa [show l2+(s-l2)=s by omega] at this
 . rw [if_neg e,fC vs1 a l1 s (by omega)];by_cases c:l1<=s/\s<l1+vs1.length
   . rw [if_pos c];have:=j (s-l1) (by omega);rwa [show l1+(s-l1)=s by omega] at this
   . rw [if_neg c];refine f s λx n l=>?_;unfold N0 at b;rw [YO] at b;have:=b x n;rw [l] at this;simp at this;omega
def Mv (h:∀ s,(∀ i,i<sh.length->(bZ sh i).2.1≠ZY s)->a'.eval (.tmp s)=a.eval (.tmp s)):∀ s,(∀ x∈sh.map (λx=>x.2.1),x≠ZY s)->a'.eval (.tmp s)=a.eval (.tmp s):=λs b=>h s λi hi e=>b _ (X1.2 ⟨sh[i],YD hi,rfl⟩) (by
 have:bZ sh i=sh[i]:=by simp [bZ,hi]
 rw [<- this];exact e)
def bL (P:List St) (k:Nat):St:=P.getD k ⟨3,0,0,0⟩
def dL (P:List St) (k:Nat) (h:k<P.length):bL P k=P[k]:=by simp [bL,h]
def fl (P:List St) (D:List (List Nat)):Nat->Option Nat
 | 0=>ZZ
 | k+1=>match fl P D k with
  | some n=>ZY n
  | none=>if (bL P k).k=0 then ZY (D.getD (bL P k).b.toNat []).length else ZZ
def oG (gone i:Nat):Prop:=gone/2^i%2=1
def Mz (P:List St) (D:List (List Nat)) (gone i:Nat):Prop:=(bL P i).k=0->¬ oG gone (bL P i).b.toNat/\fl P D (i+1)=ZY (D.getD (bL P i).b.toNat []).length/\(D.getD (bL P i).b.toNat []).length<=4096
def gx (P:List St) (D:List (List Nat)) (gone:Nat):Prop:=∀ i,i<P.length->Mz P D gone i
def eu (P:List St) (D:List (List Nat)):Nat:=(fl P D P.length).getD 0
def oH (P:List St) (D:List (List Nat)) (k n:Nat) (h:fl P D k=ZY n):fl P D (k+1)=ZY n:=by simp [fl,h]
def yP (P:List St) (D:List (List Nat)) (k:Nat) (h:fl P D k=ZZ) (a:(bL P k).k=0):fl P D (k+1)=ZY (D.getD (bL P k).b.toNat []).length:=by simp [fl,h,a]
def sW (P:List St) (D:List (List Nat)) (k:Nat) (a:(bL P k).k≠0):fl P D (k+1)=fl P D k:=by
 cases h:fl P D k<;>simp [fl,h,a]
def E7 (P:List St) (D:List (List Nat)) (k n:Nat) (h:fl P D k=ZY n):∀ m,k<=m->fl P D m=ZY n:=by
 intro m a;induction m with
 | zero => have:k=0:=by omega
           subst this;exact h
 | succ m ih=>
  by_cases e:k=m+1
  . subst e;exact h
  . exact oH P D m n (ih (by omega))
def OQ {P:List St} {D:List (List Nat)} (h:gx P D gone) (i:Nat) (hi:i<P.length) (a:(bL P i).k=0):(D.getD (bL P i).b.toNat []).length=eu P D:=by
 have:=(h i hi a).2.1;have:=E7 P D (i+1) _ this P.length (by omega);simp [eu,this]
def N2 {P:List St} {D:List (List Nat)} (h:gx P D gone):∀ k,k<=P.length->∀ n,fl P D k=ZY n->n<=4096
 | 0,_,n,e=>by simp [fl] at e
 | k+1,hk,n,e=>by
  cases a:fl P D k with
  | some m=>
   have:=N2 h k (by omega) m a;rw [oH P D k m a] at e;simp at e;omega
  | none=>
   by_cases b:(bL P k).k=0
   . have q:=(h k (by omega) b);rw [q.2.1] at e;have:=Option.some.inj e;omega
   . rw [sW P D k b,a] at e;simp at e
def Gn {P:List St} {D:List (List Nat)} (h:gx P D gone):eu P D<=4096:=by
 unfold eu;cases hf:fl P D P.length with
 | none=>simp
 | some n=>exact N2 h P.length lR n hf
def iL (x y:List Nat) (c:Nat):List Nat:=(XG x.length).map λj=>x.getD j 0^^^gm c (y.getD j 0)
def dE (D:List (List Nat)) (s:St) (R:List (List Nat)):List (List Nat):=
 if s.k=0 then R.set s.a.toNat (D.getD s.b.toNat []) else if s.k=1 then R.set s.a.toNat (iL (R.getD s.a.toNat []) (R.getD s.b.toNat []) s.c) else R
def gZ (s:St) (R:List (List Nat)) (O:List (Int×List Nat)):List (Int×List Nat):=if s.k=2 then O++[(s.b,R.getD s.a.toNat [])] else O
def bR (P:List St) (D:List (List Nat)) (R0:List (List Nat)):Nat->List (List Nat)
 | 0=>R0
 | k+1=>dE D (bL P k) (bR P D R0 k)
def dn (P:List St) (D:List (List Nat)) (R0:List (List Nat)):Nat->List (Int×List Nat)
 | 0=>[]
 | k+1=>gZ (bL P k) (bR P D R0 k) (dn P D R0 k)
def eU (r n:Nat):List (List Nat):=XO r (XO n 0)
def In (w:ZV) (b:Nat) (D:List (List Nat)) (gone:Nat):Prop:=∀ i (hi:i<D.length),(oG gone i->w.cell? ⟨b,i,ZZ⟩=ZY (Z5 ZZ 0 0))/\(¬ oG gone i->∃ a c,w.cell? ⟨b,i,ZZ⟩=ZY (Z5 (ZY a) (D[i]).length c)/\Bs w (Z5 (ZY a) (D[i]).length c) D[i])
def In.mono {D:List (List Nat)} (h:In w b D gone) (d:bW w w'):In w' b D gone:=λi hi=>by
 obtain ⟨g,j⟩:=h i hi;refine ⟨λf=>by have:=g f;rw [d.cell (block_lt_of_cell this)];exact this,λf=>?_⟩;obtain ⟨a,c,e,k⟩:=j f;exact ⟨a,c,by rw [d.cell (block_lt_of_cell e)];exact e,k.mono d⟩
def JK (h:k<64):2^k<18446744073709551616:=XI (Y5 (by decide) h) lR
theorem iM (x k:Nat) (c:x<18446744073709551616) (d:k<=60) (w:ZV):ZS ZR 131 #[Z7 Z8 x,Z7 Z9 k] w λe w'=>e=Z3 (Z7 Z8 ((x|||2^k:Nat):Int))/\w'=w:=by
 have key:bits .or .u64 (x:Int) (IntKind.u64.wrap (2^k))=((x|||2^k:Nat):Int):=by
  have b:=JK (k:=k) (by omega);have e:((2:Int)^k)=((2^k:Nat):Int):=by rw [Y6];rfl
  have a:IntKind.u64.wrap (2^k)=((2^k:Nat):Int):=by
   rw [e,IntKind.wrap_u64];generalize 2^k=q at *;omega
  rw [a];exact bits_or_u64_nat x (2^k) c b
 go_enter func131,ntmps131;go_wp2;go_ret;exact ⟨rfl,rfl⟩
section
attribute [local go_sem] Oper.semAt_some
def bN (K:Nat->Prop) (w:ZV) (v:ZU) (l:List Nat):Prop:=
 ∃ ao c,v=.slice ao l.length c/\l.length<=1000000/\(l≠[]->∃ b off,ao=ZY ⟨b,off,ZZ⟩/\K b/\b<w.heap.size/\∀ i (hi:i<l.length),w.cell? ⟨b,off+i,ZZ⟩=ZY (Z7 Z9 ((l[i]:Nat):Int)))
structure Ob where
 name:ByteArray
 size:Nat
 TE:List Nat
def gE (K:Nat->Prop) (w:ZV) (v:ZU) (os:List Ob):Prop:=
 ∃ ao c,v=.slice ao os.length c/\os.length<=1000000/\(os≠[]->∃ b off,ao=ZY ⟨b,off,ZZ⟩/\K b/\b<w.heap.size/\∀ i (hi:i<os.length),∃ sv,
  w.cell? ⟨b,off+i*3,ZZ⟩=ZY (.string os[i].name)/\w.cell? ⟨b,off+i*3+1,ZZ⟩=ZY (Z7 Z9 (os[i].size:Nat))/\w.cell? ⟨b,off+i*3+2,ZZ⟩=ZY sv/\bN K w sv os[i].TE)
def eR (K:Nat->Prop) (w w':ZV):Prop:=w.heap.size<=w'.heap.size/\∀ k,k<w.heap.size->K k->w'.heap[k]?=w.heap[k]?
def eR.refl (K:Nat->Prop) (w:ZV):eR K w w:=⟨XW _,λ_ _ _=>rfl⟩
def eR.trans {a b c:ZV} (h:eR K a b) (k:eR K b c):eR K a c:=⟨Yf h.1 k.1,λi d e=>(k.2 i (XI d h.1) e).trans (h.2 i d e)⟩
def eR.TF (h:bW w w'):eR K w w':=⟨h.size,λk a _=>h.block k a⟩
def bN.keep (h:bN K w v l) (a:eR K w w'):bN K w' v l:=by
 obtain ⟨ao,c,f,g,j⟩:=h;refine ⟨ao,c,f,g,λk=>?_⟩;obtain ⟨b,off,m,d,e,n⟩:=j k;exact ⟨b,off,m,d,XI e a.1,λi hi=>(World.cell?_of_block (a.2 b e d)).trans (n i hi)⟩
def gE.keep {os:List Ob} (h:gE K w v os) (d:eR K w w'):gE K w' v os:=by
 obtain ⟨ao,c,g,j,k⟩:=h;refine ⟨ao,c,g,j,λl=>?_⟩;obtain ⟨b,off,m,e,f,n⟩:=k l;refine ⟨b,off,m,e,XI f d.1,λi hi=>?_⟩;obtain ⟨s,o,p,q,r⟩:=n i hi;have a:=d.2 b f e;exact ⟨s,(World.cell?_of_block a).trans o,(World.cell?_of_block a).trans p,(World.cell?_of_block a).trans q,r.keep d⟩
def bN.nil (K:Nat->Prop) (w:ZV):bN K w (Z5 ZZ 0 0) []:=⟨ZZ,0,rfl,by decide,λh=>absurd rfl h⟩
def gE.nil (K:Nat->Prop) (w:ZV):gE K w (Z5 ZZ 0 0) []:=⟨ZZ,0,rfl,by decide,λh=>absurd rfl h⟩
def ah (os:List Ob):List Nat:=os.flatMap (·.TE)
def Ds (os:List Ob) (k:Nat) (a:k<os.length):ah (os.take (k+1))=ah (os.take k)++os[k].TE:=by
 have e:os.take (k+1)=os.take k++[os[k]]:=by rw [Ye,XH a];rfl
 rw [e];unfold ah;rw [Y9];simp
def pT (x:Nat):Array ZU:=#[Z7 Z9 (x:Int)]
def AI {os:List Ob} (m:Nat) (b:k<os.length):ah (os.take k)++(os[k].TE).take m<+:ah os:=by
 have a:ah os=ah (os.take k)++(os[k].TE++ah (os.drop (k+1))):=by
  have e:ah (os.take k++os[k]::os.drop (k+1))=ah (os.take k)++(os[k].TE++ah (os.drop (k+1))):=by unfold ah;rw [Y9,List.flatMap_cons]
  rwa [<- YH b,List.take_append_drop] at e
 rw [a];refine (Za _).2 ?_;exact (List.take_prefix m _).trans (List.prefix_append _ _)
theorem lI (K:Nat->Prop) (n l b1:Nat) (v:ZU) (os:List Ob) (J U:List Nat->ZV->Prop) (k6:∀ pre A B,J pre A->bW A B->J pre B)
 (G:List Nat) (hY:∀ pre x W,J pre W->pre++[x]<+:G->YieldAt Fence.wide (n-1) ZR l (pT x) W λe g=>(e=Z3 (Z2 ZX)/\J (pre++[x]) g/\eR K W g)\/(e=Z3 (Z2 ZW)/\U (pre++[x]) g))
 (a:List Nat) (k7:a++ah os<+:G) (W:ZV) (L:W.cell? ⟨b1,0,ZZ⟩=ZY v) (N:gE K W v os) (V:J a W) :
 CallsIn Fence.wide n ZR 150 #[.func (.yield l) #[] #[],Z6 (ZY ⟨b1,0,ZZ⟩)] W λe g=>(∃ v,e=Z3 v) /\
  ((J (a++ah os) g)\/(∃ pre,pre<+:ah os/\U (a++pre) g)):=by
 obtain ⟨ao,c,rfl,ka,t⟩:=id N;refine callsIn_of_wp func150 rfl trivial ?_ rfl;simp only [ntmps150,XQ,X8,Yu,Yw,Yx,Yy,Yz,YA,YB,X3,YC];have T:=hide2 N V;clear N V t;gi_wp2;gi_loopw [9] (λp wr=>∃ k:Nat,p=Z7 Z9 (k:Nat)/\k<=os.length/\J (a++ah (os.take k)) wr/\gE K wr (.slice ao os.length c) os)
  (λp _=>os.length-(intOf p).toNat)
 case atStart=>
  exact ⟨0,rfl,XR _,by simpa [ah] using T.out.2,T.out.1⟩
 case round=>
  obtain ⟨k,rfl,hk,r,z⟩:=hrel;by_cases i:k<os.length
  . obtain ⟨hd,c',o,_,t⟩:=id z;obtain ⟨b,off,I,kh,ki,hx⟩:=t (λe=>by rw [e] at i;simp at i);simp only [Value.slice.injEq] at o;obtain ⟨rfl,_,rfl⟩:=o;subst I;obtain ⟨sv,r1,r2,r3,F⟩:=hx k i;obtain ⟨so,sc,rfl,ke,s⟩:=id F;obtain ⟨st,Q⟩:=nM (os[k].TE);obtain ⟨NN,Y⟩:=nM (os.length);obtain ⟨nm,hz⟩:=nM (os[k].name);obtain ⟨sz,k5⟩:=nM (((os[k].size:Nat):Int));rw [Q] at r3 F ke s;rw [hz] at r1;rw [k5] at r2;have kb:(k:Int)<(NN:Int):=(by omega);have H:=hide5 r z F Q Y;clear r z t hx F s Q Y hz k5;gi_wp2;obtain ⟨wx,R⟩:=nM (wr.alloc (Z4 #[.string nm,Z7 Z9 sz,.slice so st.length sc] 123));have D:bW wr wx:=(by rw [<- R];exact bA wr _);rw [R];clear R;have hv:=k6 _ _ _ H.out.1 D;have hr:=H.out.2.1.keep (eR.TF D);have hs:=H.out.2.2.1.keep (eR.TF D);gi_loopw [16] (λp S=>∃ m:Nat,p=Z7 Z9 (m:Nat)/\m<=st.length/\J (a++(ah (os.take k)++st.take m)) S/\gE K S (Z5 (ZY ⟨b,off,ZZ⟩) os.length c) os/\bN K S (.slice so st.length sc) st)
     (λp _=>st.length-(intOf p).toNat)
    case atStart=>
     exact ⟨0,rfl,XR _,by simpa using hv,hr,hs⟩
    case round=>
     clear hv hr hs D;obtain ⟨m,rfl,hm,f,w,C⟩:=hrel;by_cases q:m<st.length
     . obtain ⟨kk,kj,o,_,s⟩:=id C;obtain ⟨b2,hb,I,kg,k8,X⟩:=s (λe=>by rw [e] at q;simp at q);simp only [Value.slice.injEq] at o;obtain ⟨rfl,_,rfl⟩:=o;subst I;have g1:=X m q;obtain ⟨y,E⟩:=nM (st[m]);rw [E] at g1;have k0:(a++(ah (os.take k)++st.take m))++[y]<+:G:=by
        have L:=AI (os:=os) (m+1) i;rw [H.out.2.2.2.1,Ye,XH q,E] at L;have h2:=((Za a).2 L).trans k7;simpa using h2
       obtain ⟨fn,tmps,assign,body,kf,Z⟩:=hY _ y _ f k0;clear k0;unfold pT at kf;have d:=hide5 f w C Z E;clear f w C Z s X E;gi_wp2;refine ⟨λh=>(by cases h),d.out.2.2.2.1.mono ?_⟩;have u:a++(ah (os.take k)++st.take m)++[y]=a++(ah (os.take k)++st.take (m+1)):=by
        have e:st.take (m+1)=st.take m++[y]:=(by rw [Ye,XH q,d.out.2.2.2.2];rfl);rw [e];simp
       rintro e W3 (⟨rfl,hi,P⟩|⟨rfl,M⟩)
       . rw [u] at hi;have j:=hide3 hi (d.out.2.1.keep P) (d.out.2.2.1.keep P);clear hi P u;gi_wp2;go_roundw
         case rel=>exact ⟨m+1,by go_num,by omega,j.out.1,j.out.2.1,j.out.2.2⟩
         case measure=>simp only [intOf];omega
       . rw [u] at M;have j:=hide M;clear M u;gi_wp2;refine bodyPost_ret (results_none rfl _ _ _) rfl ?_;have hp:=AI (os:=os) (m+1) i;rw [H.out.2.2.2.1] at hp;exact ⟨⟨_,rfl⟩,.inr ⟨_,hp,j.out⟩⟩
     . have kc:m=st.length:=(by omega);subst kc;rw [YE] at f;have O:=Ds os k i;rw [H.out.2.2.2.1] at O;rw [<- O] at f;have d:=hide2 f w;clear f w C O;gi_wp2;go_roundw
       case rel=>exact ⟨k+1,by go_num,by omega,d.out.1,d.out.2⟩
       case measure=>simp only [intOf];omega
  . have k9:k=os.length:=(by omega);subst k9;rw [YE] at r;have HJ:=hide r;clear r z;gi_wp2;go_end0
    exact ⟨⟨_,rfl⟩,.inl HJ.out⟩
def N3 {pre l:List α} {x:α} (h:pre++[x]<+:l):pre.length<l.length:=by
 have:=h.length_le;rw [X4,List.length_singleton] at this;omega
def sX (K:Nat->Prop) (n l b1:Nat) (v:ZU) (os:List Ob) (J c:List Nat->ZV->Prop) (g:∀ pre A B,J pre A->bW A B->J pre B)
 (N:Nat) (j:∀ pre x W,J pre W->pre.length<N->YieldAt Fence.wide (n-1) ZR l (pT x) W λe b=>(e=Z3 (Z2 ZX)/\J (pre++[x]) b/\eR K W b)\/(e=Z3 (Z2 ZW)/\c (pre++[x]) b))
 (a:List Nat) (m:a.length+(ah os).length<=N) (W:ZV) (f:W.cell? ⟨b1,0,ZZ⟩=ZY v) (i:gE K W v os) (d:J a W) :
 CallsIn Fence.wide n ZR 150 #[.func (.yield l) #[] #[],Z6 (ZY ⟨b1,0,ZZ⟩)] W λe b=>(∃ v,e=Z3 v) /\
  ((J (a++ah os) b)\/(∃ pre,pre<+:ah os/\c (a++pre) b)):=
 lI K n l b1 v os J c g (a++ah os) (λpre x W h k=>j pre x W h (by have:=N3 k;rw [X4] at this;omega)) a (List.prefix_refl _) W f i d
end
def nD (P:List St):Nat:=P.foldl (λs t=>if t.k=0 then s|||2^t.b.toNat else s) 0
def AJ (P:List St) (t:St):nD (P++[t])=if t.k=0 then nD P|||2^t.b.toNat else nD P:=by unfold nD;rw [List.foldl_append];rfl
def JL {P:List St} (a:k<P.length):nD (P.take (k+1))=if P[k].k=0 then nD (P.take k)|||2^P[k].b.toNat else nD (P.take k):=by
 rw [Ye,XH a,Option.toList_some,AJ]
theorem rX (P:List St) (i:Nat):(nD P).testBit i=ZX↔∃ s∈P,s.k=0/\s.b.toNat=i:=by
 obtain ⟨Q,rfl⟩:∃ Q,P=Q.reverse:=⟨P.reverse,by simp⟩;induction Q with
 | nil=>simp [nD]
 | cons t Q ih=>
  rw [List.reverse_cons,AJ];by_cases h:t.k=0
  . rw [if_pos h,Nat.testBit_or,Yt,Bool.or_eq_true,ih,decide_eq_true_eq];constructor
    . rintro (⟨s,a,c⟩|a)
      . exact ⟨s,Zb _ a,c⟩
      . exact ⟨t,by simp,h,a⟩
    . rintro ⟨s,a,c,d⟩;rcases Yo.1 a with q|q
      . exact .inl ⟨s,q,c,d⟩
      . rw [Zc] at q;exact .inr (by rw [<- q];exact d)
  . rw [if_neg h,ih];constructor
    . rintro ⟨s,a,c⟩;exact ⟨s,Zb _ a,c⟩
    . rintro ⟨s,a,c⟩;rcases Yo.1 a with q|q
      . exact ⟨s,q,c⟩
      . rw [Zc] at q;exact absurd (q▸c.1) h
def JM {P:List St} (h:∀ s∈P,s.k=0->s.b.toNat<16):nD P<65536:=by
 refine Nat.lt_pow_two_of_testBit (n:=16) _ λi hi=>?_;cases hb:(nD P).testBit i
 . rfl
 . obtain ⟨s,a,c,d⟩:=(rX P i).1 hb;have:=h s a c;omega
def S8 (w:ZV) (P:List St) (lv iv:ZU) (wr:ZV):Prop:=∃ k:Nat,k<=P.length/\iv=Z7 Z9 k/\lv=Z7 Z8 (nD (P.take k):Nat)/\bW w wr
theorem Gp (regs:Int) {v:ZU} {P:List St} {w:ZV} (h:Ps .u8 w v P) (u:∀ s∈P,s.k=0->0<=s.b/\s.b<16) (N:P.length<=5000) :
 ZS ZR 145 #[.agg #[Z7 Z9 regs,v]] w λe w'=>e=Z3 (Z7 Z8 (nD P:Nat))/\bW w w':=by
 obtain ⟨ao,c,rfl⟩:=h.slice;have n:bW w (w.alloc (Z4 #[Z7 Z9 regs,.slice ao P.length c] 210)):=bA w _;have o:(w.alloc (Z4 #[Z7 Z9 regs,.slice ao P.length c] 210)).heap[w.heap.size]?=ZY (Z4 #[Z7 Z9 regs,.slice ao P.length c] 210 (0,0)):=blk_alloc_new _ _;obtain ⟨w1,t⟩:=nM (w.alloc (Z4 #[Z7 Z9 regs,.slice ao P.length c] 210));rw [t] at n o;have k1:w1.cell? ⟨w.heap.size,1,ZZ⟩=ZY (.slice ao P.length c):=by simp [World.cell?,o]
 have H:=hide3 n h u;clear n o h u;go_enter func145,ntmps145;go_wp2;go_loopw [3,9] (λG p wr=>S8 w P G p wr) (λ_ p _=>P.length-(intOf p).toNat)
 case atStart=>exact ⟨0,XR _,rfl,rfl,H.out.1⟩
 case round=>
  clear k1 t;rename ZV=>wo;obtain ⟨k,M,rfl,rfl,f⟩:=hrel;by_cases l:k<P.length
  . rcases (H.out.2.1.mono f).cases with ⟨rfl,_⟩|⟨b,off,I,e,_,y⟩
    . simp at l
    simp at e;obtain ⟨rfl,rfl⟩:=e;obtain ⟨J,d1,K,L⟩:=y k l;have r:=f.alloc f.size (Z4 #[Z7 .u8 P[k].k,Z7 Z9 P[k].a,Z7 Z9 P[k].b,Z7 .u8 P[k].c] 284);have j:=hide (JL l);have A:=hide (H.out.2.2 _ (YD l));have C:=hide (JM (P:=P.take k) (λs F B=>by have:=H.out.2.2 s (X6 F) B;omega));have i:=hide r;clear y f r;generalize P[k].k=q at *;generalize P[k].b=z at *;by_cases g:q=0
    . have tk:((q:Int)==0)=ZX:=(by simp [g]);have O:=A.out g;have d:=j.out;rw [if_pos g] at d;have m:=hide d;clear g d j;obtain ⟨x,rfl⟩:∃ x:Nat,z=(x:Int):=⟨z.toNat,by omega⟩;go_wp2_with fail;refine (iM (nD (P.take k)) x (by have:=C.out;omega) (by omega) _).mono ?_;rintro e Q ⟨rfl,E⟩;subst E;go_wp2;go_roundw
      case rel=>exact ⟨k+1,by omega,by go_num,by rw [m.out,Zd],i.out⟩
      case measure=>simp [intOf]<;>omega
    . have tk:((q:Int)==0)=ZW:=(by simp;omega);have d:=j.out;rw [if_neg g] at d;have m:=hide d;clear g d j;go_wp2;go_roundw
      case rel=>exact ⟨k+1,by omega,by go_num,by rw [m.out],i.out⟩
      case measure=>simp [intOf]<;>omega
  . have D:k=P.length:=(by omega);subst D;rw [YE];have i:=hide f;clear f;go_wp2;go_ret;exact ⟨rfl,i.out⟩
def S9 (w:ZV) (P:List St) (D:List (List Nat)) (gone:Nat) (lv sv iv:ZU) (wr:ZV):Prop:=
 ∃ k:Nat,k<=P.length/\iv=Z7 Z9 k/\lv=Z7 Z9 ((fl P D k).getD 0:Nat)/\sv=Z2 (fl P D k).isSome/\(∀ i,i<k->Mz P D gone i)/\bW w wr
def OR (P:List St) (D:List (List Nat)) (gone:Nat) (w:ZV) (r:Ending) (w':ZV):Prop:=
 (gx P D gone->r=Z3 (.tuple #[Z7 Z9 (eu P D:Nat),.nilIface]))/\(¬ gx P D gone->r=Z3 (.tuple #[Z7 Z9 0,.iface 66 (Z7 Z9 2)]))/\bW w w'
theorem pU (v:ZU) (P:List St) (W ci:Nat) (D:List (List Nat)) (gone:Nat) (w:ZV) (h:Ps .u8 w v P) (G:In w W D gone) (hq:∀ l∈D,l.length<=100000)
 (L:∀ i,i<P.length->(bL P i).k=0->0<=(bL P i).b/\(bL P i).b<(D.length:Int)) (d:P.length<=5000) :
 ZS ZR 171 #[v,Z5 (ZY ⟨W,0,ZZ⟩) D.length ci] w λr w'=>OR P D gone w r w':=by
 obtain ⟨ao,c,rfl⟩:=h.slice;go_enter func171,ntmps171;go_wp2;go_loopw [6,7,13] (λlv sv S wr=>S9 w P D gone lv sv S wr) (λ_ _ S _=>P.length-(intOf S).toNat)
 case atStart=>exact ⟨0,XR _,rfl,rfl,rfl,λi hi=>absurd hi (by omega),Below.refl _ _⟩
 case round=>
  rename ZV=>wo;obtain ⟨k,hk,rfl,rfl,rfl,J,I⟩:=hrel;have k9:=I.size;by_cases y:k<P.length
  . rcases (h.mono I).cases with ⟨rfl,_⟩|⟨b,off,cc,e,_,N⟩
    . simp at y
    simp at e;obtain ⟨rfl,rfl⟩:=e;obtain ⟨d0,d1,d2,d3⟩:=N k y;have hz:=dL P k y;have K:=L k y;have C:=hide J;have u:=hide (oH P D k);have s:=hide (yP P D k);have H:=hide (sW P D k);have f:Hid (Mz P D gone k↔((bL P k).k=0->¬ oG gone (bL P k).b.toNat/\fl P D (k+1)=ZY (D.getD (bL P k).b.toNat []).length/\(D.getD (bL P k).b.toNat []).length<=4096)):=Iff.rfl;rw [hz] at K s H f;have o:=I.alloc k9 (Z4 #[Z7 .u8 P[k].k,Z7 Z9 P[k].a,Z7 Z9 P[k].b,Z7 .u8 P[k].c] 284);have O:=G.mono o;have HC:=hide N;have HI:=hide G;have HH:=hide h;have HR:=hide L;clear N J G h L hz;generalize P[k].k=T at *;generalize P[k].b=sb at *;by_cases z:T=0
    . have tk:((T:Int) != 0)=ZW:=(by simp [z]);obtain ⟨q1,q2⟩:=K z;have F:=hide z;clear z;obtain ⟨x,rfl⟩:∃ x:Nat,sb=(x:Int):=⟨sb.toNat,by omega⟩;have Q:x<D.length:=(by omega);obtain ⟨R,M⟩:=O x Q;have Y:D.getD x []=D[x]:=(by simp [Q]);have ka:=hq _ (YD Q);rw [Zd,Y] at s f;have X:=hide M;clear K q1 q2 O Y H;by_cases E:oG gone x
      . have ha:=R E;have t:Hid (¬ gx P D gone):=λd=>((f.out.1 (d k y)) F.out).1 E;have k6:=λU=>Lib.run_eql_slice_nil (P:=ZR) U 34 5 ZZ 0 0 0 0 underlying34;clear R M X f s u;cases hf:fl P D k
        . go_wp2;go_ret2;exact ⟨λd=>absurd d t.out,λ_=>rfl,o⟩
        . go_wp2;go_ret2;exact ⟨λd=>absurd d t.out,λ_=>rfl,o⟩
      . obtain ⟨ax,cx,ha,k5⟩:=M E;have k6:=λU=>Lib.run_eql_slice_nil (P:=ZR) U 34 5 (ZY ax) (D[x]).length cx 0 0 underlying34;clear R M X k5;generalize D[x].length=n at *;cases hf:fl P D k with
        | none=>
         have g:=s.out hf F.out;by_cases j:n<=4096
         . have B:=f.out.2 (λ_=>⟨E,g,j⟩);have A:=hide B;have p:=hide g;clear f s u g B;go_wp2;go_roundw
           case rel=>
            refine ⟨k+1,by omega,by go_num,by first|(rw [p.out];rfl)|rw [p.out],by first|(rw [p.out];rfl)|rw [p.out],λi hi=>?_,o⟩;by_cases e:i=k
            . subst e;exact A.out
            . exact C.out i (by omega)
           case measure=>simp [intOf];omega
         . have t:Hid (¬ gx P D gone):=λd=>j ((f.out.1 (d k y)) F.out).2.2;have k8:(4096:Int)<(n:Int):=(by omega);clear f s u g;go_wp2;go_ret2;exact ⟨λd=>absurd d t.out,λ_=>rfl,o⟩
        | some m=>
         have g:=u.out m hf;by_cases j:n=m/\n<=4096
         . obtain ⟨rfl,j⟩:=j;have B:=f.out.2 (λ_=>⟨E,g,j⟩);have A:=hide B;have p:=hide g;have tt:(((n:Nat):Int) != (n:Int))=ZW:=(by simp);clear f s u g B;go_wp2;go_roundw
           case rel=>
            refine ⟨k+1,by omega,by go_num,by first|(rw [p.out];rfl)|rw [p.out],by first|(rw [p.out];rfl)|rw [p.out],λi hi=>?_,o⟩;by_cases e:i=k
            . subst e;exact A.out
            . exact C.out i (by omega)
           case measure=>simp [intOf];omega
         . have t:Hid (¬ gx P D gone):=λd=>by
            have q:=(f.out.1 (d k y)) F.out;rw [g] at q;have:=q.2.1;simp at this;omega
           clear f s u g;by_cases Z:n=m
           . have k8:(4096:Int)<(m:Int):=(by omega);have tt:(((n:Nat):Int) != (m:Int))=ZW:=(by simp;omega);clear j Z;go_wp2;go_ret2;exact ⟨λd=>absurd d t.out,λ_=>rfl,o⟩
           . have tt:(((n:Nat):Int) != (m:Int))=ZX:=(by simp;omega);clear j Z;go_wp2;go_ret2;exact ⟨λd=>absurd d t.out,λ_=>rfl,o⟩
    . have tk:((T:Int) != 0)=ZX:=(by simp;omega);have V:=hide (H.out z);have A:=hide (f.out.2 (λe=>absurd e z));clear H s u f K O z;go_wp2;go_roundw
      case rel=>
       refine ⟨k+1,by omega,by go_num,by rw [V.out],by rw [V.out],λi hi=>?_,o⟩;by_cases e:i=k
       . subst e;exact A.out
       . exact C.out i (by omega)
      case measure=>simp [intOf];omega
  . have k7:k=P.length:=(by omega);subst k7;have C:=hide J;clear h G L J;go_wp2;go_ret2;exact ⟨λ_=>rfl,λj=>absurd (λi hi=>C.out i hi) j,I⟩
