import Derived.Test.YtpemimgppdkcbaaGreatDoorM02
import Derived.ChangeKeysEq
import Derived.Laws.StructEq
import Derived.Deep.CutRange
import Derived.Defers
import Derived.Recover
import Derived.ChangeSame
import Derived.ChangeVars
import Derived.JoinedOf
import Derived.RowKit
import Derived.LaidLaws
import Derived.LaidHandle
import Derived.Stop.Joined
import Derived.Lib.SmallJoins
import Derived.WalkMore
import Derived.Deep.AppendLies
import Derived.Lib.LaidTab
import Derived.Carry
set_option maxRecDepth 100000
set_option linter.all false
set_option maxHeartbeats 8000000
open Go.IntKind renaming i64 -> Z9, u64 -> Z8
open Go.Value renaming int -> Z7, pointer -> Z6, slice -> Z5, bool -> Z2, tuple -> Z0
open Go.Obj renaming cells -> Z4
open Go.Ending renaming returned -> Z3
open Go.Operand renaming tmp -> Z1
open Go renaming undef -> ZZ, World -> ZU, Value -> ZT, Calls -> ZS, Oper -> ZR, TypeId -> ZQ, Boxed -> ZP
open Option renaming none -> ZY, some -> ZX
open Bool renaming true -> ZW, false -> ZV
open List renaming range -> YD, replicate -> YE, take -> YI, take_prefix -> YK
open Nat renaming reduceAdd -> YF, reduceSub -> YG
open Array renaming foldl -> YH, ext_getElem? -> YJ
open Go.Proofs.Tryz renaming prog -> ZO
open Go.Proofs.Tryz
namespace Go.Proofs.YtpemimgppdkcbaaGreatDoor
def Wr:=@List.map_take
def XQ:=@List.getElem?_take
def Ws:=@List.map_drop
def VZ:=@List.getElem?_drop
def Vu:=@Nat.add_assoc
def V5:=@Nat.min_eq_left
def Uj:=@List.length_drop
def aa8:=@Go.World.rangeAt_alloc
def XR:=@Go.Proofs.Tryz.underlying110
def Yn:=@Go.Proofs.Tryz.underlying229
def VR:=@List.take_zero
def UW:=@List.setIfInBounds_toArray
def UX:=@List.set_cons_zero
def W4:=@Go.Proofs.Tryz.underlying5
def UA:=@Go.Boxed.new
def Xk:=@Int.tdiv_eq_ediv_of_nonneg
def Wt:=@Go.run_takeDeferred
def Wu:=@Nat.or_lt_two_pow
def VS:=@Go.KeepsOthers.setCell
def V6:=@Go.callsIn_of_wp_marks
def V7:=@Go.wpIn_rangeFunc_ownG
def Vl:=@Go.Proofs.enters_of
def aa9:=@Go.KeepsOthers.of_grownBy
def Yo:=@Go.wpListIn_plain
def aba:=@List.take_succ_eq_append_getElem
def WG:=@Go.wpAny_take
def XS:=@Go.wpAny_ready
def Xl:=@Go.AllReady.cons
def XT:=@Go.AllReady.nil
def Yp:=@Go.wp_load_mid
def XU:=@Go.Proofs.Tryz.underlying104
def Wj:=@Nat.testBit_or
def Yq:=@Int.tmod_eq_emod_of_nonneg
def abj:=@List.sublist_append_right
end Go.Proofs.YtpemimgppdkcbaaGreatDoor
namespace Go.Proofs.YtpemimgppdkcbaaGreatDoor
open Go.RowKit Go.Deep Go.Shelf Gf
variable {a a':Act} {ops:Array ZR} {vals:Array ZT} {R:Ending->ZU->Prop} {Q:Exit->Act->ZU->Prop} {F:aR} {fn:Func} {room:Int} {O:List (Int×Nat×Nat×a8)} {T:List (Nat×Nat×a8)} {M:List (Nat×Nat)} {l src s dl:a8} {vs xs:List ZT} {base v n b off c t q cap D r B L G f p ps ho sb ar D' L' G' t' f' n' k N g i:Nat} {o:ZR} {P:Program} {e:ZQ} {pg ob x u:ZT} {w w0 w' Z X W Y:ZU}
def aq (D L G t f n:Nat):Array ZT:=#[Z7 Z9 D,Z7 Z9 L,Z7 Z9 G,Z7 Z8 t,Z7 Z9 f,Z7 Z9 n]
def Bs.Si {v:ZT} (h:w.ownsRow base 5 1 v n (aI l)) (b:∀ x∈l,x<256) (hl:l.length<=1000000):Bs w v l:=by
 have hn:l.length=n:=by have:=h.1;rw [aW] at this;omega
 rcases h.2 with ⟨rfl,c⟩|⟨g,cap,cur,rfl,d,e,f,i,j,m⟩
 . subst c;have:l=[]:=UP hn;subst this;exact ⟨ZY,0,rfl,by simp,by simp,b,λh=>absurd rfl h⟩
 . refine ⟨ZX ⟨g,0,ZY⟩,cap,by rw [hn],by omega,by omega,b,λ_=>⟨g,0,rfl,λk a=>?_⟩⟩;have:=h.cells (g:=g) rfl k (Z7 .u8 ((l.getD k 0:Nat):Int)) (by unfold aI;rw [Un,Ua a,T5,Ua a];rfl);rw [jD] at this;rw [Ue];exact this
def GP (w:ZU) (a b c d:Nat):(w.alloc (Z4 #[Z7 .u8 (a:Int),Z7 .u8 (b:Int),Z7 .u8 (c:Int),Z7 .u8 (d:Int)] 5)).ownsRow w.heap.size 5 1 (Z5 (ZX ⟨w.heap.size,0,ZY⟩) 4 4) 4 (aI [a,b,c,d]):=
 ⟨rfl,.inr ⟨w.heap.size,4,_,rfl,TV _,Uc _ _,TV _,by unfold maxLen;omega,rfl,rfl⟩⟩
theorem DG (w:ZU):ZS ZO 254 #[.agg #[]] w λe w'=>e=Z3 (Z5 ZY 0 0)/\bW w w':=by
 go_enter func254,ntmps254;go_wp2;go_ret;exact ⟨rfl,bA w _⟩
theorem GQ (D L G t f n:Nat) (w:ZU) (Y:(bC.root D L G t f n).ok) :
 ZS ZO 238 #[.agg (aq D L G t f n)] w λe w'=>∃ v,e=Z3 v/\Bs w' v (bC.root D L G t f n).body/\bW w w':=by
 obtain ⟨m,o,p,C,E,F⟩:=Y;have N:(w.alloc (Z4 (aq D L G t f n) 110)).heap[w.heap.size]?=ZX (Z4 (aq D L G t f n) 110 (0,0)):=Uc _ _;have S:(w.alloc (Z4 (aq D L G t f n) 110)).heap.size=w.heap.size+1:=by simp
 have z:=GP (w.alloc (Z4 (aq D L G t f n) 110)) 1 D L G;have j:((w.alloc (Z4 (aq D L G t f n) 110)).alloc (Z4 #[Z7 .u8 1,Z7 .u8 (D:Int),Z7 .u8 (L:Int),Z7 .u8 (G:Int)] 5)).heap[w.heap.size]?=ZX (Z4 (aq D L G t f n) 110 (0,0)):=(Ux _ _ _ (by simp)).trans N;have y:bW w ((w.alloc (Z4 (aq D L G t f n) 110)).alloc (Z4 #[Z7 .u8 1,Z7 .u8 (D:Int),Z7 .u8 (L:Int),Z7 .u8 (G:Int)] 5)):=(bA w _).alloc (by simp) _;have B:((w.alloc (Z4 (aq D L G t f n) 110)).alloc (Z4 #[Z7 .u8 1,Z7 .u8 (D:Int),Z7 .u8 (L:Int),Z7 .u8 (G:Int)] 5)).heap.size=w.heap.size+2:=by simp
 rw [S] at z;unfold aq at *;obtain ⟨w1,A⟩:=nM ((w.alloc (Z4 #[Z7 Z9 D,Z7 Z9 L,Z7 Z9 G,Z7 Z8 t,Z7 Z9 f,Z7 Z9 n] 110)).alloc (Z4 #[Z7 .u8 1,Z7 .u8 (D:Int),Z7 .u8 (L:Int),Z7 .u8 (G:Int)] 5));have K:w1.ownsRow (w.heap.size+1) 5 1 (Z5 (ZX ⟨w.heap.size+1,0,ZY⟩) 4 4) 4 (aI [1,D,L,G]):=by rw [<- A];exact z
 rw [A] at j y B;have c1:w1.cell? ⟨w.heap.size,3,ZY⟩=ZX (Z7 Z8 t):=by simp [World.cell?,j]
 have a:=a5 K j y B;clear z K j y N S B;go_enter func238,ntmps238;go_wp2_with fail;refine (fP (w.heap.size+1) _ 4 (aI [1,D,L,G]) t 8 w1 a.out.1 (by have:=a.out.2.2.2;omega) (by decide) (by decide)).mono ?_;rintro e w2 ⟨Z,rfl,O,h,H⟩;have q:w2.heap[w.heap.size]?=ZX (Z4 #[Z7 Z9 D,Z7 Z9 L,Z7 Z9 G,Z7 Z8 t,Z7 Z9 f,Z7 Z9 n] 110 (0,0)):=(h.block _ (by have:=a.out.2.2.2;omega) (λe=>by simp [Value.ownBlock] at e)).trans a.out.2.1;have I:bW w w2:=a.out.2.2.1.trans (h.below λk x=>⟨by have:=a.out.2.2.2;omega,λe=>by simp [Value.ownBlock] at e;omega⟩);have Q:=h.size;have U:w2.cell? ⟨w.heap.size,4,ZY⟩=ZX (Z7 Z9 f):=by simp [World.cell?,q]
 have b:=a6 O q I Q H;clear O h H q I Q A;go_wp2_with fail;refine (fP (w.heap.size+1) _ (4+8) (aI [1,D,L,G]++aI (be t 8)) f 4 w2 b.out.1 (by have:=a.out.2.2.2;have:=b.out.2.2.2.1;omega) (by decide) (by decide)).mono ?_;rintro e l ⟨v3,rfl,P,i,W⟩;have u:∀ k,k<=w.heap.size->¬ Z.ownBlock=ZX k:=λk x e=>by have:=(b.out.1.lt k e).1;omega
 have s:l.heap[w.heap.size]?=ZX (Z4 #[Z7 Z9 D,Z7 Z9 L,Z7 Z9 G,Z7 Z8 t,Z7 Z9 f,Z7 Z9 n] 110 (0,0)):=(i.block _ (by have:=a.out.2.2.2;have:=b.out.2.2.2.1;omega) (u _ lR)).trans b.out.2.1;have J:bW w l:=b.out.2.2.1.trans (i.below λk x=>⟨by have:=a.out.2.2.2;have:=b.out.2.2.2.1;omega,u k (by omega)⟩);have R:=TW b.out.2.2.2.1 i.size;have V:l.cell? ⟨w.heap.size,5,ZY⟩=ZX (Z7 Z9 n):=by simp [World.cell?,s]
 have c:=a5 P s J R;clear P i W s J R U u;go_wp2_with fail;refine (fP (w.heap.size+1) _ (4+8+4) (aI [1,D,L,G]++aI (be t 8)++aI (be f 4)) n 4 l c.out.1 (by have:=a.out.2.2.2;have:=c.out.2.2.2;omega) (by decide) (by decide)).mono ?_;rintro e w4 ⟨v4,rfl,d,M,X⟩;have g:bW w w4:=c.out.2.2.1.trans (M.below λk x=>⟨by have:=a.out.2.2.2;have:=c.out.2.2.2;omega,λe=>by have:=(c.out.1.lt k e).1;omega⟩);have T:=au d g;clear d M X g V;go_wp2;go_ret;obtain ⟨d,g⟩:=T.out;refine ⟨v4,rfl,?_,g⟩;have hl:aI [1,D,L,G]++aI (be t 8)++aI (be f 4)++aI (be n 4)=aI (bC.root D L G t f n).body:=by
  rw [<- bL,<- bL,<- bL];simp only [bC.body,VU m,VU o,VU p,Uz]
 rw [hl] at d;exact Bs.Si d (me (r:=.root D L G t f n) ⟨m,o,p,C,E,F⟩) (TW (jC (r:=.root D L G t f n) ⟨m,o,p,C,E,F⟩) (by decide))
def Bs.mid (d:l.length<=c) (hl:l.length<=1000000) (e:∀ x∈l,x<256) (h:w.rangeAt b off (aI l)):Bs w (Z5 (ZX ⟨b,off,ZY⟩) l.length c) l:=
 ⟨_,c,rfl,d,by omega,e,λ_=>⟨b,off,rfl,λk a=>h k _ (by unfold aI;rw [Un,Ua a,T5,Ua a];rfl)⟩⟩
theorem np (s:Nat) (h:w.rangeAt b off (aI l)):w.rangeAt b off (aI (l.take s)):=λj v a=>by
 unfold aI at a;rw [Wr,XQ] at a;split at a
 . exact h j v a
 . cases a
def fU (s:Nat) (h:w.rangeAt b off (aI l)):w.rangeAt b (off+s) (aI (l.drop s)):=λj v a=>by
 unfold aI at a;rw [Ws,VZ] at a;rw [Vu];exact h (s+j) v a
theorem jH (q b off c s:Nat) (l:a8) (w:ZU) (d:w.heap[q]?=ZX (Z4 #[Z5 (ZX ⟨b,off,ZY⟩) l.length c] 31 (0,0))) (k:c<=1000) (g:∀ x∈l,x<256) (f:w.rangeAt b off (aI l)) (i:s<=l.length) (n:s<c) :
 ZS ZO 194 #[Z7 Z9 s,Z6 (ZX ⟨q,0,ZY⟩)] w λe w'=>e=Z3 (Z7 Z8 (fG (l.take s):Nat))/\w'=w.setCell ⟨q,0,ZY⟩ (Z5 (ZX ⟨b,off+s,ZY⟩) (l.length-s) (c-s)):=by
 have a:Bs w (Z5 (ZX ⟨b,off,ZY⟩) (l.take s).length c) (l.take s):=Bs.mid (by rw [Ui];omega) (by rw [Ui];omega) (λx h=>g x (UN h)) (np s f);rw [Ui,V5 i] at a;have c0:w.cell? ⟨q,0,ZY⟩=ZX (Z5 (ZX ⟨b,off,ZY⟩) l.length c):=by simp [World.cell?,d]
 have j:w.frozen? ⟨q,0,ZY⟩=ZV:=by simp [World.frozen?,d]
 go_enter func194,ntmps194;go_wp2_with fail;refine (sE _ (l.take s) w a).mono ?_;rintro e w' ⟨rfl,rfl⟩;have m:¬ c=s:=by omega
 clear a f g;go_wp2;go_ret;exact ⟨rfl,rfl⟩
structure GR (w0 w:ZU) (q b off c:Nat) (l:a8) (vals:Array ZT):Prop where
 box:w.heap[q]?=ZX (Z4 #[Z5 (ZX ⟨b,off,ZY⟩) l.length c] 31 (0,0))
 res:w.heap[q+1]?=ZX (Z4 #[Z7 Z9 0,Z7 Z9 0,Z7 Z9 0,Z7 Z8 0,Z7 Z9 0,Z7 Z9 0] 110 (0,0))
 rv:w.heap[q+1+1]?=ZX (Z4 vals 110 (0,0))
 below:Below q w0 w
 rng:w.rangeAt b off (aI l)
 lt:b<q
def ai {j:Nat} {cs:Array ZT} {t:ZQ} (h:w.heap[b]?=ZX (Z4 cs t (0,0))) (v:ZT):(w.setCell ⟨b,j,ZY⟩ v).heap[b]?=ZX (Z4 (cs.setIfInBounds j v) t (0,0)):=by
 simp [World.setCell,VH,h]
def wD {l:List ZT} (h:w.rangeAt b off l) {a:Addr} (c:b≠a.block) (v:ZT):(w.setCell a v).rangeAt b off l:=λj u d=>by
 have:=h j u d;rw [<- this];exact Ul (Ud _ _ _ _ c)
def GR.step (h:GR w0 w q b off c l vals) (s j:Nat) (v:ZT) :
 GR w0 ((w.setCell ⟨q,0,ZY⟩ (Z5 (ZX ⟨b,off+s,ZY⟩) (l.length-s) (c-s))).setCell ⟨q+1+1,j,ZY⟩ v) q b (off+s) (c-s) (l.drop s) (vals.setIfInBounds j v):=by
 obtain ⟨a,d,e,f,g,i⟩:=h;refine ⟨?_,?_,?_,?_,?_,i⟩
 . rw [Ud _ _ _ _ (by show q≠q+1+1;omega),ai a,Uj];rfl
 . rw [Ud _ _ _ _ (by show q+1≠q+1+1;omega),Ud _ _ _ _ (by show q+1≠q;omega)];exact d
 . exact ai ((Ud _ _ _ _ (by show q+1+1≠q;omega)).trans e) v
 . exact (f.setCell (p:=⟨q,0,ZY⟩) lR _).setCell (p:=⟨q+1+1,j,ZY⟩) (by show q<=q+1+1;omega) _
 . exact wD (wD (fU s g) (by show b≠q;omega) _) (by show b≠q+1+1;omega) _
def GR.cells (h:GR w0 w q b off c l vals) (s j:Nat) (u:ZT) (a:vals[j]?=ZX u) :
 (w.setCell ⟨q,0,ZY⟩ (Z5 (ZX ⟨b,off+s,ZY⟩) (l.length-s) (c-s))).cell? ⟨q+1+1,j,ZY⟩=ZX u/\(w.setCell ⟨q,0,ZY⟩ (Z5 (ZX ⟨b,off+s,ZY⟩) (l.length-s) (c-s))).frozen? ⟨q+1+1,j,ZY⟩=ZV:=by
 have e:(w.setCell ⟨q,0,ZY⟩ (Z5 (ZX ⟨b,off+s,ZY⟩) (l.length-s) (c-s))).heap[q+1+1]?=_:=(Ud _ _ _ _ (by show q+1+1≠q;omega)).trans h.rv;exact ⟨by simp [World.cell?,e,a],by simp [World.frozen?,e]⟩
def wE:∀ (l:a8),l.length<=7->(∀ x∈l,x<256)->fG l<256^l.length:=by
 intro l hl a;induction hn:l.length generalizing l with
 | zero=>
  have:l=[]:=UP hn;subst this;decide
 | succ n ih=>
  rcases List.eq_nil_or_concat l with rfl|⟨b,x,rfl⟩
  . simp at hn
  . rw [List.concat_eq_append] at *;simp at hn;have c:b.length<=7:=(by simp at hl;omega);have e:=ih b c (λy d=>a y (by simp [d])) hn;have f:=a x (by simp);rw [sB,Xa];exact Yc (Nat.mod_le _ _) (by omega)
theorem DH (b off:Nat) (l:a8) (w:ZU) (hl:l.length=59) (hx:∀ x∈l,x<256) (hr:w.rangeAt b off (aI l)) (hb:b<w.heap.size) :
 ZS ZO 179 #[Z5 (ZX ⟨b,off,ZY⟩) l.length 59] w λe w'=>e=Z3 (.agg (aq (fG (l.take 1)) (fG ((l.drop 1).take 1)) (fG ((l.drop 2).take 1)) (fG ((l.drop 3).take 8)) (fG ((l.drop 11).take 4)) (fG ((l.drop 15).take 4))))/\bW w w':=by
 have V:∀ s,∀ x∈l.drop s,x<256:=λs x h=>hx x (US h);have k6:∀ s k,k<=7->fG ((l.drop s).take k)<256^k:=λs k hk=>by
  have hf:((l.drop s).take k).length<=k:=by rw [Ui];omega
  exact TZ (wE _ (by omega) (λx h=>V s x (UN h))) (Vq (by decide) hf)
 have U:GR w (((w.alloc (Z4 #[Z5 (ZX ⟨b,off,ZY⟩) l.length 59] 31)).alloc (Z4 #[Z7 Z9 0,Z7 Z9 0,Z7 Z9 0,Z7 Z8 0,Z7 Z9 0,Z7 Z9 0] 110)).alloc (Z4 #[Z7 Z9 0,Z7 Z9 0,Z7 Z9 0,Z7 Z8 0,Z7 Z9 0,Z7 Z9 0] 110)) w.heap.size b off 59 l #[Z7 Z9 0,Z7 Z9 0,Z7 Z9 0,Z7 Z8 0,Z7 Z9 0,Z7 Z9 0]:=by
  refine ⟨?_,?_,?_,((bA w _).alloc (by simp) _).alloc (by simp;omega) _,aa8 (aa8 (aa8 hr _) _) _,hb⟩
  . rw [Ux _ _ _ (by simp;omega),Ux _ _ _ (by simp)];exact Uc _ _
  . rw [Ux _ _ _ (by simp)];have:=Uc (w.alloc (Z4 #[Z5 (ZX ⟨b,off,ZY⟩) l.length 59] 31)) (Z4 #[Z7 Z9 0,Z7 Z9 0,Z7 Z9 0,Z7 Z8 0,Z7 Z9 0,Z7 Z9 0] 110);simpa using this
  . have:=Uc ((w.alloc (Z4 #[Z5 (ZX ⟨b,off,ZY⟩) l.length 59] 31)).alloc (Z4 #[Z7 Z9 0,Z7 Z9 0,Z7 Z9 0,Z7 Z8 0,Z7 Z9 0,Z7 Z9 0] 110)) (Z4 #[Z7 Z9 0,Z7 Z9 0,Z7 Z9 0,Z7 Z8 0,Z7 Z9 0,Z7 Z9 0] 110);simpa using this
 obtain ⟨w1,k7⟩:=nM (((w.alloc (Z4 #[Z5 (ZX ⟨b,off,ZY⟩) l.length 59] 31)).alloc (Z4 #[Z7 Z9 0,Z7 Z9 0,Z7 Z9 0,Z7 Z8 0,Z7 Z9 0,Z7 Z9 0] 110)).alloc (Z4 #[Z7 Z9 0,Z7 Z9 0,Z7 Z9 0,Z7 Z8 0,Z7 Z9 0,Z7 Z9 0] 110));rw [k7] at U;have a:=aE V k6 hl;have H0:Hid (GR w w1 w.heap.size b (off+0) 59 (l.drop 0) #[Z7 Z9 0,Z7 Z9 0,Z7 Z9 0,Z7 Z8 0,Z7 Z9 0,Z7 Z9 0]):=U;clear U hr hx V k6 hl hb;go_enter func179,ntmps179;go_wp2_with fail;obtain ⟨f,W⟩:∃ x,fG ((l.drop 0).take 1)=x:=⟨_,rfl⟩;have b0:f<4294967296:=TZ (W▸a.out.2.1 0 1 (by decide)) (by decide);have M:=H0.out;refine (jH w.heap.size b (off+0) 59 1 (l.drop 0) w1 M.box (by decide) (a.out.1 0) M.rng (by rw [Uj,a.out.2.2];decide) (by decide)).mono ?_;rintro e y0 ⟨rfl,kf⟩;rw [W];have G:=M.step 1 0 (Z7 Z9 (f:Nat));obtain ⟨r,B⟩:=M.cells 1 0 _ rfl;rw [<- kf] at G r B;clear kf;obtain ⟨w2,k8⟩:∃ z,y0.setCell ⟨w.heap.size+1+1,0,ZY⟩ (Z7 Z9 (f:Nat))=z:=⟨_,rfl⟩;rw [k8] at G;have hs:GR w w2 w.heap.size b (off+1) 58 (l.drop 1) #[Z7 Z9 (f:Nat),Z7 Z9 0,Z7 Z9 0,Z7 Z8 0,Z7 Z9 0,Z7 Z9 0]:=by
  rw [VA,Vu off] at G;exact G
 have H1:=al hs;clear M G hs;go_wp2_with fail;obtain ⟨g,X⟩:∃ x,fG ((l.drop 1).take 1)=x:=⟨_,rfl⟩;have b1:g<4294967296:=TZ (X▸a.out.2.1 1 1 (by decide)) (by decide);have N:=H1.out;refine (jH w.heap.size b (off+1) 58 1 (l.drop 1) w2 N.box (by decide) (a.out.1 1) N.rng (by rw [Uj,a.out.2.2];decide) (by decide)).mono ?_;rintro e y1 ⟨rfl,kg⟩;rw [X];have H:=N.step 1 1 (Z7 Z9 (g:Nat));obtain ⟨t,C⟩:=N.cells 1 1 _ rfl;rw [<- kg] at H t C;clear kg;obtain ⟨w3,k9⟩:∃ z,y1.setCell ⟨w.heap.size+1+1,1,ZY⟩ (Z7 Z9 (g:Nat))=z:=⟨_,rfl⟩;rw [k9] at H;have hv:GR w w3 w.heap.size b (off+2) 57 (l.drop 2) #[Z7 Z9 (f:Nat),Z7 Z9 (g:Nat),Z7 Z9 0,Z7 Z8 0,Z7 Z9 0,Z7 Z9 0]:=by
  rw [VA,Vu off] at H;exact H
 have H2:=al hv;clear N H hv;go_wp2_with fail;obtain ⟨i,Y⟩:∃ x,fG ((l.drop 2).take 1)=x:=⟨_,rfl⟩;have b2:i<4294967296:=TZ (Y▸a.out.2.1 2 1 (by decide)) (by decide);have O:=H2.out;refine (jH w.heap.size b (off+2) 57 1 (l.drop 2) w3 O.box (by decide) (a.out.1 2) O.rng (by rw [Uj,a.out.2.2];decide) (by decide)).mono ?_;rintro e y2 ⟨rfl,kh⟩;rw [Y];have I:=O.step 1 2 (Z7 Z9 (i:Nat));obtain ⟨u,D⟩:=O.cells 1 2 _ rfl;rw [<- kh] at I u D;clear kh;obtain ⟨w4,ka⟩:∃ z,y2.setCell ⟨w.heap.size+1+1,2,ZY⟩ (Z7 Z9 (i:Nat))=z:=⟨_,rfl⟩;rw [ka] at I;have hy:GR w w4 w.heap.size b (off+3) 56 (l.drop 3) #[Z7 Z9 (f:Nat),Z7 Z9 (g:Nat),Z7 Z9 (i:Nat),Z7 Z8 0,Z7 Z9 0,Z7 Z9 0]:=by
  rw [VA,Vu off] at I;exact I
 have H3:=al hy;clear O I hy;go_wp2_with fail;obtain ⟨m,ke⟩:∃ x,fG ((l.drop 3).take 8)=x:=⟨_,rfl⟩;have P:=H3.out;refine (jH w.heap.size b (off+3) 56 8 (l.drop 3) w4 P.box (by decide) (a.out.1 3) P.rng (by rw [Uj,a.out.2.2];decide) (by decide)).mono ?_;rintro e y3 ⟨rfl,ki⟩;rw [ke];have J:=P.step 8 3 (Z7 Z8 (m:Nat));obtain ⟨y,E⟩:=P.cells 8 3 _ rfl;rw [<- ki] at J y E;clear ki;obtain ⟨w5,kb⟩:∃ z,y3.setCell ⟨w.heap.size+1+1,3,ZY⟩ (Z7 Z8 (m:Nat))=z:=⟨_,rfl⟩;rw [kb] at J;have hz:GR w w5 w.heap.size b (off+11) 48 (l.drop 11) #[Z7 Z9 (f:Nat),Z7 Z9 (g:Nat),Z7 Z9 (i:Nat),Z7 Z8 (m:Nat),Z7 Z9 0,Z7 Z9 0]:=by
  rw [VA,Vu off] at J;exact J
 have H4:=al hz;clear P J hz;go_wp2_with fail;obtain ⟨n,Z⟩:∃ x,fG ((l.drop 11).take 4)=x:=⟨_,rfl⟩;have b4:n<4294967296:=TZ (Z▸a.out.2.1 11 4 (by decide)) (by decide);have Q:=H4.out;refine (jH w.heap.size b (off+11) 48 4 (l.drop 11) w5 Q.box (by decide) (a.out.1 11) Q.rng (by rw [Uj,a.out.2.2];decide) (by decide)).mono ?_;rintro e y4 ⟨rfl,kj⟩;rw [Z];have K:=Q.step 4 4 (Z7 Z9 (n:Nat));obtain ⟨A,F⟩:=Q.cells 4 4 _ rfl;rw [<- kj] at K A F;clear kj;obtain ⟨w6,kc⟩:∃ z,y4.setCell ⟨w.heap.size+1+1,4,ZY⟩ (Z7 Z9 (n:Nat))=z:=⟨_,rfl⟩;rw [kc] at K;have k0:GR w w6 w.heap.size b (off+15) 44 (l.drop 15) #[Z7 Z9 (f:Nat),Z7 Z9 (g:Nat),Z7 Z9 (i:Nat),Z7 Z8 (m:Nat),Z7 Z9 (n:Nat),Z7 Z9 0]:=by
  rw [VA,Vu off] at K;exact K
 have H5:=al k0;clear Q K k0;go_wp2_with fail;obtain ⟨o,hq⟩:∃ x,fG ((l.drop 15).take 4)=x:=⟨_,rfl⟩;have b5:o<4294967296:=TZ (hq▸a.out.2.1 15 4 (by decide)) (by decide);have R:=H5.out;refine (jH w.heap.size b (off+15) 44 4 (l.drop 15) w6 R.box (by decide) (a.out.1 15) R.rng (by rw [Uj,a.out.2.2];decide) (by decide)).mono ?_;rintro e y5 ⟨rfl,kk⟩;rw [hq];have L:=R.step 4 5 (Z7 Z9 (o:Nat));obtain ⟨S,T⟩:=R.cells 4 5 _ rfl;rw [<- kk] at L S T;clear kk;obtain ⟨d,ko⟩:∃ z,y5.setCell ⟨w.heap.size+1+1,5,ZY⟩ (Z7 Z9 (o:Nat))=z:=⟨_,rfl⟩;rw [ko] at L;have k5:GR w d w.heap.size b (off+19) 40 (l.drop 19) #[Z7 Z9 (f:Nat),Z7 Z9 (g:Nat),Z7 Z9 (i:Nat),Z7 Z8 (m:Nat),Z7 Z9 (n:Nat),Z7 Z9 (o:Nat)]:=by
  rw [VA,Vu off] at L;exact L
 have c:=al k5;clear R L k5;have g0:d.cell? ⟨w.heap.size+1+1,0,ZY⟩=ZX (Z7 Z9 (f:Nat)):=by simp [World.cell?,c.out.rv]
 have g1:d.cell? ⟨w.heap.size+1+1,1,ZY⟩=ZX (Z7 Z9 (g:Nat)):=by simp [World.cell?,c.out.rv]
 have g2:d.cell? ⟨w.heap.size+1+1,2,ZY⟩=ZX (Z7 Z9 (i:Nat)):=by simp [World.cell?,c.out.rv]
 have g3:d.cell? ⟨w.heap.size+1+1,3,ZY⟩=ZX (Z7 Z8 (m:Nat)):=by simp [World.cell?,c.out.rv]
 have g4:d.cell? ⟨w.heap.size+1+1,4,ZY⟩=ZX (Z7 Z9 (n:Nat)):=by simp [World.cell?,c.out.rv]
 have g5:d.cell? ⟨w.heap.size+1+1,5,ZY⟩=ZX (Z7 Z9 (o:Nat)):=by simp [World.cell?,c.out.rv]
 have r0:d.cell? ⟨w.heap.size+1,0,ZY⟩=ZX (Z7 Z9 0):=by simp [World.cell?,c.out.res]
 have r1:d.cell? ⟨w.heap.size+1,1,ZY⟩=ZX (Z7 Z9 0):=by simp [World.cell?,c.out.res]
 have r2:d.cell? ⟨w.heap.size+1,2,ZY⟩=ZX (Z7 Z9 0):=by simp [World.cell?,c.out.res]
 have r3:d.cell? ⟨w.heap.size+1,3,ZY⟩=ZX (Z7 Z8 0):=by simp [World.cell?,c.out.res]
 have r4:d.cell? ⟨w.heap.size+1,4,ZY⟩=ZX (Z7 Z9 0):=by simp [World.cell?,c.out.res]
 have r5:d.cell? ⟨w.heap.size+1,5,ZY⟩=ZX (Z7 Z9 0):=by simp [World.cell?,c.out.res]
 have q:∀ k,d.frozen? ⟨w.heap.size+1,k,ZY⟩=ZV:=λk=>by simp [World.frozen?,c.out.res]
 have f0:=q 0;have f1:=q 1;have f2:=q 2;have f3:=q 3;have f4:=q 4;have f5:=q 5;clear q k7 k8 k9 ka kb kc r t u y A B C D E F H0 H1 H2 H3 H4 H5;go_wp2;have hh:=ai (j:=5) (ai (j:=4) (ai (j:=3) (ai (j:=2) (ai (j:=1) (ai (j:=0) c.out.res (Z7 Z9 (f:Nat))) (Z7 Z9 (g:Nat))) (Z7 Z9 (i:Nat))) (Z7 Z8 (m:Nat))) (Z7 Z9 (n:Nat))) (Z7 Z9 (o:Nat));refine Um (v:=.agg (aq f g i m n o)) (VQ results179 _ _ (w.heap.size+1) 110 (aq f g i m n o) (0,0) _ rfl hh XR rfl (by kernel_rfl)) rfl ?_;have km:=c.out.below;refine ⟨?_,(((((km.setCell (p:=⟨w.heap.size+1,0,ZY⟩) (by show w.heap.size<=w.heap.size+1;omega) _).setCell (p:=⟨w.heap.size+1,1,ZY⟩) (by show w.heap.size<=w.heap.size+1;omega) _).setCell (p:=⟨w.heap.size+1,2,ZY⟩) (by show w.heap.size<=w.heap.size+1;omega) _).setCell (p:=⟨w.heap.size+1,3,ZY⟩) (by show w.heap.size<=w.heap.size+1;omega) _).setCell (p:=⟨w.heap.size+1,4,ZY⟩) (by show w.heap.size<=w.heap.size+1;omega) _).setCell (p:=⟨w.heap.size+1,5,ZY⟩) (by show w.heap.size<=w.heap.size+1;omega) _⟩;rw [<- W,<- X,<- Y,<- ke,<- Z,<- hq,WL]
def cj:bC->ZT
 | .blank=>.iface 204 (.agg #[])
 | .root D L G t f n=>.iface 110 (.agg (aq D L G t f n))
 | .filled=>.iface 180 (.agg #[])
 | .shard l=>.iface 231 (.agg (aI l).toArray)
def mr (h:bJ w b l):w.rangeAt b 0 (aI l):=λj v c=>by
 have:(az l)[j]?=ZX v:=by unfold az;simpa using c
 have a:w.heap[b]?=ZX (Z4 (az l) 105 (0,0)):=h;simp [World.cell?,a,this]
def Kf (h:bJ w b l) (i:Nat) (a:i<l.length):w.cell? ⟨b,i,ZY⟩=ZX (Z7 .u8 ((l.getD i 0:Nat):Int)):=by
 have:=mr h i (Z7 .u8 ((l.getD i 0:Nat):Int)) (by unfold aI;rw [Un,Ua a,T5,Ua a];rfl);rwa [Ue] at this
def sR (l:a8) (i:Nat) (h:i<l.length):(l.drop i).take 1=[l.getD i 0]:=by
 rw [XJ h,T5,Ua h];rfl
def Kg (hl:l.length=64) (a:l.getD 4 0=1):ri l=.root (fG ((l.drop 5).take 1)) (fG (((l.drop 5).drop 1).take 1)) (fG (((l.drop 5).drop 2).take 1)) (fG (((l.drop 5).drop 3).take 8)) (fG (((l.drop 5).drop 11).take 4)) (fG (((l.drop 5).drop 15).take 4)):=by
 unfold ri;rw [if_pos a,VA,VA,VA,VA,VA,sR l 5 (by omega),sR l (5+1) (by omega),sR l (5+2) (by omega)]
def A5:∀ (l:List ZT) (k:Nat) (z:Array ZT),((l.zipIdx k).foldl (λcs x=>cs.setIfInBounds x.2 x.1) z).size=z.size/\∀ i,((l.zipIdx k).foldl (λcs x=>cs.setIfInBounds x.2 x.1) z)[i]?=if k<=i/\i<k+l.length/\i<z.size then l[i-k]? else z[i]?
 | [],k,z=>⟨rfl,λi=>by
  show z[i]?=if k<=i/\i<k+0/\i<z.size then _ else z[i]?;rw [if_neg (by omega)]⟩
 | v::l,k,z=>by
  obtain ⟨b,c⟩:=A5 l (k+1) (z.setIfInBounds k v);rw [List.zipIdx_cons,Wy];refine ⟨by rw [b];simp,λi=>?_⟩;rw [c i,Array.size_setIfInBounds,X6];simp only [Uv];by_cases e:k=i
  . subst e;rw [if_neg (by omega),if_pos rfl];by_cases a:k<z.size
    . rw [if_pos a,if_pos (by omega),Wx];rfl
    . rw [if_neg a,if_neg (by omega)];simp [a]
  . rw [if_neg e];by_cases a:k+1<=i/\i<k+1+l.length/\i<z.size
    . rw [if_pos a,if_pos (by omega),show i-k=(i-(k+1))+1 by omega];rfl
    . rw [if_neg a,if_neg (by omega)]
theorem wF (z a:Array ZT) (n:Nat) (g:z.size=n) (c:a.size=n):YH (λcs x=>cs.setIfInBounds x.snd x.fst) z a.zipIdx 0 n=a:=by
 have e:YH (λcs x=>cs.setIfInBounds x.snd x.fst) z a.zipIdx 0 n=(a.toList.zipIdx).foldl (λcs x=>cs.setIfInBounds x.2 x.1) z:=by
  rw [<- c,show a.size=a.zipIdx.size by simp,<- Array.foldl_toList,Array.toList_zipIdx]
 rw [e];obtain ⟨d,b⟩:=A5 a.toList 0 z;apply YJ;intro i;rw [b i];by_cases f:i<n
 . rw [if_pos (by simp;omega)];simp
 . rw [if_neg (by omega)];simp [WT (show z.size<=i by omega),WT (show a.size<=i by omega)]
theorem GS (l:a8) (w:ZU) (hl:l.length=64) (m:∀ x∈l,x<256) :
 ZS ZO 160 #[.agg (az l)] w λe w'=>e=Z3 (cj (ri l))/\bW w w':=by
 have o:=bJ.new w l;have c:bW w (w.alloc (Z4 (az l) 105)):=bA w _;have b:(w.alloc (Z4 (az l) 105)).heap.size=w.heap.size+1:=by simp
 obtain ⟨w1,F⟩:=nM (w.alloc (Z4 (az l) 105));rw [F] at o c b;have s:=Kf o 4 (by omega);have j:w1.rangeAt w.heap.size 5 (aI (l.drop 5)):=by have:=fU 5 (mr o);rwa [Ue] at this
 have i:w1.rangeAt w.heap.size 20 (aI (l.drop 20)):=by have:=fU 20 (mr o);rwa [Ue] at this
 have k:∀ x∈l.drop 5,x<256:=λx h=>m x (US h);have d:(l.drop 5).length=59:=by rw [Uj,hl]
 have f:(l.drop 20).length=44:=by rw [Uj,hl]
 by_cases g:l.getD 4 0=1
 . have a:=Kg hl g;rw [g] at s;have p:=DH w.heap.size 5 (l.drop 5) w1 d k j (by omega);rw [d] at p;rw [a];obtain ⟨ra,u⟩:=nM (aq (fG ((l.drop 5).take 1)) (fG (((l.drop 5).drop 1).take 1)) (fG (((l.drop 5).drop 2).take 1)) (fG (((l.drop 5).drop 3).take 8)) (fG (((l.drop 5).drop 11).take 4)) (fG (((l.drop 5).drop 15).take 4)));rw [u] at p;have D:=al u;clear u;have H:=au c b;clear a i j k f m d c b;go_enter func160,ntmps160;go_wp2_with fail;refine p.mono ?_;rintro e w2 ⟨rfl,A⟩;clear p;have C:=al A;clear A;go_wp2;go_ret;exact ⟨by rw [show cj (.root (fG ((l.drop 5).take 1)) (fG (((l.drop 5).drop 1).take 1)) (fG (((l.drop 5).drop 2).take 1)) (fG (((l.drop 5).drop 3).take 8)) (fG (((l.drop 5).drop 11).take 4)) (fG (((l.drop 5).drop 15).take 4)))=.iface 110 (.agg ra) from (by unfold cj;rw [<- D.out])];rfl,H.out.1.trans (C.out.mono (by have:=H.out.2;omega))⟩
 . by_cases n:l.getD 4 0=2
   . have a:ri l=.filled:=(by unfold ri;rw [if_neg g,if_pos n]);rw [n] at s;rw [a];have H:=au c b;clear a i j k f m d c b;unfold cj;go_enter func160,ntmps160;go_wp2;go_ret;exact ⟨rfl,H.out.1⟩
   . by_cases t:l.getD 4 0=3
     . have a:ri l=.shard (l.drop 20):=(by unfold ri;rw [if_neg g,if_neg n,if_pos t]);rw [t] at s;rw [a];have H:=a5 c b i f;clear a i j k f m d c b;have G:∀ (r:Addr) (w:ZU),(Instr.arrayAt 229 (Z5 (ZX r) 44 44)).run ZO w=.ok (Z6 (ZX r)) w:=λr w=>by simp [Instr.arrayAt,UH Yn]
       have B:(aI (l.drop 20)).toArray.size=44:=(by rw [UF,aW];exact H.out.2.2.2);go_enter func160,ntmps160;obtain ⟨q,v⟩:=nM ((aI (l.drop 20)).toArray);rw [v] at B;have y:=al v;go_wp2_with (refine aaW rfl 229 (Z1 17) rfl w.heap.size 20 rfl (aI (l.drop 20)) _ H.out.2.2.1 Yn rfl (by rw [aW,H.out.2.2.2];kernel_rfl) ?_;rw [y.out];clear v);have E:∀ z:Array ZT,z.size=44->YH (λcs x=>cs.setIfInBounds x.snd x.fst) z q.zipIdx 0 44=q:=λz b=>wF z q 44 b B;rw [E _ rfl];go_ret;exact ⟨by rw [show cj (.shard (l.drop 20))=.iface 231 (.agg q) from (by unfold cj;rw [<- y.out])];rfl,H.out.1⟩
     . have a:ri l=.blank:=(by unfold ri;rw [if_neg g,if_neg n,if_neg t]);rw [a];have H:=au c b;have I:¬ ((l.getD 4 0:Nat):Int)=1:=(by omega);have J:¬ ((l.getD 4 0:Nat):Int)=2:=(by omega);have K:¬ ((l.getD 4 0:Nat):Int)=3:=(by omega);clear a i j k f m d c b;generalize l.getD 4 0=x at *;unfold cj;go_enter func160,ntmps160;go_wp2;go_ret;exact ⟨rfl,H.out.1⟩
def spl (l:a8) (off:Nat) (src:a8):a8:=l.take off++(src++l.drop (off+src.length))
def nZ (h:off+src.length<=l.length):(spl l off src).length=l.length:=by unfold spl;simp;omega
def od {v:ZT} (h:ZQ) (p:bJ w b l) (r:Bs w v src) (i:src≠[]) (hn:src.length<=n) (t:off+src.length<=l.length) :
 (Builtin.copy_ #[31,31] h #[Z5 (ZX ⟨b,off,ZY⟩) n cap,v]).run ZO w=.ok (Z7 Z9 (src.length:Nat)) (w.setRow b (az (spl l off src))):=by
 obtain ⟨ao,c,rfl,y,z,A,k⟩:=r;obtain ⟨g,o,rfl,s⟩:=k i;have m:=run_copy_row (P:=ZO) w 31 31 h 5 b off n cap ⟨g,o,ZY⟩ src.length c (az l) 105 (aI src) Uh (by kernel_rfl) p (by rw [aW];exact (V5 hn).symm) (λj u f=>by
  have a:j<src.length:=by obtain ⟨q,_⟩:=U1.1 f;rwa [aW] at q
  rw [U9,s j a,<- f];unfold aI;rw [Un,Ua a,T5,Ua a];rfl) (by rw [aW,ix];exact t) (λu d=>by
  unfold aI at d;rw [T6] at d;obtain ⟨x,_,rfl⟩:=d;rfl)
 rw [m];have e:(YI off (az l).toList++aI src++List.drop (off+(aI src).length) (az l).toList).toArray=az (spl l off src):=by
  rw [we,aW];unfold az spl;rw [bL,bL,Uz];unfold aI;rw [Wr,Ws]
 simp only [Uz] at e ⊢;rw [e,aW];rfl
noncomputable def RBk:Array ZR:=((Tryz.f158.body.bind (pe · 5))).getD #[]
def aau:List (Op×Option Nat×a8):=[(Op.slice 105 (Z1 3) ZY (ZX (Operand.const (Value.int IntKind.i64 4))) ZY,ZX 13,[]),
 (Op.slice 105 (Z1 3) (ZX (Operand.const (Value.int IntKind.i64 4))) ZY ZY,ZX 14,[]),
 (Op.call { callee:=Callee.value (Operand.func 178),args:=#[Z1 14],argTypes:=#[31] },ZX 15,[1]),
 (Op.convert 301 39 (Z1 15),ZX 16,[2]),
 (Op.call { callee:=Callee.value (Operand.func 151),args:=#[Operand.const (Value.slice ZY 0 0),Z1 16,Operand.const (Value.int IntKind.i64 4)],argTypes:=#[31,39,3] },ZX 17,[3,2]),
 (Op.call { callee:=Callee.builtin Builtin.copy,args:=#[Z1 13,Z1 17],argTypes:=#[31,31] },ZX 18,[0,4,4])]
def GT:aL RBk 13 19 aau:=bw (by kernel_rfl) (by kernel_rfl)
def VBk (w0:ZU) (b c:Nat) (i:Nat) (u:ZT) (w:ZU):Prop:=match i with
 | 0=>u=Z5 (ZX ⟨b,0,ZY⟩) 4 64
 | 1=>u=Z5 (ZX ⟨b,4,ZY⟩) 60 60
 | 2=>u=Z7 .u32 (c:Nat)
 | 3=>u=Z7 Z8 (c:Nat)
 | 4=>w.ownsRow w0.heap.size 5 1 u (0+4) (aI (be c 4))
 | _=>True
def A6 (j:b<w0.heap.size) (g:∀ k,k≠b->k<w.heap.size->w'.heap[k]?=w.heap[k]?) (a:w.os=w'.os/\w.tape=w'.tape/\w.output=w'.output/\w.heap.size<=w'.heap.size) (i:Nat) (u:ZT) (h:VBk w0 b c i u w):VBk w0 b c i u w':=by
 match i with
 | 0|1|2|3=>exact h
 | 4=>exact World.ownsRow.kept h (row:=ZX b) ⟨a.1.symm,a.2.1.symm,a.2.2.1.symm,a.2.2.2,λk d f=>g k (λe=>f (by rw [e])) d⟩ (.inr λe=>by have:=(World.ownsRow.lt h b e).1;omega)
 | n+5=>trivial
def BBk (w0:ZU) (b c:Nat) (l:a8) (D:Nat->Bool) (w:ZU):Prop:=bJ w b (if D 5=ZW then spl l 0 (be c 4) else l)/\aa (λk=>k=b) w0 w
def oe {D:Nat->Bool} (h:BBk w0 b c l D w) (i:Nat) (d:i≠5) (a:aa (λ_=>False) w w'):BBk w0 b c l (fI D i) w':=by
 refine ⟨?_,h.2.later a (λ_ _ q=>q.elim)⟩;unfold fI;rw [if_neg (λe:5=i=>d e.symm)];exact h.1.keep (a.block _ h.1.lt (λq=>q))
def bg.out (h:bg w) (a:aa (λk=>k=b) w w') (c:b≠2):bg w':=λj d=>by
 have:=h j d;rw [<- this];exact Ul (a.block _ (Ub this) (λe=>c e.symm))
theorem j9 (L:RBk=ops) (d:bJ w b l) (hl:l.length=64) (Y:∀ x∈l,x<256) (X:bg w) (N:b≠2) (hs:a.tmps.size=20)
 (F:a.eval (Z1 3)=Z6 (ZX ⟨b,0,ZY⟩)) (J:∀ (w':ZU) (vs:List ZT),vs.length=6->bJ w' b (spl l 0 (be (nH (l.drop 4)) 4))->aa (λk=>k=b) w w'->Q .normal (Act.RR a 13 vs) w'):(Code.region 5 ops ZW).wp ZO Q a w:=by
 subst L;obtain ⟨c,E⟩:=nM (nH (l.drop 4));have y:c<4294967296:=E▸yF _;rw [E] at J;have I:=d.lt;refine fw (by kernel_rfl) GT a w (by omega) (VBk w b c) (BBk w b c l) ⟨d,aa.drew w⟩ ?_ ?_
 . intro i C;match i,C with
   | 0,_=>
    intro o a' w' D z ho g p s y r d m;have u0:a'.eval (Z1 3)=Z6 (ZX ⟨b,0,ZY⟩):=(p.slot 3 (by omega)).trans F;exact af (v:=Z5 (ZX ⟨b,0,ZY⟩) 4 64) (by (conv at ho=>rhs;whnf);simp only [execOp,ho,u0];go_simp) g ⟨oe d 0 (by decide) (aa.refl _ _),rfl,kq⟩
   | 1,_=>
    intro o a' w' D z ho g p s y r d m;have u0:a'.eval (Z1 3)=Z6 (ZX ⟨b,0,ZY⟩):=(p.slot 3 (by omega)).trans F;exact af (v:=Z5 (ZX ⟨b,4,ZY⟩) 60 60) (by (conv at ho=>rhs;whnf);simp only [execOp,ho,u0];go_simp) g ⟨oe d 1 (by decide) (aa.refl _ _),rfl,kq⟩
   | 2,_=>
    intro o a' w' D z ho g p s y r d m;have u0:a'.eval (Z1 14)=Z5 (ZX ⟨b,4,ZY⟩) 60 60:=m 1 (r 1 (by decide));have O:D 5=ZV:=by
     cases q:D 5 with
     | false=>rfl
     | true=>have:=(y 5 q).2 4 (by decide);have:=(y 4 this).2 2 (by decide);rw [s] at this;cases this
    have B:bJ w' b l:=(by have:=d.1;rw [if_neg (by rw [O];decide)] at this;exact this);have K:Bs w' (Z5 (ZX ⟨b,4,ZY⟩) (l.drop 4).length 60) (l.drop 4):=Bs.mid (by rw [Uj,hl];decide) (by rw [Uj,hl];decide) (λx h=>Y x (US h)) (by have:=fU 4 (mr B);rwa [Ue] at this);rw [show (l.drop 4).length=60 by rw [Uj,hl]] at K;refine gj (f:=178) (args:=#[Z5 (ZX ⟨b,4,ZY⟩) 60 60]) (w1:=w') (by (conv at ho=>rhs;whnf);simp only [execOp,ho];go_simp;simpa [Act.eval] using u0) g (M0 _ (l.drop 4) w' K (X.out d.2 N)) ?_;rintro e A ⟨rfl,rfl⟩;rw [E];exact ⟨_,rfl,oe d 2 (by decide) (aa.refl _ _),rfl,kq⟩
   | 3,_=>
    intro o a' w' D z ho g p s G r d m;have u0:a'.eval (Z1 15)=Z7 .u32 (c:Nat):=m 2 (r 2 (by decide));exact af (v:=Z7 Z8 (c:Nat)) (by (conv at ho=>rhs;whnf);simp only [execOp,ho,u0];go_simp;rw [U5];omega) g ⟨oe d 3 (by decide) (aa.refl _ _),rfl,kq⟩
   | 4,_=>
    intro o a' w' D z ho g p s G r d m;have u0:a'.eval (Z1 16)=Z7 Z8 (c:Nat):=m 3 (r 3 (by decide));refine gj (f:=151) (args:=#[Z5 ZY 0 0,Z7 Z8 (c:Nat),Z7 Z9 (4:Nat)]) (w1:=w') (by (conv at ho=>rhs;whnf);simp only [execOp,ho];go_simp;simpa [Act.eval] using u0) g (fP w.heap.size (Z5 ZY 0 0) 0 [] c 4 w' (UK _ _ _ _) d.2.size (by decide) (by decide)) ?_;rintro e A ⟨Z,rfl,W,P,hr⟩;have t:aa (λ_=>False) w' A:=P.mono (λk _ q=>by simp [Value.ownBlock] at q);refine ⟨Z,rfl,oe d 4 (by decide) t,W,λj u T q=>A6 I (λk _ p=>t.block k p (λq=>q)) ⟨t.os.symm,t.tape.symm,t.output.symm,t.size⟩ j u q⟩
   | 5,_=>
    intro o a' w' D z ho g p s G r d m;have u0:a'.eval (Z1 13)=Z5 (ZX ⟨b,0,ZY⟩) 4 64:=m 0 (r 0 (by decide));have u1:w'.ownsRow w.heap.size 5 1 (a'.eval (Z1 17)) (0+4) (aI (be c 4)):=m 4 (r 4 (by decide));have B:bJ w' b l:=(by have:=d.1;rw [if_neg (by rw [s];decide)] at this;exact this);have R:=od (n:=4) (cap:=64) (off:=0) o.type B (Bs.Si u1 (qE _ _) (by rw [aF];decide)) (by intro e;have:=aF c 4;rw [e] at this;cases this) (by rw [aF];decide) (by rw [aF,hl];decide);refine af (v:=Z7 Z9 ((be c 4).length:Nat)) (w':=w'.setRow b (az (spl l 0 (be c 4)))) (by (conv at ho=>rhs;whnf);simp only [execOp,ho,resolve,invoke,builtin,Uo,U2,UE,Vr,Uu,UY,u0,R]) g ⟨⟨?_,d.2.later (aa.setRow (S:=λk=>k=b) _ _ _ rfl) (λ_ _ q=>q)⟩,trivial,λj u T q=>A6 I (λk V p=>(aK _ _ _).block k p (λe=>V (by cases e;rfl))) ⟨rfl,rfl,rfl,by simp [World.setRow]⟩ j u q⟩;show bJ _ b (if fI D 5 5=ZW then _ else _);rw [if_pos (by unfold fI;rw [if_pos rfl])];exact B.setRow _
   | n+6,hn=>exact absurd hn (by show ¬ n+6<6;omega)
 . rintro a' w' U ⟨D,M,H⟩ m;have e:a'=Act.RR a 13 ((YD 6).map λi=>a'.eval (.tmp (13+i))):=U.out _ (by rw [T7,UC]) (by omega) (λi C=>by
    rw [T7,UC] at C;rw [T5,Un,Vw C];rfl)
   rw [e];have:=H.1;rw [if_pos (M 5 (by decide))] at this;exact J w' _ (by rw [T7,UC]) this H.2
def Kh (h:vs.length=6):∃ a b c d e f,vs=[a,b,c,d,e,f]:=by
 match vs,h with
 | [a,b,c,d,e,f],_=>exact ⟨_,_,_,_,_,_,rfl⟩
structure DI (w0 w:ZU) (r b:Nat) (l:a8):Prop where
 res:bJ w r zb
 blk:bJ w b l
 below:bW w0 w
 rs:r=w0.heap.size
 bs:b=w0.heap.size+1
def DI.new (w:ZU):DI w ((w.alloc (Z4 (az zb) 105)).alloc (Z4 (az zb) 105)) w.heap.size (w.heap.size+1) zb:=by
 refine ⟨(Ux _ _ _ (by simp)).trans (Uc _ _),?_,(bA w _).alloc (by simp) _,rfl,rfl⟩;have:=Uc (w.alloc (Z4 (az zb) 105)) (Z4 (az zb) 105);simpa [bJ] using this
def DI.mono (h:DI w0 w r b l) (a:bW w w'):DI w0 w' r b l:=
 ⟨h.res.keep (a.block _ h.res.lt),h.blk.keep (a.block _ h.blk.lt),h.below.trans (a.mono (by have:=h.res.lt;have:=h.rs;omega)),h.rs,h.bs⟩
def DI.set {l':a8} (h:DI w0 w r b l) (a:aa (λk=>k=b) w w') (c:bJ w' b l'):DI w0 w' r b l':=
 ⟨h.res.keep (a.block _ h.res.lt (λe=>by have:=h.rs;have:=h.bs;omega)),c,h.below.trans (a.below λk d=>⟨by have:=h.blk.lt;have:=h.bs;omega,λe=>by have:=h.bs;omega⟩),h.rs,h.bs⟩
def bg.below (h:bg w) (b:Below B w w') (a:2<B):bg w':=λj c=>(b.cell (p:=⟨2,j,ZY⟩) a).trans (h j c)
def bg.lt (h:bg w):2<w.heap.size:=Ub (h 0 (by decide))
theorem yS {body:a8} (c:body.length<=60):spl (spl zb 4 body) 0 (be (nH ((spl zb 4 body).drop 4)) 4)=cH body:=by
 have a:(spl zb 4 body).drop 4=body++YE (60-body.length) 0:=by
  unfold spl;rw [WM (by simp [zb]),show (YI 4 zb).drop 4=[] by simp [zb]];simp only [Uk];congr 1;unfold zb;rw [X9];congr 1;omega
 have b:∀ (X s:a8),spl X 0 s=s++X.drop s.length:=λX s=>by unfold spl;rw [VR,Uk,Ue]
 rw [b,aF,a];rfl
def DJ (b:∀ x∈l,x<256) (c:∀ x∈src,x<256):∀ x∈spl l off src,x<256:=by
 intro x a;unfold spl at a;simp only [Uf] at a;rcases a with h|h|h
 . exact b x (UN h)
 . exact c x h
 . exact b x (US h)
def Ki:∀ x∈zb,x<256:=λx a=>by have:=VG a;omega
theorem A7 (w:ZU):ZS ZO 158 #[cj .blank] w λe w'=>e=Z3 (.agg (az bC.blank.blk))/\bW w w':=by
 have j:=zeroBlk;have b:=DI.new w;obtain ⟨w1,h⟩:=nM ((w.alloc (Z4 (az zb) 105)).alloc (Z4 (az zb) 105));rw [h] at b;have c:=al b;clear b;unfold cj;go_enter func158,ntmps158;go_wp2_with fail;refine (DG w1).mono ?_;rintro e w2 ⟨rfl,d⟩;have f:=c.out.mono d;have a:=al f;clear f d c;go_wp2_with (first|(refine mh rfl (Z1 3) rfl (w.heap.size+1) zb rfl a.out.blk bR ?_)|(refine fq rfl (Z1 2) (Z1 19) rfl w.heap.size zb zb rfl rfl a.out.res bR bR ?_));have g:=a.out.res.setRow zb;refine Um (v:=.agg (az zb)) (VQ results158 _ _ w.heap.size 105 (az zb) (0,0) _ rfl g WB rfl (eV bR)) rfl ?_;exact ⟨rfl,a.out.below.trans ⟨rfl,rfl,rfl,by simp [World.setRow],λk i=>(aK _ _ _).block k (by have:=a.out.res.lt;omega) (λe=>by cases e;omega)⟩⟩
theorem DK (D L G t f n:Nat) (w:ZU) (l:(bC.root D L G t f n).ok) (I:bg w) :
 ZS ZO 158 #[cj (.root D L G t f n)] w λe w'=>e=Z3 (.agg (az (bC.root D L G t f n).blk))/\bW w w':=by
 have X:=zeroBlk;have o:=DI.new w;obtain ⟨w1,U⟩:=nM ((w.alloc (Z4 (az zb) 105)).alloc (Z4 (az zb) 105));rw [U] at o;have B:=jC l;have r:=me l;have x:(bC.root D L G t f n).blk=cH (bC.root D L G t f n).body:=by unfold bC.blk;rw [if_neg (by simp [bC.body])]
 have p:0<(bC.root D L G t f n).body.length:=by simp [bC.body]
 have d:=GQ D L G t f n w1 l;rw [x];obtain ⟨body,u⟩:=nM ((bC.root D L G t f n).body);rw [u] at B r p d ⊢;have b:=aE o r I;unfold cj;obtain ⟨ra,E⟩:=nM (aq D L G t f n);simp only [E] at d ⊢;clear o r I l x E u;go_enter func158,ntmps158;go_wp2_with fail;refine d.mono ?_;clear d;rintro e w2 ⟨v,rfl,q,A⟩;have g:=b.out.1.mono A;obtain ⟨ao,c,rfl,N,O,P,Q⟩:=id q;have C:body≠[]:=by intro e;rw [e] at p;simp at p
 have R:=od (n:=60) (cap:=60) (off:=4) 3 g.blk q C (by omega) (by rw [bR];omega);have h:DI w (w2.setRow (w.heap.size+1) (az (spl zb 4 body))) w.heap.size (w.heap.size+1) (spl zb 4 body):=g.set (aa.setRow (S:=λk=>k=w.heap.size+1) _ _ _ rfl) (g.blk.setRow _);obtain ⟨V,H⟩:=nM (w2.setRow (w.heap.size+1) (az (spl zb 4 body)));rw [H] at R h;have T:(spl zb 4 body).length=64:=by rw [nZ (by rw [bR];omega),bR]
 have K:=b.out.2.2.lt;have hv3:bg V:=b.out.2.2.below h.below K;have m:=au h hv3;clear g q A N O P Q H h hv3 C;go_wp2_with fail;refine j9 (by kernel_rfl) m.out.1.blk T (DJ Ki b.out.2.1) m.out.2 (by omega) rfl rfl ?_;intro Y vs F y z;obtain ⟨Z,x1,x2,x3,x4,x5,rfl⟩:=Kh F;have i:=m.out.1.set z y;rw [yS B] at i;have j:(cH body).length=64:=by unfold cH;simp [aF];omega
 obtain ⟨sb,s⟩:=nM (cH body);rw [s] at i j;have M:=al s;have a:=al i;clear i y z F s;rename_i hK
 refine hK _ _ ?_;clear hK;simp only [Act.RR,Act.put,UW,UR,UX];go_wp2_with (first|(refine mh rfl (Z1 3) rfl (w.heap.size+1) sb rfl a.out.blk j ?_)|(refine fq rfl (Z1 2) (Z1 19) rfl w.heap.size sb zb rfl rfl a.out.res bR j ?_));have J:=a.out.res.setRow sb;refine Um (v:=.agg (az sb)) (VQ results158 _ _ w.heap.size 105 (az sb) (0,0) _ rfl J WB rfl (eV j)) rfl ?_;exact ⟨by rw [M.out],a.out.below.trans ⟨rfl,rfl,rfl,by simp [World.setRow],λk W=>(aK _ _ _).block k (by have:=a.out.res.lt;omega) (λe=>by cases e;omega)⟩⟩
def wG (r:bC):Prop:=∀ w,bg w->ZS ZO 158 #[cj r] w λe w'=>e=Z3 (.agg (az r.blk))/\bW w w'
def A8:wG .blank:=λw _=>A7 w
def DL (a:(bC.root D L G t f n).ok):wG (.root D L G t f n):=λw b=>DK D L G t f n w a b
noncomputable def ROf:Array ZR:=((Tryz.f132.body.bind (pe · 2))).getD #[]
def aav:List (Op×Option Nat×a8):=[(Op.move (Z1 4),ZX 7,[]),
 (Op.call { callee:=Callee.value (Operand.func 158),args:=#[Z1 7],argTypes:=#[193] },ZX 8,[0]),
 (Op.load 105 (Z1 1),ZX 9,[]),
 (Op.binOp BinOp.neq 105 (Z1 8) (Z1 9) 105,ZX 10,[1,2])]
def GU:aL ROf 7 11 aav:=bw (by kernel_rfl) (by kernel_rfl)
def Tryz.SW:ZO.cellsOf 5=1:=by kernel_rfl
def wH (l:a8) (i:Nat) (a:i<l.length) (w:ZU):(part 5 (az l) (i*1)).run ZO w=.ok (Z7 .u8 ((l.getD i 0:Nat):Int)) w:=by
 have b:(az l)[i]?=ZX (Z7 .u8 ((l.getD i 0:Nat):Int)):=by
  unfold az aI;rw [WY,Un,Ua a,T5,Ua a];rfl
 rw [VW];have c:=W4;simp [part,isAgg,UH c,b]
theorem A9 (d:Nat) (l1 a:a8) (w:ZU):∀ (b:a8),(∀ i∈b,i<l1.length/\i<a.length)->(Op.eqItems (d+1) 5 1 (az l1) (az a) b).run ZO w=.ok (b.all λi=>l1.getD i 0==a.getD i 0) w
 | [],_=>by simp [Op.eqItems]
 | i::b,h=>by
  obtain ⟨k,l⟩:=h i (by simp);have ih:=A9 d l1 a w b (λj n=>h j (by simp [n]));have m:=run_equalIn_int (P:=ZO) (w:=w) d 5 .u8 .u8 ((l1.getD i 0:Nat):Int) ((a.getD i 0:Nat):Int) W4;simp only [Op.eqItems,Uo,wH l1 i k w,wH a i l w,UE,m,List.all_cons];generalize l1.getD i 0=x;generalize a.getD i 0=y;by_cases e:x=y
  . subst e;rw [if_neg (by simp),ih];simp
  . have c:¬ ((x:Nat):Int)=((y:Nat):Int):=λq=>e (by omega);have f:((x:Int)==(y:Int))=ZV:=(by simpa using c);have g:(x==y)=ZV:=(by simpa using e);rw [f,g];simp
theorem Kj {l1 l2:a8} (c:l1.length=64) (d:l2.length=64):((YD 64).all λi=>l1.getD i 0==l2.getD i 0)=decide (l1=l2):=by
 rw [Bool.eq_iff_iff,Xe,decide_eq_true_eq];constructor
 . intro h;refine Vh (by omega) λi a b=>?_;have:=h i (Uy.2 (by omega));simpa [a,b] using this
 . rintro rfl i _;simp
def PA (l1 a:a8) (c:l1.length=64) (d:a.length=64) (w:ZU):(Op.equalIn 10000 105 (.agg (az l1)) (.agg (az a))).run ZO w=.ok (decide (l1=a)) w:=by
 obtain ⟨g,b,_⟩:=Us Tryz.R6;rw [show (10000:Nat)=9998+1+1 from rfl,run_equalIn_array w (9998+1) (t:=105) (e:=5) (n:=64) (az l1) (az a) WB b,Tryz.SW,A9 9998 l1 a w _ (λi f=>by have:=Uy.1 f;omega),Kj c d]
theorem GV {r:bC} (z:ROf=ops) (E:wG r) (F:r.ok) (p:bJ w b l) (hl:l.length=64) (u:bg w) (H:a.tmps.size=12)
 (x:a.eval (Z1 1)=Z6 (ZX ⟨b,0,ZY⟩)) (y:a.eval (Z1 4)=cj r) (C:∀ (w':ZU),bW w w'->Q .normal (Act.RR a 7 [cj r,.agg (az r.blk),.agg (az l),Z2 (!decide (r.blk=l))]) w'):(Code.region 2 ops ZW).wp ZO Q a w:=by
 subst z;refine fw (by kernel_rfl) GU a w (by omega) (λi v _=>v=[cj r,.agg (az r.blk),.agg (az l),Z2 (!decide (r.blk=l))].getD i ZZ) (λ_ w'=>bJ w' b l/\bW w w') ⟨p,(TY _ w).drew⟩ ?_ ?_
 . intro i s;match i,s with
   | 0,_=>exact λo a' w' D q ho g j k m h p d=>af (ag ho ((j.slot 4 (by omega)).trans y) w') g ⟨p,rfl,kq⟩
   | 1,_=>
    intro o a' w' D q ho g j k m h c d;have u0:a'.eval (Z1 7)=cj r:=d 0 (h 0 (by decide));refine gj (f:=158) (args:=#[cj r]) (w1:=w') (by (conv at ho=>rhs;whnf);simp only [execOp,ho];go_simp;simpa [Act.eval] using u0) g (E w' (u.below c.2 u.lt)) ?_;rintro e G ⟨rfl,t⟩;exact ⟨_,rfl,⟨c.1.keep (t.block _ c.1.lt),c.2.trans (t.mono c.2.size)⟩,rfl,kq⟩
   | 2,_=>
    intro o a' w' D q ho g j k m h c d;have u0:a'.eval (Z1 1)=Z6 (ZX ⟨b,0,ZY⟩):=(j.slot 1 (by omega)).trans x;exact af (v:=.agg (az l)) (by (conv at ho=>rhs;whnf);simp [execOp,ho,u0,ng c.1 hl]) g ⟨c,rfl,kq⟩
   | 3,_=>
    intro o a' w' D q ho g j k m h c d;have u0:a'.eval (Z1 8)=.agg (az r.blk):=d 1 (h 1 (by decide));have u1:a'.eval (Z1 9)=.agg (az l):=d 2 (h 2 (by decide));exact af (v:=Z2 (!decide (r.blk=l))) (by (conv at ho=>rhs;whnf);simp only [execOp,ho,u0,u1];go_simp;rw [PA r.blk l (Fl F) hl w'];rfl) g ⟨c,rfl,kq⟩
   | n+4,hn=>exact absurd hn (by show ¬ n+4<4;omega)
 . rintro a' w' A ⟨D,I,c⟩ d;have B:∀ i:Nat,i<4->a'.eval (.tmp (7+i))=[cj r,.agg (az r.blk),.agg (az l),Z2 (!decide (r.blk=l))].getD i ZZ:=by
    intro i s;match i,s with
    | 0,_=>exact d 0 (by decide)
    | 1,_=>exact d 1 (by decide)
    | 2,_=>exact d 2 (by decide)
    | 3,_=>exact d 3 (by decide)
    | n+4,hn=>exact absurd hn (by show ¬ n+4<4;omega)
   rw [A.out [cj r,.agg (az r.blk),.agg (az l),Z2 (!decide (r.blk=l))] rfl (by omega) B];exact C w' c.2
theorem aM.SK (h:aM w b l):w.heap[b]?=ZX (Z4 (aI l).toArray 5 (0,0)):=by
 obtain ⟨c,d,g,f⟩:=h;have e:c=(aI l).toArray:=by
  apply YJ;intro i;by_cases a:i<l.length
  . rw [f i a];unfold vb aI;simp [T5,Ua a]
  . rw [WT (by omega),WT (by rw [UF,aW];omega)]
 rw [<- e];exact d
def aM.Tw (h:w.heap[b]?=ZX (Z4 (aI l).toArray 5 (0,0))):aM w b l:=
 ⟨_,h,by rw [UF,aW],λi a=>by
  unfold vb aI;simp [T5,Ua a]⟩
def Ba {v:ZT} (h:ZQ) (d:aM w b l) (t:Bs w v src) (hn:src.length<=n) (z:off+src.length<=l.length) :
 ∃ w',(Builtin.copy_ #[31,31] h #[Z5 (ZX ⟨b,off,ZY⟩) n cap,v]).run ZO w=.ok (Z7 Z9 (src.length:Nat)) w'/\aM w' b (spl l off src)/\w.grownBy w' (ZX b):=by
 obtain ⟨ao,c,rfl,A,B,C,r⟩:=t;have m:(ZO.info? 5).map (λi=>i.size)=ZX 1:=by kernel_rfl
 by_cases k:src=[]
 . subst k;refine ⟨w,run_copy_none (P:=ZO) w 31 31 h 5 (ZX ⟨b,off,ZY⟩) ao n cap 0 c Uh m (by simp),?_,Wn _ _⟩;have e:spl l off []=l:=(by unfold spl;simp);rw [e];exact d
 . obtain ⟨g,o,rfl,y⟩:=r k;have s:=run_copy_row (P:=ZO) w 31 31 h 5 b off n cap ⟨g,o,ZY⟩ src.length c (aI l).toArray 5 (aI src) Uh m d.SK (by rw [aW];exact (V5 hn).symm) (λj u p=>by
    have a:j<src.length:=(by obtain ⟨q,_⟩:=U1.1 p;rwa [aW] at q);rw [U9,y j a,<- p];unfold aI;rw [Un,Ua a,T5,Ua a];rfl) (by rw [aW,UF,aW];exact z) (λu f=>by
    unfold aI at f;rw [T6] at f;obtain ⟨x,_,rfl⟩:=f;rfl)
   have e:(YI off (aI l)++aI src++List.drop (off+(aI src).length) (aI l)).toArray=(aI (spl l off src)).toArray:=by
    rw [aW];unfold spl;rw [bL,bL,Uz];unfold aI;rw [Wr,Ws]
   refine ⟨w.setRow b (aI (spl l off src)).toArray,?_,aM.Tw (Vf w b (aI l).toArray (aI (spl l off src)).toArray _ _ d.SK),aK _ _ _⟩;rw [s];simp only [Uz] at e ⊢;rw [e,aW];rfl
def GW (w:ZU) (a:Nat):(w.alloc (Z4 #[Z7 .u8 (a:Int)] 5)).ownsRow w.heap.size 5 1 (Z5 (ZX ⟨w.heap.size,0,ZY⟩) 1 1) 1 (aI [a]):=
 ⟨rfl,.inr ⟨w.heap.size,1,_,rfl,TV _,Uc _ _,TV _,by unfold maxLen;omega,rfl,rfl⟩⟩
theorem Bb (w:ZU):ZS ZO 253 #[.agg #[]] w λe w'=>∃ v,e=Z3 v/\Bs w' v bC.filled.body/\bW w w':=by
 have ho:=GW (w.alloc (Z4 #[] 180)) 2;have a:bW w ((w.alloc (Z4 #[] 180)).alloc (Z4 #[Z7 .u8 ((2:Nat):Int)] 5)):=(bA w _).alloc (by simp) _;have H:=au ho a;clear ho a;go_enter func253,ntmps253;go_wp2;go_ret;have b:=Bs.Si H.out.1 (λx c=>by simp at c;omega) (by decide);simp only [Uq] at b;exact ⟨_,rfl,b,H.out.2⟩
noncomputable def RSb:Array ZR:=((Tryz.f255.body.bind (pe · 3))).getD #[]
def aaw:List (Op×Option Nat×a8):=[(Op.move (Z1 3),ZX 7,[]),
 (Op.slice 31 (Z1 7) (ZX (Operand.const (Value.int IntKind.i64 16))) ZY ZY,ZX 8,[0]),
 (Op.fieldAddr 231 (Z1 1) 0,ZX 9,[]),
 (Op.slice 229 (Z1 9) ZY ZY ZY,ZX 10,[2]),
 (Op.call { callee:=Callee.builtin Builtin.copy,args:=#[Z1 8,Z1 10],argTypes:=#[31,31] },ZX 11,[1,3])]
def GX:aL RSb 7 12 aaw:=bw (by kernel_rfl) (by kernel_rfl)
def VSb (b q:Nat) (i:Nat) (u:ZT) (_:ZU):Prop:=match i with
 | 0=>u=Z5 (ZX ⟨b,0,ZY⟩) 60 60
 | 1=>u=Z5 (ZX ⟨b,16,ZY⟩) 44 44
 | 2=>u=Z6 (ZX ⟨q,0,ZY⟩)
 | 3=>u=Z5 (ZX ⟨q,0,ZY⟩) 44 44
 | _=>True
def BSb (w0:ZU) (b:Nat) (l s:a8) (D:Nat->Bool) (w:ZU):Prop:=aM w b (if D 4=ZW then spl l 16 s else l)/\aa (λk=>k=b) w0 w
def rP {D:Nat->Bool} (h:BSb w0 b l s D w) (i:Nat) (a:i≠4):BSb w0 b l s (fI D i) w:=by
 refine ⟨?_,h.2⟩;unfold fI;rw [if_neg (λe:4=i=>a e.symm)];exact h.1
theorem yT (F:RSb=ops) (c:aM w b l) (hl:l.length=60) (B:w.heap[q]?=ZX (Z4 (aI s).toArray 231 (0,0))) (P:s.length=44) (S:∀ x∈s,x<256) (K:q≠b) (X:a.tmps.size=13)
 (E:a.eval (Z1 3)=Z5 (ZX ⟨b,0,ZY⟩) 60 60) (C:a.eval (Z1 1)=Z6 (ZX ⟨q,0,ZY⟩)) (J:∀ (w':ZU) (vs:List ZT),vs.length=5->aM w' b (spl l 16 s)->aa (λk=>k=b) w w'->Q .normal (Act.RR a 7 vs) w'):(Code.region 3 ops ZW).wp ZO Q a w:=by
 subst F;refine fw (by kernel_rfl) GX a w (by omega) (VSb b q) (BSb w b l s) ⟨c,aa.drew w⟩ ?_ ?_
 . intro i t;match i,t with
   | 0,_=>exact λo a' w' U r ho d h m y g c f=>af (ag ho ((h.slot 3 (by omega)).trans E) w') d ⟨rP c _ (by decide),rfl,kq⟩
   | 1,_=>
    intro o a' w' D r ho d h m y g c f;have u0:a'.eval (Z1 7)=Z5 (ZX ⟨b,0,ZY⟩) 60 60:=f 0 (g 0 (by decide));exact af (v:=Z5 (ZX ⟨b,16,ZY⟩) 44 44) (by (conv at ho=>rhs;whnf);simp only [execOp,ho,u0];go_simp) d ⟨rP c 1 (by decide),rfl,kq⟩
   | 2,_=>
    intro o a' w' D r ho d h m y g c f;have u0:a'.eval (Z1 1)=Z6 (ZX ⟨q,0,ZY⟩):=(h.slot 1 (by omega)).trans C;exact af (v:=Z6 (ZX ⟨q,0,ZY⟩)) (by (conv at ho=>rhs;whnf);simp only [execOp,ho,u0];go_simp) d ⟨rP c 2 (by decide),rfl,kq⟩
   | 3,_=>
    intro o a' w' D r ho d h m y g c f;have u0:a'.eval (Z1 9)=Z6 (ZX ⟨q,0,ZY⟩):=f 2 (g 2 (by decide));exact af (v:=Z5 (ZX ⟨q,0,ZY⟩) 44 44) (by (conv at ho=>rhs;whnf);simp only [execOp,ho,u0];go_simp) d ⟨rP c 3 (by decide),rfl,kq⟩
   | 4,_=>
    intro o a' w' D r ho d h m V g c f;have u0:a'.eval (Z1 8)=Z5 (ZX ⟨b,16,ZY⟩) 44 44:=f 1 (g 1 (by decide));have u1:a'.eval (Z1 10)=Z5 (ZX ⟨q,0,ZY⟩) 44 44:=f 3 (g 3 (by decide));have H:aM w' b l:=(by have:=c.1;rw [if_neg (by rw [m];decide)] at this;exact this);have O:w'.heap[q]?=ZX (Z4 (aI s).toArray 231 (0,0)):=(c.2.block q (TX.1 B).1 (λe=>K e)).trans B;have A:Bs w' (Z5 (ZX ⟨q,0,ZY⟩) s.length 44) s:=Bs.mid (by omega) (by omega) S (λj u R=>by
     have:(aI s).toArray[j]?=ZX u:=by simpa using R
     simp [World.cell?,O,this])
    rw [P] at A;obtain ⟨w2,L,G,p⟩:=Ba (n:=44) (cap:=44) (off:=16) o.type H A (by omega) (by omega);refine af (v:=Z7 Z9 (s.length:Nat)) (w':=w2) (by (conv at ho=>rhs;whnf);simp only [execOp,ho,resolve,invoke,builtin,Uo,U2,UE,Vr,Uu,UY,u0,u1,L]) d ⟨⟨?_,c.2.later (T:=λk=>k=b) ⟨p.os,p.tape,p.output,p.size,λk h N=>p.block k h (λe=>N (by cases e;rfl))⟩ (λ_ _ q=>q)⟩,trivial,λj u W q=>by
     match j,q with
     | 0,q|1,q|2,q|3,q=>exact q
     | j+4,_=>trivial⟩
    show aM _ b (if fI D 4 4=ZW then _ else _);rw [if_pos (by unfold fI;rw [if_pos rfl])];exact G
   | n+5,hn=>exact absurd hn (by show ¬ n+5<5;omega)
 . rintro a' w' M ⟨D,I,z⟩ f;have e:a'=Act.RR a 7 ((YD 5).map λi=>a'.eval (.tmp (7+i))):=M.out _ (by rw [T7,UC]) (by omega) (λi t=>by
    rw [T7,UC] at t;rw [T5,Un,Vw t];rfl)
   rw [e];have:=z.1;rw [if_pos (I 4 (by decide))] at this;exact J w' _ (by rw [T7,UC]) this z.2
def Rb (h:vs.length=5):∃ a b c d e,vs=[a,b,c,d,e]:=by
 match vs,h with
 | [a,b,c,d,e],_=>exact ⟨a,b,c,d,e,rfl⟩
theorem DM (l:a8) (w:ZU) (A:(bC.shard l).ok) :
 ZS ZO 255 #[.agg (aI l).toArray] w λe w'=>∃ v,e=Z3 v/\Bs w' v (bC.shard l).body/\bW w w':=by
 obtain ⟨hl,z⟩:=A;have i:=Uc w (Z4 (aI l).toArray 231);have c:bW w (w.alloc (Z4 (aI l).toArray 231)):=bA w _;have j:(w.alloc (Z4 (aI l).toArray 231)).heap.size=w.heap.size+1:=by simp
 have B:(aI l).toArray.size=44:=by rw [UF,aW,hl]
 obtain ⟨w1,y⟩:=nM (w.alloc (Z4 (aI l).toArray 231));rw [y] at i c j;obtain ⟨ra,d⟩:=nM ((aI l).toArray);have H:=a6 i c j z d;rw [d] at y B ⊢;clear i c j z d;go_enter func255,ntmps255;go_wp2_with (at_make;refine eA _ rfl (.const (Z7 Z9 60)) (.const (Z7 Z9 60)) rfl _ 60 rfl rfl rfl (by omega) ?_;intro w2 g s F;have c0:=g.cell 0 (by decide);have D:=g.frozen 0);have o:aM (w2.setCell ⟨w1.heap.size,0,ZY⟩ (Z7 .u8 3)) w1.heap.size ((YE 60 0).set 0 3):=g.set 0 3;have E:=H.out.2.2.1;have u:(w2.setCell ⟨w1.heap.size,0,ZY⟩ (Z7 .u8 3)).heap[w.heap.size]?=ZX (Z4 (aI l).toArray 231 (0,0)):=(Ud _ _ _ _ (by show w.heap.size≠w1.heap.size;omega)).trans ((s.block _ (by omega)).trans H.out.1);have b:bW w (w2.setCell ⟨w1.heap.size,0,ZY⟩ (Z7 .u8 3)):=(H.out.2.1.trans (s.mono (by omega))).setCell (p:=⟨w1.heap.size,0,ZY⟩) (by show w.heap.size<=w1.heap.size;omega) _;refine yT (by kernel_rfl) o (by simp) u hl H.out.2.2.2.1 (by omega) rfl rfl rfl ?_;intro C vs x a q;obtain ⟨I,J,K,L,M,rfl⟩:=Rb x;have t:bW w C:=b.trans (q.below λk G=>⟨by have:=b.size;omega,λe=>by omega⟩);have h:spl ((YE 60 0).set 0 3) 16 l=(bC.shard l).body:=by
  unfold spl bC.body;rw [hl];simp [YE]
 rw [h] at a;have f:=Bs.So (n:=60) a (by rw [<- h,nZ (by simp [hl])];simp) (by decide) (me (r:=.shard l) ⟨hl,H.out.2.2.2.1⟩);rw [UD (jC (r:=.shard l) ⟨hl,H.out.2.2.2.1⟩),show (bC.shard l).body.length=60 by rw [<- h,nZ (by simp [hl])];simp] at f;have m:=au f t;clear f t a q b u o x;rename_i hK
 refine hK _ _ ?_;clear hK;simp only [Act.RR,Act.put,UW,UR,UX];go_wp2;go_ret;exact ⟨_,rfl,m.out.1,m.out.2⟩
theorem yU (w:ZU) (D:bg w) :
 ZS ZO 158 #[cj .filled] w λe w'=>e=Z3 (.agg (az bC.filled.blk))/\bW w w':=by
 have Q:=zeroBlk;have j:=DI.new w;obtain ⟨w1,N⟩:=nM ((w.alloc (Z4 (az zb) 105)).alloc (Z4 (az zb) 105));rw [N] at j;have z:=jC (r:=.filled) trivial;have p:=me (r:=.filled) trivial;have t:bC.filled.blk=cH bC.filled.body:=by unfold bC.blk;rw [if_neg (by simp [bC.body])]
 have m:0<bC.filled.body.length:=by simp [bC.body]
 have l:=Bb w1;rw [t];obtain ⟨body,s⟩:=nM (bC.filled.body);rw [s] at z p m l ⊢;have b:=aE j p D;unfold cj;clear j p D t s;go_enter func158,ntmps158;go_wp2_with fail;refine l.mono ?_;clear l;rintro e w2 ⟨v,rfl,o,y⟩;have d:=b.out.1.mono y;obtain ⟨ao,c,rfl,H,I,J,K⟩:=id o;have A:body≠[]:=by intro e;rw [e] at m;simp at m
 have L:=od (n:=60) (cap:=60) (off:=4) 3 d.blk o A (by omega) (by rw [bR];omega);have f:DI w (w2.setRow (w.heap.size+1) (az (spl zb 4 body))) w.heap.size (w.heap.size+1) (spl zb 4 body):=d.set (aa.setRow (S:=λk=>k=w.heap.size+1) _ _ _ rfl) (d.blk.setRow _);obtain ⟨O,C⟩:=nM (w2.setRow (w.heap.size+1) (az (spl zb 4 body)));rw [C] at L f;have M:(spl zb 4 body).length=64:=by rw [nZ (by rw [bR];omega),bR]
 have F:=b.out.2.2.lt;have hv3:bg O:=b.out.2.2.below f.below F;have i:=au f hv3;clear d o y H I J K C f hv3 A;go_wp2_with fail;refine j9 (by kernel_rfl) i.out.1.blk M (DJ Ki b.out.2.1) i.out.2 (by omega) rfl rfl ?_;intro R vs B u x;obtain ⟨T,U,V,W,X,Y,rfl⟩:=Kh B;have g:=i.out.1.set x u;rw [yS z] at g;have h:(cH body).length=64:=by unfold cH;simp [aF];omega
 obtain ⟨sb,q⟩:=nM (cH body);rw [q] at g h;have G:=al q;have a:=al g;clear g u x B q;rename_i hK
 refine hK _ _ ?_;clear hK;simp only [Act.RR,Act.put,UW,UR,UX];go_wp2_with (first|(refine mh rfl (Z1 3) rfl (w.heap.size+1) sb rfl a.out.blk h ?_)|(refine fq rfl (Z1 2) (Z1 19) rfl w.heap.size sb zb rfl rfl a.out.res bR h ?_));have E:=a.out.res.setRow sb;refine Um (v:=.agg (az sb)) (VQ results158 _ _ w.heap.size 105 (az sb) (0,0) _ rfl E WB rfl (eV h)) rfl ?_;exact ⟨by rw [G.out],a.out.below.trans ⟨rfl,rfl,rfl,by simp [World.setRow],λk P=>(aK _ _ _).block k (by have:=a.out.res.lt;omega) (λe=>by cases e;omega)⟩⟩
theorem Bd (l:a8) (w:ZU) (j:(bC.shard l).ok) (F:bg w) :
 ZS ZO 158 #[cj (.shard l)] w λe w'=>e=Z3 (.agg (az (bC.shard l).blk))/\bW w w':=by
 have T:=zeroBlk;have o:=DI.new w;obtain ⟨w1,P⟩:=nM ((w.alloc (Z4 (az zb) 105)).alloc (Z4 (az zb) 105));rw [P] at o;have A:=jC j;have r:=me j;have u:(bC.shard l).blk=cH (bC.shard l).body:=by unfold bC.blk;rw [if_neg (by simp [bC.body])]
 have p:0<(bC.shard l).body.length:=by simp [bC.body]
 have d:=DM l w1 j;rw [u];obtain ⟨body,t⟩:=nM ((bC.shard l).body);rw [t] at A r p d ⊢;have b:=aE o r F;unfold cj;obtain ⟨ra,C⟩:=nM ((aI l).toArray);simp only [C] at d ⊢;clear o r F j u C t;go_enter func158,ntmps158;go_wp2_with fail;refine d.mono ?_;clear d;rintro e w2 ⟨v,rfl,q,z⟩;have f:=b.out.1.mono z;obtain ⟨ao,c,rfl,J,K,L,M⟩:=id q;have B:body≠[]:=by intro e;rw [e] at p;simp at p
 have N:=od (n:=60) (cap:=60) (off:=4) 3 f.blk q B (by omega) (by rw [bR];omega);have g:DI w (w2.setRow (w.heap.size+1) (az (spl zb 4 body))) w.heap.size (w.heap.size+1) (spl zb 4 body):=f.set (aa.setRow (S:=λk=>k=w.heap.size+1) _ _ _ rfl) (f.blk.setRow _);obtain ⟨Q,E⟩:=nM (w2.setRow (w.heap.size+1) (az (spl zb 4 body)));rw [E] at N g;have O:(spl zb 4 body).length=64:=by rw [nZ (by rw [bR];omega),bR]
 have H:=b.out.2.2.lt;have hv3:bg Q:=b.out.2.2.below g.below H;have m:=au g hv3;clear f q z J K L M E g hv3 B;go_wp2_with fail;refine j9 (by kernel_rfl) m.out.1.blk O (DJ Ki b.out.2.1) m.out.2 (by omega) rfl rfl ?_;intro U vs D x y;obtain ⟨V,W,X,Y,Z,x5,rfl⟩:=Kh D;have h:=m.out.1.set y x;rw [yS A] at h;have i:(cH body).length=64:=by unfold cH;simp [aF];omega
 obtain ⟨sb,s⟩:=nM (cH body);rw [s] at h i;have I:=al s;have a:=al h;clear h x y D s;rename_i hK
 refine hK _ _ ?_;clear hK;simp only [Act.RR,Act.put,UW,UR,UX];go_wp2_with (first|(refine mh rfl (Z1 3) rfl (w.heap.size+1) sb rfl a.out.blk i ?_)|(refine fq rfl (Z1 2) (Z1 19) rfl w.heap.size sb zb rfl rfl a.out.res bR i ?_));have G:=a.out.res.setRow sb;refine Um (v:=.agg (az sb)) (VQ results158 _ _ w.heap.size 105 (az sb) (0,0) _ rfl G WB rfl (eV i)) rfl ?_;exact ⟨by rw [I.out],a.out.below.trans ⟨rfl,rfl,rfl,by simp [World.setRow],λk R=>(aK _ _ _).block k (by have:=a.out.res.lt;omega) (λe=>by cases e;omega)⟩⟩
def yV:wG .filled:=λw a=>yU w a
def Be (a:(bC.shard l).ok):wG (.shard l):=λw b=>Bd l w a b
def Bh (a:∀ x∈l,x<256) (i:Nat):l.getD i 0<256:=by
 rw [T5];cases h:l[i]? with
 | none=>decide
 | some x=>exact a x (List.mem_of_getElem? h)
theorem PC (hl:l.length=64) (b:∀ x∈l,x<256):(ri l).ok:=by
 have c:∀ n,fG ((l.drop n).take 4)<4294967296:=λn=>by
  have a:=wE ((l.drop n).take 4) (by rw [Ui];omega) (λx h=>b x (US (UN h)));have d:((l.drop n).take 4).length<=4:=by rw [Ui];omega
  exact TZ a (TW (Vq (by decide) d) (by decide))
 have a:∀ n,fG [l.getD n 0]<256:=λn=>by rw [rJ _ (Bh b n)];exact Bh b n
 unfold ri;split
 . exact ⟨a _,a _,a _,O3 _,c _,c _⟩
 . split
   . trivial
   . split
     . exact ⟨by rw [Uj,hl],λx h=>b x (US h)⟩
     . trivial
def wI {r:bC} (h:r.ok):wG r:=by
 cases r with
 | blank=>exact A8
 | root D L G t f n=>exact DL h
 | filled=>exact yV
 | shard l=>exact Be h
def ofV:Option bC->ZT
 | some r=>Z0 #[cj r,Z2 ZW]
 | none=>Z0 #[.nilIface,Z2 ZV]
theorem PD (l:a8) (w:ZU) (hl:l.length=64) (n:∀ x∈l,x<256) (A:bg w) :
 ZS ZO 132 #[.agg (az l)] w λe w'=>e=Z3 (ofV (Jz l))/\bW w w':=by
 have m:=PC hl n;have z:=wI m;have k:=bJ.new w l;have h:bW w (w.alloc (Z4 (az l) 105)):=bA w _;obtain ⟨w1,B⟩:=nM (w.alloc (Z4 (az l) 105));rw [B] at k h;have d:=GS l w1 hl n;obtain ⟨r,i⟩:=nM (ri l);have y:Jz l=if r.blk=l then ZX r else ZY:=by unfold Jz;rw [i]
 rw [i] at d z m;obtain ⟨rv,j⟩:=nM (cj r);rw [j] at d;have a:=au j y;have b:=au k h;clear n k h j y i;go_enter func132,ntmps132;go_wp2_with (refine mh rfl (Z1 1) rfl w.heap.size l rfl b.out.1 hl ?_);refine d.mono ?_;rintro e w2 ⟨rfl,g⟩;have t:=b.out.1.keep (g.block _ b.out.1.lt);have p:=b.out.2.trans (g.mono b.out.2.size);have c:=au t p;clear d g t p;go_wp2_with fail;refine GV (by kernel_rfl) z m c.out.1 hl (A.below c.out.2 A.lt) rfl rfl a.out.1.symm ?_;intro C u;have s:=c.out.2.trans (u.mono c.out.2.size);have o:=al s;clear u s;rename_i hK
 by_cases q:r.blk=l
 . rw [a.out.1,q,decide_eq_true (rfl:l=l)];have f:=al q;clear q;refine hK _ _ ?_;clear hK;simp only [Act.RR,Act.put,UW,UR,UX];go_wp2;go_ret2;refine ⟨?_,o.out⟩;rw [a.out.2,if_pos f.out,<- a.out.1];rfl
 . rw [a.out.1,decide_eq_false q];obtain ⟨bl,v⟩:=nM (az r.blk);rw [v];have f:=al q;clear q v;refine hK _ _ ?_;clear hK;simp only [Act.RR,Act.put,UW,UR,UX];go_wp2;go_ret2;refine ⟨?_,o.out⟩;rw [a.out.2,if_neg f.out];rfl
section
def bk (w:ZU) (v p D L G ps ho:Nat):Prop:=w.heap[v]?=ZX (Z4 #[Z6 (ZX ⟨p,0,ZY⟩),Z7 Z9 D,Z7 Z9 L,Z7 Z9 G,Z6 (ZX ⟨ps,0,ZY⟩),Z7 Z8 ho] 137 (0,0))
def bk.keep (h:bk w v p D L G ps ho) (e:w'.heap[v]?=w.heap[v]?):bk w' v p D L G ps ho:=e.trans h
def bk.lt (h:bk w v p D L G ps ho):v<w.heap.size:=(TX.1 h).1
def bk.cells (h:bk w v p D L G ps ho):w.cell? ⟨v,0,ZY⟩=ZX (Z6 (ZX ⟨p,0,ZY⟩))/\w.cell? ⟨v,1,ZY⟩=ZX (Z7 Z9 D)/\w.cell? ⟨v,2,ZY⟩=ZX (Z7 Z9 L)/\w.cell? ⟨v,3,ZY⟩=ZX (Z7 Z9 G)/\w.cell? ⟨v,4,ZY⟩=ZX (Z6 (ZX ⟨ps,0,ZY⟩))/\w.cell? ⟨v,5,ZY⟩=ZX (Z7 Z8 ho):=by
 have a:w.heap[v]?=ZX (Z4 #[Z6 (ZX ⟨p,0,ZY⟩),Z7 Z9 D,Z7 Z9 L,Z7 Z9 G,Z6 (ZX ⟨ps,0,ZY⟩),Z7 Z8 ho] 137 (0,0)):=h;simp [World.cell?,a]
def bg.outside {S:Nat->Prop} (h:bg w) (a:aa S w w') (b:¬ S 2):bg w':=λj c=>by
 have:=h j c;rw [<- this];exact Ul (a.block _ (Ub this) b)
def aH.R7 (A:aH) (d b:Nat):Option bC:=if A.lost d=ZW then ZY else A.rd d b
def PE (w:ZU) (p d b:Nat) (A:aH) (F:aR) (e:Ending) (w':ZU):Prop:=
 aB w' p A F/\aa F.S w w'/\((∃ r,A.R7 d b=ZX r/\e=Z3 (Z0 #[cj r,.nilIface]))\/(A.R7 d b=ZY/\∃ q,e=Z3 (Z0 #[.nilIface,rk q])/\w.heap.size<=q/\fR w' q d b (if A.lost d=ZW then 11 else 12)))
variable {w:ZU} {v p D L G ps ho:Nat} {A:aH} {F:aR}
theorem qN (hV:bk w v p D L G ps ho) (h:aB w p A F) (d b:Nat) (hd:d<A.n) (hb:b<A.nb) (hv:bg w) (hg:¬ F.S 2) :
 ZS ZO 94 #[Z6 (ZX ⟨v,0,ZY⟩),Z7 Z9 d,Z7 Z9 b] w (PE w p d b A F):=by
 obtain ⟨c0,_⟩:=hV.cells;have hz:=zeroBlk;obtain ⟨R,x,j⟩:=h;have hc:=M3 x d b (by rw [j.n];exact hd) (by rw [j.nb];exact hb);have I:=(x.len d b).1;have t:=a5 (x.len d b).2 (λk (z:F.S k)=>x.RU z) hv j;have P:R.lost d=ZV->A.R7 d b=R.rd d b:=λq=>by
  rw [j.lost] at q;unfold aH.R7;rw [q,j.rd d b hd q];rfl
 have o:R.lost d=ZW\/R.bad d b=ZW->A.R7 d b=ZY:=λq=>by
  cases hl:R.lost d
  . rw [P hl];rw [hl] at q;unfold fK.rd;rw [if_pos (q.resolve_left (by decide))]
  . unfold aH.R7;rw [<- j.lost,hl];rfl
 rw [j.lost] at P o;have C:=au P o;clear hV x hv j P o;go_enter func94,ntmps94;go_wp2_with fail;refine hc.mono ?_;rintro e w1 ⟨Q,M,k9⟩;clear hc;have kb:=M.size;have N:=bJ.new w1 zb;have J:=Q.alloc (Z4 (az zb) 105);have U:aa F.S w (w1.alloc (Z4 (az zb) 105)):=M.trans (aa.alloc _ _);have E:∀ l:a8,aB ((w1.alloc (Z4 (az zb) 105)).setRow w1.heap.size (az l)) p A F/\aa F.S w ((w1.alloc (Z4 (az zb) 105)).setRow w1.heap.size (az l)):=λl=>
  ⟨⟨R,J.keep λk z=>(aK _ _ _).block k (J.RU z) (λe=>by have:=t.out.2.1 k z;cases e;omega),t.out.2.2.2⟩,U.later (T:=λk=>k=w1.heap.size) (aa.setRow _ _ _ rfl) (λk z e=>absurd e (by omega))⟩
 rw [t.out.2.2.2.lost] at k9;rcases k9 with ⟨hl,h9,rfl⟩|⟨o,q,rfl,B,W⟩
 . obtain ⟨l,hll⟩:=nM (R.blk d b);rw [hll] at I ⊢;have a:A.R7 d b=Jz l:=(by rw [C.out.1 hl];unfold fK.rd;rw [h9,hll];rfl);have c:=a6 N (E l) a hll hl;clear Q M N J U E c0 h9 a hll hl;go_wp2_with (first|(refine fq rfl (Z1 8) (Z1 20) rfl w1.heap.size l zb rfl rfl c.out.1 bR I ?_)|(refine mh rfl (Z1 8) rfl w1.heap.size l rfl (c.out.1.setRow l) I ?_));obtain ⟨m,i⟩:=c.out.2.1;obtain ⟨w3,y⟩:=nM ((w1.alloc (Z4 (az zb) 105)).setRow w1.heap.size (az l));rw [y] at m i ⊢;have ho:=PD l w3 I (by rw [<- c.out.2.2.2.1];exact t.out.1) (t.out.2.2.1.outside i hg);have g:=au m i;clear m i y;refine ho.mono ?_;rintro e s ⟨rfl,O⟩;have K:=g.out.1.below O lR;have u:aa F.S w s:=g.out.2.trans (aa.RS O _);have a:=c.out.2.2.1;cases hr:Jz l with
   | some r=>
    rw [hr] at a;have f:=aE K u a;clear ho O K u a c hr;obtain ⟨rv,X⟩:=nM (cj r);have C:=al X;unfold ofV;simp only [X];clear X;go_wp2;go_ret2;exact ⟨f.out.1,f.out.2.1,.inl ⟨r,f.out.2.2,by rw [C.out];rfl⟩⟩
   | none=>
    rw [hr] at a;obtain ⟨w5,ka⟩:=nM (s.alloc (Z4 #[Z7 Z9 d,Z7 Z9 b,Z7 Z9 12] 248));have hf:fR w5 s.heap.size d b 12:=(by rw [<- ka];exact fR.new _ _ _ _);have V:bW s w5:=(by rw [<- ka];exact bA s _);have f:=a7 (K.below V lR) (u.trans (aa.RS V _)) a hf u.size c.out.2.2.2.2;clear ho O K u a c hr V hf;unfold ofV;go_wp2;go_ret2;exact ⟨f.out.1,f.out.2.1,.inr ⟨f.out.2.2.1,_,rfl,f.out.2.2.2.2.1,by rw [f.out.2.2.2.2.2];exact f.out.2.2.2.1⟩⟩
 . have he:fR ((w1.alloc (Z4 (az zb) 105)).setRow w1.heap.size (az zb)) q d b (if A.lost d=ZW then 11 else 12):=by
    have Z:fR (w1.alloc (Z4 (az zb) 105)) q d b (if A.lost d=ZW then 11 else 12):=W.below (bA w1 _);exact ((aK _ _ _).block q Z.lt (λe=>by have:=W.lt;cases e;omega)).trans Z
   have c:=a6 N (E zb) (C.out.2 o) he B;clear Q M N J U E c0 o W he B;unfold rk;go_wp2_with (refine fq rfl (Z1 8) (Z1 20) rfl w1.heap.size zb zb rfl rfl c.out.1 bR bR ?_);obtain ⟨_,⟨m,i⟩,a,H,B⟩:=c.out;obtain ⟨w3,y⟩:=nM ((w1.alloc (Z4 (az zb) 105)).setRow w1.heap.size (az zb));rw [y] at m i H ⊢;have Y:=sI H (by split<;>decide);unfold rk at Y;have g:=a6 m i a H B;clear m i a H B y;refine Y.mono ?_;rintro e s ⟨rfl,rfl⟩;clear Y;go_wp2;go_ret2;exact ⟨g.out.1,g.out.2.1,.inr ⟨g.out.2.2.1,q,rfl,g.out.2.2.2.2,g.out.2.2.2.1⟩⟩
def yW (w:ZU) (p d b:Nat) (r:bC) (A:aH) (F:aR) (x:ZT) (w':ZU):Prop:=aB w' p (A.putAt [d] b λ_=>r) F/\aa F.S w w'/\((A.lost d=ZV/\x=.nilIface)\/(A.lost d=ZW/\∃ q,x=rk q/\fR w' q d b 11))
theorem og (m:bk w v p D L G ps ho) (h:aB w p A F) (d b:Nat) (K:d<A.n) (o:b<A.nb) (r:bC) (j:r.ok) (t:bg w) :
 ZS ZO 129 #[Z6 (ZX ⟨v,0,ZY⟩),Z7 Z9 d,Z7 Z9 b,cj r] w λe w'=>∃ x,e=Z3 x/\yW w p d b r A F x w':=by
 have k:∀ w1,bW w w1->ZS ZO 157 #[Z6 (ZX ⟨p,0,ZY⟩),Z7 Z9 d,Z7 Z9 b,.agg (az r.blk)] w1 λe w2=>∃ x,e=Z3 x/\yW w p d b r A F x w2:=λw1 a=>by
  obtain ⟨R,i,c⟩:=h;refine (JM (i.below a lR) d b (by rw [c.n];exact K) (by rw [c.nb];exact o) r.blk (Fl j) (O4 j)).mono ?_;rintro e w2 ⟨x,rfl,J,B⟩;rw [c.lost] at B;have y:=(aa.RS a _).trans J;rcases B with ⟨hl,rfl,l⟩|⟨hl,l,s⟩
  . exact ⟨_,rfl,⟨_,l,c.put d b j⟩,y,.inl ⟨hl,rfl⟩⟩
  . exact ⟨_,rfl,⟨_,l,c.TH hl b r⟩,y,.inr ⟨hl,s⟩⟩
 obtain ⟨c0,_⟩:=m.cells;have g:=wI j w.drew (t.below ((TY _ w).drew) t.lt);obtain ⟨rv,C⟩:=nM (cj r);simp only [C] at g ⊢;obtain ⟨O,z⟩:=nM (az r.blk);simp only [z] at g k;have u:∀ w',bW w w'->w'.cell? ⟨v,0,ZY⟩=ZX (Z6 (ZX ⟨p,0,ZY⟩)):=λw' o=>(o.cell (p:=⟨v,0,ZY⟩) m.lt).trans c0;have H:=au k u;clear k m C z t u h;go_enter func129,ntmps129;go_upto_region 1 with fail;go_cut [9] from 10 to 21 (λM N=>yW w p d b r A F M N)
 case first=>
  go_region_with (first
   | (go_at_call 158;refine g.mono ?_;rintro e w1 ⟨rfl,a⟩;have c1:=H.out.2 w1 (((TY _ w).drew).trans a);have E:=al (((TY _ w).drew).trans a);clear a)
   | (go_at_call 157;refine (H.out.1 w1 E.out).mono ?_;rintro e w2 ⟨x,rfl,i⟩;have f:=al i;clear i))
  all_goals (go_wp2_with fail;go_meet;case rel=>exact f.out)
 case rest=>
  have I:∀ x W,yW w p d b r A F x W->ZS ZO 131 #[x] W λe w'=>e=Z3 (Z0 #[])/\w'=W:=by
   rintro x W ⟨_,_,⟨_,rfl⟩|⟨_,q,rfl,s⟩⟩
   . exact JK _
   . exact sI s (by decide)
  have f:=al hcut;clear hcut g c0;go_wp2_with fail;refine (I _ _ f.out).mono ?_;rintro e w' ⟨rfl,rfl⟩;go_wp2;go_ret;exact ⟨_,rfl,f.out⟩
end
theorem sS (p:Addr) (w:ZU):CallsD ZO 92 #[Z6 (ZX p)] .returning w λe u' w'=>e=Z3 (Z0 #[])/\u'=.returning/\w'=w:=by
 refine callsD_of_wpS func92 rfl λa cs f=>?_;have hn:∀ w,(binOp .eql 20 .nilIface .nilIface).run ZO w=.ok (Z2 ZW) w:=λw=>by
  have b:∀ d,(Op.equalIn (d+1) 20 .nilIface .nilIface).run ZO w=.ok ZW w:=λd=>by
   simp only [Op.equalIn,Uo,UH underlying20,UE];rfl
  have c:=b 9999;simp only [binOp];simp [Op.equal,Op.maxDepth,c]
 apply wpS_seq;apply wpS_region;generalize hN:Code.wpS ZO _ _=N;simp [wpOpsS,go_sem,recoverD,f,ntmps92,Exit.thenS];rw [<- hN];clear hN;refine wpS_of_wp ?_;simp only [Va,Vb,Vc,Uk,UL,UW,UR,UX,Vd];go_wp2;cases a;simp_all [bodyPostS,results,results92]
def isErr (v:ZT):Prop:=v=.nilIface\/∃ t u,v=.iface t u
def mV (D L G:Int) (lost:Int) (reading:Bool) (regs:Int) (steps:ZT) (n o:ZT):Array ZT:=#[Z7 Z9 D,Z7 Z9 L,Z7 Z9 G,Z7 Z8 lost,Z2 reading,Z7 Z9 regs,steps,n,o]
structure pF (w:ZU) (sb:Nat) (room:Int):Prop where
 ends:w.heap[sb]?=ZX (Z4 (mV 0 0 0 0 ZV 0 (Z5 ZY 0 0) (Z6 (ZX ⟨sb,0,ZY⟩)) (Z6 (ZX ⟨sb,0,ZY⟩))) 234 (0,0))
 map:∃ n,w.heap[sb+1]?=ZX (.map #[] n)
 list:w.heap[sb+1+1]?=ZX (Z4 #[Z7 Z9 room,.map (ZX (sb+1)),Z6 (ZX ⟨sb,0,ZY⟩)] 237 (0,0))
 R4:w.heap[sb+1+1+1]?=ZX (Z4 #[Z6 (ZX ⟨sb+1+1,0,ZY⟩)] 189 (0,0))
def pF.lt (h:pF w sb room):sb+1+1+1<w.heap.size:=(TX.1 h.R4).1
def pF.keep (h:pF w sb room) (a:∀ k,sb<=k->k<=sb+1+1+1->w'.heap[k]?=w.heap[k]?):pF w' sb room:=
 ⟨(a _ (by omega) (by omega)).trans h.ends,h.map.imp λ_ q=>(a _ (by omega) (by omega)).trans q,(a _ (by omega) (by omega)).trans h.list,(a _ (by omega) (by omega)).trans h.R4⟩
def pF.below (h:pF w sb room) (a:bW w w'):pF w' sb room:=h.keep λk _ b=>a.block k (by have:=h.lt;omega)
def mW (w:ZU) (a b c:Obj):(((w.alloc a).alloc b).alloc c).heap[w.heap.size]?=ZX a/\(((w.alloc a).alloc b).alloc c).heap[w.heap.size+1]?=ZX b/\(((w.alloc a).alloc b).alloc c).heap[w.heap.size+1+1]?=ZX c:=by
 refine ⟨(Ux _ _ _ (by simp;omega)).trans ((Ux _ _ _ (by simp)).trans (Uc _ _)),(Ux _ _ _ (by simp)).trans ?_,?_⟩
 . have:=Uc (w.alloc a) b;rwa [Uq] at this
 . have:=Uc ((w.alloc a).alloc b) c;rwa [Uq,Uq] at this
structure aax (w:ZU) (sb:Nat) (room:Int):Prop where
 ends:w.heap[sb]?=ZX (Z4 (mV 0 0 0 0 ZV 0 (Z5 ZY 0 0) (Z6 (ZX ⟨sb,0,ZY⟩)) (Z6 (ZX ⟨sb,0,ZY⟩))) 234 (0,0))
 map:∃ n,w.heap[sb+1]?=ZX (.map #[] n)
 list:w.heap[sb+1+1]?=ZX (Z4 #[Z7 Z9 room,.map (ZX (sb+1)),Z6 (ZX ⟨sb,0,ZY⟩)] 237 (0,0))
theorem vu (n:Int) (w:ZU):ZS ZO 91 #[Z7 Z9 n] w λe w'=>e=Z3 (Z6 (ZX ⟨w.heap.size+1+1,0,ZY⟩))/\aax w' w.heap.size n/\w'.heap.size=w.heap.size+1+1+1/\bW w w':=by
 have i:∀ w,(Instr.makeMap 235 ZY).run ZO w=.ok (.map (ZX w.heap.size)) (w.alloc (.map #[] 0)):=λ_=>rfl;have a:∀ b c d:Obj,bW w (((w.alloc b).alloc c).alloc d):=λb c d=>((bA w _).alloc (by simp) _).alloc (by simp;omega) _;have H:=al a;clear a;go_enter func91,ntmps91;go_wp2;go_ret;obtain ⟨f,g,h⟩:=mW w (Z4 (mV 0 0 0 0 ZV 0 (Z5 ZY 0 0) (Z6 (ZX ⟨w.heap.size,0,ZY⟩)) (Z6 (ZX ⟨w.heap.size,0,ZY⟩))) 234) (.map #[] 0) (Z4 #[Z7 Z9 n,.map (ZX (w.heap.size+1)),Z6 (ZX ⟨w.heap.size,0,ZY⟩)] 237);exact ⟨rfl,⟨f,⟨0,g⟩,h⟩,by simp,H.out _ _ _⟩
theorem yX (n:Int) (w:ZU):ZS ZO 62 #[Z7 Z9 n] w λe w'=>∃ b,e=Z3 (Z6 (ZX ⟨b+1+1+1,0,ZY⟩))/\w.heap.size<=b/\pF w' b n/\bW w w':=by
 go_enter func62,ntmps62;go_wp2_with fail;refine (vu n w).mono ?_;rintro e w1 ⟨rfl,a,d,c⟩;have H:=aE c a d;have g:=c.size;clear c a d;go_wp2;go_ret;obtain ⟨c,a,d⟩:=H.out;have f:bW w1 (w1.alloc (Z4 #[Z6 (ZX ⟨w.heap.size+1+1,0,ZY⟩)] 189)):=bA w1 _;refine ⟨w.heap.size,by rw [d];rfl,TV _,⟨(f.block _ (by omega)).trans a.ends,a.map.imp λ_ q=>(f.block _ (by omega)).trans q,(f.block _ (by omega)).trans a.list,?_⟩,c.trans (f.mono g)⟩;have:=Uc w1 (Z4 #[Z6 (ZX ⟨w.heap.size+1+1,0,ZY⟩)] 189);rwa [d] at this
theorem DN (p D L G:Nat) (n:Int) (w:ZU):ZS ZO 46 #[Z6 (ZX ⟨p,0,ZY⟩),.agg #[Z7 Z9 D,Z7 Z9 L,Z7 Z9 G],Z7 Z9 n] w λe w'=>∃ v b,e=Z3 (Z6 (ZX ⟨v,0,ZY⟩))/\w.heap.size<=v/\bk w' v p D L G (b+1+1+1) 0/\(w.heap.size<=b/\b+1+1+1<v/\pF w' b n)/\bW w w':=by
 obtain ⟨w1,l⟩:=nM (w.alloc (Z4 #[Z7 Z9 (D:Int),Z7 Z9 (L:Int),Z7 Z9 (G:Int)] 26));have d:w1.heap[w.heap.size]?=ZX (Z4 #[Z7 Z9 (D:Int),Z7 Z9 (L:Int),Z7 Z9 (G:Int)] 26 (0,0)):=by rw [<- l];exact Uc w (Z4 #[Z7 Z9 (D:Int),Z7 Z9 (L:Int),Z7 Z9 (G:Int)] 26)
 have k:bW w w1:=by rw [<- l];exact bA w _
 have c0:w1.cell? ⟨w.heap.size,0,ZY⟩=ZX (Z7 Z9 (D:Int)):=by simp [World.cell?,d]
 have c1:w1.cell? ⟨w.heap.size,1,ZY⟩=ZX (Z7 Z9 (L:Int)):=by simp [World.cell?,d]
 have o:w1.cell? ⟨w.heap.size,2,ZY⟩=ZX (Z7 Z9 (G:Int)):=by simp [World.cell?,d]
 have H:=au d k;clear d k;go_enter func46,ntmps46;go_wp2_with fail;go_region_with (go_at_call 62;refine (yX n _).mono ?_;rintro e w2 ⟨b,rfl,g,c,a⟩;have f:=(a.block _ (TX.1 H.out.1).1).trans H.out.1;have q:w2.cell? ⟨w.heap.size,0,ZY⟩=ZX (Z7 Z9 (D:Int)):=(by simp [World.cell?,f]);have d1:w2.cell? ⟨w.heap.size,1,ZY⟩=ZX (Z7 Z9 (L:Int)):=(by simp [World.cell?,f]);have r:w2.cell? ⟨w.heap.size,2,ZY⟩=ZX (Z7 Z9 (G:Int)):=(by simp [World.cell?,f]);have m:=aE g c a;clear g c a f);all_goals (
  go_wp2;go_ret;obtain ⟨g,c,a⟩:=m.out;have h:=H.out.2.size;have s:w1.heap.size<=w2.heap.size:=a.size;have j:=(TY _ w2).alloc lR (Z4 #[Z6 (ZX ⟨p,0,ZY⟩),Z7 Z9 D,Z7 Z9 L,Z7 Z9 G,Z6 (ZX ⟨b+1+1+1,0,ZY⟩),Z7 Z8 0] 137);have i:bW w w2:=H.out.2.drew.trans (a.mono h);exact ⟨_,b,rfl,by omega,Uc _ _,⟨TW h g,c.lt,c.below j⟩,i.trans (j.mono i.size)⟩)
def nr (v D L G t f n:Nat) (pg ob:ZT) (off:Bool):Array ZT:=#[Z6 (ZX ⟨v,0,ZY⟩),Z7 Z9 D,Z7 Z9 L,Z7 Z9 G,Z7 Z8 t,Z7 Z9 f,Z7 Z9 n,pg,ob,Z2 off]
def bh (w:ZU) (a v D L G t f n:Nat) (pg ob:ZT) (off:Bool):Prop:=w.heap[a]?=ZX (Z4 (nr v D L G t f n pg ob off) 115 (0,0))
def mX (v:ZT):Prop:=v=.nilIface\/∃ n:Int,n≠13/\v=.iface 58 (Z7 Z9 n)
def mX.isErr {v:ZT} (h:mX v):isErr v:=by
 rcases h with h|⟨n,_,h⟩
 . exact .inl h
 . exact .inr ⟨_,_,h⟩
def bh.cells {a:Nat} {off:Bool} (h:bh w a v D L G t f n pg ob off):w.cell? ⟨a,0,ZY⟩=ZX (Z6 (ZX ⟨v,0,ZY⟩))/\w.cell? ⟨a,4,ZY⟩=ZX (Z7 Z8 t)/\w.cell? ⟨a,6,ZY⟩=ZX (Z7 Z9 n)/\w.cell? ⟨a,7,ZY⟩=ZX pg/\w.cell? ⟨a,8,ZY⟩=ZX ob:=by
 have b:w.heap[a]?=ZX (Z4 (nr v D L G t f n pg ob off) 115 (0,0)):=h;simp [World.cell?,b,nr]
def bh.keep {off:Bool} (h:bh w ar v D' L' G' t' f' n' pg ob off) (e:w'.heap[ar]?=w.heap[ar]?):bh w' ar v D' L' G' t' f' n' pg ob off:=Xf e h
def bh.lt {off:Bool} (h:bh w ar v D' L' G' t' f' n' pg ob off):ar<w.heap.size:=(TX.1 h).1
theorem kl (h:bk w v p D L G ps ho):ZS ZO 67 #[Z6 (ZX ⟨v,0,ZY⟩)] w λe w'=>e=Z3 (.agg #[Z7 Z9 D,Z7 Z9 L,Z7 Z9 G])/\bW w w'/\w'.heap.size=w.heap.size+1/\w'.heap[w.heap.size]?=ZX (Z4 #[Z7 Z9 D,Z7 Z9 L,Z7 Z9 G] 26 (0,0)):=by
 have o:=h.lt;have f:bk (w.alloc (Z4 #[Z7 Z9 0,Z7 Z9 0,Z7 Z9 0] 26)) v p D L G ps ho:=h.keep (Ux _ _ _ o);obtain ⟨c0,c1,l,m,n⟩:=f.cells;have c:bW w (w.alloc (Z4 #[Z7 Z9 0,Z7 Z9 0,Z7 Z9 0] 26)):=bA w _;have a:=Uc w (Z4 #[Z7 Z9 0,Z7 Z9 0,Z7 Z9 0] 26);obtain ⟨w1,d⟩:=nM (w.alloc (Z4 #[Z7 Z9 0,Z7 Z9 0,Z7 Z9 0] 26));rw [d] at c0 c1 l m n c a;have t:w1.cell? ⟨w.heap.size,0,ZY⟩=ZX (Z7 Z9 0):=by simp [World.cell?,a]
 have u:w1.cell? ⟨w.heap.size,1,ZY⟩=ZX (Z7 Z9 0):=by simp [World.cell?,a]
 have x:w1.cell? ⟨w.heap.size,2,ZY⟩=ZX (Z7 Z9 0):=by simp [World.cell?,a]
 have b:∀ k,w1.frozen? ⟨w.heap.size,k,ZY⟩=ZV:=λk=>by simp [World.frozen?,a]
 have q:=b 0;have r:=b 1;have s:=b 2;have g:w1.heap.size=w.heap.size+1:=by rw [<- d];simp
 have H:=aE c a g;clear f c a b h g;go_enter func67,ntmps67;go_wp2;have i:=ai (j:=2) (ai (j:=1) (ai (j:=0) H.out.2.1 (Z7 Z9 (D:Int))) (Z7 Z9 (L:Int))) (Z7 Z9 (G:Int));refine Um (v:=.agg #[Z7 Z9 D,Z7 Z9 L,Z7 Z9 G]) (VQ results67 _ _ w.heap.size 26 #[Z7 Z9 (D:Int),Z7 Z9 (L:Int),Z7 Z9 (G:Int)] (0,0) _ rfl i underlying26 rfl (by kernel_rfl)) rfl ?_;exact ⟨rfl,((H.out.1.setCell (p:=⟨w.heap.size,0,ZY⟩) lR _).setCell (p:=⟨w.heap.size,1,ZY⟩) lR _).setCell (p:=⟨w.heap.size,2,ZY⟩) lR _,by simp [World.setCell,H.out.2.2],i⟩
def vv (h:bk w v p D L G ps ho):ZS ZO 67 #[Z6 (ZX ⟨v,0,ZY⟩)] w λe w'=>e=Z3 (.agg #[Z7 Z9 D,Z7 Z9 L,Z7 Z9 G])/\bW w w':=(kl h).mono λ_ _ q=>⟨q.1,q.2.1⟩
theorem dA (h:bk w v p D L G ps ho) (f:D<=1000):ZS ZO 81 #[Z6 (ZX ⟨v,0,ZY⟩)] w λe w'=>e=Z3 (Z7 Z9 ((D*44:Nat):Int))/\w'=w:=by
 obtain ⟨c0,c1,b,c,d⟩:=h.cells;have a:((D*44:Nat):Int)=(D:Int)*44:=by omega
 rw [a];go_enter func81,ntmps81;go_wp2;go_ret;exact ⟨rfl,rfl⟩
theorem kt {a:Nat} {off:Bool} (d:bh w a v D' L' G' t f n pg ob off) (h:bk w v p D L G ps ho) (i:1<=D) (c:D<=1000):ZS ZO 120 #[Z6 (ZX ⟨a,0,ZY⟩)] w λe w'=>e=Z3 (Z7 Z9 ((D*44-4:Nat):Int))/\w'=w:=by
 obtain ⟨c0,_⟩:=d.cells;have b:((D*44-4:Nat):Int)=((D*44:Nat):Int)-4:=by omega
 rw [b];have g:=dA h c;have b1:D*44<=44000:=by omega
 generalize D*44=q at *;go_enter func120,ntmps120;go_wp2_with fail;refine g.mono ?_;rintro e w' ⟨rfl,rfl⟩;go_wp2;go_ret;exact ⟨rfl,rfl⟩
theorem length_nil (w:ZU):ZS ZO 85 #[Z5 ZY 0 0] w λe w'=>e=Z3 (Z7 Z9 0)/\w'=w:=by
 go_enter func85,ntmps85;go_wp2;refine VV 1 ?_;rw [Vg];go_wp2;go_ret;exact ⟨rfl,rfl⟩
section
attribute [local go_sem] Oper.semAt_some
def GY {m m':Nat} {l:Nat} {args:Array ZT} (h:YieldAt Fence.wide m P l args w R):YieldAt Fence.wide m' P l args w R:=by
 obtain ⟨fn,tmps,assign,body,a,b⟩:=h;exact ⟨fn,tmps,assign,body,a,wA b⟩
theorem lF (ao:Option Addr) (m c:Nat) (w:ZU) :
 ZS ZO 124 #[.slice ao m c] w λe w'=>e=Z3 (.func (.func 152) #[] #[Z6 (ZX ⟨w.heap.size,0,ZY⟩)])/\w'=w.alloc (Z4 #[.slice ao m c] 113):=by
 go_enter func124,ntmps124;go_wp2;go_ret;exact ⟨rfl,rfl⟩
theorem sU (ar:Nat) (w:ZU) :
 ZS ZO 87 #[Z6 (ZX ⟨ar,0,ZY⟩)] w λe w'=>e=Z3 (.func (.func 123) #[] #[Z6 (ZX ⟨w.heap.size,0,ZY⟩)])/\w'=w.alloc (Z4 #[Z6 (ZX ⟨ar,0,ZY⟩)] 86):=by
 go_enter func87,ntmps87;go_wp2;go_ret;exact ⟨rfl,rfl⟩
theorem sV (K:Nat->Prop) (n l b1 ar:Nat) (v D L G t f nn:Nat) (pg ob:ZT) (off:Bool) (P:a8) (os:List Ob) (hx:K b1) (hv:K ar) (J M:a8->ZU->Prop) (hq:∀ pre A B,J pre A->bW A B->J pre B)
 (hY:∀ pre x W,J pre W->pre++[x]<+:P++ak os->YieldAt Fence.wide (n-1) ZO l (pB x) W λe j=>(e=Z3 (Z2 ZW)/\J (pre++[x]) j/\eB K W j)\/(e=Z3 (Z2 ZV)/\M (pre++[x]) j))
 (W:ZU) (a:ZP W b1 86 (Z6 (ZX ⟨ar,0,ZY⟩))) (g:bh W ar v D L G t f nn pg ob off) (u:br K W pg P) (s:eY K W ob os) (w:J [] W) :
 CallsIn Fence.wide n ZO 123 #[.func (.yield l) #[] #[],Z6 (ZX ⟨b1,0,ZY⟩)] W λe j=>(∃ v,e=Z3 v) /\
  ((∃ ys,ys=P++ak os/\J ys j)\/(∃ pre,pre<+:P++ak os/\M pre j)):=by
 obtain ⟨ao,c,rfl,k5,z⟩:=id u;obtain ⟨c0,_,_,c7,U⟩:=g.cells;have V:=a.cell;refine WX func123 rfl trivial ?_ rfl;simp only [ntmps123,UF,Uv,UQ,YF,YG,Va,Vb,Vc,Vd,Uk,UL];have H:=a6 a g u s w;clear a g u s w z;gi_wp2;gi_loopw [10] (λp wr=>∃ k:Nat,p=Z7 Z9 (k:Nat)/\k<=P.length/\J (P.take k) wr/\eB K W wr)
  (λp _=>P.length-(intOf p).toNat)
 case atStart=>
  exact ⟨0,rfl,T9 _,H.out.2.2.2.2,eB.refl _ _⟩
 case round=>
  clear c0 c7 U V;obtain ⟨k,rfl,hk,m,d⟩:=hrel;by_cases r:k<P.length
  . obtain ⟨hb,c',X,_,z⟩:=H.out.2.2.1.keep d;obtain ⟨b,bo,e2,hz,k7,hs⟩:=z (λe=>by rw [e] at r;simp at r);simp only [Vt] at X;obtain ⟨rfl,_,rfl⟩:=X;subst e2;have g1:=hs k r;obtain ⟨y,F⟩:=nM (P[k]);rw [F] at g1;obtain ⟨fn,tmps,assign,body,k6,hR⟩:=hY _ y _ m (by
     have a:=(YK (k+1) P).trans (Xw P (ak os));rwa [U6,Ua r,F] at a)
    unfold pB at k6;have I:=a5 m d hR F;clear m d hR z hs F;gi_wp2;refine ⟨λh=>(by cases h),I.out.2.2.1.mono ?_⟩;have C:P.take k++[y]=P.take (k+1):=(by rw [U6,Ua r,I.out.2.2.2];rfl);rintro e W3 (⟨rfl,R,hr⟩|⟨rfl,O⟩)
    . rw [C] at R;have i:=au R (I.out.2.1.trans hr);clear R hr C;gi_wp2;go_roundw
      case rel=>exact ⟨k+1,by go_num,by omega,i.out.1,i.out.2⟩
      case measure=>simp only [intOf];omega
    . rw [C] at O;have i:=al O;clear O C;gi_wp2;refine Um (Xj rfl _ _ _) rfl ?_;exact ⟨⟨_,rfl⟩,.inr ⟨_,(YK (k+1) P).trans (Xw _ _),i.out⟩⟩
  . have k0:k=P.length:=(by omega);subst k0;rw [VC] at m;obtain ⟨a,g,u,s,w⟩:=H.out;have hg:ZP wr b1 86 (Z6 (ZX ⟨ar,0,ZY⟩)):=(d.2 _ a.lt hx).trans a;have hh:=g.keep (d.2 _ g.lt hv);have Q:=s.keep d;obtain ⟨_,_,_,_,U⟩:=hh.cells;have V:=hg.cell;obtain ⟨q,o,rfl,hol,_⟩:=id Q;have T:=aE m d Q;clear m d a g u s w hg hh Q;gi_wp2;refine cV (lF q os.length o wr) ?_;rintro e w2 ⟨rfl,rfl⟩;have E:bW wr (wr.alloc (Z4 #[.slice q os.length o] 113)):=bA wr _;have N:(wr.alloc (Z4 #[.slice q os.length o] 113)).cell? ⟨wr.heap.size,0,ZY⟩=ZX (.slice q os.length o):=(UA wr _ _).cell;obtain ⟨w2,S⟩:=nM (wr.alloc (Z4 #[.slice q os.length o] 113));rw [S] at E N;have hm:=hq _ _ _ T.out.1 E;have hi:=T.out.2.2.keep (eB.RT E);have Y:=lC K (n-1) l wr.heap.size (.slice q os.length o) os J M hq (P++ak os) (λpre x W1 hj hp=>GY (hY pre x W1 hj hp)) P (Yf _) w2 N hi hm;have H2:=al Y;clear E N hm hi Y;rw [S];clear S;gi_wp2;refine ⟨trivial,λh=>(by cases h),H2.out.mono ?_⟩;rintro e W3 ⟨⟨x,rfl⟩,Z⟩;have i:=al Z;clear Z;gi_wp2;go_end0
    refine ⟨⟨_,rfl⟩,?_⟩;rcases i.out with h|⟨pre,a,h2⟩
    . exact .inl ⟨_,rfl,h⟩
    . exact .inr ⟨_,(aa3 _).2 a,h2⟩
def pG (K:Nat->Prop) (n b1 ar v D L G t f g:Nat) (pg ob:ZT) (off:Bool) (P:a8) (os:List Ob) (o:K b1) (m:K ar) (w:ZU) (c:ZP w b1 86 (Z6 (ZX ⟨ar,0,ZY⟩))) (d:bh w ar v D L G t f g pg ob off) (s:br K w pg P) (p:eY K w ob os) :
 SeqStopsK Fence.wide n ZO 123 #[Z6 (ZX ⟨b1,0,ZY⟩)] pB (eB K) (λC=>C=P++ak os) (λpre=>pre<+:P++ak os) (P++ak os).length w:=λl J i W b q _ u j=>
 sV K n l b1 ar v D L G t f g pg ob off P os o m J i (λpre A B h a=>q pre A B ZY h ⟨a.os,a.tape,a.output,a.size,λk y _=>a.block k y⟩ (λr e=>by cases e)) (λpre x W h z=>u pre x W h (OI z)) W
  ((b.block _ c.lt).trans c) (d.keep (b.block _ d.lt)) (s.keep (eB.RT b)) (p.keep (eB.RT b)) j
end
section
variable {w:ZU} {p:Nat} {A:aH} {F:aR}
theorem DO (h:aB w p A F):ZS ZO 45 #[Z6 (ZX ⟨p,0,ZY⟩)] w λe w'=>e=Z3 (Z7 Z9 A.n)/\w'=w:=by
 obtain ⟨R,a,b⟩:=h;obtain ⟨c0,c1⟩:=a.RX;rw [b.n] at c0;go_enter func45,ntmps45;go_wp2;go_ret;exact ⟨rfl,rfl⟩
theorem ku {R:fK} (h:ah w p R F) (hn:0<R.n):ZS ZO 42 #[Z6 (ZX ⟨p,0,ZY⟩)] w λe w'=>e=Z3 (Z7 Z9 R.nb)/\w'=w:=by
 obtain ⟨c0,c1⟩:=h.RX;obtain ⟨a,d1,b,c⟩:=h.Sd 0 hn;rw [Yi,Ue] at d1;go_enter func42,ntmps42;go_wp2;go_ret;exact ⟨rfl,rfl⟩
def sW (h:aB w p A F) (hn:0<A.n):ZS ZO 42 #[Z6 (ZX ⟨p,0,ZY⟩)] w λe w'=>e=Z3 (Z7 Z9 A.nb)/\w'=w:=by
 obtain ⟨R,b,a⟩:=h;rw [<- a.nb];exact ku b (by rw [a.n];exact hn)
end
theorem sX (n m:Nat) (hn:n<=5000000000) (c:1<=m/\m<=1000000) (w:ZU):ZS ZO 119 #[Z7 Z9 n,Z7 Z9 m] w λe w'=>e=Z3 (Z7 Z9 (((n+m-1)/m:Nat):Int))/\w'=w:=by
 obtain ⟨f,g⟩:=c;have a:(((n+m-1)/m:Nat):Int)=((n:Int)+m-1)/(m:Int):=by rw [Ye,show ((n+m-1:Nat):Int)=(n:Int)+m-1 by omega]
 have d:Int.tdiv ((n:Int)+m-1) (m:Int)=((n:Int)+m-1)/(m:Int):=Xk (by omega);have b:wrap64 (((n:Int)+m-1)/(m:Int))=((n:Int)+m-1)/(m:Int):=by rw [<- a];exact sC (TW (V2 _ _) (by omega))
 rw [a];go_enter func119,ntmps119;go_wp2;go_ret;exact ⟨congrArg (λx=>Ending.returned (Z7 Z9 x)) b,rfl⟩
def pgs (D m:Nat):Nat:=max 1 ((m+(D*44-4)-1)/(D*44-4))
theorem jc {a:Nat} {off:Bool} (r:bh w a v D' L' G' t f n pg ob off) (h:bk w v p D L G ps ho) (l:1<=D) (o:D<=1000) (m:Nat) (s:m<=5000000000):ZS ZO 84 #[Z6 (ZX ⟨a,0,ZY⟩),Z7 Z9 m] w λe w'=>e=Z3 (Z7 Z9 (pgs D m:Nat))/\w'=w:=by
 have c:=sX m (D*44-4) s ⟨by omega,by omega⟩ w;obtain ⟨q,d⟩:=nM ((m+(D*44-4)-1)/(D*44-4));rw [d] at c;have i:pgs D m=max 1 q:=by unfold pgs;rw [d]
 rw [i];have u:∀ b k w,(Builtin.max_ b k #[Z7 Z9 1,Z7 Z9 (q:Nat)]).run ZO w=.ok (Z7 Z9 ((max 1 q:Nat):Int)) w:=λb k w=>by
  rw [lB];by_cases g:(q:Int)>1
  . rw [if_pos g,Nat.max_eq_right (by omega)]
  . rw [if_neg g,Nat.max_eq_left (by omega)];rfl
 have j:=kt r h l o;have H:=au c j;clear c j i d;go_enter func84,ntmps84;go_wp2_with fail;refine H.out.2.mono ?_;rintro e w' ⟨rfl,rfl⟩;generalize ((D*44-4:Nat):Int)=x at *;go_wp2_with fail;refine H.out.1.mono ?_;rintro e w' ⟨rfl,rfl⟩;go_wp2;go_ret;exact ⟨rfl,rfl⟩
theorem jq {A:aH} (c:bk w v p D L G ps ho) (h:aB w p A F) (hn:0<A.n):ZS ZO 142 #[Z6 (ZX ⟨v,0,ZY⟩)] w λe w'=>e=Z3 (Z7 Z9 A.nb)/\w'=w:=by
 obtain ⟨c0,_⟩:=c.cells;have d:=h.SC.2;have a:=sW h hn;obtain ⟨nb,b⟩:=nM (A.nb);rw [b] at a d ⊢;clear h hn b;go_enter func142,ntmps142;go_wp2_with fail;refine a.mono ?_;rintro e w' ⟨rfl,rfl⟩;go_wp2;go_ret;exact ⟨rfl,rfl⟩
section
attribute [local go_sem] Oper.semAt_some
abbrev Mb (s:Nat):={ x:Nat // x<16/\s.testBit x=ZW }
def wJ {s:Nat} (x:Mb s):Array ZT:=#[Z7 Z9 (x.1:Int)]
def dm {s:Nat} (pre:List (Mb s)):a8:=pre.map (·.1)
def dV {s:Nat} (pre:List (Mb s)) (x:Mb s):dm (pre++[x])=dm pre++[x.1]:=by unfold dm;simp
def oh (h:n<=16):ab (2^n-1)=YD n:=by
 have:∀ k:Fin 17,ab (2^k.1-1)=YD k.1:=by decide
 exact this ⟨n,by omega⟩
theorem Bi (n:Nat) (l Bs s:Nat) (A:s<65536) (J g:List (Mb s)->ZU->Prop)
 (y:∀ pre x W,J pre W->pre.length<(ab s).length->YieldAt Fence.wide (n-1) ZO l (wJ x) W λe c=>
  (e=Z3 (Z2 ZW)/\J (pre++[x]) c/\(aG W->aG c))\/(e=Z3 (Z2 ZV)/\g (pre++[x]) c))
 (W:ZU) (E:W.cell? ⟨Bs,0,ZY⟩=ZX (Z7 Z8 s)) (w:aG W) (m:J [] W) :
 CallsIn Fence.wide n ZO 155 #[.func (.yield l) #[] #[],Z6 (ZX ⟨Bs,0,ZY⟩)] W λe c=>(∃ v,e=Z3 v) /\
  ((∃ k,k.map (·.1)=ab s/\J k c)\/(∃ pre,pre.map (·.1)<+:ab s/\g pre c)):=by
 refine WX func155 rfl trivial ?_ rfl;simp only [ntmps155,UF,Uv,UQ,YF,YG,Va,Vb,Vc,Vd,Uk,UL];gi_wp2;gi_loopw [3] (λp wr=>∃ (pre:List (Mb s)) (q:Nat),p=Z7 Z8 q/\q<65536/\ab s=pre.map (·.1)++ab q/\J pre wr/\aG wr)
  (λp _=>(intOf p).toNat)
 case atStart=>
  exact ⟨[],s,rfl,A,rfl,m,w⟩
 case round=>
  obtain ⟨pre,q,rfl,b,d,i,j⟩:=hrel;by_cases a:q=0
  . subst a;gi_wp2;go_end0
    exact ⟨⟨_,rfl⟩,.inl ⟨pre,by rw [d,wt,Wg],i⟩⟩
  . have D:((q:Int) != 0)=ZW:=(by simp;omega);have f:nT q<16/\s.testBit (nT q)=ZW:=cO.1 (by rw [d,iH a b];simp);obtain ⟨fn,tmps,assign,body,B,u⟩:=y pre ⟨nT q,f⟩ wr i (by rw [d,iH a b];simp);unfold wJ at B;gi_wp2;refine cV (JN q a b wr j) ?_;rintro e w' ⟨rfl,rfl⟩;gi_wp2;refine ⟨λh=>(by cases h),u.mono ?_⟩;rintro e C (⟨rfl,r,t⟩|⟨rfl,o⟩)
    . have F:IntKind.u64.wrap ((q:Int)-1)=((q-1:Nat):Int):=(by rw [U5];omega);have z:=gk q (q-1) (by omega) (by omega);rw [Ft a b] at z;gi_wp2;go_roundw
      case rel=>exact ⟨pre++[⟨nT q,f⟩],bH q (nT q),rfl,pA _ _ b,by rw [d,iH a b];simp,r,t j⟩
      case measure=>have:=nU a b;simp only [intOf];omega
    . gi_wp2;refine Um (Xj rfl _ _ _) rfl ?_;exact ⟨⟨_,rfl⟩,.inr ⟨pre++[⟨nT q,f⟩],by rw [d,iH a b];simp,o⟩⟩
def nt (n Bs s:Nat) (h:s<65536) (w:ZU) (d:Bs<w.heap.size) (g:w.cell? ⟨Bs,0,ZY⟩=ZX (Z7 Z8 s)) (j:3<=w.heap.size) (e:aG w) :
 SeqStopsK Fence.wide n ZO 155 #[Z6 (ZX ⟨Bs,0,ZY⟩)] (wJ (s:=s)) Fv (λi=>i.map (·.1)=ab s) (λpre=>pre.map (·.1)<+:ab s) (ab s).length w:=λl J b W a _ _ f c=>
 Bi n l Bs s h J b f W ((a.cell (p:=⟨Bs,0,ZY⟩) d).trans g) (e.mono (by omega) a) c
end
section
attribute [local go_sem] Oper.semAt_some
def aG.keep (h:aG w) (e:w'.heap[1]?=w.heap[1]?):aG w':=λj a=>by
 rw [<- h j a];unfold World.cell?;rw [e]
def aG.lt (h:aG w):1<w.heap.size:=Ub (h 0 (by decide))
def bg.keep (h:bg w) (e:w'.heap[2]?=w.heap[2]?):bg w':=λj a=>by
 rw [<- h j a];unfold World.cell?;rw [e]
structure yY (D L G:Nat):Prop where
 r:eF D L G=ZW
 d1:1<=D
 d:D<=12
 l1:1<=L
 l4:L<=4
 g:G<=4
 div:D%L=0
 s:D+L+G<=16
structure pH (w:ZU) (v p D L G ps ho:Nat) (A:aH) (F:aR):Prop where
 vol:bk w v p D L G ps ho
 arr:aB w p A F
 laid:bg w
 tab:aG w
 room:3<=w.heap.size
 v:¬ F.S v
 g:¬ F.S 2
 t:¬ F.S 1
 n:A.n=D+L+G
 par:yY D L G
def pH.below {A:aH} (h:pH w v p D L G ps ho A F) {B:Nat} (a:Below B w w') (b:w.heap.size<=B):pH w' v p D L G ps ho A F:=
 ⟨h.vol.keep (a.block _ (TZ h.vol.lt b)),h.arr.below a b,h.laid.below a (TZ h.laid.lt b),h.tab.keep (a.block _ (TZ h.tab.lt b)),TW h.room a.size,h.v,h.g,h.t,h.n,h.par⟩
def pH.turn {A A':aH} (h:pH w v p D L G ps ho A F) (a:aa F.S w w') (b:aB w' p A' F) (hn:A'.n=A.n):pH w' v p D L G ps ho A' F:=
 ⟨h.vol.keep (a.block _ h.vol.lt h.v),b,h.laid.keep (a.block _ h.laid.lt h.g),h.tab.keep (a.block _ h.tab.lt h.t),TW h.room a.size,h.v,h.g,h.t,hn.trans h.n,h.par⟩
def Kl {t8:Nat} {ty:ZQ} (e:fn.results=#[.cell t8 ty]) (c:a.defers=[{ target:=.collected D',args:=#[] }]) (h8:a.tmps.getD t8 ZZ=Z6 (ZX ⟨b,0,ZY⟩))
 (hl:∀ w,w.heap[b]?=Z.heap[b]?->(loadVar ty ⟨b,0,ZY⟩).run ZO w=.ok x w) (hK:Z.heap[D']?=ZX (.deferred (ZX []))) (hD:b≠D')
 (hR:R (Z3 x) (Z.putObj D' (.deferred ZY))):bodyPostM Fence.wide n ZO fn R .ret a Z:=by
 obtain ⟨f,g⟩:=a;simp only at c h8;subst c;refine ⟨by simp,.inl ⟨_,_,rfl,Wt hK,?_⟩⟩;have c0:=hl (Z.putObj D' (.deferred ZY)) (UV hD);refine ⟨x,?_,hR⟩;have d:f[t8]?.getD ZZ=Z6 (ZX ⟨b,0,ZY⟩):=by simpa using h8
 simp [results,e,asAddr,d,c0]
theorem Km {s:Nat} (h:ZP Z b 131 (Z7 Z8 s)) (w:ZU) (e:w.heap[b]?=Z.heap[b]?):(loadVar 131 ⟨b,0,ZY⟩).run ZO w=.ok (Z7 Z8 s) w:=by
 have a:w.cell? ⟨b,0,ZY⟩=ZX (Z7 Z8 s):=(show ZP w b 131 (Z7 Z8 s) from e.trans h).cell;simp [go_sem,a]
end
def FB (h:k<64):2^k<18446744073709551616:=TZ (V0 (by decide) h) lR
theorem gA (x k:Nat) (c:x<18446744073709551616) (d:k<=60) (w:ZU):ZS ZO 101 #[Z7 Z8 x,Z7 Z9 k] w λe w'=>e=Z3 (Z7 Z8 ((x|||2^k:Nat):Int))/\w'=w:=by
 have key:bits .or .u64 (x:Int) (IntKind.u64.wrap (2^k))=((x|||2^k:Nat):Int):=by
  have b:=FB (k:=k) (by omega);have e:((2:Int)^k)=((2^k:Nat):Int):=by rw [XH];rfl
  have a:IntKind.u64.wrap (2^k)=((2^k:Nat):Int):=by
   rw [e,U5];generalize 2^k=q at *;omega
  rw [a];exact aaX x (2^k) c b
 go_enter func101,ntmps101;go_wp2;go_ret;exact ⟨rfl,rfl⟩
section
attribute [local go_sem] Oper.semAt_some
def gW (f:Nat->Bool) (ds:a8):Nat:=ds.foldl (λs d=>if f d=ZW then s|||2^d else s) 0
def nu {f:Nat->Bool} (ds:a8) {d:Nat} (h:f d=ZV):gW f (ds++[d])=gW f ds:=by unfold gW;rw [V9];simp [h]
def rQ {f:Nat->Bool} (ds:a8) {d:Nat} (h:f d=ZW):gW f (ds++[d])=gW f ds|||2^d:=by unfold gW;rw [V9];simp [h]
theorem pI (q:Nat->Bool) (l:a8) (h:∀ d∈l,d<N):gW q l<2^N:=by
 unfold gW;suffices ∀ (l:a8) (s:Nat),(∀ d∈l,d<N)->s<2^N->l.foldl (λs d=>if q d=ZW then s|||2^d else s) s<2^N from this l 0 h (Nat.pow_pos (by decide))
 intro l;induction l with
 | nil=>intro s _ a;exact a
 | cons d l ih=>
  intro s b a;refine ih _ (λx c=>b x (by simp [c])) ?_;show (if q d=ZW then s|||2^d else s)<2^N;split
  . exact Wu a (V0 (by decide) (b d (by simp)))
  . exact a
def sY (f:Nat->Bool) (ds:a8) (h:∀ d∈ds,d<16):gW f ds<65536:=pI (N:=16) f ds h
def sZ {f:Nat->Bool} (h:∀ i,f i=ZV):∀ ds,gW f ds=0:=λds=>by
 unfold gW;induction ds with
 | nil=>rfl
 | cons d l ih=>rw [Wy,h d];exact ih
def td (w:ZU) (b c f h:ZQ) (d e g i:ZT):∃ a,(((w.alloc (Z4 #[d] b)).alloc (Z4 #[e] c)).alloc (Z4 #[g] f)).alloc (Z4 #[i] h)=a/\(ZP a w.heap.size b d/\ZP a (w.heap.size+1) c e/\ZP a (w.heap.size+1+1) f g/\ZP a (w.heap.size+1+1+1) h i)/\a.heap.size=w.heap.size+4/\bW w a:=by
 have j:=UA (w.alloc (Z4 #[d] b)) c e;have k:=UA ((w.alloc (Z4 #[d] b)).alloc (Z4 #[e] c)) f g;have l:=UA (((w.alloc (Z4 #[d] b)).alloc (Z4 #[e] c)).alloc (Z4 #[g] f)) h i;simp only [Uq] at j k l;exact ⟨_,rfl,⟨(((UA w _ _).alloc _).alloc _).alloc _,(j.alloc _).alloc _,k.alloc _,l⟩,by simp,(((bA w _).alloc (by simp) _).alloc (by simp;omega) _).alloc (by simp;omega) _⟩
structure GZ (w:ZU) (v p b:Nat) (T:ZQ) (u:ZT) (f:Nat->bC) (A:aH) (F:aR) (B S:Nat) (pre:List (Mb S)) (X:ZU):Prop where
 b0:ZP X w.heap.size 107 (Z6 (ZX ⟨v,0,ZY⟩))
 b1:ZP X (w.heap.size+1) 3 (Z7 Z9 b)
 b2:ZP X (w.heap.size+1+1) T u
 b3:ZP X (w.heap.size+1+1+1) 131 (Z7 Z8 (gW A.lost (dm pre):Nat))
 arr:aB X p (A.putAt (dm pre) b f) F
 out:aa F.S w X
 size:B<=X.heap.size
section
variable {w:ZU} {v p D L G ps ho b:Nat} {T:ZQ} {u:ZT} {f:Nat->bC} {A:aH} {F:aR} {B S:Nat}
def GZ.own (t:w.heap.size+4<=B) (r:∀ k,F.S k->k<w.heap.size):OwnFrom B (GZ w v p b T u f A F B S):=by
 rintro pre X Y row ⟨d,g,h,i,j,l,m⟩ c s;have a:∀ k,k<w.heap.size+4->Y.heap[k]?=X.heap[k]?:=λk a=>c.block k (by omega) (λe=>by have:=(s k e.symm).1;omega);exact ⟨(a _ (by omega)).trans d,(a _ (by omega)).trans g,(a _ (by omega)).trans h,(a _ (by omega)).trans i,j.keep λk n=>a k (by have:=r k n;omega),l.later (T:=λk=>w.heap.size<=k) ⟨c.os,c.tape,c.output,c.size,λk o q=>a k (by omega)⟩ (λk o q=>by omega),TW m c.size⟩
def GZ.next {pre:List (Mb S)} {x:Mb S} {w2:ZU} (h:pH w v p D L G ps ho A F) (a:GZ w v p b T u f A F B S pre X) (I:w.heap.size+4<=B) (C:aB w2 p (A.putAt (dm pre++[x.1]) b f) F) (i:aa F.S X w2) :
 ∀ Y,(Y=w2/\gW A.lost (dm pre++[x.1])=gW A.lost (dm pre))\/Y=w2.setCell ⟨w.heap.size+1+1+1,0,ZY⟩ (Z7 Z8 (gW A.lost (dm pre++[x.1]):Nat)) ->
 (X.heap.size<=Y.heap.size/\∀ k o,B<=k->X.heap[k]?=ZX o->Y.heap[k]?=ZX o)/\aG Y/\GZ w v p b T u f A F B S (pre++[x]) Y:=λY j=>by
 have m:∀ k,F.S k->k<w.heap.size:=λk c=>h.arr.RU c;have g:∀ k,w.heap.size<=k->k<X.heap.size->w2.heap[k]?=X.heap[k]?:=λk c y=>i.block k y (λq=>by have:=m k q;omega);have d:∀ k,k≠w.heap.size+1+1+1->Y.heap[k]?=w2.heap[k]?:=λk c=>by
  rcases j with ⟨rfl,_⟩|rfl
  . rfl
  . exact Ud _ _ _ _ c
 have l:Y.heap.size=w2.heap.size/\Y.os=w2.os/\Y.tape=w2.tape/\Y.output=w2.output:=by
  rcases j with ⟨rfl,_⟩|rfl
  . exact ⟨rfl,rfl,rfl,rfl⟩
  . exact ⟨by simp [World.setCell],rfl,rfl,rfl⟩
 have s:=a.b3.lt;have:=i.size;have:=a.size;have n:aa F.S w Y:=(a.out.trans i).later (T:=λk=>k=w.heap.size+1+1+1) ⟨l.2.1,l.2.2.1,l.2.2.2,by omega,λk _ z=>d k z⟩ (λk E H=>by omega);have r:ZP w2 (w.heap.size+1+1+1) 131 (Z7 Z8 (gW A.lost (dm pre):Nat)):=(g _ (by omega) s).trans a.b3;refine ⟨⟨by omega,λk o c ho=>(d k (by omega)).trans ((g k (by omega) (TX.1 ho).1).trans ho)⟩,h.tab.keep (n.block _ h.tab.lt h.t),
  ⟨(d _ (by omega)).trans ((g _ (by omega) (by omega)).trans a.b0),(d _ (by omega)).trans ((g _ (by omega) (by omega)).trans a.b1),(d _ (by omega)).trans ((g _ (by omega) (by omega)).trans a.b2),?_,by rw [dV];exact C.keep λk c=>d k (by have:=m k c;omega),n,by omega⟩⟩
 rw [dV];rcases j with ⟨rfl,e⟩|rfl
 . rw [e];exact r
 . exact r.set _
def GZ.done {pre:List (Mb S)} (c:GZ w v p b T u f A F B S pre X) (g:dm pre=ab S) (j:∀ k,F.S k->k<w.heap.size) (o:fn.results=#[.cell 8 131]) (l:a.defers=[{ target:=.collected D',args:=#[] }]) (h8:a.tmps.getD 8 ZZ=Z6 (ZX ⟨w.heap.size+1+1+1,0,ZY⟩)) (hK:X.heap[D']?=ZX (.deferred (ZX []))) (hD:B<=D') (hB:w.heap.size+4<=B) :
 bodyPostM Fence.wide n ZO fn (λe w'=>e=Z3 (Z7 Z8 (gW A.lost (ab S):Nat))/\aB w' p (A.putAt (ab S) b f) F/\aa F.S w w') .ret a (X.setCell ⟨w.heap.size+1+1+1,0,ZY⟩ (Z7 Z8 (gW A.lost (dm pre):Nat))):=by
 have h:=(VS X ⟨w.heap.size+1+1+1,0,ZY⟩ (Z7 Z8 (gW A.lost (dm pre):Nat))).same D' _ hK rfl;refine Kl (b:=w.heap.size+1+1+1) (t8:=8) o l h8 (Km (s:=gW A.lost (dm pre)) (c.b3.set _)) h (by omega) ⟨by rw [g],?_,?_⟩
 . have d:=c.arr;rw [g] at d;exact d.keep λk m=>by have:=j k m;exact (UV (by omega)).trans (Ud _ _ _ _ (by show k≠w.heap.size+1+1+1;omega))
 . exact c.out.later (T:=λk=>w.heap.size<=k) ⟨rfl,rfl,rfl,by simp [World.setCell,World.putObj],λk _ i=>(UV (by omega)).trans (Ud _ _ _ _ (by show k≠w.heap.size+1+1+1;omega))⟩ (λk q i=>by omega)
end
theorem gJ {A:aH} (g:pH w v p D L G ps ho A F) (b S:Nat) (hb:b<A.nb) (hS:S<65536) (k7:∀ i,i∈ab S->i<A.n) (r:bC) (hr:r.ok) :
 ZS ZO 96 #[Z6 (ZX ⟨v,0,ZY⟩),Z7 Z9 b,cj r,Z7 Z8 S] w λe w'=>e=Z3 (Z7 Z8 (gW A.lost (ab S):Nat))/\aB w' p (A.putAt (ab S) b (λ_=>r)) F/\aa F.S w w':=by
 obtain ⟨n,HN⟩:∃ n:Nat,Hid (9<=n):=⟨9,TV _⟩;obtain ⟨rv,I⟩:=nM (cj r);have ka:∃ m l,rv=.iface m l:=by cases r<;>exact ⟨_,_,I.symm⟩
 obtain ⟨m,l,rfl⟩:=ka;rw [I];have HR:=al I;clear I;have M:∀ k,F.S k->k<w.heap.size:=λk t=>g.arr.RU t;refine (Vk (n:=n)).1 ?_;refine V6 func96 rfl trivial ?_ rfl;simp only [ntmps96,UF,Uv,UQ,YF,YG,Va,Vb,Vc,Vd,Uk,UL];gi_wp2;obtain ⟨a,hz,⟨U,V,W,Y⟩,P,hs⟩:=td w 107 3 193 131 (Z6 (ZX ⟨v,0,ZY⟩)) (Z7 Z9 (b:Int)) (.iface m l) (Z7 Z8 0);rw [hz];clear hz;refine cV (dC S a) ?_;rintro e w' ⟨rfl,rfl⟩;have k5:(a.alloc (Z4 #[Z7 Z8 (S:Int)] 131)).heap.size=a.heap.size+1:=by simp
 have hv:(a.alloc (Z4 #[Z7 Z8 (S:Int)] 131)).cell? ⟨a.heap.size,0,ZY⟩=ZX (Z7 Z8 (S:Int)):=(UA a 131 (Z7 Z8 (S:Int))).cell;have H:bW w (a.alloc (Z4 #[Z7 Z8 (S:Int)] 131)):=hs.alloc (by omega) _;have hy:GZ w v p b 193 (.iface m l) (λ_=>r) A F (a.heap.size+1) S [] (a.alloc (Z4 #[Z7 Z8 (S:Int)] 131)):=
  ⟨U.alloc _,V.alloc _,W.alloc _,Y.alloc _,by rw [show dm ([]:List (Mb S))=[] from rfl,vZ];exact g.arr.below H lR,aa.RS H _,by omega⟩
 obtain ⟨w6,k0⟩:=nM (a.alloc (Z4 #[Z7 Z8 (S:Int)] 131));have Z:=al hv;have z:=au hy H;have k6:=al P;clear hv hy U V W Y hs H P;gi_wp2;obtain ⟨P,ke⟩:w.heap.size+4<=a.heap.size/\a.heap.size<=w.heap.size+4:=by have:=k6.out;omega
 rw [k0] at k5 Z z;clear k0;rw [<- k5] at z;refine V7 rfl (by have:=HN.out;omega) (gf:=155) (lb:=#[Z6 (ZX ⟨a.heap.size,0,ZY⟩)]) rfl trivial (Vl func155 (by kernel_rfl) rfl)
  (nt (n-1) a.heap.size S hS w6 (by omega) Z.out (by have:=g.room;omega) (g.tab.mono (by exact g.tab.lt) z.out.2)) (λh k=>qG h k) (qH (by have:=g.room;omega)) (TY _ _) (λ_=>rfl)
  (GZ w v p b 193 (.iface m l) (λ_=>r) A F w6.heap.size S) (λ_ _ _=>False) (GZ.own (by omega) M) (λ_ _ _ _ _ h _ _=>h.elim) z.out.1
  (λx=>{ tmps:=#[Z6 (ZX ⟨v,0,ZY⟩),Z7 Z9 (b:Int),.iface m l,Z7 Z8 (S:Int),Z6 (ZX ⟨w.heap.size,0,ZY⟩),Z6 (ZX ⟨w.heap.size+1,0,ZY⟩),Z6 (ZX ⟨w.heap.size+1+1,0,ZY⟩),ZZ,Z6 (ZX ⟨w.heap.size+1+1+1,0,ZY⟩),Z7 Z9 (x.1:Int),Z7 Z8 (S:Int),.func (.func 155) #[] #[Z6 (ZX ⟨a.heap.size,0,ZY⟩)],Z7 Z9 (x.1:Int),ZZ,ZZ,ZZ,ZZ,ZZ,ZZ,ZZ,ZZ,ZZ,ZZ],defers:=[] }) ?assign ?body ?done ?stop
 case assign=>
  intro l2 x X Kk hK;unfold wJ;gi_wp2;exact hK
 case body=>
  rintro l2 pre x X c hg;have kb:x.1∈ab S:=cO.2 x.2;have E:=g.turn c.out c.arr rfl;have kf:=sY A.lost (dm pre) (λd hd=>by obtain ⟨y,_,rfl⟩:=T6.1 hd;exact y.2.1);have J:=og E.vol E.arr x.1 b (k7 _ kb) hb r hr E.laid;rw [HR.out] at J;have c0:=c.b0.cell;have c1:=c.b1.cell;have c2:=c.b2.cell;have j:=al c;clear c hg E;gi_wp2;refine ef J ?_;clear J c0 c1 c2;rintro e w2 ⟨y,rfl,B,C,k8⟩;rw [sD A (dm pre) x.1 b (λ_=>r)] at B;have N:=j.out.next (w2:=w2) g (by omega) B C;have T:=al N;rcases k8 with ⟨s,rfl⟩|⟨s,q,rfl,-⟩
  . have HL:=al s;clear B N C s;gi_wp2;obtain ⟨u,Q,R⟩:=T.out w2 (.inl ⟨rfl,nu (f:=A.lost) _ HL.out⟩);exact ⟨⟨u.1,λk o t ho _=>u.2 k o t ho⟩,λ_=>Q,R⟩
  . have K:ZP w2 (w.heap.size+1+1+1) 131 (Z7 Z8 (gW A.lost (dm pre):Nat)):=(C.block _ j.out.b3.lt (λq=>by have:=M _ q;omega)).trans j.out.b3;have d0:=K.cell;have d1:=K.frozen;have O:=gA (gW A.lost (dm pre)) x.1 (by omega) (by omega) w2;rw [<- rQ (f:=A.lost) _ s] at O;unfold rk;clear B C N K s;generalize gW A.lost (dm pre)=ls at *;generalize gW A.lost (dm pre++[x.1])=kg at *;gi_wp2;refine ef O ?_;rintro e w3 ⟨rfl,rfl⟩;clear O;gi_wp2;obtain ⟨u,Q,R⟩:=T.out _ (.inr rfl);exact ⟨⟨u.1,λk o t ho _=>u.2 k o t ho⟩,λ_=>Q,R⟩
 case done=>
  rintro D' xs X hq kc c hK;have c3:=c.b3.cell;have f3:=c.b3.frozen;have j:=au c hK;clear c hK;gi_wp2;exact j.out.1.done kc M results96 rfl rfl j.out.2 hq (by omega)
 case stop=>
  rintro D' cc pre X hq k9 hx hK;exact hx.elim
def MM (w:ZU) (base g:Nat) (R:List a8):Prop:=base<=g/\g<w.heap.size/\∀ i (hi:i<R.length),∃ b off c,w.cell? ⟨g,i,ZY⟩=ZX (Z5 (ZX ⟨b,off,ZY⟩) 44 c)/\base<=b/\b<w.heap.size/\w.rangeAt b off (aI R[i])/\R[i].length=44/\∀ x∈R[i],x<256
def MM.keep {R:List a8} (h:MM w base g R) (f:w.heap.size<=w'.heap.size) (e:∀ k,base<=k->k<w.heap.size->w'.heap[k]?=w.heap[k]?):MM w' base g R:=by
 obtain ⟨a,d,n⟩:=h;refine ⟨a,TZ d f,λi o=>?_⟩;obtain ⟨b,off,c,q,l,m,r,s⟩:=n i o;exact ⟨b,off,c,(Ul (e g a d)).trans q,l,TZ m f,λj v p=>(Ul (e b l m)).trans (r j v p),s⟩
noncomputable def RWs:Array ZR:=((Tryz.f89.body.bind (pe · 3))).getD #[]
def Rc:List (Op×Option Nat×a8):=[(Op.load 107 (Z1 4),ZX 13,[]),
 (Op.move (Z1 9),ZX 14,[]),
 (Op.load 3 (Z1 5),ZX 15,[]),
 (Op.load 174 (Z1 6),ZX 16,[]),
 (Op.move (Z1 9),ZX 17,[]),
 (Op.indexAddr 174 (Z1 16) (Z1 17),ZX 18,[3,4]),
 (Op.load 31 (Z1 18),ZX 19,[5]),
 (Op.sliceToArrayPointer 229 (Z1 19),ZX 20,[6]),
 (Op.load 229 (Z1 20),ZX 21,[7]),
 (Op.build 231 #[(0,Z1 21)],ZX 22,[8]),
 (Op.makeInterface 231 (Z1 22),ZX 23,[9]),
 (Op.call { callee:=Callee.value (Operand.func 129),args:=#[Z1 13,Z1 14,Z1 15,Z1 23],argTypes:=#[107,3,3,193] },ZX 24,[0,1,2,10]),
 (Op.binOp BinOp.neq 53 (Z1 24) (Operand.const Value.nilIface) 53,ZX 25,[11])]
def G0:aL RWs 13 26 Rc:=bw (by kernel_rfl) (by kernel_rfl)
def PF (h:vs.length=12):∃ a b c d e f g i j k l m,vs=[a,b,c,d,e,f,g,i,j,k,l,m]:=by
 match vs,h with
 | [a,b,c,d,e,f,g,i,j,k,l,m],_=>exact ⟨a,b,c,d,e,f,g,i,j,k,l,m,rfl⟩
def Re (v g m c bl off rc x b:Nat) (l:a8) (bv:Bool):List ZT:=[Z6 (ZX ⟨v,0,ZY⟩),Z7 Z9 x,Z7 Z9 b,Z5 (ZX ⟨g,0,ZY⟩) m c,Z7 Z9 x,Z6 (ZX ⟨g,x,ZY⟩),Z5 (ZX ⟨bl,off,ZY⟩) 44 rc,Z6 (ZX ⟨bl,off,ZY⟩),.agg (aI l).toArray,.agg (aI l).toArray,cj (.shard l),.nilIface,Z2 bv]
def yZ (A A2:aH) (D:Nat->Bool):aH:=if D 11=ZW then A2 else A
def PG (X:ZT->Prop) (vs:List ZT) (i:Nat) (u:ZT) (_:ZU):Prop:=if i=11 then X u else u=vs.getD i ZZ
def gL {X:ZT->Prop} (h:i≠11) (q:PG X vs i u w):u=vs.getD i ZZ:=by unfold PG at q;rwa [if_neg h] at q
def gM {X:ZT->Prop} (h:i≠11) (q:u=vs.getD i ZZ):PG X vs i u w:=by unfold PG;rwa [if_neg h]
def BWl (w0:ZU) (p:Nat) (A A2:aH) (F:aR) (Dn:Nat->Bool) (w:ZU):Prop:=aB w p (yZ A A2 Dn) F/\aa (F.S) w0 w
def eM {A A2:aH} {Dn:Nat->Bool} (h:BWl w0 p A A2 F Dn w) (i:Nat) (a:i≠11):BWl w0 p A A2 F (fI Dn i) w:=by
 refine ⟨?_,h.2⟩;have e:yZ A A2 (fI Dn i)=yZ A A2 Dn:=by unfold yZ fI;rw [if_neg (λe:11=i=>a e.symm)]
 rw [e];exact h.1
theorem mN {l:Nat} {A:aH} (hc:RWs=ops) (hV:pH w v p D L G ps ho A F) (x b:Nat) {A2:aH} (X:ZT->Prop) (bv:Bool) (hX:∀ (o:ZR) (a':Act) (w':ZU),o.op=Op.binOp BinOp.neq 53 (Z1 24) (Operand.const Value.nilIface) 53->X (a'.eval (Z1 24))->(execOp a'.eval o).run ZO w'=.ok (.value (Z2 bv)) w')
 {q4 M N g m c:Nat} (Z:ZP w q4 107 (Z6 (ZX ⟨v,0,ZY⟩))) (h5:ZP w M 3 (Z7 Z9 b)) (h6:ZP w N 174 (Z5 (ZX ⟨g,0,ZY⟩) m c)) {base:Nat} {R:List a8} (hR:MM w base g R) (hq:x<R.length) (hm:R.length<=m)
 (hn:∀ k,F.S k->k<base/\k≠q4/\k≠M/\k≠N) (kh:a.tmps.size=30) (U:∀ w',aB w' p A F->pH w' v p D L G ps ho A F->ZS ZO 129 #[Z6 (ZX ⟨v,0,ZY⟩),Z7 Z9 x,Z7 Z9 b,cj (.shard (R.getD x []))] w' λe J=>∃ u,e=Z3 u/\X u/\aB J p A2 F/\aa (F.S) w' J)
 (e4:a.eval (Z1 4)=Z6 (ZX ⟨q4,0,ZY⟩)) (e5:a.eval (Z1 5)=Z6 (ZX ⟨M,0,ZY⟩)) (e6:a.eval (Z1 6)=Z6 (ZX ⟨N,0,ZY⟩)) (Y:a.eval (Z1 9)=Z7 Z9 x)
 (hQ:∀ (w':ZU) (vs:List ZT),vs.length=12->aB w' p A2 F->aa (F.S) w w'->Q .normal (Act.RR a 13 (vs++[Z2 bv])) w') :
 (Code.region 3 ops ZW).wpIn (Fence.wide.inRound l) n ZO Q a w:=by
 subst hc;obtain ⟨kb,kc,h8⟩:=hR;obtain ⟨bl,off,rc,k7,k8,k9,hh,T,ka⟩:=h8 x hq;have hy:R.getD x []=R[x]:=by simp [hq]
 rw [hy] at U;obtain ⟨s,hs⟩:=nM (R[x]);rw [hs] at hh T ka U;have hj:∀ k,base<=k->¬ F.S k:=λk B q=>by have:=(hn k q).1;omega
 have hp:(aI s).toArray.size=44:=by rw [UF,aW,T]
 refine bV (by kernel_rfl) G0 a w (by omega) (PG X (Re v g m c bl off rc x b s bv)) (BWl w p A A2 F) ⟨hV.arr.keep λ_ _=>rfl,aa.drew w⟩ ?_ ?_
 . intro i V;match i,V with
   | 0,_=>
    intro o a' w' C I ho t B E H y d r;have u0:a'.eval (Z1 4)=Z6 (ZX ⟨q4,0,ZY⟩):=(B.slot 4 (by omega)).trans e4;have O:=(show ZP w' q4 107 (Z6 (ZX ⟨v,0,ZY⟩)) from (d.2.block _ Z.lt (λq=>(hn _ q).2.1 rfl)).trans Z).cell;exact av (v:=Z6 (ZX ⟨v,0,ZY⟩)) (by (conv at ho=>rhs;whnf);simp only [execOp,ho,u0];go_simp) (by rw [ho];intro c h;cases h) t ⟨eM d _ (by decide),gM (by decide) rfl,kq⟩
   | 1,_=>exact λo a' w' C I ho t B E H y d r=>av (ag ho ((B.slot 9 (by omega)).trans Y) w') (by rw [ho];intro c h;cases h) t ⟨eM d _ (by decide),gM (by decide) rfl,kq⟩
   | 2,_=>
    intro o a' w' C I ho t B E H y d r;have u0:a'.eval (Z1 5)=Z6 (ZX ⟨M,0,ZY⟩):=(B.slot 5 (by omega)).trans e5;have O:=(show ZP w' M 3 (Z7 Z9 b) from (d.2.block _ h5.lt (λq=>(hn _ q).2.2.1 rfl)).trans h5).cell;exact av (v:=Z7 Z9 b) (by (conv at ho=>rhs;whnf);simp only [execOp,ho,u0];go_simp) (by rw [ho];intro c h;cases h) t ⟨eM d _ (by decide),gM (by decide) rfl,kq⟩
   | 3,_=>
    intro o a' w' C I ho t B E H y d r;have u0:a'.eval (Z1 6)=Z6 (ZX ⟨N,0,ZY⟩):=(B.slot 6 (by omega)).trans e6;have O:=(show ZP w' N 174 (Z5 (ZX ⟨g,0,ZY⟩) m c) from (d.2.block _ h6.lt (λq=>(hn _ q).2.2.2 rfl)).trans h6).cell;exact av (v:=Z5 (ZX ⟨g,0,ZY⟩) m c) (by (conv at ho=>rhs;whnf);simp only [execOp,ho,u0];go_simp) (by rw [ho];intro c h;cases h) t ⟨eM d _ (by decide),gM (by decide) rfl,kq⟩
   | 4,_=>exact λo a' w' C I ho t B E H y d r=>av (ag ho ((B.slot 9 (by omega)).trans Y) w') (by rw [ho];intro c h;cases h) t ⟨eM d _ (by decide),gM (by decide) rfl,kq⟩
   | 5,_=>
    intro o a' w' C I ho t B E H y d r;have u0:a'.eval (Z1 16)=Z5 (ZX ⟨g,0,ZY⟩) m c:=gL (by decide) (r 3 (y 3 (by decide)));have u1:a'.eval (Z1 17)=Z7 Z9 x:=gL (by decide) (r 4 (y 4 (by decide)));have ki:x<m:=(by omega);exact av (v:=Z6 (ZX ⟨g,x,ZY⟩)) (by (conv at ho=>rhs;whnf);simp only [execOp,ho,u0,u1];go_simp) (by rw [ho];intro c h;cases h) t ⟨eM d _ (by decide),gM (by decide) rfl,kq⟩
   | 6,_=>
    intro o a' w' C I ho t B E H y d r;have u0:a'.eval (Z1 18)=Z6 (ZX ⟨g,x,ZY⟩):=gL (by decide) (r 5 (y 5 (by decide)));have O:w'.cell? ⟨g,x,ZY⟩=ZX (Z5 (ZX ⟨bl,off,ZY⟩) 44 rc):=(Ul (d.2.block g kc (hj g kb))).trans k7;exact av (v:=Z5 (ZX ⟨bl,off,ZY⟩) 44 rc) (by (conv at ho=>rhs;whnf);simp only [execOp,ho,u0];go_simp) (by rw [ho];intro c h;cases h) t ⟨eM d _ (by decide),gM (by decide) rfl,kq⟩
   | 7,_=>
    intro o a' w' C I ho t B E H y d r;have u0:a'.eval (Z1 19)=Z5 (ZX ⟨bl,off,ZY⟩) 44 rc:=gL (by decide) (r 6 (y 6 (by decide)));have k5:(Instr.arrayAt 229 (Z5 (ZX ⟨bl,off,ZY⟩) 44 rc)).run ZO w'=.ok (Z6 (ZX ⟨bl,off,ZY⟩)) w':=(by simp [Instr.arrayAt,UH Yn]);exact av (v:=Z6 (ZX ⟨bl,off,ZY⟩)) (by (conv at ho=>rhs;whnf);simp [execOp,ho,u0,k5]) (by rw [ho];intro c h;cases h) t ⟨eM d _ (by decide),gM (by decide) rfl,kq⟩
   | 8,_=>
    intro o a' w' C I ho t B E H y d r;have u0:a'.eval (Z1 20)=Z6 (ZX ⟨bl,off,ZY⟩):=gL (by decide) (r 7 (y 7 (by decide)));have hr:w'.rangeAt bl off (aI s):=λj u W=>(Ul (d.2.block bl k9 (hj bl k8))).trans (hh j u W);have kf:=run_loadAt_mid (P:=ZO) w' bl off 229 (aI s) _ hr Yn rfl (by rw [aW,T];kernel_rfl);exact av (v:=.agg (aI s).toArray) (by (conv at ho=>rhs;whnf);simp [execOp,ho,u0,kf]) (by rw [ho];intro c h;cases h) t ⟨eM d _ (by decide),gM (by decide) rfl,kq⟩
   | 9,_=>
    intro o a' w' C I ho t B E H y d r;have u0:a'.eval (Z1 21)=.agg (aI s).toArray:=gL (by decide) (r 8 (y 8 (by decide)));have k6:∀ z:Array ZT,z.size=44->YH (λcs x=>cs.setIfInBounds x.snd x.fst) z (aI s).toArray.zipIdx 0 44=(aI s).toArray:=λz hz=>wF z _ 44 hz hp;obtain ⟨sa,he⟩:=nM ((aI s).toArray);refine av (v:=.agg (aI s).toArray) ?_ (by rw [ho];intro c h;cases h) t ⟨eM d _ (by decide),gM (by decide) rfl,kq⟩;rw [he] at u0 k6 hp ⊢;(conv at ho=>rhs;whnf);simp only [execOp,ho,Vr,Uu,UY,u0];go_simp
   | 10,_=>
    intro o a' w' C I ho t B E H y d r;have u0:a'.eval (Z1 22)=.agg (aI s).toArray:=gL (by decide) (r 9 (y 9 (by decide)));exact av (v:=cj (.shard s)) (by (conv at ho=>rhs;whnf);simp only [execOp,ho,u0,cj];go_simp) (by rw [ho];intro c h;cases h) t ⟨eM d _ (by decide),gM (by decide) rfl,kq⟩
   | 11,_=>
    intro o a' w' C kg ho t B E H y d r;have u0:a'.eval (Z1 13)=Z6 (ZX ⟨v,0,ZY⟩):=gL (by decide) (r 0 (y 0 (by decide)));have u1:a'.eval (Z1 14)=Z7 Z9 x:=gL (by decide) (r 1 (y 1 (by decide)));have u2:a'.eval (Z1 15)=Z7 Z9 b:=gL (by decide) (r 2 (y 2 (by decide)));have u3:a'.eval (Z1 23)=cj (.shard s):=gL (by decide) (r 10 (y 10 (by decide)));have K:aB w' p A F:=(by have:=d.1;unfold yZ at this;rw [if_neg (by rw [E];decide)] at this;exact this);have k0:=hV.turn d.2 K rfl;refine jF (f:=129) (args:=#[Z6 (ZX ⟨v,0,ZY⟩),Z7 Z9 x,Z7 Z9 b,cj (.shard s)]) (w1:=w') (by (conv at ho=>rhs;whnf);simp only [execOp,ho];go_simp;exact ⟨by simpa [Act.eval] using u0,by simpa [Act.eval] using u1,by simpa [Act.eval] using u2,by simpa [Act.eval] using u3⟩) (by rw [ho];intro c h;cases h) t (U w' K k0) ?_;rintro e J ⟨u,rfl,W,hv,hx⟩;refine ⟨_,rfl,⟨?_,d.2.trans hx⟩,by unfold PG;rw [if_pos rfl];exact W,kq⟩;have e:yZ A A2 (fI C 11)=A2:=(by unfold yZ fI;rw [if_pos (by rw [if_pos rfl])]);rw [e];exact hv
   | 12,_=>
    intro o a' w' C I ho t B E H y d r;have u0:X (a'.eval (Z1 24)):=(by have:=r 11 (y 11 (by decide));unfold PG at this;rwa [if_pos rfl] at this);exact av (hX o a' w' ho u0) (by rw [ho];intro c h;cases h) t ⟨eM d _ (by decide),gM (by decide) rfl,kq⟩
   | n+13,hn=>exact absurd hn (by show ¬ n+13<13;omega)
 . rintro a' w' ke _ ⟨C,hD,d⟩ r;have e:yZ A A2 C=A2:=(by unfold yZ;rw [if_pos (hD 11 (by decide))]);have K:=d.1;rw [e] at K;have e:a'=Act.RR a 13 (((YD 12).map λi=>a'.eval (.tmp (13+i)))++[Z2 bv]):=ke.out _ (by simp) (by omega) (λi V=>by
    simp at V;by_cases ha:i=12
    . subst ha;have:=gL (by decide) (r 12 (by decide));simpa [dM,bB,Rc,Re] using this
    . rw [T5,Vx (by simp;omega),Un,Vw (by omega)];rfl)
   rw [e];exact hQ w' _ (by rw [T7,UC]) K d.2
theorem rp {A:aH} (l:pH w v p D L G ps ho A F) (b S:Nat) (hb:b<A.nb) (hS:S<65536) (kf:∀ i,i∈ab S->i<A.n)
 {g m c base:Nat} {R:List a8} (hR:MM w base g R) (hz:∀ i,i∈ab S->i<R.length) (hm:R.length<=m) (h4:∀ k,F.S k->k<base) :
 ZS ZO 89 #[Z6 (ZX ⟨v,0,ZY⟩),Z7 Z9 b,Z5 (ZX ⟨g,0,ZY⟩) m c,Z7 Z8 S] w λe w'=>e=Z3 (Z7 Z8 (gW A.lost (ab S):Nat))/\aB w' p (A.putAt (ab S) b (λi=>.shard (R.getD i []))) F/\aa (F.S) w w':=by
 obtain ⟨n,HN⟩:∃ n:Nat,Hid (9<=n):=⟨9,TV _⟩;have N:∀ k,F.S k->k<w.heap.size:=λk E=>l.arr.RU E;have hh:∀ i,i∈ab S->(bC.shard (R.getD i [])).ok:=λi a=>by
  have k8:=hz i a;obtain ⟨_,_,_,_,_,_,_,s,I⟩:=hR.2.2 i k8;have e:R.getD i []=R[i]:=by simp [k8]
  rw [e];exact ⟨s,I⟩
 refine (Vk (n:=n)).1 ?_;refine V6 func89 rfl trivial ?_ rfl;simp only [ntmps89,UF,Uv,UQ,YF,YG,Va,Vb,Vc,Vd,Uk,UL];gi_wp2;obtain ⟨j,k9,⟨Z,r,h2,h3⟩,V,k5⟩:=td w 107 3 174 131 (Z6 (ZX ⟨v,0,ZY⟩)) (Z7 Z9 (b:Int)) (Z5 (ZX ⟨g,0,ZY⟩) m c) (Z7 Z8 0);rw [k9];clear k9;refine cV (dC S j) ?_;rintro e w' ⟨rfl,rfl⟩;have kb:(j.alloc (Z4 #[Z7 Z8 (S:Int)] 131)).heap.size=j.heap.size+1:=by simp
 have k6:(j.alloc (Z4 #[Z7 Z8 (S:Int)] 131)).cell? ⟨j.heap.size,0,ZY⟩=ZX (Z7 Z8 (S:Int)):=(UA j 131 (Z7 Z8 (S:Int))).cell;have O:bW w (j.alloc (Z4 #[Z7 Z8 (S:Int)] 131)):=k5.alloc (by omega) _;have k7:GZ w v p b 174 (Z5 (ZX ⟨g,0,ZY⟩) m c) (λi=>.shard (R.getD i [])) A F (j.heap.size+1) S [] (j.alloc (Z4 #[Z7 Z8 (S:Int)] 131)):=
  ⟨Z.alloc _,r.alloc _,h2.alloc _,h3.alloc _,by rw [show dm ([]:List (Mb S))=[] from rfl,vZ];exact l.arr.below O lR,aa.RS O _,by omega⟩
 obtain ⟨w6,ka⟩:=nM (j.alloc (Z4 #[Z7 Z8 (S:Int)] 131));have hv:=al k6;have K:=au k7 O;have kc:=al V;clear k6 k7 Z r h2 h3 k5 O V;gi_wp2;obtain ⟨V,km⟩:w.heap.size+4<=j.heap.size/\j.heap.size<=w.heap.size+4:=by have:=kc.out;omega
 rw [ka] at kb hv K;clear ka;rw [<- kb] at K;refine V7 rfl (by have:=HN.out;omega) (gf:=155) (lb:=#[Z6 (ZX ⟨j.heap.size,0,ZY⟩)]) rfl trivial (Vl func155 (by kernel_rfl) rfl)
  (nt (n-1) j.heap.size S hS w6 (by omega) hv.out (by have:=l.room;omega) (l.tab.mono (by exact l.tab.lt) K.out.2)) (λh k=>qG h k) (qH (by have:=l.room;omega)) (TY _ _) (λ_=>rfl)
  (GZ w v p b 174 (Z5 (ZX ⟨g,0,ZY⟩) m c) (λi=>.shard (R.getD i [])) A F w6.heap.size S) (λ_ _ _=>False) (GZ.own (by omega) N) (λ_ _ _ _ _ h _ _=>h.elim) K.out.1
  (λx=>{ tmps:=#[Z6 (ZX ⟨v,0,ZY⟩),Z7 Z9 (b:Int),Z5 (ZX ⟨g,0,ZY⟩) m c,Z7 Z8 (S:Int),Z6 (ZX ⟨w.heap.size,0,ZY⟩),Z6 (ZX ⟨w.heap.size+1,0,ZY⟩),Z6 (ZX ⟨w.heap.size+1+1,0,ZY⟩),ZZ,Z6 (ZX ⟨w.heap.size+1+1+1,0,ZY⟩),Z7 Z9 (x.1:Int),Z7 Z8 (S:Int),.func (.func 155) #[] #[Z6 (ZX ⟨j.heap.size,0,ZY⟩)],Z7 Z9 (x.1:Int),ZZ,ZZ,ZZ,ZZ,ZZ,ZZ,ZZ,ZZ,ZZ,ZZ,ZZ,ZZ,ZZ,ZZ,ZZ,ZZ,ZZ],defers:=[] }) ?assign ?body ?done ?stop
 case assign=>
  intro l2 x X Kk hK;unfold wJ;gi_wp2;exact hK
 case body=>
  rintro l2 pre x X a hj;have U:x.1∈ab S:=cO.2 x.2;have C:=l.turn a.out a.arr rfl;have B:MM X base g R:=hR.keep a.out.size (λk E kg=>a.out.block k kg (λq=>by have:=h4 k q;omega));have J:=aE a C B;clear hj a C B;gi_wp2;obtain ⟨a,C,B⟩:=J.out;have kh:=sY A.lost (dm pre) (λd hd=>by obtain ⟨y,_,rfl⟩:=T6.1 hd;exact y.2.1);have P:∀ k,F.S k->k<base/\k≠w.heap.size/\k≠w.heap.size+1/\k≠w.heap.size+1+1:=λk q=>by
   have r:k<w.heap.size:=N k q;exact ⟨h4 k q,by omega,by omega,by omega⟩
  refine mN (by kernel_rfl) C x.1 b (A2:=A.putAt (dm pre++[x.1]) b (λi=>.shard (R.getD i []))) (λu=>(A.lost x.1=ZV/\u=.nilIface)\/(A.lost x.1=ZW/\∃ q,u=rk q)) (A.lost x.1) (λo a' w' ho H=>by
   rcases H with ⟨r,H⟩|⟨r,q,H⟩
   . rw [r];simp only [execOp,ho,H];go_simp
   . unfold rk at H;rw [r];simp only [execOp,ho,H];go_simp) a.b0 a.b1 a.b2 B (hz _ U) hm P rfl
   (λw' ke k0=>(og k0.vol ke x.1 b (kf _ U) hb _ (hh _ U) k0.laid).mono (by
    rintro e kp ⟨y,rfl,t,z,ki⟩;rw [sD A (dm pre) x.1 b (λi=>.shard (R.getD i []))] at t;exact ⟨_,rfl,ki.imp_right λh=>⟨h.1,h.2.imp λ_ h=>h.1⟩,t,z⟩)) rfl rfl rfl rfl ?_
  intro w2 vs Q t z;obtain ⟨x0,x1,x2,x3,x4,x5,x6,x7,x8,x9,xa,xb,rfl⟩:=PF Q;have Y:=al (a.next (w2:=w2) l (by omega) t z);have M:ZP w2 (w.heap.size+1+1+1) 131 (Z7 Z8 (gW A.lost (dm pre):Nat)):=(z.block _ a.b3.lt (λq=>by have:=N _ q;omega)).trans a.b3;rename_i hK
  refine hK _ _ ?_;clear hK;simp only [Act.RR,Act.put,UW,UR,UX,UL,Uk];cases hf:A.lost x.1 with
  | false=>
   have HL:=al hf;clear t z a C B Q kh P hf M;gi_wp2;obtain ⟨s,I,W⟩:=Y.out w2 (.inl ⟨rfl,nu (f:=A.lost) _ HL.out⟩);exact ⟨⟨s.1,λk o E ho _=>s.2 k o E ho⟩,λ_=>I,W⟩
  | true=>
   have d0:=M.cell;have d1:=M.frozen;have T:=gA (gW A.lost (dm pre)) x.1 (by omega) (by omega) w2;rw [<- rQ (f:=A.lost) _ hf] at T;clear t z a C B Q P hf M;generalize gW A.lost (dm pre)=ls at *;generalize gW A.lost (dm pre++[x.1])=ko at *;gi_wp2;refine ef T ?_;rintro e w3 ⟨rfl,rfl⟩;clear T;gi_wp2;obtain ⟨s,I,W⟩:=Y.out _ (.inr rfl);exact ⟨⟨s.1,λk o E ho _=>s.2 k o E ho⟩,λ_=>I,W⟩
 case done=>
  rintro D' xs X hy kk a hK;have c3:=a.b3.cell;have f3:=a.b3.frozen;have J:=au a hK;clear a hK;gi_wp2;exact J.out.1.done kk N results89 rfl rfl J.out.2 hy (by omega)
 case stop=>
  rintro D' cc pre X hy kj hx hK;exact hx.elim
end
section
attribute [local go_sem] Oper.semAt_some
abbrev Ch (D:Nat):={ i:Nat // i<D }
def C4 (g i:Nat):ZT:=Z5 (ZX ⟨g,i*44,ZY⟩) 44 44
def FC (g:Nat) {D:Nat} (x:Ch D):Array ZT:=#[C4 g x.1]
noncomputable def RCh:Array ZR:=((Tryz.f197.body.bind (pe · 3))).getD #[]
def aay:List (Op×Option Nat×a8):=[(Op.load 3 (Z1 2),ZX 13,[]),
 (Op.load 31 (Z1 1),ZX 14,[]),
 (Op.move (Z1 4),ZX 15,[]),
 (Op.slice 31 (Z1 14) (ZX (Z1 15)) ZY ZY,ZX 16,[1,2]),
 (Op.call { callee:=Callee.builtin Builtin.len,args:=#[Z1 16],argTypes:=#[31] },ZX 17,[3]),
 (Op.call { callee:=Callee.builtin Builtin.min,args:=#[Z1 13,Z1 17],argTypes:=#[3,3] },ZX 18,[0,4]),
 (Op.assign (Z1 18),ZX 5,[5,0,1,2,3,4,5])]
def G2:aL RCh 5 19 aay:=bw (by kernel_rfl) (by kernel_rfl)
def aaz (g D k:Nat):List ZT:=[Z7 Z9 44,Z5 (ZX ⟨g,0,ZY⟩) (D*44) (D*44),Z7 Z9 (k*44:Nat),Z5 (ZX ⟨g,k*44,ZY⟩) (D*44-k*44) (D*44-k*44),Z7 Z9 (D*44-k*44:Nat),Z7 Z9 44,Z7 Z9 44]
theorem za {b1 b2:Nat} (E:RCh=ops) (r:k<D) (B:w.cell? ⟨b1,0,ZY⟩=ZX (Z5 (ZX ⟨g,0,ZY⟩) (D*44) (D*44))) (C:w.cell? ⟨b2,0,ZY⟩=ZX (Z7 Z9 44)) (L:a.tmps.size=31)
 (y:a.eval (Z1 1)=Z6 (ZX ⟨b1,0,ZY⟩)) (z:a.eval (Z1 2)=Z6 (ZX ⟨b2,0,ZY⟩)) (A:a.eval (Z1 4)=Z7 Z9 (k*44:Nat))
 (F:Q .normal (Act.RR a 5 [Z7 Z9 44,a.eval (Z1 6),a.eval (Z1 7),a.eval (Z1 8),a.eval (Z1 9),a.eval (Z1 10),a.eval (Z1 11),a.eval (Z1 12),Z7 Z9 44,Z5 (ZX ⟨g,0,ZY⟩) (D*44) (D*44),Z7 Z9 (k*44:Nat),Z5 (ZX ⟨g,k*44,ZY⟩) (D*44-k*44) (D*44-k*44),Z7 Z9 (D*44-k*44:Nat),Z7 Z9 44]) w.drew) :
 (Code.region 3 ops ZW).wp ZO Q a w:=by
 subst E;refine dj (by kernel_rfl) G2 a w (by omega) (λi u _=>u=(aaz g D k).getD i ZZ) (λ_ w'=>w'=w.drew) rfl ?_ ?_
 . intro i t;have c1:w.drew.cell? ⟨b1,0,ZY⟩=ZX (Z5 (ZX ⟨g,0,ZY⟩) (D*44) (D*44)):=B;have H:w.drew.cell? ⟨b2,0,ZY⟩=ZX (Z7 Z9 44):=C;match i,t with
   | 0,_=>
    intro o a' w' j q ho d r m p f c b;subst c;have u0:a'.eval (Z1 2)=Z6 (ZX ⟨b2,0,ZY⟩):=(r.slot 2 (by omega)).trans z;exact af (v:=Z7 Z9 44) (by (conv at ho=>rhs;whnf);simp only [execOp,ho,u0];go_simp) d ⟨rfl,rfl,kq⟩
   | 1,_=>
    intro o a' w' j q ho d r m p f c b;subst c;have u0:a'.eval (Z1 1)=Z6 (ZX ⟨b1,0,ZY⟩):=(r.slot 1 (by omega)).trans y;exact af (v:=Z5 (ZX ⟨g,0,ZY⟩) (D*44) (D*44)) (by (conv at ho=>rhs;whnf);simp only [execOp,ho,u0];go_simp) d ⟨rfl,rfl,kq⟩
   | 2,_=>exact λo a' w' j q ho d r m p f c b=>af (ag ho ((r.slot 4 (by omega)).trans A) w') d ⟨c,rfl,kq⟩
   | 3,_=>
    intro o a' w' j q ho d s m p f c b;have u0:a'.eval (Z1 14)=Z5 (ZX ⟨g,0,ZY⟩) (D*44) (D*44):=b 1 (f 1 (by decide));have u1:a'.eval (Z1 15)=Z7 Z9 (k*44:Nat):=b 2 (f 2 (by decide));have J:k*44<D*44:=(by omega);have G:a'.tmps[15]?.getD ZZ=Z7 Z9 (k*44:Nat):=(by simpa [Act.eval] using u1);have K:¬ D*44=k*44:=(by omega);refine af (v:=Z5 (ZX ⟨g,k*44,ZY⟩) (D*44-k*44) (D*44-k*44)) ?_ d ⟨c,rfl,kq⟩;(conv at ho=>rhs;whnf);simp only [execOp,ho,u0];generalize k*44=M at *;generalize D*44=x at *;go_simp;intro h;omega
   | 4,_=>
    intro o a' w' j q ho d s m p f c b;have u0:a'.eval (Z1 16)=Z5 (ZX ⟨g,k*44,ZY⟩) (D*44-k*44) (D*44-k*44):=b 3 (f 3 (by decide));refine af (v:=Z7 Z9 (D*44-k*44:Nat)) ?_ d ⟨c,rfl,kq⟩;(conv at ho=>rhs;whnf);simp only [execOp,ho,resolve,invoke,builtin,Uo,U2,UE,Vr,Uu,UY,u0];generalize D*44-k*44=x at *;go_simp
   | 5,_=>
    intro o a' w' j q ho d s m p f c b;have u0:a'.eval (Z1 13)=Z7 Z9 44:=b 0 (f 0 (by decide));have u1:a'.eval (Z1 17)=Z7 Z9 (D*44-k*44:Nat):=b 4 (f 4 (by decide));refine af (v:=Z7 Z9 44) ?_ d ⟨c,rfl,kq⟩;(conv at ho=>rhs;whnf);simp only [execOp,ho,resolve,invoke,builtin,Uo,U2,UE,Vr,Uu,UY,u0,u1,gy];rw [if_neg (by omega)]
   | 6,_=>
    intro o a' w' j q ho d s m p f c b;have u0:a'.eval (Z1 18)=Z7 Z9 44:=b 5 (f 5 (by decide));exact af (v:=Z7 Z9 44) (by (conv at ho=>rhs;whnf);simp [execOp,ho,u0]) d ⟨c,rfl,kq⟩
   | n+7,hn=>exact absurd hn (by show ¬ n+7<7;omega)
 . rintro a' w' s l ⟨j,I,c⟩ b;subst c;have e:a'=Act.RR a 5 [Z7 Z9 44,a.eval (Z1 6),a.eval (Z1 7),a.eval (Z1 8),a.eval (Z1 9),a.eval (Z1 10),a.eval (Z1 11),a.eval (Z1 12),Z7 Z9 44,Z5 (ZX ⟨g,0,ZY⟩) (D*44) (D*44),Z7 Z9 (k*44:Nat),Z5 (ZX ⟨g,k*44,ZY⟩) (D*44-k*44) (D*44-k*44),Z7 Z9 (D*44-k*44:Nat),Z7 Z9 44]:=s.out _ rfl (by omega) (λi t=>?_)
   . rw [e];exact F
   . match i,t with
     | 0,_=>exact b 6 (by decide)
     | 1,_=>exact l 6 (by decide)
     | 2,_=>exact l 7 (by decide)
     | 3,_=>exact l 8 (by decide)
     | 4,_=>exact l 9 (by decide)
     | 5,_=>exact l 10 (by decide)
     | 6,_=>exact l 11 (by decide)
     | 7,_=>exact l 12 (by decide)
     | 8,_=>exact b 0 (by decide)
     | 9,_=>exact b 1 (by decide)
     | 10,_=>exact b 2 (by decide)
     | 11,_=>exact b 3 (by decide)
     | 12,_=>exact b 4 (by decide)
     | 13,_=>exact b 5 (by decide)
     | n+14,hn=>exact absurd hn (by simp)
def Kp2 (b1 b2:Nat) (W W':ZU):Prop:=W'.heap[b1]?=W.heap[b1]?/\W'.heap[b2]?=W.heap[b2]?
theorem DP (n l b1 b2 g D:Nat) (N:D<=1000) (J m:List (Ch D)->ZU->Prop) (K:∀ pre W,J pre W->J pre W.drew)
 (L:∀ pre x W,J pre W->pre.length<D->YieldAt Fence.wide (n-1) ZO l (FC g x) W λe a=>
  (e=Z3 (Z2 ZW)/\J (pre++[x]) a/\Kp2 b1 b2 W a)\/(e=Z3 (Z2 ZV)/\m (pre++[x]) a))
 (W:ZU) (G:W.cell? ⟨b1,0,ZY⟩=ZX (Z5 (ZX ⟨g,0,ZY⟩) (D*44) (D*44))) (I:W.cell? ⟨b2,0,ZY⟩=ZX (Z7 Z9 44)) (F:J [] W) :
 CallsIn Fence.wide n ZO 197 #[.func (.yield l) #[] #[],Z6 (ZX ⟨b1,0,ZY⟩),Z6 (ZX ⟨b2,0,ZY⟩)] W λe a=>(∃ v,e=Z3 v) /\
  ((∃ B,B.map (·.1)=YD D/\J B a)\/(∃ pre,pre.map (·.1)<+:YD D/\m pre a)):=by
 refine WX func197 rfl trivial ?_ rfl;simp only [ntmps197,UF,Uv,UQ,YF,YG,Va,Vb,Vc,Vd,Uk,UL];gi_wp2;gi_loopw [4] (λp wr=>∃ (pre:List (Ch D)) (k:Nat),p=Z7 Z9 (k*44:Nat)/\k<=D/\pre.map (·.1)=YD k/\J pre wr/\wr.cell? ⟨b1,0,ZY⟩=ZX (Z5 (ZX ⟨g,0,ZY⟩) (D*44) (D*44))/\wr.cell? ⟨b2,0,ZY⟩=ZX (Z7 Z9 44))
  (λp _=>D*44-(intOf p).toNat)
 case atStart=>
  exact ⟨[],0,rfl,T9 _,rfl,F,G,I⟩
 case round=>
  obtain ⟨pre,k,rfl,Q,b,c,c1,q⟩:=hrel;have t:pre.length=k:=by have:=congrArg List.length b;simpa using this
  by_cases d:k<D
  . have R:((k*44:Nat):Int)<((D*44:Nat):Int):=(by omega);have i:wr.drew.cell? ⟨b1,0,ZY⟩=ZX (Z5 (ZX ⟨g,0,ZY⟩) (D*44) (D*44)):=c1;have j:wr.drew.cell? ⟨b2,0,ZY⟩=ZX (Z7 Z9 44):=q;obtain ⟨fn,tmps,assign,body,A,z⟩:=L pre ⟨k,d⟩ wr.drew (K _ _ c) (by omega);unfold FC C4 at A;simp only at A;have H:=a5 z c b t;clear z c b t;gi_wp2;refine wpIn_wide.2 (za (by kernel_rfl) d c1 q rfl rfl rfl rfl ?_);rename_i hK
    refine hK _ _ ?_;clear hK;simp only [Act.RR,Act.put,UW,UR,UX];have O:k*44+44-k*44=44:=(by omega);have P:k*44+44<=D*44:=(by omega);generalize y:k*44=M at *;generalize ha:D*44=r at *;generalize hf:M+44=E at *;gi_wp2;refine ⟨λh=>(by cases h),H.out.1.mono ?_⟩;rintro e o (⟨rfl,u,w⟩|⟨rfl,s⟩)
    . have d1:o.cell? ⟨b1,0,ZY⟩=ZX (Z5 (ZX ⟨g,0,ZY⟩) r r):=(Ul w.1).trans i;have C:o.cell? ⟨b2,0,ZY⟩=ZX (Z7 Z9 44):=(Ul w.2).trans j;have f:=al u;clear u;gi_wp2;go_roundw
      case rel=>exact ⟨pre++[⟨k,d⟩],k+1,by rw [show (k+1)*44=E by omega];congr 1;omega,by omega,by rw [Uw,H.out.2.2.1,Vs];rfl,f.out,by rw [ha];exact d1,C⟩
      case measure=>simp only [intOf];omega
    . have f:=al s;clear s;gi_wp2;refine Um (Xj rfl _ _ _) rfl ?_;refine ⟨⟨_,rfl⟩,.inr ⟨pre++[⟨k,d⟩],?_,f.out⟩⟩;rw [Uw,H.out.2.2.1];refine ⟨(YD D).drop (k+1),?_⟩;show YD k++[k]++_=_;rw [<- Vs];have:YD (k+1)=(YD D).take (k+1):=by rw [List.take_range,V5 (by omega)]
      rw [this,V4]
  . have y:k=D:=(by omega);subst y;gi_wp2;go_end0
    exact ⟨⟨_,rfl⟩,.inl ⟨pre,b,c⟩⟩
def zc (n b1 b2 g D:Nat) (k:D<=1000) (w:ZU) (i:b1<w.heap.size) (j:b2<w.heap.size) (d:w.cell? ⟨b1,0,ZY⟩=ZX (Z5 (ZX ⟨g,0,ZY⟩) (D*44) (D*44))) (f:w.cell? ⟨b2,0,ZY⟩=ZX (Z7 Z9 44)) :
 SeqStopsK Fence.wide n ZO 197 #[Z6 (ZX ⟨b1,0,ZY⟩),Z6 (ZX ⟨b2,0,ZY⟩)] (FC g (D:=D)) (Kp2 b1 b2) (λq=>q.map (·.1)=YD D) (λpre=>pre.map (·.1)<+:YD D) D w:=λl J b W a m _ o c=>
 DP n l b1 b2 g D k J b (λpre X h=>m pre X X.drew ZY h ⟨rfl,rfl,rfl,TV _,λ_ _ _=>rfl⟩ (λr e=>by cases e)) o W ((a.cell (p:=⟨b1,0,ZY⟩) i).trans d) ((a.cell (p:=⟨b2,0,ZY⟩) j).trans f) c
theorem G3 (g D:Nat) (w:ZU) :
 ZS ZO 186 #[Z5 (ZX ⟨g,0,ZY⟩) (D*44) (D*44),Z7 Z9 44] w λe w'=>e=Z3 (.func (.func 197) #[] #[Z6 (ZX ⟨w.heap.size,0,ZY⟩),Z6 (ZX ⟨w.heap.size+1,0,ZY⟩)])/\w'=(w.alloc (Z4 #[Z5 (ZX ⟨g,0,ZY⟩) (D*44) (D*44)] 31)).alloc (Z4 #[Z7 Z9 44] 3):=by
 generalize D*44=a;go_enter func186,ntmps186;go_wp2;go_ret;exact ⟨rfl,rfl⟩
end
section
attribute [local go_sem] Oper.semAt_some
def wK {size:Nat} {v:ZT} (h:w.ownsRow base e size v n xs) {j:Nat} {o:Obj} (a:v.ownBlock=ZX j) (ho:w.heap[j]?=ZX o):o.isCells=ZW:=by
 rcases h.2 with ⟨d,_⟩|⟨g,cap,cur,b,f,c,_⟩
 . rw [d] at a;simp [Value.ownBlock] at a
 . rw [b] at a;simp [Value.ownBlock] at a;subst a;rw [c] at ho;cases ho;rfl
def lG {size:Nat} {v:ZT} {row:Option Nat} (h:w.ownsRow base e size v n xs) (a:w.grownBy w' row) (c:∀ r,row=ZX r->∃ o:Obj,w.heap[r]?=ZX o/\o.isCells=ZV):w'.ownsRow base e size v n xs:=by
 cases row with
 | none=>
  cases hv:v.ownBlock with
  | none=>exact h.kept a (.inl hv)
  | some q=>exact h.kept a (.inr (by rw [hv];intro e;cases e))
 | some r=>
  obtain ⟨o,ho,b⟩:=c r rfl;exact h.kept a (.inr λe=>by have:=wK h e ho;rw [b] at this;cases this)
def te (w:ZU) (b i:Nat) (v:ZT):w.grownBy (w.setCell ⟨b,i,ZY⟩ v) (ZX b):=
 ⟨rfl,rfl,rfl,by simp [World.setCell],λk _ a=>Ud _ _ _ _ (λe=>a (by rw [e]))⟩
def FD (d:fn.results=#[.tmp t]) (b:a.defers=[{ target:=.collected D',args:=#[] }]) (hx:a.tmps.getD t ZZ=x)
 (hK:Z.heap[D']?=ZX (.deferred (ZX []))) (hR:R (Z3 x) (Z.putObj D' (.deferred ZY))):bodyPostM Fence.wide n ZO fn R .ret a Z:=by
 obtain ⟨e,f⟩:=a;simp only at b hx;subst b;refine ⟨by simp,.inl ⟨_,_,rfl,Wt hK,?_⟩⟩;refine ⟨x,?_,hR⟩;have c:e[t]?.getD ZZ=x:=by simpa using hx
 simp [results,d,c]
def Rf (w:ZU) (g:Nat) (B D:Nat) (pre:List (Ch D)) (X:ZU):Prop:=
 (∃ v,ZP X w.heap.size 174 v/\X.ownsRow (w.heap.size+1) 31 1 v pre.length (pre.map λx=>C4 g x.1))/\bW w X/\B<=X.heap.size
def Rf.own (i:w.heap.size+1<=B):OwnFrom B (Rf w g B D):=by
 rintro pre X Y row ⟨⟨v,c,f⟩,d,h⟩ a b;exact ⟨⟨v,(a.block _ c.lt (λe=>by have:=(b _ e.symm).1;omega)).trans c,lG f a λr e=>(b r e).2⟩,d.grown a d.size (λk e=>by have:=(b k e).1;omega),TW h a.size⟩
def Tryz.Sb:(ZO.info? 31).map (λi=>(i.zero,i.size,i.bytes))=ZX (ZX (Z5 ZY 0 0),1,24):=by kernel_rfl
def Ko {F:Fence} {rest:List ZR} (t:o.guard=ZY) (x y:Operand) (ho:o.op=.call { callee:=.builtin .append,args:=#[x,y],argTypes:=#[174,174] })
 (n0 q:Nat) (k:Nat) (xs:List ZT) (u v:ZT) (hx:a.eval x=v) (hy:a.eval y=Z5 (ZX ⟨q,0,ZY⟩) 1 1) (h3:w.ownsRow n0 31 1 v k xs) (hc:w.cell? ⟨q,0,ZY⟩=ZX u) (hu:u.oneCell'=ZW) (h7:n0<=w.heap.size) (hk:k<=1000000)
 (hK:∀ c b w2,n0<=c->w2.ownsRow n0 31 1 (Z5 (ZX ⟨c,0,ZY⟩) (k+1) b) (k+1) (xs++[u])->w.grownBy w2 v.ownBlock->wpListIn F n ZO ops Q rest (a.put o.dst (Z5 (ZX ⟨c,0,ZY⟩) (k+1) b)) w2):wpListIn F n ZO ops Q (o::rest) a w:=by
 obtain ⟨A,l,m,p,r⟩:=Us Tryz.Sb;refine wpListIn_append_own w t x y 174 ho n0 31 A (Z5 ZY 0 0) 1 24 Wp l m p r rfl (by decide) v k xs hx h3 ⟨q,0,ZY⟩ 1 1 [u] hy rfl (λj u' d=>?_) (λu' f=>by simp at f;subst f;exact hu) (by unfold maxLen;omega) (by omega) h7 ?_
 . cases j with
   | zero=>simp at d;subst d;exact hc
   | succ j=>simp at d
 . intro B w2 e h _;obtain ⟨c,b,rfl,i⟩:∃ c b,B=Z5 (ZX ⟨c,0,ZY⟩) (k+1) b/\n0<=c:=by
    rcases e.2 with ⟨_,C⟩|⟨g,cap,cur,z,s,_⟩
    . omega
    . exact ⟨g,cap,z,s⟩
   exact hK c b w2 i e h
theorem pJ (g D b1 b2:Nat) (Q:D<=1000) (w:ZU) (G:b1<w.heap.size) (I:b2<w.heap.size) (O:w.cell? ⟨b1,0,ZY⟩=ZX (Z5 (ZX ⟨g,0,ZY⟩) (D*44) (D*44))) (P:w.cell? ⟨b2,0,ZY⟩=ZX (Z7 Z9 44)) :
 ZS ZO 196 #[Z5 ZY 0 0,.func (.func 197) #[] #[Z6 (ZX ⟨b1,0,ZY⟩),Z6 (ZX ⟨b2,0,ZY⟩)]] w λe w'=>∃ v,e=Z3 v/\w'.ownsRow w.heap.size 31 1 v D ((YD D).map (C4 g))/\bW w w':=by
 obtain ⟨n,M⟩:∃ n:Nat,Hid (9<=n):=⟨9,TV _⟩;refine (Vk (n:=n)).1 ?_;refine V6 func196 rfl trivial ?_ rfl;simp only [ntmps196,UF,Uv,UQ,YF,YG,Va,Vb,Vc,Vd,Uk,UL];gi_wp2;obtain ⟨w1,s⟩:=nM (w.alloc (Z4 #[Z5 ZY 0 0] 174));have N:ZP w1 w.heap.size 174 (Z5 ZY 0 0):=by rw [<- s];exact UA w _ _
 have k9:w1.heap.size=w.heap.size+1:=by rw [<- s];simp
 have B:bW w w1:=by rw [<- s];exact bA w _
 rw [s];clear s;have U:Rf w g w1.heap.size D [] w1:=⟨⟨_,N,UK _ _ _ _⟩,B,TV _⟩;refine V7 rfl (by have:=M.out;omega) (gf:=197) (lb:=#[Z6 (ZX ⟨b1,0,ZY⟩),Z6 (ZX ⟨b2,0,ZY⟩)]) rfl trivial (Vl func197 (by kernel_rfl) rfl)
  (zc (n-1) b1 b2 g D Q w1 (by omega) (by omega) ((B.cell (p:=⟨b1,0,ZY⟩) G).trans O) ((B.cell (p:=⟨b2,0,ZY⟩) I).trans P)) (λh k=>⟨k.1.trans h.1,k.2.trans h.2⟩) (λW l o o' hl _ _ _=>⟨UV (by omega),UV (by omega)⟩) (TY _ _) (λ_=>rfl)
  (Rf w g w1.heap.size D) (λ_ _ _=>False) (Rf.own (by omega)) (λ_ _ _ _ _ h _ _=>h.elim) U
  (λx=>{ tmps:=#[Z5 ZY 0 0,.func (.func 197) #[] #[Z6 (ZX ⟨b1,0,ZY⟩),Z6 (ZX ⟨b2,0,ZY⟩)],Z6 (ZX ⟨w.heap.size,0,ZY⟩),ZZ,Z5 ZY 0 0,C4 g x.1,.func (.func 197) #[] #[Z6 (ZX ⟨b1,0,ZY⟩),Z6 (ZX ⟨b2,0,ZY⟩)],C4 g x.1,ZZ,ZZ,ZZ,ZZ,ZZ],defers:=[] }) ?assign ?body ?done ?stop
 case assign=>
  intro l2 x X Kk hK;unfold FC;gi_wp2;exact hK
 case body=>
  rintro l2 pre x X ⟨⟨v,f,b⟩,a,y⟩ hr;have c0:=f.cell;have hz:=f.lt;have k8:pre.length<=1000:=by omega
  obtain ⟨c,Y⟩:=nM (x.1*44);have m:C4 g x.1=Z5 (ZX ⟨g,c,ZY⟩) 44 44:=by rw [<- Y];rfl
  have R:(Value.slice (ZX ⟨g,c,ZY⟩) 44 44).oneCell'=ZW:=rfl;have T:(X.alloc (Z4 #[Z5 (ZX ⟨g,c,ZY⟩) 44 44] 31)).cell? ⟨X.heap.size,0,ZY⟩=ZX (Z5 (ZX ⟨g,c,ZY⟩) 44 44):=(UA X 31 (Z5 (ZX ⟨g,c,ZY⟩) 44 44)).cell;have H:=a6 f b a y m;rw [m];clear f b a y m;have C:Hid ((X.alloc (Z4 #[Z5 (ZX ⟨g,c,ZY⟩) 44 44] 31)).ownsRow (w.heap.size+1) 31 1 v pre.length (pre.map λx=>C4 g x.1)):=al (ay H.out.2.1 (bA X _));have L:Hid (w.heap.size+1<=(X.alloc (Z4 #[Z5 (ZX ⟨g,c,ZY⟩) 44 44] 31)).heap.size):=al (by simp;omega);gi_wp2_with (
   gi_at_builtin;
   refine Ko rfl (Z1 8) (Z1 10) rfl (w.heap.size+1) X.heap.size pre.length (pre.map λx=>C4 g x.1) (Z5 (ZX ⟨g,c,ZY⟩) 44 44) v (by rfl) (by rfl) (by exact C.out) (by exact T) R L.out (by omega) ?_;
   intro E d w2 k7 F i;
   have A:ZP w2 w.heap.size 174 v:=(i.block w.heap.size (by simp;omega) (λe=>by have:=(H.out.2.1.lt _ e.symm).1;omega)).trans (H.out.1.alloc _);
   have d0:=A.cell;
   have f0:=A.frozen)
  obtain ⟨f,b,a,y,m⟩:=H.out;have Z:∀ q,v.ownBlock=ZX q->w.heap.size+1<=q:=λq e=>(b.lt q e).1;have k0:=i.size;simp only [Uq] at k0;have V:KeepsOthers X w2:=(KeepsOthers.alloc X (Z4 #[Z5 (ZX ⟨g,c,ZY⟩) 44 44] 31)).trans (aa9 i λj o e ho=>wK C.out e ho);have z:∀ k,k<w.heap.size->w2.heap[k]?=X.heap[k]?:=λk u=>(i.block k (by simp;omega) (λe=>by have:=Z k e.symm;omega)).trans (Ux _ _ _ (by omega));have J:∀ k,k≠w.heap.size->(w2.setCell ⟨w.heap.size,0,ZY⟩ (Z5 (ZX ⟨E,0,ZY⟩) (pre.length+1) d)).heap[k]?=w2.heap[k]?:=λk u=>Ud _ _ _ _ u;refine ⟨(V.trans (VS _ _ _)).from _,⟨(J _ (by omega)).trans (z _ G),(J _ (by omega)).trans (z _ I)⟩,⟨_,A.set _,?_⟩,?_,by simp [World.setCell];omega⟩
  . have q:=F.kept (te w2 w.heap.size 0 (Z5 (ZX ⟨E,0,ZY⟩) (pre.length+1) d)) (.inr λe=>by have:=(F.lt _ e).1;omega);have e:(pre++[x]).map (λx=>C4 g x.1)=pre.map (λx=>C4 g x.1)++[Z5 (ZX ⟨g,c,ZY⟩) 44 44]:=(by rw [Uw,<- m];rfl);rw [e,T8];exact q
  . refine (WU (p:=⟨w.heap.size,0,ZY⟩) ?_ lR _);exact ⟨i.os.trans a.os,i.tape.trans a.tape,i.output.trans a.output,by have:=a.size;omega,λk u=>(z k u).trans (a.block k u)⟩
 case done=>
  rintro D' xs X S K ⟨⟨v,f,b⟩,a,y⟩ hK;have c0:=f.cell;have H:=aE b a hK;clear f b a hK;gi_wp2;obtain ⟨b,a,hK⟩:=H.out;have k5:xs.length=D:=by have:=congrArg List.length K;simpa using this
  have k6:xs.map (λx=>C4 g x.1)=(YD D).map (C4 g):=by rw [<- K,List.map_map];rfl
  rw [k5,k6] at b;refine FD (t:=4) results196 rfl rfl hK ⟨_,rfl,?_,?_⟩
  . exact cP (lG b (WW X D' (.deferred ZY)) λr e=>by cases e;exact ⟨_,hK,rfl⟩) (by omega)
  . exact Below.RV a (by omega) (TX.1 hK).1 _
 case stop=>
  rintro D' cc pre X S hy hx hK;exact hx.elim
theorem tf (g D b1 b2:Nat) (j:D<=1000) (w:ZU) (h:b1<w.heap.size) (i:b2<w.heap.size) (b:w.cell? ⟨b1,0,ZY⟩=ZX (Z5 (ZX ⟨g,0,ZY⟩) (D*44) (D*44))) (c:w.cell? ⟨b2,0,ZY⟩=ZX (Z7 Z9 44)) :
 ZS ZO 185 #[.func (.func 197) #[] #[Z6 (ZX ⟨b1,0,ZY⟩),Z6 (ZX ⟨b2,0,ZY⟩)]] w λe w'=>∃ v,e=Z3 v/\w'.ownsRow w.heap.size 31 1 v D ((YD D).map (C4 g))/\bW w w':=by
 have f:=pJ g D b1 b2 j w h i b c;clear b c;go_enter func185,ntmps185;go_wp2_with fail;refine f.mono ?_;rintro e w' ⟨v,rfl,a,d⟩;have H:=au a d;clear f a d;go_wp2;go_ret;exact ⟨_,rfl,H.out.1,H.out.2⟩
def iL (D:Nat) (dl:a8):a8:=dl++YE (D*44-dl.length) 0
def dP (D:Nat) (dl:a8):List a8:=(YD D).map λi=>((iL D dl).drop (i*44)).take 44
def Kp (h:dl.length<=D*44):(iL D dl).length=D*44:=by unfold iL;simp;omega
def dW (D:Nat) (dl:a8):(dP D dl).length=D:=by simp [dP]
def oi (a:i<(dP D dl).length):(dP D dl)[i]=((iL D dl).drop (i*44)).take 44:=by simp [dP]
def mu (h:dl.length<=D*44) (a:i<D):(((iL D dl).drop (i*44)).take 44).length=44:=by
 rw [Ui,Uj,Kp h];omega
def Nh (h:∀ x∈dl,x<256):∀ x∈iL D dl,x<256:=by
 intro x a;unfold iL at a;rw [Uf] at a;rcases a with a|a
 . exact h x a
 . have:=VG a;omega
theorem PH (h:bk w v p D L G ps ho) (hD:D<=12) (X:ZT) (dl:a8) (Q:Bs w X dl) (hl:dl.length<=D*44) :
 ZS ZO 168 #[Z6 (ZX ⟨v,0,ZY⟩),X] w λe w'=>∃ u,e=Z3 u/\Rd w' u (dP D dl)/\bW w w':=by
 have W:=dA h (by omega);obtain ⟨b,y⟩:=nM (D*44);have hy:b<=528:=by omega
 rw [y] at W hl;have I:=al Q;clear Q;go_enter func168,ntmps168;go_wp2_with fail;refine W.mono ?_;rintro e w1 ⟨rfl,rfl⟩;go_wp2_with (at_make;refine eA _ rfl (Z1 7) (Z1 7) rfl _ b (by rfl) (by rfl) rfl (by omega) ?_;intro w2 P z k5;obtain ⟨a,hv,o,T⟩:=Ba (n:=b) (cap:=b) (off:=0) 3 P (I.out.mono z) (by omega) (by simp;omega));have r:bW w1 a:=z.grown T (by omega) (λk e=>by cases e;exact TV _);have O:spl (YE b 0) 0 dl=iL D dl:=by
  unfold spl iL;rw [VR,Uk,Ue,X9,y]
 rw [O] at o;have A:=G3 w1.heap.size D a;rw [y] at A;have F:=aE o r A;clear hv P z T o r A O;refine F.out.2.2.mono ?_;rintro e f ⟨rfl,rfl⟩;obtain ⟨f,d⟩:=nM ((a.alloc (Z4 #[Z5 (ZX ⟨w1.heap.size,0,ZY⟩) b b] 31)).alloc (Z4 #[Z7 Z9 44] 3));have s:bW a f:=by rw [<- d];exact (bA a _).alloc (by simp) _
 have k0:f.heap.size=a.heap.size+2:=by rw [<- d];simp
 have K:f.cell? ⟨a.heap.size,0,ZY⟩=ZX (Z5 (ZX ⟨w1.heap.size,0,ZY⟩) (D*44) (D*44)):=by rw [<- d,y];exact ((UA a _ _).alloc _).cell
 have M:f.cell? ⟨a.heap.size+1,0,ZY⟩=ZX (Z7 Z9 44):=by
  have:=(UA (a.alloc (Z4 #[Z5 (ZX ⟨w1.heap.size,0,ZY⟩) b b] 31)) 3 (Z7 Z9 44)).cell;rw [Uq] at this;rw [<- d];exact this
 have S:=tf w1.heap.size D a.heap.size (a.heap.size+1) (by omega) f (by omega) (by omega) K M;rw [d];have H:=au s S;clear d s S K M k0;go_wp2_with fail;refine H.out.2.mono ?_;rintro e E ⟨u,rfl,m,t⟩;have Y:=au m t;clear m t;go_wp2;go_ret;obtain ⟨o,r,_⟩:=F.out;obtain ⟨s,_⟩:=H.out;obtain ⟨m,t⟩:=Y.out;have N:bW a E:=s.trans (t.mono s.size);have hq:aM E w1.heap.size (iL D dl):=o.below N;refine ⟨u,rfl,?_,r.trans (N.mono r.size)⟩;rcases m.2 with ⟨Z,h1⟩|⟨q,cap,cur,J,e2,e3,e4,e5,e6,e7⟩
 . subst Z;have:dP D dl=[]:=by rw [<- WQ,dW];exact h1
   exact ⟨ZY,0,by rw [this];rfl,by rw [this];decide,λC=>absurd this C⟩
 . refine ⟨ZX ⟨q,0,ZY⟩,cap,by rw [J,dW],by rw [dW];omega,λ_=>⟨q,0,rfl,λi R=>?_⟩⟩;have B:=R;rw [dW] at B;refine ⟨C4 w1.heap.size i,?_,?_⟩
   . have:=m.cells (g:=q) (by rw [J];rfl) i (C4 w1.heap.size i) (by simp [B]);rw [jD] at this;rw [Ue];exact this
   . rw [oi R];have hg:=mu (D:=D) (dl:=dl) (by omega) B;have hr:E.rangeAt w1.heap.size 0 (aI (iL D dl)):=λj u hu=>by
      have C:=hq.SK;have hz:(aI (iL D dl)).toArray[j]?=ZX u:=(by simpa using hu);simp [World.cell?,C,hz]
     have V:=np 44 (fU (i*44) hr);rw [Ue] at V;have U:=Bs.mid (c:=44) (l:=((iL D dl).drop (i*44)).take 44) (by omega) (by omega) (λx hx=>Nh I.out.lt x (US (UN hx))) V;rw [hg] at U;exact U
end
section
attribute [local go_sem] Oper.semAt_some
def jr (nb:Nat) (s:(Nat->Bool)×Bool) (x:Nat):(Nat->Bool)×Bool:=if x<2\/nb<=x\/s.1 x=ZW then (s.1,ZV) else (λj=>if j=x then ZW else s.1 j,s.2)
def tk (nb:Nat) (l:a8):(Nat->Bool)×Bool:=l.foldl (jr nb) (λ_=>ZV,ZW)
def rR (nb:Nat) (l:a8) (x:Nat):tk nb (l++[x])=jr nb (tk nb l) x:=by simp [tk]
def Tryz.Td:(ZO.info? 4).map (λi=>(i.zero,i.size,i.bytes))=ZX (ZX (Z2 ZV),1,1):=by kernel_rfl
def pK (w:ZU) {F:Fence} {m:Nat} {ops:Array ZR} {rest:List ZR} {o:ZR} {a:Act} {Q:Exit->Act->ZU->Prop}
 (i:o.guard=ZY) (l c:Operand) (b:o.op=Op.makeSlice 99 l c) (C:Int) (n:Nat) (hl:a.eval l=Z7 Z9 C) (g:a.eval c=Z7 Z9 C) (f:C=(n:Int)) (hn:n<=1000000000)
 (hK:∀ w',w'.rowIs w.heap.size 4 n (λ_=>Z2 ZV)->bW w w'->w'.heap.size=w.heap.size+1->wpListIn F m ZO ops Q rest (a.put o.dst (Z5 (ZX ⟨w.heap.size,0,ZY⟩) n n)) w') :
 wpListIn F m ZO ops Q (o::rest) a w:=by
 refine Yo i λK e=>?_;have d:=Xz (P:=ZO) 99 4 (Z2 ZV) 1 underlying99 Tryz.Td rfl .i64 .i64 n (by omega) (by omega) w;subst f;unfold Oper.wpIn;refine ⟨by simp [Oper.about,b],?_⟩;rw [Wh F _ _ (by rw [b];intro c h;cases h)];simp [execOp,b,hl,g,d,Result.andThen];exact e _ _ (hK _ (Xc w _ n _) (bA _ _) (Ug _ _))
structure PI (w:ZU) (g nb B:Nat) (pre:a8) (X:ZU):Prop where
 row:X.rowIs g 4 nb (λj=>Z2 ((tk nb pre).1 j))
 box:ZP X (g+1) 99 (Z5 (ZX ⟨g,0,ZY⟩) nb nb)
 ok:ZP X (g+1+1) 4 (Z2 (tk nb pre).2)
 below:bW w X
 size:B<=X.heap.size
def PI.own {nb:Nat} (l:g+3<=B) (m:w.heap.size<=B):OwnFrom B (PI w g nb B):=by
 rintro pre X Y row ⟨f,h,i,c,j⟩ b d;have a:∀ k,k<B->Y.heap[k]?=X.heap[k]?:=λk a=>b.block k (by omega) (λe=>by have:=(d k e.symm).1;omega);exact ⟨f.of_block (a _ (by omega)),(a _ (by omega)).trans h,(a _ (by omega)).trans i,c.grown b c.size (λk e=>by have:=(d k e).1;omega),TW j b.size⟩
def tg {u:Nat} {y:ZT} (f:fn.results=#[.tmp t,.tmp u]) (b:a.defers=[{ target:=.collected D',args:=#[] }]) (hx:a.tmps.getD t ZZ=x) (hy:a.tmps.getD u ZZ=y)
 (hK:Z.heap[D']?=ZX (.deferred (ZX []))) (hR:R (Z3 (Z0 #[x,y])) (Z.putObj D' (.deferred ZY))):bodyPostM Fence.wide n ZO fn R .ret a Z:=by
 obtain ⟨c,g⟩:=a;simp only at b hx hy;subst b;refine ⟨by simp,.inl ⟨_,_,rfl,Wt hK,?_⟩⟩;refine ⟨Z0 #[x,y],?_,hR⟩;have d:c[t]?.getD ZZ=x:=by simpa using hx
 have e:c[u]?.getD ZZ=y:=by simpa using hy
 simp [results,f,d,e]
theorem wL {nn:Nat} {off:Bool} {A:aH} (N:bh w ar v D' L' G' t f nn pg ob off) (hV:bk w v p D L G ps ho) (h:aB w p A F) (hn:0<A.n) (P:a8) (os:List Ob) (hP:br (λk=>k<w.heap.size) w pg P) (hC:eY (λk=>k<w.heap.size) w ob os) :
 ZS ZO 135 #[Z6 (ZX ⟨ar,0,ZY⟩)] w λe w'=>∃ g,e=Z3 (Z0 #[Z5 (ZX ⟨g,0,ZY⟩) A.nb A.nb,Z2 (tk A.nb (P++ak os)).2])/\w.heap.size<=g/\w'.rowIs g 4 A.nb (λj=>Z2 ((tk A.nb (P++ak os)).1 j))/\bW w w':=by
 obtain ⟨n,HN⟩:∃ n:Nat,Hid (9<=n):=⟨9,TV _⟩;obtain ⟨c0,_⟩:=N.cells;have Q:=jq hV h hn;have ka:=h.SC.2;obtain ⟨nb,h7⟩:=nM (A.nb);rw [h7] at Q ka ⊢;clear h7;have C:=a5 N hP hC Q;clear N hP hC Q;refine (Vk (n:=n)).1 ?_;refine V6 func135 rfl trivial ?_ rfl;simp only [ntmps135,UF,Uv,UQ,YF,YG,Va,Vb,Vc,Vd,Uk,UL];gi_wp2;refine cV C.out.2.2.2 ?_;rintro e w1 ⟨rfl,rfl⟩;gi_wp2_with (gi_at_make;refine pK _ rfl (Z1 11) (Z1 11) rfl _ nb (by rfl) (by rfl) rfl (by omega) ?_;intro w2 h6 hq J)
 obtain ⟨d,B⟩:=nM ((w2.alloc (Z4 #[Z5 (ZX ⟨w1.heap.size,0,ZY⟩) nb nb] 99)).alloc (Z4 #[Z2 ZW] 4));have k0:d.heap.size=w1.heap.size+3:=by rw [<- B];simp [J]
 have hr:bW w1 d:=by rw [<- B];exact (hq.alloc (by omega) _).alloc (by simp;omega) _
 have hp:d.rowIs w1.heap.size 4 nb (λ_=>Z2 ZV):=by rw [<- B];exact (h6.alloc _).alloc _
 have hg:ZP d (w1.heap.size+1) 99 (Z5 (ZX ⟨w1.heap.size,0,ZY⟩) nb nb):=by
  rw [<- B];have:=UA w2 99 (Z5 (ZX ⟨w1.heap.size,0,ZY⟩) nb nb);rw [J] at this;exact this.alloc _
 have hm:ZP d (w1.heap.size+1+1) 4 (Z2 ZW):=by
  rw [<- B];have:=UA (w2.alloc (Z4 #[Z5 (ZX ⟨w1.heap.size,0,ZY⟩) nb nb] 99)) 4 (Z2 ZW);rw [Uq,J] at this;exact this
 rw [B];clear B h6 hq J c0 hV h;refine cV (sU ar d) ?_;rintro e w' ⟨rfl,rfl⟩;have h5:ZP (d.alloc (Z4 #[Z6 (ZX ⟨ar,0,ZY⟩)] 86)) d.heap.size 86 (Z6 (ZX ⟨ar,0,ZY⟩)):=UA d _ _;have k5:(d.alloc (Z4 #[Z6 (ZX ⟨ar,0,ZY⟩)] 86)).heap.size=d.heap.size+1:=by simp
 have H:PI w1 w1.heap.size nb (d.heap.size+1) [] (d.alloc (Z4 #[Z6 (ZX ⟨ar,0,ZY⟩)] 86)):=⟨hp.alloc _,hg.alloc _,hm.alloc _,hr.alloc (by omega) _,by omega⟩;obtain ⟨s,hs⟩:=nM (d.alloc (Z4 #[Z6 (ZX ⟨ar,0,ZY⟩)] 86));have I:=a5 h5 H k0 k5;clear h5 H k0 k5 hp hg hm hr;gi_wp2;rw [hs] at I;clear hs;obtain ⟨ke,kf,kg,kh⟩:d.heap.size<=w1.heap.size+3/\w1.heap.size+3<=d.heap.size/\s.heap.size<=d.heap.size+1/\d.heap.size+1<=s.heap.size:=by have:=I.out.2.2;omega
 have H:PI w1 w1.heap.size nb s.heap.size [] s:=by have:=I.out.2.1;exact ⟨this.row,this.box,this.ok,this.below,TV _⟩
 have O:∀ {v:ZT} {l:a8},br (λk=>k<w1.heap.size) w1 v l->br (λk=>k<w1.heap.size\/k=d.heap.size) w1 v l:=λ⟨ao,c,S,T,U⟩=>⟨ao,c,S,T,λhl=>by obtain ⟨b,off,V,Y,Z⟩:=U hl;exact ⟨b,off,V,.inl Y,Z⟩⟩;have k8:=O C.out.2.1;have k6:eY (λk=>k<w1.heap.size\/k=d.heap.size) w1 ob os:=by
  obtain ⟨ao,c,S,T,U⟩:=C.out.2.2.1;refine ⟨ao,c,S,T,λhl=>?_⟩;obtain ⟨b,off,V,Y,Z,r4⟩:=U hl;refine ⟨b,off,V,.inl Y,Z,λi a=>?_⟩;obtain ⟨sv,s1,s2,s3,s4⟩:=r4 i a;exact ⟨sv,s1,s2,s3,O s4⟩
 have M:=H.below;have HI:=al H;clear H O;refine V7 rfl (by have:=HN.out;omega) (gf:=123) (lb:=#[Z6 (ZX ⟨d.heap.size,0,ZY⟩)]) rfl trivial (Vl func123 (by kernel_rfl) rfl)
  (pG (λk=>k<w1.heap.size\/k=d.heap.size) (n-1) d.heap.size ar v D' L' G' t f nn pg ob off P os (.inr rfl) (.inl C.out.1.lt) s I.out.1 (C.out.1.keep (M.block _ C.out.1.lt)) (k8.keep (eB.RT M)) (k6.keep (eB.RT M)))
  (λh k=>h.trans k) (λW l o o' hl _ _ _=>⟨by simp [World.putObj],λk _ r=>UV (by rcases r with r|r<;>omega)⟩) (TY _ _) (λ_=>rfl)
  (PI w1 w1.heap.size nb s.heap.size) (λ_ _ _=>False) (PI.own (by omega) (by omega)) (λ_ _ _ _ _ h _ _=>h.elim) HI.out
  (λx=>{ tmps:=#[Z6 (ZX ⟨ar,0,ZY⟩),ZZ,Z5 ZY 0 0,Z2 ZV,Z6 (ZX ⟨w1.heap.size+1,0,ZY⟩),Z6 (ZX ⟨w1.heap.size+1+1,0,ZY⟩),Z7 Z9 (x:Nat),Z6 (ZX ⟨ar,0,ZY⟩),Z6 (ZX ⟨ar,0,ZY⟩),Z6 (ZX ⟨ar,0,ZY⟩),Z6 (ZX ⟨v,0,ZY⟩),Z7 Z9 (nb:Nat),Z5 (ZX ⟨w1.heap.size,0,ZY⟩) nb nb,Z6 (ZX ⟨ar,0,ZY⟩),.func (.func 123) #[] #[Z6 (ZX ⟨d.heap.size,0,ZY⟩)],Z7 Z9 (x:Nat),ZZ,ZZ,ZZ,ZZ,ZZ,ZZ,ZZ,ZZ,ZZ,ZZ,ZZ,ZZ,ZZ,ZZ,ZZ,ZZ,ZZ,ZZ,ZZ],defers:=[] }) ?assign ?body ?done ?stop
 case assign=>
  intro l2 x X Kk hK;unfold pB;gi_wp2;exact hK
 case body=>
  rintro l2 pre x X a k9;have c1:=a.box.cell;have c2:=a.ok.cell;have f2:=a.ok.frozen;have E:=al a;have h1:tk nb (pre++[x])=((tk nb pre).1,ZV)->KeepsFrom s.heap.size X (X.setCell ⟨w1.heap.size+1+1,0,ZY⟩ (Z2 ZV))/\eB (λk=>k<w1.heap.size\/k=d.heap.size) X (X.setCell ⟨w1.heap.size+1+1,0,ZY⟩ (Z2 ZV))/\PI w1 w1.heap.size nb s.heap.size (pre++[x]) (X.setCell ⟨w1.heap.size+1+1,0,ZY⟩ (Z2 ZV)):=λm=>by
   have a:=E.out;refine ⟨(VS _ _ _).from _,⟨by simp [World.setCell],λk _ r=>Ud _ _ _ _ (by show k≠w1.heap.size+1+1;rcases r with r|r<;>omega)⟩,?_,?_,?_,?_,?_⟩
   . rw [m];exact a.row.of_block (Ud _ _ _ _ (by show w1.heap.size≠w1.heap.size+1+1;omega))
   . exact (Ud _ _ _ _ (by show w1.heap.size+1≠w1.heap.size+1+1;omega)).trans a.box
   . rw [m];exact a.ok.set _
   . exact a.below.setCell (p:=⟨w1.heap.size+1+1,0,ZY⟩) (by show w1.heap.size<=w1.heap.size+1+1;omega) _
   . simpa [World.setCell] using a.size
  have K:=al h1;clear a h1;by_cases hv:x<2
  . have e1:(x:Int)<2:=(by omega);have m:tk nb (pre++[x])=((tk nb pre).1,ZV):=(by rw [rR];unfold jr;rw [if_pos (.inl hv)]);have z:=al m;clear m;gi_wp2;exact K.out z.out
  . have e1:¬ (x:Int)<2:=(by omega);by_cases hy:nb<=x
    . have e2:(x:Int)≥(nb:Int):=(by omega);have m:tk nb (pre++[x])=((tk nb pre).1,ZV):=(by rw [rR];unfold jr;rw [if_pos (.inr (.inl hy))]);have z:=al m;clear m;gi_wp2;exact K.out z.out
    . have e2:¬ (x:Int)≥(nb:Int):=(by omega);have kc:x<nb:=(by omega);have c3:=E.out.row.cell (i:=x) kc;have f3:=E.out.row.frozen x;cases h9:(tk nb pre).1 x with
      | true=>
       rw [h9] at c3;have m:tk nb (pre++[x])=((tk nb pre).1,ZV):=(by rw [rR];unfold jr;rw [if_pos (.inr (.inr h9))]);have z:=al m;clear m;gi_wp2;exact K.out z.out
      | false=>
       rw [h9] at c3;have m:tk nb (pre++[x])=(λj=>if j=x then ZW else (tk nb pre).1 j,(tk nb pre).2):=by
        rw [rR];unfold jr;rw [if_neg];rintro (q|q|q)
        . exact hv q
        . exact hy q
        . rw [h9] at q;cases q
       have z:=al m;clear m;gi_wp2;have m:=z.out;have a:=E.out;refine ⟨(VS _ _ _).from _,⟨by simp [World.setCell],λk _ r=>Ud _ _ _ _ (by show k≠w1.heap.size;rcases r with r|r<;>omega)⟩,?_,?_,?_,?_,?_⟩
       . rw [m];refine (a.row.set x (Z2 ZW)).congr λj hj=>?_;by_cases e:j=x
         . simp [e]
         . simp [e]
       . exact (Ud _ _ _ _ (by show w1.heap.size+1≠w1.heap.size;omega)).trans a.box
       . rw [m];exact (Ud _ _ _ _ (by show w1.heap.size+1+1≠w1.heap.size;omega)).trans a.ok
       . exact a.below.setCell (p:=⟨w1.heap.size,x,ZY⟩) lR _
       . simpa [World.setCell] using a.size
 case done=>
  rintro D1 xs X k7 hz a hK;rw [hz] at a;have c1:=a.box.cell;have c2:=a.ok.cell;have E:=au a hK;clear a hK hz;obtain ⟨tb,R⟩:=nM ((tk nb (P++ak os)).2);rw [R] at c2;have HT:=al R;clear R;gi_wp2;gi_region
  gi_wp2;obtain ⟨a,hK⟩:=E.out;have hh:X.drew.heap[D1]?=ZX (.deferred (ZX [])):=hK;refine tg (t:=2) (u:=3) (x:=Z5 (ZX ⟨w1.heap.size,0,ZY⟩) nb nb) (y:=Z2 tb) results135 rfl rfl rfl hh ⟨w1.heap.size,by rw [HT.out],TV _,?_,?_⟩
  . exact a.row.of_block (UV (w:=X.drew) (by omega))
  . exact Below.RV a.below.drew (by omega) (TX.1 hh).1 _
 case stop=>
  rintro D1 cc pre X k7 kb hx hK;exact hx.elim
end
theorem vw (h ao:Option Addr) (cap a c:Nat) (w:ZU) (n:c<256) :
 ZS ZO 165 #[.slice h 0 cap,.slice ao 0 a,Z7 .u8 c] w λe w'=>e=Z3 (Z0 #[])/\bW w w':=by
 by_cases d:c=0
 . subst d;go_enter func165,ntmps165;go_wp2;exact Um (v:=Z0 #[]) (by simp [results,results165]) rfl ⟨rfl,TY _ _⟩
 . have p:((c:Int)==0)=ZV:=(by rw [beq_eq_false_iff_ne];omega);clear d;go_enter func165,ntmps165;go_wp2_with fail;refine (lE c n _).mono ?_;rintro e w1 ⟨cs,rfl,m,f,b⟩;have l:=b.size;go_wp2_with (refine nj _ rfl (Z1 6) (Z1 11) rfl w1.heap.size c cs _ rfl rfl (UG w1 _) rfl m f ?_;intro w2 i g);have j:bW w w2:=by
    refine (b.trans ((TY _ _).alloc l _)).grown g (by rw [Ug];omega) (λk o=>by simp at o;omega)
   clear g i f b;refine VV 1 ?_;rw [Vg];go_wp2;go_end0
   exact ⟨rfl,j⟩
def zd (b ao:Option Addr) (n m cap a c:Nat) (w:ZU) (hn:n=0) (f:m=0) (d:c<256) :
 ZS ZO 165 #[.slice b n cap,.slice ao m a,Z7 .u8 c] w λe w'=>e=Z3 (Z0 #[])/\bW w w':=by
 subst hn f;exact vw b ao cap a c w d
def Ni (row:a8) (D:List a8):Nat->Nat->Nat
 | 0,_=>0
 | t+1,k=>Ni row D t k^^^gm (row.getD t 0) ((D.getD t []).getD k 0)
def cI (row:a8) (D:List a8) (n t:Nat):a8:=(YD n).map (Ni row D t)
def fV (row:a8) (D:List a8) (n t:Nat):(cI row D n t).length=n:=by simp [cI]
theorem Bj (row:a8) (D:List a8) (n:Nat):cI row D n 0=YE n 0:=by
 unfold cI;apply Vh
 . simp
 . intro j a b;simp [Ni]
def PJ (row:a8) (D:List a8) (a:∀ x∈row,x<256) (t k:Nat):Ni row D t k<256:=by
 induction t with
 | zero=>exact (by decide:(0:Nat)<256)
 | succ t ih=>exact uY ih (bE _ (ez a t))
def pL (row:a8) (D:List a8) (a:∀ x∈row,x<256) (n t:Nat):∀ x∈cI row D n t,x<256:=by
 intro x b;obtain ⟨k,_,rfl⟩:=T6.1 b;exact PJ row D a t k
def th (row:a8) (D:List a8) (n t k:Nat) (a:k<n):(cI row D n t).getD k 0=Ni row D t k:=by simp [cI,a]
def Bk (row:a8) (D:List a8) (n t j:Nat) (a:j<n) :
 tv (gV (λi=>(cI row D n t).getD i 0) (λi=>(D.getD t []).getD i 0) (row.getD t 0) 0 n) j=vb (cI row D n (t+1)) j:=by
 unfold tv vb gV;rw [if_pos (by omega),th _ _ _ _ _ a];show Value.int .u8 (((cI row D n t).getD j 0^^^gm (row.getD t 0) ((D.getD t []).getD (j-0) 0):Nat):Int)=_;rw [th _ _ _ _ _ a,X7];rfl
def CbR (w:ZU) (row:a8) (D:List a8) (n:Nat) (i:ZT) (wr:ZU):Prop:=
 ∃ t:Nat,t<=row.length/\i=Z7 Z9 t/\aM wr w.heap.size (cI row D n t)/\bW w wr
theorem Bm (vr vd:ZT) (row:a8) (D:List a8) (n:Nat) (w:ZU) (U:Bs w vr row) (hd:Rd w vd D) (hn:n<=4096) (v:∀ i (T:i<D.length),(D[i]).length=n) (q:row.length=D.length) (z:0<D.length) :
 ZS ZO 184 #[vr,vd] w λe w'=>∃ b,e=Z3 (Z5 (ZX ⟨b,0,ZY⟩) n n)/\w.heap.size<=b/\aM w' b (cI row D n D.length)/\bW w w':=by
 have kc:=U.lt;obtain ⟨ao,cr,rfl,h1,h2,_,N⟩:=U;obtain ⟨rb,h,rfl,kb⟩:=N (by intro e;rw [e] at q;simp at q;omega);rcases hd.cases with ⟨rfl,_⟩|⟨b,off,c,rfl,hl,A⟩
 . simp at z
 obtain ⟨u0,F,kf⟩:=A 0 z;obtain ⟨km,c0,rfl,l1,l2,_,_⟩:=kf;have f:=v 0 z;rw [f] at F;have HR:=al kb;have HC:=al A;have I:=al v;have O:=al q;clear kb A v q h1 h2 N f l1 l2;rw [VJ] at F;go_enter func184,ntmps184;go_wp2_with (at_make;refine eA _ rfl (Z1 11) (Z1 11) rfl _ n rfl rfl rfl (by omega) ?_;intro w1 y P hz;clear hz);rw [<- Bj row D n] at y;clear F;go_loopw [15] (λi wr=>CbR w row D n i wr) (λi _=>row.length-(intOf i).toNat)
 case atStart=>exact ⟨0,T9 _,rfl,y,P⟩
 case round=>
  clear y P;rename ZU=>wo;obtain ⟨t,ht,rfl,d,g⟩:=hrel;have kk:=d.lt;by_cases k9:t<row.length
  . have r:t<D.length:=(by rw [<- O.out];exact k9);have c1:=HR.out t k9;have ko:wo.cell? ⟨rb,h+t,ZY⟩=ZX (Z7 .u8 ((row.getD t 0:Nat):Int)):=(by rw [g.cell (Ub c1)];exact c1);obtain ⟨u,G,kg⟩:=HC.out t r;obtain ⟨fo,M,rfl,q1,q2,q3,H⟩:=kg;have kj:wo.cell? ⟨b,off+t,ZY⟩=ZX (.slice fo (D[t]).length M):=(by rw [g.cell (Ub G)];exact G);rw [I.out t r] at kj;have k5:=ez kc t;have k7:D.getD t []=D[t]:=(by simp [r]);have o:=Bk row D n t;rw [k7] at o;have Y:=I.out t r;have k:=al Y;generalize D[t]=l at *;generalize ki:row.getD t 0=x at *;clear c1 G k7 ki Y;by_cases f:n=0
    . have Q:aM wo w.heap.size (cI row D n (t+1)):=(by rw [f] at d ⊢;exact d);have K:=al f;clear o H d f;go_wp2_with fail;refine (zd _ _ _ _ _ _ x _ K.out K.out k5).mono ?_;rintro e w2 ⟨rfl,C⟩;have B:=Q.below C;have E:=g.trans (C.mono (by omega));clear Q C;go_wp2;go_roundw
      case rel=>exact ⟨t+1,by omega,by go_num,B,E⟩
      case measure=>simp [intOf];omega
    . obtain ⟨m,a,rfl,s⟩:=H (by intro e;rw [e] at k;exact f k.out.symm);rw [k.out] at s;have kh:m<w.heap.size:=Ub (s 0 (by omega));have R:∀ i,i<n->wo.cell? ⟨m,a+i,ZY⟩=ZX (Z7 .u8 ((l.getD i 0:Nat):Int)):=λi T=>by
       rw [g.cell (p:=⟨m,a+i,ZY⟩) kh];exact s i T
      have S:wo.rowIs w.heap.size 5 n (tv (λi=>(cI row D n t).getD i 0)):=by
       have:=d;unfold aM at this;rw [fV] at this;exact this
      have L:=al o;have J:=al R;have X:=al S;have k8:=λj=>ez (pL row D kc n t) j;have Z:=λj=>ez q3 j;have W:=al k8;have V:=al Z;clear o s R S d H k8 Z k;go_wp2_with fail;refine (jo w.heap.size 5 n 0 n n m a M x (λi=>(cI row D n t).getD i 0) (λi=>l.getD i 0) wo k5 X.out W.out V.out (by omega) (by omega) J.out (.inl (by omega))).mono ?_;rintro e w2 ⟨rfl,ka,k6⟩;have B:aM w2 w.heap.size (cI row D n (t+1)):=by
       unfold aM;rw [fV];exact ka.congr (λj hj=>L.out j hj)
      have E:=iZ g k6 (by omega) lR;clear ka k6 L J X W V;go_wp2;go_roundw
      case rel=>exact ⟨t+1,by omega,by go_num,B,E⟩
      case measure=>simp [intOf];omega
  . have ke:t=D.length:=(by rw [<- O.out];omega);rw [ke] at d;clear ke;go_wp2;go_ret;exact ⟨w.heap.size,rfl,TV _,d,g⟩
section
open Go.ChangeShapes Go.WideShapes
def Tryz.own:ownKnob ZO.godebug=ZY:=by kernel_rfl
def Tryz.et:ZO.globalNamed "errors.errorType"=ZX 0:=by kernel_rfl
def Tryz.rt:(ZO.cutTypes.find? (λx=>x.1 == "internal/reflectlite.rtype")).map (λx=>x.2)=ZX 148:=by kernel_rfl
def Tryz.oneRow:((YD 367).filter λt=>ZO.rowNamed t [101,114,114,111,114])=[53]:=by kernel_rfl
def Tryz.size:ZO.types.size=367:=by kernel_rfl
def bD (w:ZU):Prop:=w.cell? ⟨0,0,ZY⟩=ZX (.iface 148 (.agg #[Z6 (ZX ⟨3,53,ZY⟩)]))
def ti (h:laidMetH ZO [("errors.errorType",Rows.laid_errors_errorType)] W):bD W:=by
 have i:laidMet ZO [] W/\handlesMet ZO [("errors.errorType",Rows.laid_errors_errorType)] W:=h;obtain ⟨name,u,k,c,d,e,f,a⟩:=i.2 _ (Vp.2 rfl);have g:name=[101,114,114,111,114]:=(UI c).symm;subst g;obtain rfl:=UI (Tryz.rt.symm.trans d);have b:k∈(YD 367).filter λt=>ZO.rowNamed t [101,114,114,111,114]:=Vz.2 ⟨Uy.2 (by rw [<- Tryz.size];exact e),f⟩;rw [Tryz.oneRow] at b;obtain rfl:=Vp.1 b;have j:typeHandle ZO 53=Z6 (ZX ⟨3,53,ZY⟩):=by kernel_rfl
 rw [j] at a;unfold bD;simpa using World.var?_cell Tryz.et a 0
end
def eR (M:List a8) (D:List a8) (n:Nat):List a8:=M.map λrow=>cI row D n D.length
def mY (w:ZU) {ops:Array ZR} {rest:List ZR} {o:ZR} {a:Act} {Q:Exit->Act->ZU->Prop}
 (h:o.guard=ZY) (l c:Operand) (e:o.op=Op.makeSlice 174 l c) (C:Int) (n:Nat) (hl:a.eval l=Z7 Z9 C) (g:a.eval c=Z7 Z9 C) (f:C=(n:Int)) (hn:n<=1000000)
 (hK:∀ w',w'.rowIs w.heap.size 31 n (λ_=>Z5 ZY 0 0)->bW w w'->w'.heap.size=w.heap.size+1->wpList ZO ops Q rest (a.put o.dst (Z5 (ZX ⟨w.heap.size,0,ZY⟩) n n)) w') :
 wpList ZO ops Q (o::rest) a w:=by
 refine VO h λK d=>?_;have b:=Xz (P:=ZO) 174 31 (Z5 ZY 0 0) 24 Wp Tryz.Sl rfl .i64 .i64 n (by omega) (by omega) w;subst f;unfold Oper.wp;simp [execOp,e,hl,g,b,Result.andThen];exact d _ _ (hK _ (Xc w _ n _) (bA _ _) (Ug _ _))
def shv (T:List (Nat×Nat×a8)) (i:Nat):ZT:=if i<T.length then jX (T.getD i (0,0,[])) else Z5 ZY 0 0
structure oj (w:ZU) (base g N:Nat) (T:List (Nat×Nat×a8)):Prop where
 tab:w.rowIs g 31 N (shv T)
 row:∀ p∈T,base<=p.1/\aM w p.1 p.2.2/\p.2.1<=p.2.2.length/\(p.2.1<=140737488355328/\p.2.2.length<=9223372036854775807)/\∀ x∈p.2.2,x<256
 nodup:(T.map (λp=>p.1)).Nodup
def oj.below (h:oj w base g N T) (d:bW w w'):oj w' base g N T:=
 ⟨h.tab.of_block (d.block g h.tab.lt),λp e=>by obtain ⟨a,b,c⟩:=h.row p e;exact ⟨a,b.below d,c⟩,h.nodup⟩
theorem oj.push (h:oj w base g N T) (A:base<=b) (s:aM w b l) (hn:n<=l.length) (hl:l.length<=140737488355328) (j:∀ x∈l,x<256) (v:∀ p∈T,p.1≠b) :
 oj (w.setCell ⟨g,T.length,ZY⟩ (Z5 (ZX ⟨b,0,ZY⟩) n l.length)) base g N (T++[(b,n,l)]):=by
 have r:∀ c m,aM w c m->c≠g:=by
  intro c m f e;obtain ⟨x,j,_⟩:=f;obtain ⟨y,C,_⟩:=h.tab;rw [e,C] at j;simp at j
 refine ⟨?_,λp d=>?_,?_⟩
 . refine (h.tab.set T.length (Z5 (ZX ⟨b,0,ZY⟩) n l.length)).congr λi D=>?_;unfold shv;by_cases e:i=T.length
   . subst e;simp [jX]
   . rw [if_neg e];by_cases k:i<T.length
     . rw [if_pos k,if_pos (by simp;omega)];simp [Vx k]
     . rw [if_neg k,if_neg (by simp;omega)]
 . rcases Uf.1 d with d|d
   . obtain ⟨t,o,u⟩:=h.row p d;exact ⟨t,o.other (r _ _ o) _,u⟩
   . simp at d;subst d;exact ⟨A,s.other (r _ _ s) _,hn,⟨by show n<=140737488355328;omega,by show l.length<=9223372036854775807;omega⟩,j⟩
 . rw [Uw,UU];refine ⟨h.nodup,by simp,?_⟩;intro a z c f;obtain ⟨q,B,rfl⟩:=T6.1 z;simp at f;subst f;exact v q B
theorem oj.done (h:oj w base g N T) (d:N=T.length) (f:base<=g) (j:N<=maxLen):iV w base (Z5 (ZX ⟨g,0,ZY⟩) N N) T:=by
 subst d;refine ⟨⟨by simp,.inr ?_⟩,h.row,h.nodup⟩;obtain ⟨c,e,l,k⟩:=h.tab;refine ⟨g,T.length,c,rfl,f,e,TV _,j,by omega,?_⟩;apply Vh
 . simp;omega
 . intro i b a;simp at b a;have:=k i a;rw [VD (by omega)] at this;simp at this;simp [this,shv,a]
def oj.lt (h:oj w base g N T):g<w.heap.size:=h.tab.lt
def EcR (w:ZU) (B g N n:Nat) (M D:List a8) (i:ZT) (wr:ZU):Prop:=
 ∃ k T,k<=N/\i=Z7 Z9 (k:Nat)/\oj wr B g N T/\dh T n (eR (M.take k) D n)/\Below B w wr/\B<=wr.heap.size
def PK (w:ZU) (n:Nat) (M D:List a8) (x:ZT) (e:Ending) (w':ZU):Prop:=∃ v T,e=Z3 (Z0 #[v,x])/\iV w' w.heap.size v T/\dh T n (eR M D n)/\bW w w'
def dh.at {M:List a8} (h:dh T D M) {i:Nat} (a:i<T.length) (b:i<M.length):T[i].2=(D,M[i]):=by
 have:=List.getElem_of_eq h (i:=i) (by simpa using a);simpa using this
def Kq (D L G:Nat):(aT D L G).length=D+L+G:=by simp [aT];omega
def Kr (D L G:Nat) {i:Nat} (b:i<(aT D L G).length):((aT D L G)[i]).length=D:=by
 have a:(aT D L G)[i]∈aT D L G:=T4 b;unfold aT at a;rcases Uf.1 a with a|a
 . rcases Uf.1 a with a|a
   . obtain ⟨j,_,e⟩:=T6.1 a;unfold aT;rw [<- e];simp [dN]
   . obtain ⟨j,_,e⟩:=T6.1 a;unfold aT;rw [<- e];simp [eO]
 . obtain ⟨j,_,e⟩:=T6.1 a;unfold aT;rw [<- e];simp [dF]
def G4 (M D:List a8) (n k:Nat) (a:k<M.length):eR (M.take (k+1)) D n=eR (M.take k) D n++[cI M[k] D n D.length]:=by
 unfold eR;rw [aba a,Uw];rfl
theorem DQ (D L G:Nat) (hr:eF D L G=ZW) (qd:1<=D) (hD:D<=12) (hL:1<=L) (q0:L<=4) (hG:G<=4) (ka:D%L=0) (vd:ZT) (Dt:List a8) (w:ZU) (V:Rd w vd Dt) (A:Dt.length=D) (q:Q9 Dt) :
 ZS ZO 167 #[.agg #[Z7 Z9 D,Z7 Z9 L,Z7 Z9 G],vd] w λe w'=>PK w (Dt.getD 0 []).length (aT D L G) Dt .nilIface e w':=by
 have qf:(((Dt.length:Nat):Int) != (D:Int))=ZV:=by rw [A];simp
 have C:0<Dt.length:=by omega
 obtain ⟨ao,c,rfl,hl,q6⟩:=id V;have q9:(Dt.getD 0 []).length<=4096:=by
  have:=(q 0 C);have Q:=this.2;rw [this.1] at Q;exact Q
 have X:∀ i (j:i<Dt.length),(Dt[i]).length=(Dt.getD 0 []).length:=λi j=>(q i j).1;generalize hn:(Dt.getD 0 []).length=n at *;have hv:=al X;have HF:=al q;have hy:=al A;clear q6 hn X q A;go_enter func167,ntmps167;go_wp2_with fail;refine (j8 D L G hr hD hL q0 hG ka _).mono ?_;rintro e wa ⟨v,T,rfl,s,E,l⟩;try change Below _ _ _ at s
 try change Below _ _ _ at l
 rw [Ug] at s l;have qa:=l.size;try change Below _ _ _ at qa
 rw [Ug] at qa;obtain ⟨p0,p1,p2⟩:=fT l;have o:bW w wa:=(bA _ _).trans (l.mono (by omega));have kk:=V.mono o;go_wp2_with fail;refine (J2 _ Dt _ kk C).mono ?_;rintro e g ⟨r,rfl,kr,rfl⟩;obtain rfl:r=ZW:=kr.2 HF.out;obtain ⟨mo,hb,rfl,kp⟩:=s.slice;have h:=E.length;rw [Kq] at h;obtain ⟨mg,rfl⟩:=kp (by intro e;rw [e] at h;simp at h;omega);have q2:T.length<=20:=by omega
 have qc:=al h;clear h kp kr;go_wp2_with (at_make;refine mY _ rfl (Z1 31) (Z1 31) rfl _ T.length rfl rfl rfl (by omega) ?_;intro wc W O hz;clear hz);have kf:oj wc g.heap.size g.heap.size T.length []:=⟨W.congr (λi _=>by simp [shv]),λp F=>by simp at F,by simp⟩;have ks:=O.size;generalize hM:aT D L G=M at *;have HM:Hid (∀ i (j:i<M.length),(M[i]).length=D):=by intro i j;subst hM;exact Kr D L G j
 have P:=al E;have kx:=al hM;clear W hM E p0 p1 p2;go_loopw [35] (λi wr=>EcR g g.heap.size g.heap.size T.length n M Dt i wr) (λi _=>T.length-(intOf i).toNat)
 case atStart=>exact ⟨0,[],T9 _,rfl,kf,rfl,O,ks⟩
 case round=>
  clear kf O ks;rename ZU=>wo;obtain ⟨k,S,hk,rfl,b,d,f,qb⟩:=hrel;have R:=P.out.length;have u:=d.length;unfold eR at u;rw [T7,Ui] at u;by_cases z:k<T.length
  . have B:k<M.length:=(by omega);have K:=s.below f;have km:=kk.mono f;have y:=K.SE z;have a:=K.SR z;have N:=P.out.at z B;have J:=HM.out k B;obtain ⟨⟨rb,rn,rl⟩,kj⟩:∃ p,p=T[k]:=⟨_,rfl⟩;rw [<- kj] at y a N;simp only [jX,WR] at y a N;obtain ⟨rfl,rfl⟩:=N;rw [UD (by omega)] at a;rw [J] at y a;have kh:S.length=k:=(by omega);have U:=G4 M Dt n k B;have Z:=al U;have Y:=al d;have ky:=al kh;have H:=al J;clear U d kh J R u kj;go_wp2_with fail;refine (Bm _ _ M[k] Dt n wo (by rw [H.out] at *;exact a) km q9 hv.out (by rw [H.out,hy.out]) C).mono ?_;rintro e w2 ⟨b2,rfl,qe,ke,m⟩;have t:=b.below m;have q5:=t.tab.cell (i:=k) z;have q7:=t.tab.frozen k;have qh:=m.size;have qg:=b.lt;have kg:=t.push (n:=n) (by omega) ke (by rw [fV];omega) (by rw [fV];omega) (pL _ _ (λx hx=>a.lt x hx) _ _) (λp F=>by have:=(b.row p F).2.1.lt;omega);rw [fV,ky.out] at kg;have q3:=(f.trans (m.mono qb)).setCell (p:=⟨g.heap.size,k,ZY⟩) lR (Z5 (ZX ⟨b2,0,ZY⟩) n n);have I:=Y.out.push b2 (cI M[k] Dt n Dt.length);rw [<- Z.out] at I;have kv:=al I;generalize shv S k=ov at *;clear b t ke m f a y K km I Z Y H;go_wp2;go_roundw
    case rel=>exact ⟨k+1,_,by omega,by go_num,kg,kv.out,q3,by rw [nblk_setCell];omega⟩
    case measure=>simp [intOf];omega
  . have q8:k=T.length:=(by omega);have ko:k=M.length:=(by omega);have kz:dh S n (eR M Dt n):=(by rw [ko,VC] at d;exact d);have ki:=b.done (by omega) lR (by unfold maxLen;omega);have q4:=o.trans (f.mono o.size);have q1:=ki.weaken (base':=w.heap.size) o.size;clear d b f ki q8 ko R u;go_wp2;go_ret2;exact ⟨_,S,rfl,q1,by rw [kx.out];exact kz,q4⟩
def eK (a:Act) (i:Nat) (v:ZT) (h:i<a.tmps.size):(a.put (ZX i) v).eval (.tmp i)=v:=by simp [Act.put,Act.eval,h]
def aA (a:Act) (i j:Nat) (v:ZT) (h:i≠j):(a.put (ZX i) v).eval (.tmp j)=a.eval (.tmp j):=by
 simp [Act.put,Act.eval,Vj,h]
def fy (a:Act) (d:Option Nat) (v:ZT):(a.put d v).tmps.size=a.tmps.size:=by
 cases d<;>simp [Act.put]
def Ks (a:Act) (i j:Nat) (v u:ZT) (h:i≠j):(a.put (ZX i) v).put (ZX j) u=(a.put (ZX j) u).put (ZX i) v:=by
 simp only [Act.put];rw [Array.setIfInBounds_comm _ _ h]
def dB (b:o.guard=ZY):Region.wanted o (yielded ops a.tmps)=ZW:=by simp [Region.wanted,b]
def jd {x:Operand} {v:ZT} (b:o.guard=ZY) (ho:o.op=.move x) (c:a.eval x=v):Yields P ops o v a:=
 .inl ⟨dB b,λw=>by simp [execOp,ho,c]⟩
def rg:Code->Nat->Option (Array ZR)
 | .region i ops _,n=>if i=n then ZX ops else ZY
 | .seq a b,n=>(rg a n).orElse λ_=>rg b n
 | .cond _ a b,n=>(rg a n).orElse λ_=>rg b n
 | .block _ a,n=>rg a n
 | .loop a,n=>rg a n
 | .scope a,n=>rg a n
 | _,_=>ZY
noncomputable def PL:Array ZR:=((Tryz.f99.body.bind (rg · 12))).getD #[]
def Rh (l:a8):Array Bool:=l.foldl (λa i=>a.setIfInBounds i ZW) (Array.replicate 12 ZV)
def gN:(YD 12).map (λi=>(PL[i]?).map λo=>(o.op,o.dst,o.guard))=[
 ZX (.move (Z1 4),ZX 28,ZY),ZX (.move (Z1 6),ZX 29,ZY),ZX (.move (Z1 6),ZX 30,ZY),ZX (.indexAddr 258 (Z1 3) (Z1 30),ZX 31,ZY),
 ZX (.load 104 (Z1 31),ZX 32,ZY),ZX (.move (Z1 4),ZX 33,ZY),ZX (.indexAddr 258 (Z1 3) (Z1 33),ZX 34,ZY),ZX (.load 104 (Z1 34),ZX 35,ZY),
 ZX (.indexAddr 258 (Z1 3) (Z1 28),ZX 36,ZY),ZX (.store 104 (Z1 36) (Z1 32),ZY,ZY),ZX (.indexAddr 258 (Z1 3) (Z1 29),ZX 37,ZY),ZX (.store 104 (Z1 37) (Z1 35),ZY,ZY)]:=by kernel_rfl
def gO {x:Op} {d:Option Nat} (f:i<12) (h:((YD 12).map (λi=>(PL[i]?).map λo=>(o.op,o.dst,o.guard)))[i]?=ZX (ZX (x,d,ZY))):∃ o,PL[i]?=ZX o/\o.op=x/\o.dst=d/\o.guard=ZY:=by
 simp only [Un,Vw f,WD,UO,Wc,WR] at h;obtain ⟨o,a,b,c,e⟩:=h;exact ⟨o,a,b,c,e⟩
theorem oq (b p:Nat) (f:p<64) {o:ZR} {a:Act} {x y:Operand} (ho:o.op=.indexAddr 258 x y) (c:a.eval x=Z6 (ZX ⟨b,0,ZY⟩)) (d:a.eval y=Z7 Z9 (p:Nat)) (w:ZU) :
 (execOp a.eval o).run ZO w=.ok (.value (Z6 (ZX ⟨b,p*64,ZY⟩))) w:=by
 have e:(p:Int)<64:=by omega
 simp only [execOp,ho,c,d];go_simp
def Tryz.S5:(ZO.info? 104).map (λi=>i.size)=ZX 64:=by kernel_rfl
def Kt (a:Act) (gb p r:Nat) (cp cr:List ZT):Act:=
 ((((((((((a.put (ZX 28) (Z7 Z9 (r:Nat))).put (ZX 29) (Z7 Z9 (p:Nat))).put (ZX 30) (Z7 Z9 (p:Nat))).put (ZX 33) (Z7 Z9 (r:Nat))).put (ZX 31) (Z6 (ZX ⟨gb,p*64,ZY⟩))).put (ZX 34) (Z6 (ZX ⟨gb,r*64,ZY⟩))).put (ZX 32) (.agg cp.toArray)).put (ZX 35) (.agg cr.toArray)).put (ZX 36) (Z6 (ZX ⟨gb,r*64,ZY⟩))).put ZY ZZ).put (ZX 37) (Z6 (ZX ⟨gb,p*64,ZY⟩)) |>.put ZY ZZ
theorem Ku (e p r:Nat) (f g:List ZT) (hR:PL=ops) (k:∀ c n v a w,Q (.panic c) (a.put (ZX n) v) w->Q (.panic c) a w)
 (o:a.tmps.size=47) (hp:p<64) (hr:r<64) (e3:a.eval (Z1 3)=Z6 (ZX ⟨e,0,ZY⟩)) (W:a.eval (Z1 4)=Z7 Z9 (r:Nat)) (X:a.eval (Z1 6)=Z7 Z9 (p:Nat))
 (lp:f.length=64) (lr:g.length=64) (op:f.toArray.all (λv=>v.oneCell')=ZW) (or:g.toArray.all (λv=>v.oneCell')=ZW)
 (gp:w.drew.rangeAt e (p*64) f) (gr:w.drew.rangeAt e (r*64) g) (tr:w.drew.there e (r*64) 64) (tp:w.drew.there e (p*64) 64)
 (h:Q .normal (Kt a e p r f g) ((w.drew.setCells e (r*64) f).setCells e (p*64) g)):(Code.region 12 ops ZW).wp ZO Q a w:=by
 subst hR;obtain ⟨o0,g0,x0,N,k0⟩:=gO (i:=0) (by decide) (by rw [gN];rfl);obtain ⟨o1,g1,x1,d1,k1⟩:=gO (i:=1) (by decide) (by rw [gN];rfl);obtain ⟨o2,g2,x2,O,k2⟩:=gO (i:=2) (by decide) (by rw [gN];rfl);obtain ⟨o3,g3,x3,P,k3⟩:=gO (i:=3) (by decide) (by rw [gN];rfl);obtain ⟨o4,Y,x4,R,k4⟩:=gO (i:=4) (by decide) (by rw [gN];rfl);obtain ⟨o5,g5,x5,S,k5⟩:=gO (i:=5) (by decide) (by rw [gN];rfl);obtain ⟨o6,g6,x6,T,k6⟩:=gO (i:=6) (by decide) (by rw [gN];rfl);obtain ⟨o7,Z,x7,U,k7⟩:=gO (i:=7) (by decide) (by rw [gN];rfl);obtain ⟨o8,g8,x8,V,k8⟩:=gO (i:=8) (by decide) (by rw [gN];rfl);obtain ⟨o9,g9,x9,d9,k9⟩:=gO (i:=9) (by decide) (by rw [gN];rfl);obtain ⟨h3,z,I,d10,B⟩:=gO (i:=10) (by decide) (by rw [gN];rfl);obtain ⟨h4,A,J,d11,C⟩:=gO (i:=11) (by decide) (by rw [gN];rfl);have j:Region.noSelect PL=ZW:=by kernel_rfl
 have h1:PL.size=12:=by kernel_rfl
 refine wp_region_any (by kernel_rfl) ?_;rw [h1];change wpAny _ _ _ _ _ (Rh []) _ (World.drew _);refine WG g0 j (by kernel_rfl) (by kernel_rfl) (λc a w h=>k c _ _ a w (by rw [N] at h;exact h)) (jd k0 x0 W) ?_;rw [N];refine WG g1 j (by kernel_rfl) (by kernel_rfl) (λc a w h=>k c _ _ a w (by rw [d1] at h;exact h)) (jd (v:=Z7 Z9 (p:Nat)) k1 x1 (by rw [aA _ _ _ _ (by decide)];exact X)) ?_;rw [d1];refine WG g2 j (by kernel_rfl) (by kernel_rfl) (λc a w h=>k c _ _ a w (by rw [O] at h;exact h)) (jd (v:=Z7 Z9 (p:Nat)) k2 x2 (by rw [aA _ _ _ _ (by decide),aA _ _ _ _ (by decide)];exact X)) ?_;rw [O];refine WG g5 j (by kernel_rfl) (by kernel_rfl) (λc a w h=>k c _ _ a w (by rw [S] at h;exact h)) (jd (v:=Z7 Z9 (r:Nat)) k5 x5 (by rw [aA _ _ _ _ (by decide),aA _ _ _ _ (by decide),aA _ _ _ _ (by decide)];exact W)) ?_;rw [S];generalize hb:(((a.put (ZX 28) (Z7 Z9 (r:Nat))).put (ZX 29) (Z7 Z9 (p:Nat))).put (ZX 30) (Z7 Z9 (p:Nat))).put (ZX 33) (Z7 Z9 (r:Nat))=b;have sb:b.tmps.size=47:=by rw [<- hb];simp only [fy,o]
 have b3:b.eval (Z1 3)=Z6 (ZX ⟨e,0,ZY⟩):=by rw [<- hb];simp only [aA _ _ _ _ (show (33:Nat)≠3 by decide),aA _ _ _ _ (show (30:Nat)≠3 by decide),aA _ _ _ _ (show (29:Nat)≠3 by decide),aA _ _ _ _ (show (28:Nat)≠3 by decide),e3]
 have t:b.eval (Z1 30)=Z7 Z9 (p:Nat):=by rw [<- hb,aA _ _ _ _ (by decide),eK _ _ _ (by simp only [fy,o];decide)]
 have u:b.eval (Z1 33)=Z7 Z9 (r:Nat):=by rw [<- hb,eK _ _ _ (by simp only [fy,o];decide)]
 have q:b.eval (Z1 28)=Z7 Z9 (r:Nat):=by rw [<- hb,aA _ _ _ _ (by decide),aA _ _ _ _ (by decide),aA _ _ _ _ (by decide),eK _ _ _ (by simp only [o];decide)]
 have s:b.eval (Z1 29)=Z7 Z9 (p:Nat):=by rw [<- hb,aA _ _ _ _ (by decide),aA _ _ _ _ (by decide),eK _ _ _ (by simp only [fy,o];decide)]
 unfold Kt at h;rw [hb] at h;clear hb;refine WG g3 j (by kernel_rfl) (by kernel_rfl) (λc a w h=>k c _ _ a w (by rw [P] at h;exact h)) (.inl ⟨dB k3,oq e p hp x3 b3 t⟩) ?_;rw [P];refine WG g6 j (by kernel_rfl) (by kernel_rfl) (λc a w h=>k c _ _ a w (by rw [T] at h;exact h)) (.inl ⟨dB k6,oq e r hr x6 (by rw [aA _ _ _ _ (by decide)];exact b3) (by rw [aA _ _ _ _ (by decide)];exact u)⟩) ?_;rw [T];generalize hc:(b.put (ZX 31) (Z6 (ZX ⟨e,p*64,ZY⟩))).put (ZX 34) (Z6 (ZX ⟨e,r*64,ZY⟩))=c;have H:c.tmps.size=47:=by rw [<- hc];simp only [fy,sb]
 have c3:c.eval (Z1 3)=Z6 (ZX ⟨e,0,ZY⟩):=by rw [<- hc,aA _ _ _ _ (by decide),aA _ _ _ _ (by decide),b3]
 have x:c.eval (Z1 28)=Z7 Z9 (r:Nat):=by rw [<- hc,aA _ _ _ _ (by decide),aA _ _ _ _ (by decide),q]
 have y:c.eval (Z1 29)=Z7 Z9 (p:Nat):=by rw [<- hc,aA _ _ _ _ (by decide),aA _ _ _ _ (by decide),s]
 have l:c.eval (Z1 31)=Z6 (ZX ⟨e,p*64,ZY⟩):=by rw [<- hc,aA _ _ _ _ (by decide),eK _ _ _ (by rw [sb];decide)]
 have m:c.eval (Z1 34)=Z6 (ZX ⟨e,r*64,ZY⟩):=by rw [<- hc,eK _ _ _ (by simp only [fy,sb];decide)]
 rw [hc] at h;clear hc;have L:(ZO.info? 104).map (λi=>i.size)=ZX f.length:=by rw [lp];exact Tryz.S5
 have M:(ZO.info? 104).map (λi=>i.size)=ZX g.length:=by rw [lr];exact Tryz.S5
 have fin:wpAny ZO .any PL Q 4 (Rh [0,1,2,5,3,6,4,7]) ((c.put (ZX 32) (.agg f.toArray)).put (ZX 35) (.agg g.toArray)) w.drew:=by
  generalize hd:(c.put (ZX 32) (.agg f.toArray)).put (ZX 35) (.agg g.toArray)=d;have sd:d.tmps.size=47:=by rw [<- hd];simp only [fy,H]
  have q3:d.eval (Z1 3)=Z6 (ZX ⟨e,0,ZY⟩):=by rw [<- hd,aA _ _ _ _ (by decide),aA _ _ _ _ (by decide),c3]
  have D:d.eval (Z1 28)=Z7 Z9 (r:Nat):=by rw [<- hd,aA _ _ _ _ (by decide),aA _ _ _ _ (by decide),x]
  have E:d.eval (Z1 29)=Z7 Z9 (p:Nat):=by rw [<- hd,aA _ _ _ _ (by decide),aA _ _ _ _ (by decide),y]
  have F:d.eval (Z1 32)=.agg f.toArray:=by rw [<- hd,aA _ _ _ _ (by decide),eK _ _ _ (by rw [H];decide)]
  have G:d.eval (Z1 35)=.agg g.toArray:=by rw [<- hd,eK _ _ _ (by simp only [fy,H];decide)]
  rw [hd] at h;clear hd;refine WG g8 j (by kernel_rfl) (by kernel_rfl) (λc a w h=>k c _ _ a w (by rw [V] at h;exact h)) (.inl ⟨dB k8,oq e r hr x8 q3 D⟩) ?_;rw [V];refine XS (rs:=[9]) (by kernel_rfl) (by simp) ?_;refine Xl g9 (λK hK=>?_) XT;rw [if_pos (dB k9)];refine wp_store_mid 104 (Z1 36) (Z1 32) x9 e (r*64) f.toArray (by rw [eK _ _ _ (by rw [sd];decide)]) (by rw [aA _ _ _ _ (by decide),F]) (by simpa [lp] using tr) (by simpa using L) op ?_;refine hK _ _ ?_;rw [d9];refine WG z j (by kernel_rfl) (by kernel_rfl) (λc a w h=>k c _ _ a w (by rw [d10] at h;exact h)) (.inl ⟨dB B,oq e p hp I (by show (d.put (ZX 36) _).eval _=_;rw [aA _ _ _ _ (by decide)];exact q3) (by show (d.put (ZX 36) _).eval _=_;rw [aA _ _ _ _ (by decide)];exact E)⟩) ?_;rw [d10];refine XS (rs:=[11]) (by kernel_rfl) (by simp) ?_;refine Xl A (λK hK=>?_) XT;rw [if_pos (dB C)];refine wp_store_mid 104 (Z1 37) (Z1 35) J e (p*64) g.toArray (by rw [eK _ _ _ (by show 37<(d.put (ZX 36) _).tmps.size;rw [fy,sd];decide)]) (by rw [aA _ _ _ _ (by decide)];show (d.put (ZX 36) _).eval _=_;rw [aA _ _ _ _ (by decide),G]) (by simpa [lr] using World.there_setCells tp e (r*64) f) (by simpa using M) or ?_;refine hK _ _ ?_;rw [d11];exact wpAny_done (by kernel_rfl) h _
 refine XS (rs:=[4,7]) (by kernel_rfl) (by simp) ?_;refine Xl Y (λK hK=>?_) (Xl Z (λK hK=>?_) XT)
 . rw [if_pos (dB k4)];refine Yp 104 (Z1 31) x4 e (p*64) l f _ gp XU rfl L ?_;refine hK _ _ ?_;rw [R];refine XS (rs:=[7]) (by kernel_rfl) (by simp) ?_;refine Xl Z (λK hK=>?_) XT;rw [if_pos (dB k7)];refine Yp 104 (Z1 34) x7 e (r*64) (by rw [aA _ _ _ _ (by decide)];exact m) g _ gr XU rfl M ?_;refine hK _ _ ?_;rw [U];exact fin
 . rw [if_pos (dB k7)];refine Yp 104 (Z1 34) x7 e (r*64) m g _ gr XU rfl M ?_;refine hK _ _ ?_;rw [U];refine XS (rs:=[4]) (by kernel_rfl) (by simp) ?_;refine Xl Y (λK hK=>?_) XT;rw [if_pos (dB k4)];refine Yp 104 (Z1 31) x4 e (p*64) (by rw [aA _ _ _ _ (by decide)];exact l) f _ gp XU rfl L ?_;refine hK _ _ ?_;rw [R,Ks _ _ _ _ _ (by decide)];exact fin
def OL (ds:List (Option Nat)) (l1 n1 l2 n2:Nat):Bool:=ds.all λx=>match x with
 | none=>ZW
 | some d=>(decide (l1<=d)&&decide (d<l1+n1)) || (decide (l2<=d)&&decide (d<l2+n2))
def PM {l1 l2:Nat} {vs1 vs2:List ZT} {ds:List (Option Nat)} (g:a'.tmps.size=a.tmps.size) (h:a'.defers=a.defers) (f:∀ s,(∀ x∈ds,x≠ZX s)->a'.eval (.tmp s)=a.eval (.tmp s)) (b:OL ds l1 vs1.length l2 vs2.length=ZW)
 (r:l1+vs1.length<=l2) (m:l2+vs2.length<=a.tmps.size) (j:∀ i,i<vs1.length->a'.eval (.tmp (l1+i))=vs1.getD i ZZ) (k:∀ i,i<vs2.length->a'.eval (.tmp (l2+i))=vs2.getD i ZZ):a'=Act.RR (Act.RR a l1 vs1) l2 vs2:=by
 obtain ⟨d,o⟩:=ft vs1 a l1;obtain ⟨p,q⟩:=ft vs2 (Act.RR a l1 vs1) l2;refine yJ (g.trans (p.trans d).symm) (h.trans (q.trans o).symm) λs _=>?_;rw [fu vs2 _ l2 s (by rw [d];exact m)];by_cases e:l2<=s/\s<l2+vs2.length
 . rw [if_pos e];have:=k (s-l2) (by omega);rwa [show l2+(s-l2)=s by omega] at this
 . rw [if_neg e,fu vs1 a l1 s (by omega)];by_cases c:l1<=s/\s<l1+vs1.length
   . rw [if_pos c];have:=j (s-l1) (by omega);rwa [show l1+(s-l1)=s by omega] at this
   . rw [if_neg c];refine f s λx n l=>?_;unfold OL at b;rw [Xe] at b;have:=b x n;rw [l] at this;simp at this;omega
def ze {sh:List (Op×Option Nat×a8)} (h:∀ s,(∀ i,i<sh.length->(bB sh i).2.1≠ZX s)->a'.eval (.tmp s)=a.eval (.tmp s)):∀ s,(∀ x∈sh.map (λx=>x.2.1),x≠ZX s)->a'.eval (.tmp s)=a.eval (.tmp s):=λs c=>h s λi b e=>c _ (T6.2 ⟨sh[i],T4 b,rfl⟩) (by
 have:bB sh i=sh[i]:=by simp [bB,b]
 rw [<- this];exact e)
def As (P:List St):Nat:=P.foldl (λs t=>if t.k=0 then s|||2^t.b.toNat else s) 0
def Bn (P:List St) (t:St):As (P++[t])=if t.k=0 then As P|||2^t.b.toNat else As P:=by unfold As;rw [V9];rfl
def Kv {P:List St} (a:k<P.length):As (P.take (k+1))=if P[k].k=0 then As (P.take k)|||2^P[k].b.toNat else As (P.take k):=by
 rw [U6,Ua a,Option.toList_some,Bn]
theorem rS (P:List St) (i:Nat):(As P).testBit i=ZW↔∃ s∈P,s.k=0/\s.b.toNat=i:=by
 obtain ⟨Q,rfl⟩:∃ Q,P=Q.reverse:=⟨P.reverse,by simp⟩;induction Q with
 | nil=>simp [As]
 | cons t Q ih=>
  rw [List.reverse_cons,Bn];by_cases h:t.k=0
  . rw [if_pos h,Wj,XF,Bool.or_eq_true,ih,decide_eq_true_eq];constructor
    . rintro (⟨s,a,c⟩|a)
      . exact ⟨s,UB _ a,c⟩
      . exact ⟨t,by simp,h,a⟩
    . rintro ⟨s,a,c,d⟩;rcases Uf.1 a with q|q
      . exact .inl ⟨s,q,c,d⟩
      . rw [Vp] at q;exact .inr (by rw [<- q];exact d)
  . rw [if_neg h,ih];constructor
    . rintro ⟨s,a,c⟩;exact ⟨s,UB _ a,c⟩
    . rintro ⟨s,a,c⟩;rcases Uf.1 a with q|q
      . exact ⟨s,q,c⟩
      . rw [Vp] at q;exact absurd (q▸c.1) h
def Kw {P:List St} (h:∀ s∈P,s.k=0->s.b.toNat<16):As P<65536:=by
 refine Nat.lt_pow_two_of_testBit (n:=16) _ λi e=>?_;cases hb:(As P).testBit i
 . rfl
 . obtain ⟨s,a,c,d⟩:=(rS P i).1 hb;have:=h s a c;omega
def LoR (w:ZU) (P:List St) (lv iv:ZT) (wr:ZU):Prop:=∃ k:Nat,k<=P.length/\iv=Z7 Z9 k/\lv=Z7 Z8 (As (P.take k):Nat)/\bW w wr
theorem G5 (regs:Int) {v:ZT} {P:List St} {w:ZU} (h:Ps .u8 w v P) (u:∀ s∈P,s.k=0->0<=s.b/\s.b<16) (hl:P.length<=5000) :
 ZS ZO 148 #[.agg #[Z7 Z9 regs,v]] w λe w'=>e=Z3 (Z7 Z8 (As P:Nat))/\bW w w':=by
 obtain ⟨ao,c,rfl⟩:=h.slice;have n:bW w (w.alloc (Z4 #[Z7 Z9 regs,.slice ao P.length c] 187)):=bA w _;have o:(w.alloc (Z4 #[Z7 Z9 regs,.slice ao P.length c] 187)).heap[w.heap.size]?=ZX (Z4 #[Z7 Z9 regs,.slice ao P.length c] 187 (0,0)):=Uc _ _;obtain ⟨w1,t⟩:=nM (w.alloc (Z4 #[Z7 Z9 regs,.slice ao P.length c] 187));rw [t] at n o;have k1:w1.cell? ⟨w.heap.size,1,ZY⟩=ZX (.slice ao P.length c):=by simp [World.cell?,o]
 have H:=aE n h u;clear n o h u;go_enter func148,ntmps148;go_wp2;go_loopw [3,9] (λF p wr=>LoR w P F p wr) (λ_ p _=>P.length-(intOf p).toNat)
 case atStart=>exact ⟨0,T9 _,rfl,rfl,H.out.1⟩
 case round=>
  clear k1 t;rename ZU=>wo;obtain ⟨k,L,rfl,rfl,f⟩:=hrel;by_cases l:k<P.length
  . rcases (H.out.2.1.mono f).cases with ⟨rfl,_⟩|⟨b,off,G,e,_,y⟩
    . simp at l
    simp at e;obtain ⟨rfl,rfl⟩:=e;obtain ⟨I,d1,J,K⟩:=y k l;have r:=f.alloc f.size (Z4 #[Z7 .u8 P[k].k,Z7 Z9 P[k].a,Z7 Z9 P[k].b,Z7 .u8 P[k].c] 292);have j:=al (Kv l);have z:=al (H.out.2.2 _ (T4 l));have B:=al (Kw (P:=P.take k) (λs E A=>by have:=H.out.2.2 s (UN E) A;omega));have i:=al r;clear y f r;generalize P[k].k=q at *;generalize P[k].b=sb at *;by_cases g:q=0
    . have tk:((q:Int)==0)=ZW:=(by simp [g]);have M:=z.out g;have d:=j.out;rw [if_pos g] at d;have m:=al d;clear g d j;obtain ⟨x,rfl⟩:∃ x:Nat,sb=(x:Int):=⟨sb.toNat,by omega⟩;go_wp2_with fail;refine (gA (As (P.take k)) x (by have:=B.out;omega) (by omega) _).mono ?_;rintro e N ⟨rfl,D⟩;subst D;go_wp2;go_roundw
      case rel=>exact ⟨k+1,by omega,by go_num,by rw [m.out,Vy],i.out⟩
      case measure=>simp [intOf]<;>omega
    . have tk:((q:Int)==0)=ZV:=(by simp;omega);have d:=j.out;rw [if_neg g] at d;have m:=al d;clear g d j;go_wp2;go_roundw
      case rel=>exact ⟨k+1,by omega,by go_num,by rw [m.out],i.out⟩
      case measure=>simp [intOf]<;>omega
  . have C:k=P.length:=(by omega);subst C;rw [VC];have i:=al f;clear f;go_wp2;go_ret;exact ⟨rfl,i.out⟩
def pM:List (Int×Nat×Nat×a8)->List ZT
 | []=>[]
 | q::O=>[Z7 Z9 q.1,jX q.2]++pM O
def qO:∀ O a,pM (O++a)=pM O++pM a
 | [],_=>rfl
 | q::O,a=>by simp [pM,qO O a]
def FE:∀ (O:List (Int×Nat×Nat×a8)) (i:Nat) (a:i<O.length),(pM O)[i*2]?=ZX (Z7 Z9 O[i].1)/\(pM O)[i*2+1]?=ZX (jX O[i].2)
 | q::O,0,_=>by simp [pM]
 | q::O,i+1,a=>by
  have:=FE O i (by simpa using a);have b:(i+1)*2=i*2+2:=by omega
  have c:(i+1)*2+1=i*2+1+2:=by omega
  simp only [pM,XO];refine ⟨?_,?_⟩
  . rw [b];simpa using this.1
  . rw [c];simpa using this.2
structure mO (t:ZQ) (w:ZU) (base:Nat) (v:ZT) (O:List (Int×Nat×Nat×a8)):Prop where
 own:w.ownsRow base t 2 v O.length (pM O)
 row:∀ q∈O,base<=q.2.1/\aM w q.2.1 q.2.2.2/\q.2.2.1<=q.2.2.2.length/\(q.2.2.1<=140737488355328/\q.2.2.2.length<=9223372036854775807)/\∀ x∈q.2.2.2,x<256
 nodup:(O.map (λq=>q.2.1)).Nodup
def mO.nil (t:ZQ) (w:ZU) (base:Nat):mO t w base (Z5 ZY 0 0) []:=⟨UK _ _ _ _,λq a=>by simp at a,by simp⟩
def mO.below {t:ZQ} {v:ZT} (h:mO t w base v O) (d:bW w w'):mO t w' base v O:=
 ⟨ay h.own d,λq e=>by obtain ⟨a,b,c⟩:=h.row q e;exact ⟨a,b.below d,c⟩,h.nodup⟩
def mO.cases {t:ZQ} {v:ZT} (h:mO t w base v O):(O=[]/\v=Z5 ZY 0 0)\/∃ g cap,v=Z5 (ZX ⟨g,0,ZY⟩) O.length cap/\∀ i (b:i<O.length),w.cell? ⟨g,i*2,ZY⟩=ZX (Z7 Z9 O[i].1)/\w.cell? ⟨g,i*2+1,ZY⟩=ZX (jX O[i].2):=by
 rcases h.own.2 with ⟨c,d⟩|⟨g,cap,cur,a,_⟩
 . exact .inl ⟨UP d,c⟩
 . refine .inr ⟨g,cap,a,λi b=>?_⟩;have ho:=h.own;rw [a] at ho;obtain ⟨e,f⟩:=FE O i b;exact ⟨by rw [ho.cellAt (i*2) (by omega)];exact e,by rw [ho.cellAt (i*2+1) (by omega)];exact f⟩
def iM (X:ZU) (p:Nat) (A:aH) (F:aR) (M:List (Nat×Nat)):Prop:=∃ R,ah X p R F/\mS R A/\∀ i b,i<A.n->A.lost i=ZV->A.bad i b=ZW->(i,b)∉M->R.bad i b=ZW
def iM.at {A:aH} (h:iM X p A F M):aB X p A F:=by obtain ⟨R,a,b,_⟩:=h;exact ⟨R,a,b⟩
def iM.of {A:aH} (h:aB X p A F) (d:∀ i b,A.bad i b=ZV):iM X p A F []:=by
 obtain ⟨R,a,c⟩:=h;exact ⟨R,a,c,λi b _ _ e=>by rw [d] at e;cases e⟩
def iM.keep {A:aH} (h:iM X p A F M) (c:∀ k,F.S k->Y.heap[k]?=X.heap[k]?):iM Y p A F M:=by obtain ⟨R,a,b⟩:=h;exact ⟨R,a.keep c,b⟩
def aH.TO (A:aH) (d:Nat):aH:={ A with lost:=λi=>if i=d then ZW else A.lost i }
def aH.Sm (A:aH) (d b:Nat):aH:={ A with bad:=λi m=>if i=d/\m=b then ZW else A.bad i m }
theorem ah.TI {R:fK} (h:ah X p R F) {d b j z:Nat} (c:d<R.n) (f:j<64) (l:z<256):ah (X.setCell ⟨F.bb d,b*64+j,ZY⟩ (Z7 .u8 (z:Nat))) p (R.RY d λm=>if m=b then (R.blk d b).set j z else R.blk d m) F:=by
 refine h.RY c (((h.blk d c).set (b*64+j) (Z7 .u8 (z:Nat))).congr λm _=>?_) (λk g=>Ud _ _ _ _ g) λm=>?_
 . unfold OE;show _=Value.int .u8 (((if m/64=b then (R.blk d b).set j z else R.blk d (m/64)).getD (m%64) 0:Nat):Int);by_cases e:m/64=b
   . rw [if_pos e,e];simp only [T5,XP,(h.len d b).1];by_cases a:m=b*64+j
     . rw [if_pos a,if_pos (by omega),if_pos f];rfl
     . rw [if_neg a,if_neg (by omega)]
   . rw [if_neg (by omega),if_neg e]
 . split
   . refine ⟨by rw [Wm];exact (h.len d b).1,λx i=>?_⟩;rcases XN i with q|q
     . exact (h.len d b).2 x q
     . rw [q];exact l
   . exact h.len d m
theorem iM.turn {A:aH} {R:fK} (f:mS R A) (l:∀ i b,i<A.n->A.lost i=ZV->A.bad i b=ZW->(i,b)∉M->R.bad i b=ZW) (hl:∀ i j,(R.blk i j).length=64/\∀ x∈R.blk i j,x<256) {d b j z:Nat} (v:j<64) (y:z<256) (s:z≠(R.blk d b).getD j 0) (u:(d,b)∉M) (h:ah Y p (R.RY d λm=>if m=b then (R.blk d b).set j z else R.blk d m) F):iM Y p (A.Sm d b) F (M++[(d,b)]):=by
 refine ⟨_,h,⟨f.n,f.nb,f.lost,λi m g c=>?_⟩,λi m g c a o=>?_⟩
 . have q:=f.rd i m g c;unfold fK.rd aH.rd at q ⊢;show (if R.bad i m=ZW then ZY else Jz ((if i=d then λm=>if m=b then (R.blk d b).set j z else R.blk d m else R.blk i) m))=if (if i=d/\m=b then ZW else A.bad i m)=ZW then ZY else ZX (A.rc i m);by_cases e:i=d/\m=b
   . obtain ⟨rfl,rfl⟩:=e;rw [if_pos (show i=i/\m=m from ⟨rfl,rfl⟩),if_pos rfl,if_pos rfl];by_cases a:R.bad i m=ZW
     . rw [if_pos a];rfl
     . rw [if_neg a] at q ⊢;have t:¬ A.bad i m=ZW:=λe=>a (l i m g c e u);rw [if_neg t] at q;unfold Jz at q ⊢;simp only [if_true];split at q
       . rename_i w
         rw [if_neg (Ke (hl i m).1 (hl i m).2 v y s w)]
       . cases q
   . rw [if_neg e];by_cases k:i=d
     . subst k;rw [if_pos rfl];simp only [if_neg (show ¬ m=b from λq=>e ⟨rfl,q⟩)];exact q
     . rw [if_neg k];exact q
 . have r:(if i=d/\m=b then ZW else A.bad i m)=ZW:=a;by_cases e:i=d/\m=b
   . exact absurd (VK M (by rw [e.1,e.2];simp)) o
   . rw [if_neg e] at r;exact l i m g c r λq=>o (UB _ q)
theorem Kx {A:aH} (l:iM w p A F M) (d:Nat) (j:d<A.n):ZS ZO 29 #[Z6 (ZX ⟨p,0,ZY⟩),Z7 Z9 d] w λe w'=>e=Z3 (Z0 #[])/\iM w' p (A.TO d) F M/\aa F.S w w':=by
 obtain ⟨R,h,a,f⟩:=l;rw [<- a.n] at j;obtain ⟨c0,c1⟩:=h.RX;obtain ⟨m,d1,o,q⟩:=h.Sd d j;have t:=h.Su (d*4);have r:(0:Int)<=(d:Int):=by omega
 have s:(d:Int)<(R.n:Int):=by omega
 have H:=aE h a f;clear h a f;go_enter func29,ntmps29;go_wp2;first|go_end0|skip
 obtain ⟨h,a,f⟩:=H.out;refine ⟨rfl,⟨_,h.S6 d ZW,⟨a.n,a.nb,?_,λi b g hl=>?_⟩,λi b g hl=>?_⟩,aa.setCell _ _ _ h.sg⟩
 . show (λk=>if k=d then ZW else R.lost k)=λi=>if i=d then ZW else A.lost i;rw [a.lost]
 all_goals
  have c:(if i=d then ZW else A.lost i)=ZV:=hl;by_cases e:i=d
  . rw [if_pos e] at c;cases c
  . rw [if_neg e] at c;first|exact a.rd i b g c|exact f i b g c
def Bo (R:fK) (d b i m:Nat) (t:Bool):(R.R5 d λm=>if m=b then t else R.bad d m).bad i m=if i=d/\m=b then t else R.bad i m:=by
 show (if i=d then λm=>if m=b then t else R.bad d m else R.bad i) m=_;by_cases e:i=d
 . subst e;rw [if_pos rfl];by_cases a:m=b<;>simp [a]
 . rw [if_neg e,if_neg (λq=>e q.1)]
theorem G6 {A:aH} (s:iM w p A F M) (d b:Nat) (c:d<A.n) (g:b<A.nb):ZS ZO 31 #[Z6 (ZX ⟨p,0,ZY⟩),Z7 Z9 d,Z7 Z9 b,Z7 Z9 (-1)] w λe w'=>e=Z3 (Z0 #[])/\iM w' p (A.Sm d b) F M/\aa F.S w w':=by
 obtain ⟨R,h,a,f⟩:=s;rw [<- a.n] at c;rw [<- a.nb] at g;obtain ⟨c0,c1⟩:=h.RX;obtain ⟨u,d1,x,y⟩:=h.Sd d c;have j:=h.bad d c;have t:=aaV j (i:=b) g;have J:=World.rowIs.frozen j b;have o:=ku h (by omega);have z:¬ (d:Int)<0:=by omega
 have B:¬ (R.n:Int)<=(d:Int):=by omega
 have C:¬ (b:Int)<0:=by omega
 have D:(d:Int)<(R.n:Int):=by omega
 have E:(b:Int)<(R.nb:Int):=by omega
 have G:(0:Int)<=(d:Int):=by omega
 have I:(0:Int)<=(b:Int):=by omega
 have H:=a5 h o a f;clear h o j a f;go_enter func31,ntmps31;go_wp2_with fail;refine H.out.2.1.mono ?_;rintro e w' ⟨rfl,rfl⟩;go_wp2;refine Um (v:=Z0 #[]) (by simp [results,results31,go_sem]) rfl ?_;obtain ⟨h,_,a,f⟩:=H.out;refine ⟨rfl,⟨_,h.Ty c b ZW,⟨a.n,a.nb,a.lost,λi m k hl=>?_⟩,λi m k hl g r=>?_⟩,aa.setCell _ _ _ (h.sd c)⟩
 . have q:=a.rd i m k hl;unfold fK.rd aH.rd at q ⊢;rw [Bo];show (if (if i=d/\m=b then ZW else R.bad i m)=ZW then ZY else Jz (R.blk i m))=if (if i=d/\m=b then ZW else A.bad i m)=ZW then ZY else ZX (A.rc i m);by_cases e:i=d/\m=b
   . simp only [if_pos e];rfl
   . simp only [if_neg e];exact q
 . rw [Bo];have l:(if i=d/\m=b then ZW else A.bad i m)=ZW:=g;by_cases e:i=d/\m=b
   . exact if_pos e
   . rw [if_neg e] at l ⊢;exact f i m k hl l r
theorem Ky {A:aH} (J:iM w p A F M) (d b k:Nat) (f:d<A.n) (K:b<A.nb) (hk:k<512) (r:(d,b)∉M):ZS ZO 31 #[Z6 (ZX ⟨p,0,ZY⟩),Z7 Z9 d,Z7 Z9 b,Z7 Z9 k] w λe w'=>e=Z3 (Z0 #[])/\iM w' p (A.Sm d b) F (M++[(d,b)])/\aa F.S w w':=by
 obtain ⟨R,h,c,m⟩:=J;rw [<- c.n] at f;rw [<- c.nb] at K;obtain ⟨c0,c1⟩:=h.RX;obtain ⟨Q,d1,T,E⟩:=h.Sd d f;have C:=ku h (by omega);have U:¬ (d:Int)<0:=by omega
 have V:¬ (R.n:Int)<=(d:Int):=by omega
 have W:¬ (b:Int)<0:=by omega
 have X:(d:Int)<(R.n:Int):=by omega
 have Y:(b:Int)<(R.nb:Int):=by omega
 have Z:(0:Int)<=(d:Int):=by omega
 have e8:(0:Int)<=(b:Int):=by omega
 have hh:(k:Int).tmod 512=(k:Nat):=by rw [Yq (by omega)];omega
 obtain ⟨j,N⟩:=nM (k/8);obtain ⟨t,P⟩:=nM (k%8);have hf:(k:Int).tdiv 8=(j:Nat):=by rw [Xk (by omega)];omega
 have hg:(k:Int).tmod 8=(t:Nat):=by rw [Yq (by omega)];omega
 have B:j<64:=by omega
 have L:t<8:=by omega
 have x:=(h.blk d f).cell (i:=b*64+j) (by omega);have fb:=(h.blk d f).frozen (b*64+j);have D:OE (R.blk d) (b*64+j)=Z7 .u8 (((R.blk d b).getD j 0:Nat):Int):=by
  unfold OE;rw [show (b*64+j)/64=b by omega,show (b*64+j)%64=j by omega]
 rw [D] at x;have s:(R.blk d b).getD j 0<256:=by
  have hl:=h.len d b;rw [T5,Ua (by omega)];exact hl.2 _ (T4 _)
 obtain ⟨y,l⟩:=nM ((R.blk d b).getD j 0);rw [l] at x s;have q:2^t<256:=V0 (n:=8) (by decide) L;have a:y^^^2^t<256:=V8 (n:=8) s q;have g:y^^^2^t≠y:=λe=>by
  have G:y^^^(y^^^2^t)=y^^^y:=by rw [e]
  rw [<- Vo,U4,VL] at G;have:=VP t;omega
 obtain ⟨z,v⟩:=nM (y^^^2^t);have o:bits .xor .u8 (y:Int) ((2:Int)^t%256)=(z:Nat):=by
  have O:(2:Int)^t=((2^t:Nat):Int):=by rw [XH];rfl
  have I:∀ u:Nat,u<256->(u:Int)%256=(u:Int):=λu hu=>by omega
  rw [O,I _ q,u8_xor_nat y (2^t) s q,v]
 rw [v] at a g;have H:=hide9 h C c m l r a g o;clear h C c m l r D v N P a g q E o;go_enter func31,ntmps31;go_wp2_with fail;refine H.out.2.1.mono ?_;rintro e w' ⟨rfl,rfl⟩;go_wp2;go_region;all_goals (
  go_end0
  obtain ⟨h,_,c,m,l,r,a,g,o⟩:=H.out;rw [o];refine ⟨rfl,iM.turn c m h.len B a (by rw [l];exact g) r ((h.TI f B a).keep λ_ _=>rfl),(aa.setCell _ _ _ (h.sb f)).trans (aa.drew _)⟩)
section
open Go.ChangeShapes Go.WideShapes
abbrev tj:List (String×DataW Unit):=[("math/bits.deBruijn64tab",Rows.laid_math_bits_deBruijn64tab),("errors.errorType",Rows.laid_errors_errorType),("stripes/record.halves",Rows.laid_stripes_record_halves)]
def FF:List Int:=(YD 64).map λj=>((Lib.deBruijn64tab.getD j 0:Nat):Int)
def rT:List Int:=cG.map λ(x:Nat)=>(x:Int)
def Tryz.bt3:ZO.globalNamed "math/bits.deBruijn64tab"=ZX 1:=by kernel_rfl
def Tryz.TM:(ZO.globals[1]?).map (·.type)=ZX 104:=by kernel_rfl
def Tryz.Tq:ZO.cellsOf 104=64:=by kernel_rfl
def Tryz.SQ:ZO.cellsOf 5=1:=by kernel_rfl
def Tryz.hv3:ZO.globalNamed "stripes/record.halves"=ZX 2:=by kernel_rfl
def Tryz.TR:(ZO.globals[2]?).map (·.type)=ZX 317:=by kernel_rfl
def Tryz.Tr:ZO.cellsOf 317=16:=by kernel_rfl
def Tryz.S8:ZO.cellsOf 301=1:=by kernel_rfl
def G7:(Rows.laid_math_bits_deBruijn64tab:DataW Unit)=Lib.tabData .u8 FF:=by rfl
def Kz:(Rows.laid_stripes_record_halves:DataW Unit)=Lib.tabData .u32 rT:=by rfl
def G8 {x:String×DataW Unit} {r:List (String×DataW Unit)} (h:laidMet P (x::r) w):laidMet P r w:=by
 obtain ⟨ps,i,c,a⟩:=h;obtain ⟨n,d⟩:=x;obtain ⟨g,t,cs,fuel,p,q,_,_,_,_,f,rfl⟩:=i;exact ⟨q,f,List.Nodup.sublist (abj _ _) c,λb off e=>a b off (VK _ e)⟩
theorem Bp (h:laidMetH ZO tj W):bD W/\aG W/\bg W/\3<=W.heap.size:=by
 have d:laidMet ZO [("math/bits.deBruijn64tab",Rows.laid_math_bits_deBruijn64tab),("stripes/record.halves",Rows.laid_stripes_record_halves)] W/\handlesMet ZO [("errors.errorType",Rows.laid_errors_errorType)] W:=h;have l:bD W:=ti (show laidMetH ZO [("errors.errorType",Rows.laid_errors_errorType)] W from ⟨⟨[],rfl,List.nodup_nil,λb off k=>by cases k⟩,d.2⟩);have c:=d.1;have e:=G8 c;rw [G7] at c;rw [Kz] at e;have n:=Lib.tabIs_of_head Tryz.bt3 Tryz.TM XU W4 Tryz.SQ Tryz.Tq c;have m:=Lib.tabIs_of_head Tryz.hv3 Tryz.TR underlying317 underlying301 Tryz.S8 Tryz.Tr e;have g:aG W:=λj a=>by
  have:=n.cell Tryz.bt3 j (by simpa [FF] using a);rw [this];unfold FF;simp [a]
 have f:bg W:=λj a=>by
  have hl:cG.length=16:=rfl;have:=m.cell Tryz.hv3 j (by unfold rT;rw [T7,hl];exact a);rw [this];unfold rT;congr 2;rw [T5,T5,Un,Ua (by omega)];rfl
 refine ⟨l,g,f,?_⟩;have o:=Ub (g 0 (by decide));have i:=Ub (f 0 (by decide));have p:2<W.heap.size:=i;omega
noncomputable def tn (os:Os):ZU:=
 { World.holding ZO os ⟨#[],#[],[]⟩ with heap:=(((World.holding ZO os ⟨#[],#[],[]⟩).heap.modify 0 fun|Z4 _ t frozen=>Z4 #[.iface 148 (.agg #[Z6 (ZX ⟨3,53,ZY⟩)])] t frozen|o=>o).modify 1 fun|Z4 _ t frozen=>Z4 (FF.map λz=>Value.int .u8 z).toArray t frozen|o=>o).modify 2 fun|Z4 _ t frozen=>Z4 (rT.map λz=>Value.int .u32 z).toArray t frozen|o=>o }
def tq (os:Os) (args:Array ZT):laidMetH ZO tj ((tn os).forCall (λ_ _=>0) ⟨#[],args,[]⟩).memory:=
 laidMetH_of_parts (laidMet_of_run' 8 (by kernel_rfl) (by kernel_rfl)) (by kernel_rfl)
def Bq {H:Type} {enc:ZQ×ZT->H} {spare:Nat->Bool} {held:Bool} {t0 t1 t2 t3 t4:ZQ} {v0 v1 v2 v3 v4:ZT} {d0 d1 d2 d3 d4:DataW H} {p0 p1 p2 p3 p4:List MemPlace} (a:DataW.Trod enc P w base spare held t0 v0 d0 p0) (b:DataW.Trod enc P w base spare held t1 v1 d1 p1) (c:DataW.Trod enc P w base spare held t2 v2 d2 p2) (d:DataW.Trod enc P w base spare held t3 v3 d3 p3) (e:DataW.Trod enc P w base spare held t4 v4 d4 p4) :
 DataW.TrodAll enc P w base spare held [t0,t1,t2,t3,t4] [v0,v1,v2,v3,v4] [d0,d1,d2,d3,d4] (p0++(p1++(p2++(p3++p4)))):=⟨p0,p1++(p2++(p3++p4)),a,trodAll_mk4 b c d e,rfl⟩
end
