import Derived.Test.YtfbmmcnpjhmjaaaGreatDoorM08
import Derived.Lib.UnsafeStr
import Derived.Lib.AppendZerosOnto
import Derived.Lib.Overlaps
import Derived.Laws.Externs
import Derived.Shelf.RegionOpenPlain
set_option maxRecDepth 100000
set_option linter.defProp false
set_option maxHeartbeats 8000000
open Go.IntKind renaming i64 -> Z9
open Go.Value renaming int -> Z8, pointer -> Z7, slice -> Z6, string -> Z2
open Go.Obj renaming cells -> Z5
open Go.Ending renaming returned -> Z4
open Go.Operand renaming tmp -> Z3
open Option renaming none -> Z1, some -> Z0
open Bool renaming true -> ZZ, false -> ZY
open Go renaming World -> ZX, Value -> ZW, Calls -> ZV, Ending -> ZU, TypeId -> ZT
open List renaming length_take -> XG, length_append -> XH, length_drop -> XI, length_map -> XM, getElem?_eq_getElem -> XO, mem_append -> XP, getElem_mem -> XQ, nil_append -> XR, range -> XS, map_cons -> XT, append_assoc -> XU, flatMap_cons -> XV, nodup_append -> XW, take_of_length_le -> XX, getElem_map -> XY, getElem?_eq_some_iff -> XZ, mem_of_mem_drop -> X0, getElem?_map -> X2, mem_map -> X3, mem_cons -> X5, take_append_drop -> X7, map_append -> X8, map_take -> X9, map_drop -> Ya, mem_append_left -> Yb, getElem?_take_of_lt -> Yc, mem_flatMap -> Yg, getElem?_drop -> Yh, mem_of_mem_take -> Yk, mem_append_right -> Ym, length_cons -> Yn, take_append_of_le_length -> Yq, getElem_of_mem -> Yr, eq_nil_of_length_eq_zero -> Ys, take_left -> Yt, getD_eq_getElem?_getD -> Yx, mem_singleton -> Yy, not_mem_nil -> Yz, take_take -> YA, length_range -> YB, getElem_take -> YC, getElem_drop -> YD, mem_range -> YE, take_add_one -> YJ, drop_eq_nil_of_le -> YK, ext_getElem -> YL, getElem?_take -> YM, take_length -> YP, drop_length -> YQ, eq_of_mem_replicate -> YV, mem_filter -> YW, replicate -> YX
open Nat renaming zero_add -> XJ, le_trans -> XK, le_refl -> XN, min -> X6, div_le_div_right -> Yf, add_assoc -> Yi, min_eq_left -> Yj, zero_le -> Yl, add_zero -> Yp, div_le_div_left -> Yu, succ_mul -> YF, eq_or_lt_of_le -> YO, mul_le_mul -> YR, eq_zero_or_pos -> YT, le_div_iff_mul_le -> YU, lt_of_lt_of_le -> YY
open Array renaming getElem?_eq_some_iff -> XL, length_toList -> Yo, getElem?_modify -> Yw, toList_append -> YN
open ByteArray renaming empty -> X1
open Int renaming toNat_natCast -> X4, natCast_mul -> YS
open Option.some renaming injEq -> Yd
open Go.Proofs.YtfbmmcnpjhmjaaaGreatDoor renaming pgs -> Ye
open Int.ofNat renaming inj -> YG
open List.Sublist renaming append -> YH, refl -> YI
open Option renaming map_some -> YZ
open Prod.mk renaming injEq -> Y3
open Go.Proofs.Tryz renaming prog -> ZS
open Go.Proofs.Tryz
namespace Go.Proofs.YtfbmmcnpjhmjaaaGreatDoor
open Go.RowKit Gf Go.Deep
variable {ops:Array Oper} {Q:Exit->Act->ZX->Prop} {F:bh} {regs:Int} {L:List (ByteArray×ZW)} {O:List (Int×Nat×Nat×List Nat)} {Dl:List (List Nat)} {P P' l d ds:List Nat} {os:List Ob} {xs cur ys:List ZW} {D m n G t g base a cap i N c r off size k ar p b c1 bl gone sp lost:Nat} {R:Nat->List Nat} {K K':Nat->Prop} {f:Nat->ZW} {x:Ob×ZW} {o:Oper} {E:Prop} {α:Type} {e:ZT} {v u pg ob vp:ZW} {w w' w1 w3 w5 w6:ZX}
def aS.ins (xs:aS) (x:Ob×List Nat):aS:=xs.take (aD xs.names x.1.name)++x::xs.drop (aD xs.names x.1.name)
def aS.del (xs:aS) (k:Nat):aS:=xs.take k++xs.drop (k+1)
def j5 (xs:aS) (x:Ob×List Nat):(xs.ins x).Perm (x::xs):=by
 unfold aS.ins;refine List.perm_middle.trans ?_;rw [X7]
def Ln (xs:aS) (x:Ob×List Nat):(xs.ins x).os=xs.os.take (aD xs.names x.1.name)++x.1::xs.os.drop (aD xs.names x.1.name):=by
 unfold aS.ins aS.os;rw [X8,XT,X9,Ya]
def Hw (xs:aS) (x:Ob×List Nat):(xs.ins x).names=xs.names.take (aD xs.names x.1.name)++x.1.name::xs.names.drop (aD xs.names x.1.name):=by
 unfold aS.names;rw [Ln];unfold bg aS.names bg;rw [X8,XT,X9,Ya]
def Lo (xs:aS) (k:Nat):(xs.del k).os=xs.os.take k++xs.os.drop (k+1):=by
 unfold aS.del aS.os;rw [X8,X9,Ya]
def Hx (xs:aS) (k:Nat):(xs.del k).names=xs.names.take k++xs.names.drop (k+1):=by
 unfold aS.names;rw [Lo];unfold bg;rw [X8,X9,Ya]
def kY (xs:aS) (k:Nat):(xs.del k).Sublist xs:=by
 have a:(xs.take k++xs.drop (k+1)).Sublist (xs.take k++xs.drop k):=YH (YI _) (by rw [<- List.drop_drop];exact List.drop_sublist _ _);rwa [X7] at a
def Er (o:Ob) (os:List Ob):ah (o::os)=o.TE++ah os:=by unfold ah;rw [XV]
def qO (xs:aS) (x:Ob×List Nat):(ah (xs.ins x).os).Perm (x.1.TE++ah xs.os):=by
 have h:=(j5 xs x).map (·.1);have:=h.flatMap_right (·.TE);rw [XT,XV] at this;exact this
def Hy (xs:aS) (x:Ob×List Nat):(az (xs.ins x).os).length=(az xs.os).length+(gN x.1).length:=by
 have h:=((j5 xs x).map (·.1)).flatMap_right gN;rw [XT,XV] at h;have:=h.length_eq;rw [XH] at this;unfold az aS.os;omega
def pC {β:Type} (f:α->List β):∀ {l m:List α},l.Sublist m->(l.flatMap f).Sublist (m.flatMap f)
 | _,_,.slnil=>by simp
 | _,_,.cons a h=>by rw [XV];exact (pC f h).trans (List.sublist_append_right _ _)
 | _,_,.cons_cons a h=>by rw [XV,XV];exact YH (YI _) (pC f h)
def Hz (xs:aS) (k:Nat):(ah (xs.del k).os).Sublist (ah xs.os):=pC _ ((kY xs k).map _)
def qP (xs:aS) (k:Nat):(az (xs.del k).os).length<=(az xs.os).length:=(pC gN ((kY xs k).map (Prod.fst:Ob×List Nat->Ob))).length_le
def ux (h:m<=n):pgs D m<=pgs D n:=by
 unfold pgs;have a:(m+(D*44-4)-1)/(D*44-4)<=(n+(D*44-4)-1)/(D*44-4):=Yf (by omega);omega
theorem Lp {A:ay} {L:Nat} {xs:aS} (h:eE A D L G t P xs) (x:Ob×List Nat) (H:iT D x) (z:x.1.name∉xs.names) (B:P'.length=pgs D (az (xs.ins x).os).length)
 (p:((x.1.TE++P')++(P++ah xs.os)).Nodup) (o:∀ b∈(x.1.TE++P')++(P++ah xs.os),2<=b/\b<A.nb) (O:(ah xs.os).length+x.1.TE.length+2*P'.length+2<=A.nb) :
 eE (((A.objTo D L G x.1.TE x.2 x.1.TE.length).pagesTo D L G P' (az (xs.ins x).os) P'.length).putAt (XS A.n) 0 (λ_=>(aX.root D L G (t+1) (P'.getD 0 0) (az (xs.ins x).os).length).blk)) D L G (t+1) P' (xs.ins x):=by
 obtain ⟨k,s,u,v⟩:=zR A D L G x.1.TE x.2 x.1.TE.length;rw [show XS A.n=XS (A.objTo D L G x.1.TE x.2 x.1.TE.length).n by rw [k]];rw [XW] at p;obtain ⟨I,J,m⟩:=p;obtain ⟨r,K,M⟩:=XW.1 I;obtain ⟨Q,N,R⟩:=XW.1 J;have C:x.1.TE.Nodup:=r;have w:(1:Nat)∉x.1.TE:=λe=>by have:=(o 1 (by simp [e])).1;omega
 refine xK h k s u v (Hu h.bad _ _ _ _ _ _) (λi _=>xJ _ _ _ _ _ _ _ _ w) B ?_ ?_ ?_ ?_ ?_ ?_ (t+1) (by omega)
 . have F:(P'++ah (xs.ins x).os).Perm (P'++(x.1.TE++ah xs.os)):=(qO xs x).append_left P';rw [F.nodup_iff,XW];refine ⟨K,?_,?_⟩
   . rw [XW];exact ⟨r,N,λa f b c=>m a (by simp [f]) b (by simp [c])⟩
   . intro a f b c;rcases XP.1 c with c|c
     . exact λe=>M b c a f e.symm
     . exact m a (by simp [f]) b (by simp [c])
 . intro b c;refine o b ?_;rcases XP.1 c with c|c
   . simp [c]
   . have:=(qO xs x).mem_iff.1 c;rcases XP.1 this with q|q<;>simp [q]
 . intro y d;rcases X5.1 ((j5 xs x).mem_iff.1 d) with rfl|d
   . exact H
   . exact h.fits y d
 . rw [Hw];exact Hh h.up z
 . intro y d j g i l;rw [k] at l;rcases X5.1 ((j5 xs x).mem_iff.1 d) with rfl|d
   . exact Lj D L G _ C l g
   . have E:y.1.TE.getD j 0∈ah xs.os:=by
      rw [fK g];unfold ah aS.os;rw [Yg];exact ⟨y.1,List.mem_map_of_mem d,XQ g⟩
     rw [xJ _ _ _ _ _ _ _ _ (λe=>m _ (Yb _ e) _ (Ym _ E) rfl)];exact h.held y d j g i l
 . rw [(qO xs x).length_eq,XH];omega
theorem Lq {A:ay} {L:Nat} {xs:aS} (h:eE A D L G t P xs) (k:Nat) (f:P'.length=pgs D (az (xs.del k).os).length)
 (l:(P'++(P++ah xs.os)).Nodup) (j:∀ b∈P'++(P++ah xs.os),2<=b/\b<A.nb) :
 eE ((A.pagesTo D L G P' (az (xs.del k).os) P'.length).putAt (XS A.n) 0 (λ_=>(aX.root D L G (t+1) (P'.getD 0 0) (az (xs.del k).os).length).blk)) D L G (t+1) P' (xs.del k):=by
 have d:=Hz xs k;obtain ⟨o,p,q⟩:=XW.1 l;obtain ⟨v,r,w⟩:=XW.1 p;refine xK h rfl rfl rfl rfl h.bad (λi _=>rfl) f ?_ ?_ (λx e=>h.fits x ((kY xs k).subset e)) ?_ (λx e=>h.held x ((kY xs k).subset e)) ?_ (t+1) (by omega)
 . rw [XW];exact ⟨o,r.sublist d,λa m b c=>q a m b (Ym _ (d.subset c))⟩
 . intro b c;refine j b ?_;rcases XP.1 c with c|c
   . simp [c]
   . simp [d.subset c]
 . rw [Hx];exact K7 h.up k
 . have s:=d.length_le;have u:=h.room;have g:=ux (D:=D) (qP xs k);rw [<- f,<- h.pl] at g;omega
theorem Fz (q s:Nat) (d:1<=q):max 1 ((s+q-1)/q)<=s/q+1:=by
 have c:(s+q-1)/q<=(s+q)/q:=Yf (by omega);rw [Nat.add_div_right _ (by omega)] at c;generalize s/q=a at c ⊢;generalize (s+q-1)/q=b at c ⊢;omega
def rC (D:Nat) (xs:aS):Nat:=(xs.map λx=>x.2.length/(D*44)+1).sum
def FA (c:1<=D):∀ {xs:aS},(∀ x∈xs,iT D x)->(ah xs.os).length<=rC D xs
 | [],_=>by simp [rC,ah,aS.os]
 | x::xs,h=>by
  have ih:=FA c (xs:=xs) (λy d=>h y (by simp [d]));have a:=h x (by simp);have b:=Fz (D*44) x.1.size (by omega);rw [<- a.st] at b;have e:ah (aS.os (x::xs))=x.1.TE++ah (aS.os xs):=by unfold aS.os;rw [XT,Er]
  rw [e,XH];unfold rC at ih ⊢;rw [XT,List.sum_cons,a.len];omega
def jo (c:1<=D):∀ {xs:aS},(∀ x∈xs,iT D x)->(az xs.os).length<=xs.length*(19+4*(1500/(D*44)+1))
 | [],_=>by simp [az,aS.os]
 | x::xs,h=>by
  have ih:=jo c (xs:=xs) (λy d=>h y (by simp [d]));have a:=h x (by simp);have b:=Fz (D*44) x.1.size (by omega);rw [<- a.st] at b;have f:x.1.size/(D*44)<=1500/(D*44):=Yf a.fit.size;have e:az (aS.os (x::xs))=gN x.1++az (aS.os xs):=by unfold aS.os az;rw [XT,XV]
  rw [e,XH,gd a.fit,Yn,Nat.add_mul];omega
def Es (c:1<=D) (p:D<=6) {xs:aS} (h:∀ x∈xs,iT D x) {n nb count pages:Nat} (k:n<=1500) (d:count=max 1 ((n+D*44-1)/(D*44))) (e:pages=pgs D ((az xs.os).length+(19+4*count)))
 (f:nb<(ah xs.os).length+count+2*pages+2):nb<rC D xs+(n/(D*44)+1)+2*((xs.length+1)*200/(D*44)+1)+8:=by
 have g:=FA c h;have i:=jo c h;have j:=Fz (D*44) n (by omega);rw [<- d] at j;have o:n/(D*44)<=1500/(D*44):=Yf k;suffices hs:pages<=(xs.length+1)*200/(D*44)+4 by omega
 obtain ⟨m,b⟩:=nM (xs.length);obtain ⟨l,a⟩:=nM ((az xs.os).length);rw [b,a] at i;rw [a] at e;rw [b];clear g d b a f h;subst e;unfold pgs;have:D=1\/D=2\/D=3\/D=4\/D=5\/D=6:=by omega
 rcases this with rfl|rfl|rfl|rfl|rfl|rfl<;>omega
def Et {A:ay} {L:Nat} {xs:aS} (h:eE A D L G t P xs) {count pages l:Nat} (c:pages=pgs D ((az xs.os).length+l)) (d:(ah xs.os).length+count+2*pages+2<=A.nb) :
 count+pages<=(bj (tk A.nb (P++ah xs.os)).1 A.nb).length:=by
 have a:=lX h.VQ h.VH;have b:=ux (D:=D) (show (az xs.os).length<=(az xs.os).length+l by omega);rw [<- c,<- h.pl] at b;rw [XH] at a;omega
def uy {A:ay} {L:Nat} {xs:aS} (h:eE A D L G t P xs) (k:Nat):pgs D (az (xs.del k).os).length<=(bj (tk A.nb (P++ah xs.os)).1 A.nb).length:=by
 have a:=lX h.VQ h.VH;have b:=ux (D:=D) (qP xs k);rw [<- h.pl] at b;rw [XH] at a;have:=h.room;omega
def bu (x:ByteArray):Bool:=decide (1<=x.size/\x.size<=16)
theorem dB (x:ByteArray) (w:ZX):ZV ZS 74 #[Z2 x] w λe w'=>e=Z4 (.bool (bu x))/\w'=w:=by
 have g:bu x=(decide (1<=x.size)&&decide (x.size<=16)):=by unfold bu;simp
 rw [g];obtain ⟨n,f⟩:=nM (x.size);rw [f];by_cases b:1<=n
 . have a:(1:Int)<=(n:Int):=(by omega);by_cases c:n<=16
   . have d:(n:Int)<=16:=(by omega);go_enter func74,ntmps74;go_wp2;go_ret;exact ⟨by simp [b,c],rfl⟩
   . have d:¬ (n:Int)<=16:=(by omega);go_enter func74,ntmps74;go_wp2;go_ret;exact ⟨by simp,rfl⟩
 . have a:¬ (1:Int)<=(n:Int):=(by omega);go_enter func74,ntmps74;go_wp2;go_ret;exact ⟨by simp,rfl⟩
theorem uz (s:ByteArray) (w:ZX) (l:¬ s.size=0) (A:s.size<=1000000):ZV ZS 140 #[Z2 s] w λe w'=>e=Z4 (Z2 s)/\bW w w':=by
 obtain ⟨i,d,v,a,y⟩:=info_parts Tryz.TW;have m:(ZS.info? 5).map (·.size)=Z0 1:=by rw [d];simp [a]
 have r:ZS.cellsOf 5=1:=by simp [Program.cellsOf,d,a]
 obtain ⟨M,b⟩:∃ M,M=madeCells (Value.int .u8 0).cells (((s.size:Nat):Int).toNat*i.size):=⟨_,rfl⟩;have B:M.size=s.size:=by rw [b,size_madeCells,a];simp
 have D:∀ W:ZX,(Instr.makeSlice 34 (Z8 Z9 (s.size:Int)) (Z8 Z9 (s.size:Int))).run ZS W=.ok (Z6 (Z0 ⟨W.heap.size,0,Z1⟩) s.size s.size) (W.alloc (Z5 M 5)):=λW=>by
  have h:=run_make (P:=ZS) W 34 5 i (Z8 .u8 0) underlying34 d v .i64 .i64 (s.size:Int) (s.size:Int) (by omega) (by omega) (by rw [y];omega) (by omega);rw [<- b] at h;simpa using h
 clear b;have t:=Lib.run_copy_row_string (P:=ZS) (w.alloc (Z5 M 5)) 34 9 3 5 w.heap.size 0 s.size s.size s M 5 underlying34 m (heap_alloc_new w _) lR (by omega);obtain ⟨Y,c⟩:∃ Y,Y=(M.toList.take 0++Lib.byteCells s.data.toList++M.toList.drop (0+s.size)).toArray:=⟨_,rfl⟩;rw [<- c] at t;have f:Y.toList=Lib.byteCells s.data.toList:=by
  rw [c,List.toList_toArray,List.take_zero,XR,List.drop_of_length_le (by rw [Yo];omega),List.append_nil]
 have C:Y.size=s.size:=by rw [<- Yo,f,Lib.byteCells_length,<- Lib.size_eq]
 have g:((w.alloc (Z5 M 5)).setRow w.heap.size Y).heap[w.heap.size]?=Z0 (Z5 Y 5 (0,0)):=setRow_heap _ _ M _ 5 (0,0) (heap_alloc_new w _);have u:s.data.toList≠[]:=λe=>l (by rw [Lib.size_eq,e];rfl);have n:=Lib.run_unsafeString_row (P:=ZS) ((w.alloc (Z5 M 5)).setRow w.heap.size Y) 277 3 9 5 underlying277 r w.heap.size Y.size (by unfold World.shape?;rw [g]) s.data.toList u (by rw [<- Lib.size_eq];omega) (by rw [<- Lib.size_eq];omega)
  (λj x z=>Lib.cells_of_row g Y.size j _ (by rw [XX (by rw [Yo];exact XN _),f];simp [Lib.byteCells,z]))
 rw [<- Lib.size_eq] at n;clear c;go_enter func140,ntmps140;go_wp2;go_ret;have o:bW w (w.alloc (Z5 M 5)):=bA w _;have q:Below w.heap.size (w.alloc (Z5 M 5)) ((w.alloc (Z5 M 5)).setRow w.heap.size Y):=⟨rfl,rfl,rfl,by simp,λk E=>setRow_other _ _ _ _ (by omega)⟩;exact ⟨rfl,Lib.below_freeze (o.trans q) (p:=⟨w.heap.size,0,Z1⟩) lR _⟩
theorem uA (s:ByteArray) (w:ZX) (c:¬ s.size=0) (d:s.size<=1000000):ZV ZS 103 #[Z2 s] w λe w'=>e=Z4 (Z2 s)/\bW w w':=by
 have b:=uz s w c d;go_enter func103,ntmps103;go_wp2_with fail;refine b.mono ?_;rintro e w1 ⟨rfl,a⟩;have H:=hide a;clear a b;go_wp2;go_ret;exact ⟨rfl,H.out⟩
def aw (w:ZX) (g:Nat) (e:ZT) (cur:List ZW):Prop:=w.heap[g]?=Z0 (Z5 cur.toArray e (0,0))
def aw.lt (h:aw w g e cur):g<w.heap.size:=(XL.1 h).1
def aw.cell (h:aw w g e cur) {j:Nat} {u:ZW} (a:cur[j]?=Z0 u):w.cell? ⟨g,j,Z1⟩=Z0 u:=by
 unfold aw at h;simp [World.cell?,h,a]
def aw.TX (h:aw w g e cur) (j:Nat):w.frozen? ⟨g,j,Z1⟩=ZY:=by
 unfold aw at h;simp [World.frozen?,h]
def aw.keep (h:aw w g e cur) (a:w'.heap[g]?=w.heap[g]?):aw w' g e cur:=a.trans h
def xL:∀ (a:List ZW) (o:Nat) (cur:Array ZW),o+a.length<=cur.size->uX cur o a=(cur.toList.take o++a++cur.toList.drop (o+a.length)).toArray
 | [],o,cur,_=>by simp [uX]
 | v::r,o,cur,h=>by
  simp only [Yn] at h ⊢;unfold uX;rw [xL r (o+1) (cur.setIfInBounds o v) (by simp;omega),Array.toList_setIfInBounds];have e:(cur.toList.set o v).take (o+1)=cur.toList.take o++[v]:=by
   rw [YJ,List.take_set_of_le (XN o),List.getElem?_set_self (by simp;omega)];rfl
  have b:(cur.toList.set o v).drop (o+1+r.length)=cur.toList.drop (o+(r.length+1)):=by
   rw [List.drop_set_of_lt (by omega),show o+1+r.length=o+(r.length+1) by omega]
  rw [e,b];simp
def aw.set (h:aw w g e cur) (o:Nat) (a:List ZW) (ho:o+a.length<=cur.length):aw (w.setCells g o a) g e (cur.take o++a++cur.drop (o+a.length)):=by
 unfold aw at h ⊢;rw [js a o w h,xL a o cur.toArray (by simpa using ho)]
theorem gk {P:Program} (w:ZX) (l z A elem:ZT) (k:Nat) (g o a d b h c f:Nat) (e:ZT) (cur cs:List ZW)
 (y:P.underlying l=Z0 (.slice elem)) (q:(P.info? elem).map (·.size)=Z0 k) (x:cs.length=X6 c a*k)
 (s:∀ j v,cs[j]?=Z0 v->w.cell? ⟨b,h+j,Z1⟩=Z0 v) (m:aw w g e cur) (ho:o+cs.length<=cur.length) (r:∀ v∈cs,v.oneCell'=ZZ) :
 (Builtin.copy_ #[l,z] A #[Z6 (Z0 ⟨g,o,Z1⟩) a d,Z6 (Z0 ⟨b,h,Z1⟩) c f]).run P w=.ok (goInt (X6 c a)) (w.setCells g o cs):=by
 have u:=run_loadCells_list (P:=P) w ⟨b,h,Z1⟩ cs (λj v p=>by rw [Addr.add_mid];exact s j v p);have n:=run_storeCells_cells (P:=P) g o cs 0 w (λj p=>by
  rw [Yp];rw [m.cell (XO (by omega:o+j<cur.length))];rfl) (λj _=>m.TX _) r
 cases hq:P.info? elem with
 | none=>simp [hq] at q
 | some i=>
  have t:i.size=k:=by simpa [hq] using q
  simp only [Yp] at n;simp [Builtin.copy_,run_underlying y,Builtin.lenOf,Builtin.firstCells,sizeOf,typeInfo,hq,t,<- x,u,n]
theorem uq {P:Program} (w:ZX) (t e k:ZT) (z:ZW) (g o n c:Nat) (d:ZT) (cur:List ZW) (h:P.underlying t=Z0 (.slice e)) (i:∀ w,(zeroValue e).run P w=.ok z w) (p:0<n)
 (a:aw w g d cur) (ho:o+(Builtin.zeroCells z.cells n).toList.length<=cur.length) (f:∀ v∈(Builtin.zeroCells z.cells n).toList,v.oneCell'=ZZ) :
 (Builtin.clear_ #[t] k #[Z6 (Z0 ⟨g,o,Z1⟩) n c]).run P w=.ok (.tuple #[]) (w.setCells g o (Builtin.zeroCells z.cells n).toList):=by
 have b:=run_storeCells_cells (P:=P) g o (Builtin.zeroCells z.cells n).toList 0 w (λj l=>by
  rw [Yp];rw [a.cell (XO (by omega:o+j<cur.length))];rfl) (λj _=>a.TX _) f
 simp only [Yp] at b;obtain ⟨m,rfl⟩:∃ m,n=m+1:=⟨n-1,by omega⟩;simp [Builtin.clear_,run_underlying h,i,b]
def jJ (x:Ob×ZW):List ZW:=[Z2 x.1.name,Z8 Z9 (x.1.size:Nat),x.2]
def bT (L:List (Ob×ZW)):List ZW:=L.flatMap jJ
def cC (L:List (Ob×ZW)):(bT L).length=L.length*3:=by
 induction L with
 | nil=>rfl
 | cons x L ih=>unfold bT at ih ⊢;rw [XV,XH,ih,Yn];simp [jJ];omega
def iU (L M:List (Ob×ZW)):bT (L++M)=bT L++bT M:=by unfold bT;rw [List.flatMap_append]
def BS (L:List (Ob×ZW)) (k:Nat):(bT L).take (k*3)=bT (L.take k):=by
 by_cases h:k<=L.length
 . have e:bT L=bT (L.take k)++bT (L.drop k):=(by rw [<- iU,X7]);have a:(bT (L.take k)).length=k*3:=(by rw [cC,XG];omega);rw [e,Yq (by omega),XX (by omega)]
 . rw [XX (by rw [cC];omega),XX (by omega)]
def ur (L:List (Ob×ZW)) (k:Nat):(bT L).drop (k*3)=bT (L.drop k):=by
 by_cases h:k<=L.length
 . have e:bT L=bT (L.take k)++bT (L.drop k):=(by rw [<- iU,X7]);have a:(bT (L.take k)).length=k*3:=(by rw [cC,XG];omega);rw [e,<- a,List.drop_left]
 . rw [YK (by rw [cC];omega),YK (by omega)];rfl
def Lk (L:List (Ob×ZW)) (k:Nat) (d:k<L.length):(bT L)[k*3]?=Z0 (Z2 L[k].1.name)/\(bT L)[k*3+1]?=Z0 (Z8 Z9 (L[k].1.size:Nat))/\(bT L)[k*3+2]?=Z0 L[k].2:=by
 have e:∀ j,(bT L)[k*3+j]?=(bT (L.drop k))[j]?:=λj=>by rw [<- ur,Yh]
 have a:=e 0;have b:=e 1;have c:=e 2;rw [List.drop_eq_getElem_cons d] at a b c;exact ⟨a,b,c⟩
def Fw (h:∃ c sl b,x.2=.slice c sl b):∀ u∈jJ x,u.oneCell'=ZZ:=by
 obtain ⟨c,sl,b,e⟩:=h;intro u a;simp only [jJ,X5,Yz,or_false] at a;rcases a with rfl|rfl|rfl
 . rfl
 . rfl
 . rw [e];rfl
def Ni (K:Nat->Prop) (w:ZX) (L:List (Ob×ZW)):Prop:=∀ x∈L,bN K w x.2 x.1.TE
def Ni.one {L:List (Ob×ZW)} (h:Ni K w L):∀ u∈bT L,u.oneCell'=ZZ:=by
 intro u a;unfold bT at a;rw [Yg] at a;obtain ⟨x,d,b⟩:=a;obtain ⟨ao,c,e,_⟩:=h x d;exact Fw ⟨ao,_,c,e⟩ u b
def bN.UR (h:bN K w v l) (f:∀ k,K k->K' k):bN K' w v l:=by
 obtain ⟨ao,c,a,d,e⟩:=h;refine ⟨ao,c,a,d,λg=>?_⟩;obtain ⟨b,off,i,j,m⟩:=e g;exact ⟨b,off,i,f b j,m⟩
theorem Nj (h:gE K w v os):∃ L:List (Ob×ZW),L.map (·.1)=os/\Ni K w L/\∀ w',eR K w w'->Src ZS 3 119 v L.length (bT L) w':=by
 obtain ⟨ao,c,rfl,N,C⟩:=h;by_cases s:os=[]
 . subst s;refine ⟨[],rfl,λx l=>by simp at l,λw' _=>?_⟩;cases ao with
   | none=>exact Src.ofNil w' underlying119 c
   | some A=>exact Src.ofSlice w' underlying119 A 0 c [] rfl (λj u a=>by simp at a) (λu I=>by simp at I)
 . obtain ⟨b,off,rfl,hK,F,r⟩:=C s;have D:∃ f:Nat->ZW,∀ i (d:i<os.length),w.cell? ⟨b,off+i*3,Z1⟩=Z0 (Z2 os[i].name)/\w.cell? ⟨b,off+i*3+1,Z1⟩=Z0 (Z8 Z9 (os[i].size:Nat))/\w.cell? ⟨b,off+i*3+2,Z1⟩=Z0 (f i)/\bN K w (f i) os[i].TE:=by
    refine ⟨λi=>if d:i<os.length then Classical.choose (r i d) else .nilIface,λi d=>?_⟩;have:=Classical.choose_spec (r i d);simpa [d] using this
   obtain ⟨f,z⟩:=D;obtain ⟨L,y⟩:∃ L:List (Ob×ZW),L=os.zipIdx.map (λq=>(q.1,f q.2)):=⟨_,rfl⟩;have p:L.length=os.length:=(by rw [y];simp);have g:∀ i (d:i<os.length),L[i]'(by omega)=(os[i],f i):=λi d=>by subst y;simp
   have t:Ni K w L:=λx l=>by
    obtain ⟨i,d,e⟩:=Yr l;rw [g i (by omega)] at e;rw [<- e];exact (z i (by omega)).2.2.2
   refine ⟨L,?_,t,?_⟩
   . refine YL (by simp [p]) λi J B=>?_;rw [XY,g i B]
   . intro w' G;have k:=G.2 b F hK;rw [<- p];refine Src.ofSlice w' underlying119 ⟨b,off,Z1⟩ L.length c (bT L) (cC L) (λj u a=>?_) t.one;rw [Addr.add_mid];have M:j<L.length*3:=(by obtain ⟨q,_⟩:=XZ.1 a;rwa [cC] at q);have H:j/3<L.length:=(by omega);obtain ⟨m,n,o⟩:=Lk L (j/3) H;obtain ⟨b0,b1,b2,_⟩:=z (j/3) (by omega);rw [g (j/3) (by omega)] at m n o;have E:j=j/3*3\/j=j/3*3+1\/j=j/3*3+2:=(by omega);rcases E with q|q|q
     . rw [q,m] at a;rw [q,<- a];exact (World.cell?_of_block k).trans b0
     . rw [q,n] at a;rw [q,<- a,<- Yi];exact (World.cell?_of_block k).trans b1
     . rw [q,o] at a;rw [q,<- a,<- Yi];exact (World.cell?_of_block k).trans b2
theorem uv {L:List (Ob×ZW)} (h:w.ownsRow base 123 3 u L.length (bT L)) (q:L.length<=1000000) (hK:∀ k,base<=k->K k) (n:Ni K w L):gE K w u (L.map (·.1)):=by
 rcases h.2 with ⟨rfl,r⟩|⟨g,cap,cur,rfl,o,d,s,t,v,m⟩
 . have:L=[]:=Ys r;subst this;exact gE.nil _ _
 . refine ⟨Z0 ⟨g,0,Z1⟩,cap,by rw [XM],by rw [XM];exact q,λ_=>⟨g,0,rfl,hK g o,(XL.1 d).1,λi b=>?_⟩⟩;rw [XM] at b;obtain ⟨e,f,l⟩:=Lk L i b;have a:∀ j u,j<L.length*3->(bT L)[j]?=Z0 u->w.cell? ⟨g,0+j,Z1⟩=Z0 u:=λj u p c=>by
    rw [<- m,Yc p] at c;rw [XJ];simp [World.cell?,d];simpa using c
   refine ⟨L[i].2,?_,?_,?_,?_⟩
   . rw [XY];exact a _ _ (by omega) e
   . rw [XY,Yi];exact a _ _ (by omega) f
   . rw [Yi];exact a _ _ (by omega) l
   . rw [XY];exact n _ (XQ b)
theorem pA (a:gE K w v os) (S:os.length<=10000) :
 ZV ZS 116 #[v] w λe w'=>∃ u L,e=Z4 u/\L.map (·.1)=os/\Ni K w L/\w'.ownsRow w.heap.size 123 3 u L.length (bT L)/\bW w w':=by
 obtain ⟨L,i,l,f⟩:=Nj a;obtain ⟨ao,c,rfl,Q,d⟩:=id a;have F:L.length=os.length:=by rw [<- i,XM]
 obtain ⟨M,I,B,C,D⟩:=info_parts Tryz.TU;cases ao with
 | none=>
  have t:os=[]:=Classical.byContradiction λh=>by obtain ⟨b,off,e,_⟩:=d h;cases e
  subst t;have E:L=[]:=Ys F;subst E;have G:=λm=>Lib.run_eql_slice_nil (P:=ZS) m 119 123 Z1 0 c 0 0 underlying119;simp only [List.length_nil];clear d a f l;go_enter func116,ntmps116;go_wp2;go_ret;exact ⟨_,[],rfl,rfl,λx J=>by simp at J,World.ownsRow_nil _ _ _ _,Below.refl _ _⟩
 | some s=>
  have G:=λm=>Lib.run_eql_slice_nil (P:=ZS) m 119 123 (Z0 s) os.length c 0 0 underlying119;have g:bW w (w.alloc (Z5 #[] 123)):=bA _ _;have p:=f _ (eR.TF g);have r:(w.alloc (Z5 #[] 123)).ownsRow w.heap.size 123 3 (Z6 (Z0 ⟨w.heap.size,0,Z1⟩) 0 0) 0 []:=⟨rfl,.inr ⟨w.heap.size,0,#[],rfl,XN _,heap_alloc_last w _,XN _,by unfold maxLen;omega,rfl,rfl⟩⟩;have H:=hide5 i l g p r;have R:L.length<=10000:=by omega
  clear d a f l g p r i;go_enter func116,ntmps116;go_wp2_with (at_builtin;refine af _ rfl (Z3 5) (Z3 6) 119 119 rfl w.heap.size 123 M _ 3 48 underlying119 I B C D rfl _ 0 [] (by rfl) (by exact H.out.2.2.2.2) _ (by rfl) L.length (bT L) (by exact H.out.2.2.2.1) (by unfold maxLen;omega) (by omega) (by exact H.out.2.2.1.size) ?_;intro T w3 j q A;rw [XJ,XR] at j;have n:=hide2 j q;clear j q A);go_ret;obtain ⟨y,z,o,N,O⟩:=H.out;exact ⟨_,L,rfl,y,z,n.out.1,o.grown n.out.2 o.size (λk e=>by cases e;exact XN _)⟩
def pB {a:Act} {K:Act->ZX->Prop} (f:o.guard=Z1) (d x:Operand) (b c:ZT) (e:o.op=Op.call { callee:=Callee.builtin Builtin.copy,args:=#[d,x],argTypes:=#[b,c] })
 (v u:ZW) (hd:a.eval d=v) (hx:a.eval x=u) {v':ZW} {w':ZX} (hr:(Builtin.copy_ #[b,c] o.type #[v,u]).run ZS w=.ok v' w') (hK:K (a.put o.dst v') w'):if Region.wanted o (yielded ops a.tmps)=ZZ then Oper.wp ZS o a w K Q else E:=by
 rw [if_pos (by simp [Region.wanted,f])];unfold Oper.wp;simp [execOp,e,resolve,invoke,builtin,hd,hx,hr,Result.andThen];exact hK
theorem Lm (cur c v:List α) (a m k:Nat) (g:cur.take k=c) (l:c.length=k) (h:v.length=m) (f:a<=k) (n:k+m<=cur.length) :
 ((cur.take (a+m)++c.drop a++cur.drop (a+m+(c.drop a).length)).take a++v++(cur.take (a+m)++c.drop a++cur.drop (a+m+(c.drop a).length)).drop (a+v.length)).take (k+m)=c.take a++(v++c.drop a) /\
 ((cur.take (a+m)++c.drop a++cur.drop (a+m+(c.drop a).length)).take a++v++(cur.take (a+m)++c.drop a++cur.drop (a+m+(c.drop a).length)).drop (a+v.length)).length=cur.length:=by
 have b:(cur.take (a+m)).length=a+m:=by rw [XG];omega
 have d:(cur.take (a+m)++c.drop a++cur.drop (a+m+(c.drop a).length)).take a=c.take a:=by
  rw [XU,Yq (by omega),YA,Yj (by omega),<- g,YA,Yj f]
 have e:(cur.take (a+m)++c.drop a++cur.drop (a+m+(c.drop a).length)).drop (a+v.length)=c.drop a++cur.drop (a+m+(c.drop a).length):=by
  rw [h,XU];exact List.drop_left' b
 have i:(c.take a).length=a:=by rw [XG];omega
 have j:(c.drop a).length=k-a:=by rw [XI];omega
 rw [d,e];constructor
 . rw [XU,<- XU v,<- XU (c.take a)];have:(c.take a++(v++c.drop a)).length=k+m:=by rw [XH,XH];omega
   rw [<- this,Yt]
 . simp only [XH,XI,XG];omega
def kX (b:Nat):∀ (a:List ZW) (o:Nat) (w:ZX),(w.drew.setCells b o a).heap=(w.setCells b o a).heap
 | [],_,_=>rfl
 | v::r,o,w=>kX b r (o+1) (w.setCell ⟨b,o,Z1⟩ v)
theorem Fx (L:List (Ob×ZW)) (x:Ob×ZW) (i:Nat):(bT L).take (i*3)++(jJ x++(bT L).drop (i*3))=bT (L.take i++x::L.drop i):=by
 rw [BS,ur,iU];congr 1
def Fy:(ZS.info? 123).map (·.size)=Z0 3:=by kernel_rfl
theorem BV {vb:Nat} {cur:Array ZW} {L:List (Ob×ZW)} (A:w.heap[g]?=Z0 (Z5 cur 123 (0,0))) (R:base<=g) (C:cur.size=cap*3) (z:cur.toList.take (L.length*3)=bT L) (O:∀ u∈bT L,u.oneCell'=ZZ) (U:∀ u∈jJ x,u.oneCell'=ZZ)
 (Y:i<L.length) (X:L.length+1<=cap) (Z:L.length<=10000) (D:w.heap[vb]?=Z0 (Z5 (jJ x).toArray 123 (0,0))) (S:vb≠g) :
 ZV ZS 142 #[Z6 (Z0 ⟨g,0,Z1⟩) L.length cap,Z8 Z9 i,Z6 (Z0 ⟨vb,0,Z1⟩) 1 1] w λe w'=>e=Z4 (Z6 (Z0 ⟨g,0,Z1⟩) (L.length+1) cap)/\Below base w w'/\∃ a,aw w' g 123 a/\a.length=cap*3/\a.take ((L.length+1)*3)=bT (L.take i++x::L.drop i):=by
 obtain ⟨n,P⟩:=nM (L.length);have m:aw w g 123 cur.toList:=by unfold aw;exact A
 have p:aw w vb 123 (jJ x):=D;have h:cur.toList.length=cap*3:=by simpa using C
 have r:((bT L).drop (i*3)).length=(n-i)*3:=by rw [XI,cC,P];omega
 have kf:(jJ x).length=3:=rfl;have T:∀ lb y ob,(callFunc 165 #[Z6 (Z0 ⟨vb,0,Z1⟩) 1 1,Z6 (Z0 ⟨g,ob,Z1⟩) lb y]).run ZS w=.ok (.value (.bool ZY)) w:=λlb y ob=>by
  rw [run_callFunc_extern func165 (by kernel_rfl) (by kernel_rfl) (by kernel_rfl) (e:=Extern.SlicesOverlaps.overlaps #[118,118] #[4]) (by kernel_rfl),
   Lib.run_overlaps_apart w 118 4 123 underlying118 3 (λw=>by obtain ⟨io,ka,kb,hs,kc⟩:=info_parts Tryz.TU;simp [sizeOf,typeInfo,ka,hs]) ⟨vb,0,Z1⟩ ⟨g,ob,Z1⟩ 1 1 lb y S 123 123 3 (cap*3) (by simp [World.shape?,D];rfl) (by simp [World.shape?,A,C]) (by omega) (p.TX _) (p.TX _)]
  rfl
 have J:∀ c d l1 b E v F,d=i*3+3->l1=n-i->E=i*3->v=n+1-i->(Builtin.copy_ #[119,119] c #[Z6 (Z0 ⟨g,d,Z1⟩) l1 b,Z6 (Z0 ⟨g,E,Z1⟩) v F]).run ZS w.drew=.ok (goInt (X6 v l1)) (w.drew.setCells g (i*3+3) ((bT L).drop (i*3))):=by
  rintro c d l1 b E v F rfl rfl rfl rfl;refine gk w.drew _ _ c 123 3 g (i*3+3) _ b g (i*3) _ F 123 cur.toList _ underlying119 Fy (by rw [r];show _=min _ _*3;rw [Nat.min_eq_right (by omega)]) (λj u l=>?_) m (by rw [r,h];omega) (λu hu=>O u (X0 hu));refine m.cell ?_;rw [Yh] at l;have ke:i*3+j<L.length*3:=by obtain ⟨q,_⟩:=XZ.1 l;rwa [cC] at q
  rw [<- z,Yc ke] at l;exact l
 have f:=m.set (i*3+3) ((bT L).drop (i*3)) (by rw [r,h];omega);have I:aw (w.setCells g (i*3+3) ((bT L).drop (i*3))) vb 123 (jJ x):=p.keep (bD g _ _ _ _ S);obtain ⟨c1,B⟩:=nM (cur.toList.take (i*3+3)++(bT L).drop (i*3)++cur.toList.drop (i*3+3+((bT L).drop (i*3)).length));have M:=Lm cur.toList (bT L) (jJ x) (i*3) 3 (L.length*3) z (cC L) rfl (by omega) (by rw [h];omega);rw [B] at f M;obtain ⟨s,t⟩:=M;have o:c1.length=cap*3:=by
  rw [<- B];simp only [XH,XI,XG,cC,h];omega
 have K:∀ (W:ZX),W.heap=(w.setCells g (i*3+3) ((bT L).drop (i*3))).heap->∀ c d l1 b,d=i*3->l1=n+1-i->(Builtin.copy_ #[119,118] c #[Z6 (Z0 ⟨g,d,Z1⟩) l1 b,Z6 (Z0 ⟨vb,0,Z1⟩) 1 1]).run ZS W=.ok (goInt (X6 1 l1)) (W.setCells g (i*3) (jJ x)):=by
  rintro W N c d l1 b rfl rfl;have k6:aw W g 123 c1:=by unfold aw;rw [N];exact f
  have hm:aw W vb 123 (jJ x):=by unfold aw;rw [N];exact I
  refine gk W _ _ c 123 3 g (i*3) _ b vb 0 1 1 123 c1 _ underlying119 Fy (by show _=min _ _*3;rw [Yj (by omega)];rfl) (λj u l=>?_) k6 (by rw [o,kf];omega) U;rw [XJ];exact hm.cell l
 have H:=hide3 f s t;have k9:=hide m.lt;have o:=hide o;have hr:=hide h;have G:=hide2 J K;have V:=hide T;rw [P] at Y X Z ⊢;have ks:¬ ((i:Int)=(n:Int)):=by omega
 have kp:IntKind.i64.wrap ((i:Int)+1)=(i:Int)+1:=by rw [IntKind.wrap_i64];omega
 have kr:¬ (cap:Int)<(n:Int)+1:=by omega
 have km:i<=n:=by omega
 have kh:¬ (cap=i+1):=by omega
 have kj:¬ (cap=i):=by omega
 have ko:((i:Int)+1).toNat=i+1:=by omega
 have kg:(0:Int)<=(i:Int)+1:=by omega
 have ki:(i:Int)<=(n:Int)+1:=by omega
 clear m p r T J K f I B s t h C z O U D A;go_enter func142,ntmps142;go_wp2_with (simp only [V.out]);go_region_law (refine pB rfl _ _ 119 119 rfl _ _ (by simp [Act.eval,Act.put]) (by simp [Act.eval,Act.put]) (G.out.1 _ ((i+1)*3) (n-i) (cap-(i+1)) (i*3) (n+1-i) (cap-i) (by omega) (by omega) (by omega) (by omega)) ?_)
 have k8:∀ c b,(Builtin.copy_ #[119,118] c #[Z6 (Z0 ⟨g,i*3,Z1⟩) (n+1-i) b,Z6 (Z0 ⟨vb,0,Z1⟩) 1 1]).run ZS (w.drew.setCells g (i*3+3) ((bT L).drop (i*3)))=.ok (goInt (X6 1 (n+1-i))) ((w.drew.setCells g (i*3+3) ((bT L).drop (i*3))).setCells g (i*3) (jJ x)):=λc b=>G.out.2 _ (kX _ _ _ _) c (i*3) (n+1-i) b rfl rfl;go_wp2;go_ret;obtain ⟨f,s,t⟩:=H.out;have k7:aw (w.drew.setCells g (i*3+3) ((bT L).drop (i*3))) g 123 c1:=by unfold aw;rw [kX];exact f
 have kk:g<w.heap.size:=k9.out;have Q:Below base w (w.drew.setCells g (i*3+3) ((bT L).drop (i*3))):=(Below.refl base w).drew.grown (cG _ _ _ _) (by show base<=w.heap.size;omega) (λk e=>by cases e;exact R);refine ⟨rfl,Q.grown (cG _ _ _ _) (XK (by omega) Q.size) (λk e=>by cases e;exact R),_,k7.set (i*3) (jJ x) (by have h1:c1.length=cap*3:=o.out;have h2:(jJ x).length=3:=rfl;omega),?_,?_⟩
 . rw [t];exact hr.out
 . rw [show (n+1)*3=L.length*3+3 by omega,s,Fx]
theorem BW {vb:Nat} {cur:Array ZW} {L:List (Ob×ZW)} (Z:w.heap[g]?=Z0 (Z5 cur 123 (0,0))) (kp:base<=w.heap.size) (kc:cur.size=cap*3) (P:cur.toList.take (L.length*3)=bT L) (hs:∀ u∈bT L,u.oneCell'=ZZ) (ki:∀ u∈jJ x,u.oneCell'=ZZ)
 (hi:i<L.length) (ky:L.length<=cap) (hv:cap<L.length+1) (hl:L.length<=10000) (hx:w.heap[vb]?=Z0 (Z5 (jJ x).toArray 123 (0,0))) :
 ZV ZS 142 #[Z6 (Z0 ⟨g,0,Z1⟩) L.length cap,Z8 Z9 i,Z6 (Z0 ⟨vb,0,Z1⟩) 1 1] w λe w'=>∃ c,e=Z4 (Z6 (Z0 ⟨w.heap.size,0,Z1⟩) (L.length+1) c)/\Below base w w'/\L.length+1<=c/\c<=9223372036854775807/\∃ d,aw w' w.heap.size 123 d/\d.length=c*3/\d.take ((L.length+1)*3)=bT (L.take i++x::L.drop i):=by
 obtain ⟨io,kg,hq,hr,R⟩:=info_parts Tryz.TU;obtain ⟨n,I⟩:=nM (L.length);have v:aw w g 123 cur.toList:=by unfold aw;exact Z
 have S:aw w vb 123 (jJ x):=hx;have kr:cur.toList.length=cap*3:=by simpa using kc
 have z:((bT L).drop (i*3)).length=(n-i)*3:=by rw [XI,cC,I];omega
 have p:((bT L).take (i*3)).length=i*3:=by rw [XG,cC,I];omega
 have A:(jJ x).length=3:=rfl;have X:∀ j u,(bT L)[j]?=Z0 u->w.cell? ⟨g,j,Z1⟩=Z0 u:=λj u b=>by
  refine v.cell ?_;have U:j<L.length*3:=by obtain ⟨q,_⟩:=XZ.1 b;rwa [cC] at q
  rw [<- P,Yc U] at b;exact b
 have hold:(Builtin.firstCells io.size i (Z6 (Z0 ⟨g,0,Z1⟩) i cap)).run ZS w.drew=.ok ((bT L).take (i*3)).toArray w.drew:=by
  rw [hr];exact run_firstCells_some w.drew 3 i ⟨g,0,Z1⟩ i cap _ p (λj u b=>by
   rw [Addr.add_mid,XJ];rw [YM] at b;split at b
   . exact X j u b
   . cases b)
 have kf:i+(n+1-i)=n+1:=by omega
 have kh:(n:Int)+1-(i:Int)=((n+1-i:Nat):Int):=by omega
 have r:=λh=>Lib.run_append_grow_zeros w 119 3 h 123 io _ .i64 .i64 underlying119 underlying3 kg hq (Z0 ⟨g,0,Z1⟩) i cap _ hold (n+1-i) (by omega) (by omega) (by omega) (by omega) (by rw [R];omega) (by rw [R,kf];exact growslice_fits (by omega) (by omega));rw [kf] at r;obtain ⟨C,G⟩:=nM (grownCap w (n+1) cap 123);have km:n+1<=C:=by rw [<- G];exact grownCap_ge w _ _ _
 have ko:C<=9223372036854775807:=by
  have:=grownCap_le_maxLen w (n+1) cap 123 (by unfold maxLen;omega);rw [G] at this;unfold maxLen at this;omega
 rw [G] at r;obtain ⟨a,D⟩:∃ a:Array ZW,((bT L).take (i*3)).toArray++Builtin.zeroCells (Value.agg #[Z2 X1,Z8 Z9 0,Z6 Z1 0 0]).cells (n+1-i)++Builtin.zeroCells (Value.agg #[Z2 X1,Z8 Z9 0,Z6 Z1 0 0]).cells (C-(n+1))=a:=⟨_,rfl⟩;rw [D] at r;have kk:(Value.agg #[Z2 X1,Z8 Z9 0,Z6 Z1 0 0]).cells.size=3:=by rfl
 have J:a.toList.length=C*3:=by
  rw [<- D];simp only [Yo,Array.size_append,size_zeroCells,List.size_toArray,kk,p];omega
 have kb:a.toList.take (i*3)=(bT L).take (i*3):=by
  rw [<- D,YN,YN,XU,Yq (by simp [p])];rw [XX (by simp [p])]
 obtain ⟨l,M⟩:=nM (w.drew.alloc (Z5 a 123));rw [M] at r;have T:aw l w.heap.size 123 a.toList:=by rw [<- M];exact heap_alloc_new w.drew _
 have s:bW w l:=by rw [<- M];exact (Below.refl _ w).drew.alloc lR _
 have kj:aw l vb 123 (jJ x):=S.keep (s.block _ S.lt);have ke:aw l g 123 cur.toList:=v.keep (s.block _ v.lt);have t:∀ h o,(Builtin.copy_ #[119,118] h #[Z6 (Z0 ⟨w.heap.size,i*3,Z1⟩) (n+1-i) o,Z6 (Z0 ⟨vb,0,Z1⟩) 1 1]).run ZS l=.ok (goInt (X6 1 (n+1-i))) (l.setCells w.heap.size (i*3) (jJ x)):=λh o=>by
  refine gk l _ _ h 123 3 w.heap.size (i*3) _ o vb 0 1 1 123 a.toList _ underlying119 Fy (by show _=min _ _*3;rw [Yj (by omega)];rfl) (λj u b=>?_) T (by rw [J,A];omega) ki;rw [XJ];exact kj.cell b
 have y:=T.set (i*3) (jJ x) (by rw [J,A];omega);obtain ⟨f,N⟩:=nM (l.setCells w.heap.size (i*3) (jJ x));have kx:g<w.heap.size:=v.lt;have hp:aw f g 123 cur.toList:=by rw [<- N];exact ke.keep (bD _ _ _ _ _ (by omega))
 have Q:bW w f:=by rw [<- N];exact s.grown (cG _ _ _ _) s.size (λk e=>by cases e;exact XN _)
 rw [N] at t y;obtain ⟨m,O⟩:=nM (a.toList.take (i*3)++jJ x++a.toList.drop (i*3+(jJ x).length));have F:m.length=C*3:=by rw [<- O];simp only [XH,XI,XG,J,A];omega
 have Y:m.take (i*3+3)=(bT L).take (i*3)++jJ x:=by
  rw [<- O,kb];have:((bT L).take (i*3)++jJ x).length=i*3+3:=by rw [XH,p,A]
  rw [<- this,Yt]
 rw [O] at y;have hh:∀ h o V,(Builtin.copy_ #[119,119] h #[Z6 (Z0 ⟨w.heap.size,(i+1)*3,Z1⟩) (n-i) o,Z6 (Z0 ⟨g,i*3,Z1⟩) (n-i) V]).run ZS f.drew=.ok (goInt (X6 (n-i) (n-i))) (f.drew.setCells w.heap.size ((i+1)*3) ((bT L).drop (i*3))):=λh o V=>by
  refine gk f.drew _ _ h 123 3 w.heap.size ((i+1)*3) _ o g (i*3) _ V 123 m _ underlying119 Fy (by rw [z];show _=min _ _*3;rw [Nat.min_self]) (λj u b=>?_) y (by rw [z,F];omega) (λu hu=>hs u (X0 hu));have h2:f.cell? ⟨g,i*3+j,Z1⟩=Z0 u:=by
   refine hp.cell ?_;rw [Yh] at b;have U:i*3+j<L.length*3:=(by obtain ⟨q,_⟩:=XZ.1 b;rwa [cC] at q);rw [<- P,Yc U] at b;exact b
  exact h2
 have K:aw (f.drew.setCells w.heap.size ((i+1)*3) ((bT L).drop (i*3))) w.heap.size 123 _:=aw.set (w:=f.drew) y ((i+1)*3) ((bT L).drop (i*3)) (by rw [z,F];omega);have E:bW w (f.drew.setCells w.heap.size ((i+1)*3) ((bT L).drop (i*3))):=Q.drew.grown (cG _ _ _ _) Q.size (λk e=>by cases e;exact XN _);have hm:(m.take ((i+1)*3)++(bT L).drop (i*3)++m.drop ((i+1)*3+((bT L).drop (i*3)).length)).length=C*3/\(m.take ((i+1)*3)++(bT L).drop (i*3)++m.drop ((i+1)*3+((bT L).drop (i*3)).length)).take ((n+1)*3)=bT (L.take i++x::L.drop i):=by
  constructor
  . simp only [XH,XI,XG,cC,F,I];omega
  . rw [show (i+1)*3=i*3+3 by omega,Y];have:((bT L).take (i*3)++jJ x++(bT L).drop (i*3)).length=(n+1)*3:=by rw [XH,XH,p,A,z];omega
    rw [<- this,Yt,XU,Fx]
 have H:=hide3 K E hm;have B:=hide3 r t hh;have W:=hide2 km ko;rw [I] at hi hv hl ky ⊢;have q8:¬ ((i:Int)=(n:Int)):=by omega
 have q6:IntKind.i64.wrap ((i:Int)+1)=(i:Int)+1:=by rw [IntKind.wrap_i64];omega
 have q7:(cap:Int)<(n:Int)+1:=by omega
 have q4:i<=n:=by omega
 have q0:¬ (C=i+1):=by omega
 have q2:¬ (cap=i):=by omega
 have q3:¬ (C=i):=by omega
 have q5:((i:Int)+1).toNat=i+1:=by omega
 have kz:(0:Int)<=(i:Int)+1:=by omega
 have q1:(i:Int)<=(n:Int)+1:=by omega
 clear v S z p X hold r D J kb M T s kj ke t y N hp Q O F Y hh K E hm G kk kr kc P hs ki hx Z kx kg hq hr R;rw [<- kh] at B;go_enter func142,ntmps142;clear kh;have t:=B.out.2.1;go_wp2_with (at_builtin;refine Lib.wpList_append_run _ rfl _ _ _ _ rfl _ _ rfl rfl _ _ (B.out.1 _) ?_);clear t;go_region_law (refine pB rfl _ _ 119 119 rfl _ _ (by simp [Act.eval,Act.put]) (by simp [Act.eval,Act.put]) (B.out.2.2 _ (C-(i+1)) (cap-i)) ?_)
 go_wp2;go_ret;obtain ⟨K,E,ks,kv⟩:=H.out;exact ⟨C,rfl,E.mono kp,W.out.1,W.out.2,_,K,ks,kv⟩
def Nl {vb:Nat} (d:w.heap[vb]?=Z0 (Z5 (jJ x).toArray 123 (0,0))) (b:∀ u∈jJ x,u.oneCell'=ZZ):Src ZS 3 118 (Z6 (Z0 ⟨vb,0,Z1⟩) 1 1) 1 (jJ x) w:=by
 have a:aw w vb 123 (jJ x):=d;exact Src.ofSlice w underlying118 ⟨vb,0,Z1⟩ 1 1 (jJ x) rfl (λj u c=>by rw [Addr.add_mid,XJ];exact a.cell c) b
theorem Eo {vb:Nat} {L:List (Ob×ZW)} (ho:w.ownsRow base 123 3 u L.length (bT L)) (d:base<=w.heap.size) (l:∀ u∈jJ x,u.oneCell'=ZZ) (v:L.length<=10000) (m:w.heap[vb]?=Z0 (Z5 (jJ x).toArray 123 (0,0))) :
 ZV ZS 142 #[u,Z8 Z9 (L.length:Nat),Z6 (Z0 ⟨vb,0,Z1⟩) 1 1] w λe w'=>∃ u',e=Z4 u'/\w'.ownsRow base 123 3 u' (L.length+1) (bT (L++[x]))/\Below base w w':=by
 obtain ⟨z,t,p,q,r⟩:=info_parts Tryz.TU;have i:=Nl m l;have h:∀ k,u.ownBlock=Z0 k->base<=k:=λk e=>by
  rcases ho.2 with ⟨rfl,_⟩|⟨g,cap,cur,rfl,s,_⟩
  . cases e
  . cases e;exact s
 have H:=hide3 ho i h;obtain ⟨n,y⟩:=nM (L.length);have j:bT (L++[x])=bT L++jJ x:=by rw [iU];congr 1
 rw [j];rcases ho.2 with ⟨rfl,o⟩|⟨g,cap,cur,rfl,s,B,C,E,F,A⟩
 . rw [y] at o v H ⊢;subst o;clear ho i h m l j;go_enter func142,ntmps142;go_wp2_with (at_builtin;refine af _ rfl (Z3 23) (Z3 24) 119 118 rfl base 123 z _ 3 48 underlying119 t p q r rfl _ 0 (bT L) (by rfl) (by exact H.out.1) _ (by rfl) 1 (jJ x) (by exact H.out.2.1) (by unfold maxLen;omega) (by omega) d ?_;intro D w3 c b f;have a:=hide2 c b;clear c b f);go_ret;exact ⟨_,rfl,a.out.1,(Below.refl base w).grown a.out.2 d H.out.2.2⟩
 . rw [y] at v H C ⊢;have G:n<=n:=XN n;clear ho i h m l j A B;go_enter func142,ntmps142;go_wp2_with (at_builtin;refine af _ rfl (Z3 23) (Z3 24) 119 118 rfl base 123 z _ 3 48 underlying119 t p q r rfl _ n (bT L) (by rfl) (by exact H.out.1) _ (by rfl) 1 (jJ x) (by exact H.out.2.1) (by unfold maxLen;omega) (by omega) d ?_;intro D w3 c b f;have a:=hide2 c b;clear c b f);all_goals (go_ret;exact ⟨_,rfl,a.out.1,(Below.refl base w).grown a.out.2 d H.out.2.2⟩)
def zS {L:List (Ob×ZW)} (h:aw w g 123 cur) (a:base<=g) (d:n=L.length) (b:n<=cap) (f:cap<=9223372036854775807) (c:cur.length=cap*3) (e:cur.take (n*3)=bT L):w.ownsRow base 123 3 (Z6 (Z0 ⟨g,0,Z1⟩) n cap) n (bT L):=
 ⟨by rw [cC,d],.inr ⟨g,cap,cur.toArray,rfl,a,h,b,by unfold maxLen;omega,by simpa using c,by simpa using e⟩⟩
theorem Ep {vb:Nat} {L:List (Ob×ZW)} (ho:w.ownsRow base 123 3 u L.length (bT L)) (f:base<=w.heap.size) (q:∀ u∈bT L,u.oneCell'=ZZ) (j:∀ u∈jJ x,u.oneCell'=ZZ) (k:L.length<=10000) (l:w.heap[vb]?=Z0 (Z5 (jJ x).toArray 123 (0,0))) (E:u.ownBlock≠Z0 vb) (B:i<=L.length) :
 ZV ZS 142 #[u,Z8 Z9 (i:Nat),Z6 (Z0 ⟨vb,0,Z1⟩) 1 1] w λe w'=>∃ u',e=Z4 u'/\w'.ownsRow base 123 3 u' (L.length+1) (bT (L.take i++x::L.drop i))/\Below base w w':=by
 rcases YO B with e|v
 . subst e;rw [YP,YQ];exact Eo ho f j k l
 . have p:L.length+1=(L.take i++x::L.drop i).length:=(by simp;omega);rcases ho.2 with ⟨rfl,F⟩|⟨g,cap,cur,rfl,r,s,D,C,t,o⟩
   . omega
   . have A:cap<=9223372036854775807:=(by unfold maxLen at C;omega);by_cases n:L.length+1<=cap
     . refine (BV s r t o q j v n k l (λe=>E (by rw [e];rfl))).mono ?_;rintro e w' ⟨rfl,h,a,b,c,d⟩;exact ⟨_,rfl,zS b r p n A c d,h⟩
     . refine (BW s f t o q j v D (by omega) k l).mono ?_;rintro e w' ⟨m,rfl,h,y,z,a,b,c,d⟩;exact ⟨_,rfl,zS b f p y z c d,h⟩
def zU (ho:w.ownsRow base 123 3 u n xs) (d:g<base):u.ownBlock≠Z0 g:=λe=>by
 rcases ho.2 with ⟨rfl,_⟩|⟨a,cap,cur,rfl,c,_⟩
 . cases e
 . have b:a=g:=(by simpa [Value.ownBlock] using e);omega
def zV (ho:w.ownsRow base 123 3 u n xs) (d:w.heap.size<=g):u.ownBlock≠Z0 g:=λe=>by
 rcases ho.2 with ⟨rfl,_⟩|⟨a,cap,cur,rfl,c,h,_⟩
 . cases e
 . have b:a=g:=(by simpa [Value.ownBlock] using e);have:=(XL.1 h).1;omega
def Ic (ho:w.ownsRow base 123 3 u n xs) (o:Obj):(w.alloc o).ownsRow base 123 3 u n xs:=by
 refine ⟨ho.1,?_⟩;rcases ho.2 with h|⟨g,cap,cur,rfl,a,h,b⟩
 . exact .inl h
 . exact .inr ⟨g,cap,cur,rfl,a,(Below.heap_alloc w o g (XL.1 h).1).trans h,b⟩
def uG (K:Nat->Prop) (w:ZX) (os:List Ob) (e:ZU) (w':ZX):Prop:=∃ u,e=Z4 u/\gE K w' u os/\bW w w'
theorem B1 (Q:gE K w v os) (k8:os.length<=9999) (hK:∀ k,w.heap.size<=k->K k) {i:Nat} (hi:i<=os.length) (o:Ob) (a:ZW) (E:bN K w a o.TE) :
 ZV ZS 105 #[v,Z8 Z9 (i:Nat),.agg #[Z2 o.name,Z8 Z9 (o.size:Nat),a]] w (uG K w (os.take i++o::os.drop i)):=by
 obtain ⟨nm,U⟩:=nM (o.name);obtain ⟨b,X⟩:∃ b:Int,((o.size:Nat):Int)=b:=⟨_,rfl⟩;have Y:∀ u∈jJ (o,a),u.oneCell'=ZZ:=by
  obtain ⟨ao,c,e,_⟩:=E;exact Fw ⟨ao,_,c,e⟩
 have Z:(jJ (o,a)).toArray=#[Z2 nm,Z8 Z9 b,a]:=by rw [<- U,<- X];rfl
 have S:∀ W,bW w W->ZV ZS 116 #[v] W λe w'=>∃ u L,e=Z4 u/\L.map (·.1)=os/\Ni K W L/\w'.ownsRow W.heap.size 123 3 u L.length (bT L)/\bW W w':=λW z=>pA (Q.keep (eR.TF z)) (by omega);have T:∀ (W n:ZX) (u:ZW) (L:List (Ob×ZW)) (base vb:Nat),bW w W->bW W n->L.map (·.1)=os->Ni K W L->n.ownsRow base 123 3 u L.length (bT L)->w.heap.size<=base->W.heap.size<=base->base<=n.heap.size->n.heap[vb]?=Z0 (Z5 #[Z2 nm,Z8 Z9 b,a] 123 (0,0))->u.ownBlock≠Z0 vb ->
  ZV ZS 142 #[u,Z8 Z9 (i:Nat),Z6 (Z0 ⟨vb,0,Z1⟩) 1 1] n (uG K w (os.take i++o::os.drop i)):=λW n u L base vb z k0 g f ho k9 hv k5 hx k6=>by
  have k7:L.length=os.length:=by rw [<- g,XM]
  refine (Ep ho k5 f.one Y (by omega) (by rw [Z];exact hx) k6 (by omega)).mono ?_;rintro e w' ⟨u',rfl,V,hz⟩;have B:bW W w':=k0.trans (hz.mono hv);have N:bW w w':=z.trans (B.mono z.size);have O:L.length+1=(L.take i++(o,a)::L.drop i).length:=by simp;omega
  rw [O] at V;refine ⟨u',rfl,?_,N⟩;have l:=uv (K:=K) (L:=L.take i++(o,a)::L.drop i) V (by rw [<- O];omega) (λk hk=>hK k (by omega)) (λy hy=>by
   rw [XP,X5] at hy;rcases hy with h|h|h
   . exact (f y (Yk h)).keep (eR.TF B)
   . subst h;exact E.keep (eR.TF N)
   . exact (f y (X0 h)).keep (eR.TF B))
  have e:(L.take i++(o,a)::L.drop i).map (·.1)=os.take i++o::os.drop i:=by rw [X8,XT,X9,Ya,g]
  rwa [e] at l
 rw [U,X];have F:=hide S;have G:=hide T;clear S T Q E Y Z hK;go_enter func105,ntmps105;have x:bW w (w.alloc (Z5 #[Z2 nm,Z8 Z9 b,a] 123)).drew:=(bA w _).drew;have R:bW w ((w.alloc (Z5 #[Z2 nm,Z8 Z9 b,a] 123)).drew.alloc (Z5 #[Z2 nm,Z8 Z9 b,a] 123)):=x.alloc x.size _;have m:=hide2 x R;have M:=heap_alloc_last w (Z5 #[Z2 nm,Z8 Z9 b,a] 123);have s:aw (w.alloc (Z5 #[Z2 nm,Z8 Z9 b,a] 123)).drew w.heap.size 123 [Z2 nm,Z8 Z9 b,a]:=M;have H:=s.cell (j:=0) (u:=Z2 nm) rfl;have g1:=s.cell (j:=1) (u:=Z8 Z9 b) rfl;have I:=s.cell (j:=2) (u:=a) rfl;have J:=s.lt;have P:(w.alloc (Z5 #[Z2 nm,Z8 Z9 b,a] 123)).drew.heap.size=w.heap.size+1:=by show (w.alloc _).heap.size=_;exact nblk_alloc _ _
 have D:((w.alloc (Z5 #[Z2 nm,Z8 Z9 b,a] 123)).drew.alloc (Z5 #[Z2 nm,Z8 Z9 b,a] 123)).heap[w.heap.size+1]?=Z0 (Z5 #[Z2 nm,Z8 Z9 b,a] 123):=by rw [<- P];exact heap_alloc_last _ _
 have C:=hide2 D (show w.heap.size+1<((w.alloc (Z5 #[Z2 nm,Z8 Z9 b,a] 123)).drew.alloc (Z5 #[Z2 nm,Z8 Z9 b,a] 123)).heap.size from (XL.1 D).1);have t:=hide4 J H g1 I;clear x R J H g1 I M s D P;go_wp2_with fail;go_region_with (first
  | (go_at_call 116;first
   | (refine (F.out (w.alloc (Z5 #[Z2 nm,Z8 Z9 b,a] 123)).drew m.out.1).mono ?_;rintro e w1 ⟨u,L,rfl,g,f,ho,q⟩;have b0:=λj=>q.cell (p:=⟨w.heap.size,j,Z1⟩) (t.out.1);have c0:w1.cell? ⟨w.heap.size,0,Z1⟩=Z0 (Z2 nm):=(b0 0).trans t.out.2.1;have c1:w1.cell? ⟨w.heap.size,1,Z1⟩=Z0 (Z8 Z9 b):=(b0 1).trans t.out.2.2.1;have c2:w1.cell? ⟨w.heap.size,2,Z1⟩=Z0 a:=(b0 2).trans t.out.2.2.2;clear b0;have d:=hide4 g f ho q;clear g f ho q)
   | (refine (F.out ((w.alloc (Z5 #[Z2 nm,Z8 Z9 b,a] 123)).drew.alloc (Z5 #[Z2 nm,Z8 Z9 b,a] 123)) m.out.2).mono ?_;rintro e w1 ⟨u,L,rfl,g,f,ho,q⟩;have d:=hide4 g f ho q;clear g f ho q))
  | (go_at_call 142;first
   | (refine (G.out (w.alloc (Z5 #[Z2 nm,Z8 Z9 b,a] 123)).drew (w1.alloc (Z5 #[Z2 nm,Z8 Z9 b,a] 123)) u L (w.alloc (Z5 #[Z2 nm,Z8 Z9 b,a] 123)).drew.heap.size w1.heap.size m.out.1 (d.out.2.2.2.alloc d.out.2.2.2.size _) d.out.1 d.out.2.1 (Ic d.out.2.2.1 _) m.out.1.size lR (d.out.2.2.2.alloc d.out.2.2.2.size _).size (heap_alloc_last w1 _) (zV d.out.2.2.1 lR)).mono ?_;rintro e w2 ⟨u2,rfl,l,r⟩;have A:=hide2 l r;clear l r)
   | (refine (G.out ((w.alloc (Z5 #[Z2 nm,Z8 Z9 b,a] 123)).drew.alloc (Z5 #[Z2 nm,Z8 Z9 b,a] 123)) w1 u L ((w.alloc (Z5 #[Z2 nm,Z8 Z9 b,a] 123)).drew.alloc (Z5 #[Z2 nm,Z8 Z9 b,a] 123)).heap.size (w.heap.size+1) m.out.2 d.out.2.2.2 d.out.1 d.out.2.1 d.out.2.2.1 m.out.2.size lR d.out.2.2.2.size ((d.out.2.2.2.block _ C.out.2).trans C.out.1) (zU d.out.2.2.1 C.out.2)).mono ?_;rintro e w2 ⟨u2,rfl,l,r⟩;have A:=hide2 l r;clear l r)))
 all_goals (go_wp2;go_ret;exact ⟨_,rfl,A.out.1,A.out.2⟩)
def rD {a:Act} {K:Act->ZX->Prop} (f:o.guard=Z1) (d x:Operand) (b c:ZT) (e:o.op=Op.call { callee:=Callee.builtin Builtin.append,args:=#[d,x],argTypes:=#[b,c] })
 (v u:ZW) (hd:a.eval d=v) (hx:a.eval x=u) {v':ZW} {w':ZX} (hr:(Builtin.append_ #[b,c] o.type #[v,u]).run ZS w=.ok v' w') (hK:K (a.put o.dst v') w'):if Region.wanted o (yielded ops a.tmps)=ZZ then Oper.wp ZS o a w K Q else E:=by
 rw [if_pos (by simp [Region.wanted,f])];unfold Oper.wp;simp [execOp,e,resolve,invoke,builtin,hd,hx,hr,Result.andThen];exact hK
theorem Ls (cur:List ZW) (L:List (Ob×ZW)) (i N:Nat) (c:L.length=N+1) (j:i<=N) (e:cur.take (L.length*3)=bT L) (k:(N+1)*3<=cur.length) (a:List ZW) (h:a.length=3) :
 ((cur.take (i*3)++(bT L).drop ((i+1)*3)++cur.drop (i*3+((bT L).drop ((i+1)*3)).length)).take (N*3)++a++(cur.take (i*3)++(bT L).drop ((i+1)*3)++cur.drop (i*3+((bT L).drop ((i+1)*3)).length)).drop (N*3+a.length)).take (N*3)=bT (L.take i++L.drop (i+1)) /\
 ((cur.take (i*3)++(bT L).drop ((i+1)*3)++cur.drop (i*3+((bT L).drop ((i+1)*3)).length)).take (N*3)++a++(cur.take (i*3)++(bT L).drop ((i+1)*3)++cur.drop (i*3+((bT L).drop ((i+1)*3)).length)).drop (N*3+a.length)).length=cur.length:=by
 have g:((bT L).drop ((i+1)*3)).length=(N-i)*3:=by rw [XI,cC,c];omega
 have d:cur.take (i*3)=bT (L.take i):=by
  rw [<- BS,<- e,YA,Yj (by omega)]
 have f:(cur.take (i*3)++(bT L).drop ((i+1)*3)).length=N*3:=by rw [XH,XG,g];omega
 have b:(cur.take (i*3)++(bT L).drop ((i+1)*3)++cur.drop (i*3+((bT L).drop ((i+1)*3)).length)).take (N*3)=cur.take (i*3)++(bT L).drop ((i+1)*3):=by
  conv=>lhs;rw [<- f]
  exact Yt
 constructor
 . rw [b,XU,Yq (by omega),XX (by omega),d,ur,iU]
 . rw [b];simp only [XH,XI,XG,cC,h,c];omega
theorem Ew {cur:Array ZW} {L:List (Ob×ZW)} (T:w.heap[g]?=Z0 (Z5 cur 123 (0,0))) (X:base<=g) (Y:cur.size=cap*3) (C:cur.toList.take (L.length*3)=bT L) (R:∀ u∈bT L,u.oneCell'=ZZ) (F:L.length=N+1) (U:i<=N) (k0:L.length<=cap) (kb:cap<=9223372036854775807) (hl:L.length<=10000) :
 ZV ZS 115 #[Z6 (Z0 ⟨g,0,Z1⟩) L.length cap,Z8 Z9 (i:Nat),Z8 Z9 ((i:Int)+1)] w λe w'=>e=Z4 (Z6 (Z0 ⟨g,0,Z1⟩) N cap)/\Below base w w'/\∃ a,aw w' g 123 a/\a.length=cap*3/\a.take (N*3)=bT (L.take i++L.drop (i+1)):=by
 obtain ⟨Z,K,Q,t,hr⟩:=info_parts Tryz.TU;have l:aw w g 123 cur.toList:=by unfold aw;exact T
 have n:cur.toList.length=cap*3:=by simpa using Y
 have s:((bT L).drop ((i+1)*3)).length=(N-i)*3:=by rw [XI,cC,F];omega
 have O:∀ u∈(bT L).drop ((i+1)*3),u.oneCell'=ZZ:=λu A=>R u (X0 A);have M:∀ j u,(bT L)[j]?=Z0 u->w.drew.cell? ⟨g,j,Z1⟩=Z0 u:=λj u b=>by
  have h2:w.cell? ⟨g,j,Z1⟩=Z0 u:=by
   refine l.cell ?_;have ka:j<L.length*3:=(by obtain ⟨q,_⟩:=XZ.1 b;rwa [cC] at q);rw [<- C,Yc ka] at b;exact b
  exact h2
 have S:∀ d,Src ZS 3 119 (Z6 (Z0 ⟨g,if cap=i+1 then 0 else (i+1)*3,Z1⟩) (N-i) d) (N-i) ((bT L).drop ((i+1)*3)) w.drew:=λd=>by
  refine Src.ofSlice w.drew underlying119 _ (N-i) d _ s (λj u b=>?_) O;rw [Addr.add_mid];split
  . rename_i v
    have:N-i=0:=by omega
    rw [this] at s;have:=Ys (by omega:((bT L).drop ((i+1)*3)).length=0);rw [this] at b;simp at b
  . rw [Yh] at b;exact M _ _ b
 have D:∀ m d,(Builtin.append_ #[119,119] m #[Z6 (Z0 ⟨g,0,Z1⟩) i cap,Z6 (Z0 ⟨g,if cap=i+1 then 0 else (i+1)*3,Z1⟩) (N-i) d]).run ZS w.drew=.ok (Z6 (Z0 ⟨g,0,Z1⟩) N cap) (w.drew.setCells g (i*3) ((bT L).drop ((i+1)*3))):=λm d=>by
  have hs:Src ZS Z.size 119 (Z6 (Z0 ⟨g,if cap=i+1 then 0 else (i+1)*3,Z1⟩) (N-i) d) (N-i) ((bT L).drop ((i+1)*3)) w.drew:=by rw [t];exact S d
  have h:=run_append_room_src (P:=ZS) (w:=w.drew) 119 119 m 123 Z underlying119 K g 0 i cap _ (N-i) _ hs (by omega) (λj b=>by
   rw [t];have:=l.cell (XO (by rw [n];rw [s] at b;omega:0+i*3+j<cur.toList.length));show (w.cell? _).isSome=ZZ;rw [this];rfl) (λj b=>l.TX _)
  rw [t,XJ,show i+(N-i)=N by omega] at h;exact h
 have r:aw (w.drew.setCells g (i*3) ((bT L).drop ((i+1)*3))) g 123 _:=aw.set (w:=w.drew) l (i*3) ((bT L).drop ((i+1)*3)) (by rw [s,n];omega);obtain ⟨p,G⟩:=nM (w.drew.setCells g (i*3) ((bT L).drop ((i+1)*3)));have I:Below base w p:=by rw [<- G];exact (Below.refl base w).drew.grown (cG _ _ _ _) (by show base<=w.heap.size;have:=l.lt;omega) (λk e=>by cases e;exact X)
 rw [G] at D r;obtain ⟨c1,J⟩:=nM (cur.toList.take (i*3)++(bT L).drop ((i+1)*3)++cur.toList.drop (i*3+((bT L).drop ((i+1)*3)).length));obtain ⟨f,y,x,k8⟩:∃ f,(Builtin.zeroCells (Value.agg #[Z2 X1,Z8 Z9 0,Z6 Z1 0 0]).cells 1).toList=f/\f.length=3/\∀ u∈f,u.oneCell'=ZZ:=by
  refine ⟨[Z2 X1,Z8 Z9 0,Z6 Z1 0 0],by kernel_rfl,rfl,?_⟩;intro u A;simp only [X5,Yz,or_false] at A;rcases A with rfl|rfl|rfl<;>rfl
 have B:=Ls cur.toList L i N F U C (by rw [n];omega) f x;rw [J] at r B;have E:c1.length=cap*3:=by rw [<- J];simp only [XH,XI,XG,cC,n];omega
 have k9:∀ m c,(Builtin.clear_ #[119] m #[Z6 (Z0 ⟨g,N*3,Z1⟩) 1 c]).run ZS p=.ok (.tuple #[]) (p.setCells g (N*3) f):=λm c=>by
  have h:=uq (P:=ZS) p 119 123 m g (N*3) 1 c 123 c1 underlying119 (z:=.agg #[Z2 X1,Z8 Z9 0,Z6 Z1 0 0]) (λw=>by simp [zeroValue,typeInfo,K,Q]) (by omega) r (by rw [y,x,E];omega) (by rw [y];exact k8);rw [y] at h;exact h
 have V:=r.set (N*3) f (by rw [x,E];omega);have W:Below base w (p.setCells g (N*3) f):=I.grown (cG _ _ _ _) (XK (by have:=l.lt;omega) I.size) (λk e=>by cases e;exact X);have H:=hide4 V W B n;have o:=hide D;rw [F] at k0 hl ⊢;have kc:¬ (i:Int)=(i:Int)+1:=by omega
 have k1:(0:Int)<=(i:Int)+1:=by omega
 have k2:((i:Int)+1).toNat=i+1:=by omega
 have k3:¬ cap=N:=by omega
 have k4:i<=N+1:=by omega
 have k5:(i:Int)<=(N:Int)+1:=by omega
 clear l n s O M S D r G I J y x k8 B E V W T Y C R K Q t hr;by_cases v:cap=i+1
 . rw [if_pos v] at o;obtain rfl:i=N:=(by omega);subst v;rw [Nat.sub_self] at o;clear k0 U k3;go_enter func115,ntmps115;go_wp2;go_region_law (refine rD rfl _ _ 119 119 rfl _ _ (by simp [Act.eval,Act.put]) (by simp [Act.eval,Act.put]) (o.out _ 0) ?_)
   go_wp2;go_ret;exact ⟨rfl,H.out.2.1,_,H.out.1,H.out.2.2.1.2.trans H.out.2.2.2,H.out.2.2.1.1⟩
 . rw [if_neg v] at o;have k6:i<=cap:=(by omega);have k7:(i:Int)<=(cap:Int):=(by omega);go_enter func115,ntmps115;go_wp2;go_region_law (refine rD rfl _ _ 119 119 rfl _ _ (by simp [Act.eval,Act.put]) (by simp [Act.eval,Act.put]) (o.out _ (cap-(i+1))) ?_)
   go_wp2;go_ret;exact ⟨rfl,H.out.2.1,_,H.out.1,H.out.2.2.1.2.trans H.out.2.2.2,H.out.2.2.1.1⟩
theorem uH (o:gE K w v os) (S:os.length<=9999) (hK:∀ k,w.heap.size<=k->K k) {i:Nat} (Q:i<os.length) :
 ZV ZS 81 #[v,Z8 Z9 (i:Nat)] w (uG K w (os.take i++os.drop (i+1))):=by
 have s:=pA o (by omega);have t:∀ (W:ZX) (u:ZW) (L:List (Ob×ZW)),L.map (·.1)=os->Ni K w L->W.ownsRow w.heap.size 123 3 u L.length (bT L)->bW w W->ZV ZS 115 #[u,Z8 Z9 (i:Nat),Z8 Z9 ((i:Int)+1)] W (uG K w (os.take i++os.drop (i+1))):=λW u L b a ho c=>by
  have R:L.length=os.length:=by rw [<- b,XM]
  rcases ho.2 with ⟨rfl,P⟩|⟨g,cap,cur,rfl,q,H,O,J,M,F⟩
  . omega
  . have n:cap<=9223372036854775807:=(by unfold maxLen at J;omega);obtain ⟨N,G⟩:∃ N,L.length=N+1:=⟨L.length-1,by omega⟩;refine (Ew H q M F a.one G (by omega) O n (by omega)).mono ?_;rintro e w' ⟨rfl,I,l,C,D,E⟩;have d:bW w w':=c.trans I;have f:N=(L.take i++L.drop (i+1)).length:=(by simp;omega);refine ⟨_,rfl,?_,d⟩;have x:=zS C q f (by omega) n D E;have B:(L.take i++L.drop (i+1)).map (·.1)=os.take i++os.drop (i+1):=(by rw [X8,X9,Ya,b]);rw [<- B,f];rw [f] at x;refine uv x (by omega) hK (λy z=>?_);rw [XP] at z;rcases z with h|h
    . exact (a y (Yk h)).keep (eR.TF d)
    . exact (a y (X0 h)).keep (eR.TF d)
 have A:=hide t;clear t o hK;go_enter func81,ntmps81;go_wp2_with fail;refine s.mono ?_;rintro e w1 ⟨u,L,rfl,b,a,ho,c⟩;have r:=A.out w1 u L b a ho c;clear s b a ho c;go_wp2_with fail;refine r.mono ?_;rintro e w2 ⟨u2,rfl,m,p⟩;have j:=hide2 m p;clear m p r;go_wp2;go_ret;exact ⟨_,rfl,j.out.1,j.out.2⟩
section
structure vL (D L G:Nat):Prop where
 r:bU D L G=ZZ
 d1:1<=D
 d:D<=12
 l1:1<=L
 l4:L<=4
 g:G<=4
 div:D%L=0
 s:D+L+G<=16
def l9 (T:ZT):Prop:=T=230\/T=265\/T=262\/T=284\/T=121\/T=57\/T=61\/T=255\/T=4\/T=130\/T=36
structure cA where
 ps:Nat
 ho:Nat
 bl:Nat->Prop
 S:ZX->Prop
 keep:∀ w w',S w->(∀ k,bl k->w'.heap[k]?=w.heap[k]?)->S w'
 kd:∀ w,S w->∀ k,bl k->∀ cs T z,w.heap[k]?=Z0 (Z5 cs T z)->l9 T
 lt:∀ w,S w->∀ k,bl k->k<w.heap.size
structure aW (w:ZX) (ar v p:Nat) (ps:cA) (D L G t:Nat) (pg ob:ZW) (P:List Nat) (xs:aS) (A:ay) (F:bh):Prop where
 TR:bM w ar v D L G t (P.getD 0 0) (az xs.os).length pg ob ZY
 vol:nF w v p D L G ps.ps ps.ho A F
 free:jT F p A.n v
 UX:¬ F.has p A.n ar
 Vg:3<=v/\v<ar
 Vy:3<=ar
 fit:A.fit
 par:vL D L G
 TM:eE A D L G t P xs
 pgs:bN (λk=>ar<k/\¬ F.has p A.n k/\¬ ps.bl k) w pg P
 cat:gE (λk=>ar<k/\¬ F.has p A.n k/\¬ ps.bl k) w ob xs.os
 nb:A.nb<=1000
 turn:t<=1000000
 kit:ps.S w
 apt:∀ k,ps.bl k->3<=k/\k≠ar/\k≠v/\¬ F.has p A.n k
def bN.any (h:bN K w v l):bN (λk=>k<w.heap.size) w v l:=by
 obtain ⟨ao,c,d,e,f⟩:=h;refine ⟨ao,c,d,e,λg=>?_⟩;obtain ⟨b,off,i,m,a,j⟩:=f g;exact ⟨b,off,i,a,a,j⟩
def gE.any (h:gE K w v os):gE (λk=>k<w.heap.size) w v os:=by
 obtain ⟨ao,c,d,e,f⟩:=h;refine ⟨ao,c,d,e,λj=>?_⟩;obtain ⟨b,off,l,s,a,m⟩:=f j;refine ⟨b,off,l,a,a,λi g=>?_⟩;obtain ⟨r,n,o,p,q⟩:=m i g;exact ⟨r,n,o,p,q.any⟩
def B4:∀ {xs:aS},(∀ x∈xs,iT D x)->xs.os.length<=(ah xs.os).length
 | [],_=>XN _
 | x::xs,h=>by
  have ih:=B4 (xs:=xs) (λy c=>h y (by simp [c]));have b:=(h x (by simp)).st;have d:1<=x.1.TE.length:=by rw [b];exact Nat.le_max_left _ _
  have e:ah (aS.os (x::xs))=x.1.TE++ah (aS.os xs):=by simp [ah,aS.os]
  have a:(aS.os (x::xs)).length=(aS.os xs).length+1:=by simp [aS.os]
  rw [e,a,XH];omega
section
variable {w:ZX} {ar v p D L G t:Nat} {ps:cA} {pg ob:ZW} {P:List Nat} {xs:aS} {A:ay} {F:bh}
def aW.Wn (h:aW w ar v p ps D L G t pg ob P xs A F):v≠ar:=by have:=h.Vg;omega
def aW.n0 (h:aW w ar v p ps D L G t pg ob P xs A F):0<A.n:=by have:=h.TM.n;have:=h.par.d1;omega
def aW.T9 (h:aW w ar v p ps D L G t pg ob P xs A F):xs.os.length<=1000/\(ah xs.os).length<=1000/\P.length<=1000:=by
 have a:=B4 h.TM.fits;have b:=h.TM.room;have c:=h.nb;omega
def aW.T6 (h:aW w ar v p ps D L G t pg ob P xs A F):(az xs.os).length<=1000000:=by
 have a:=jo h.par.d1 h.TM.fits;have b:=h.T9.1;have e:xs.os.length=xs.length:=by simp [aS.os]
 have c:1500/(D*44)<=34:=by
  have:=h.par.d1;have:1500/(D*44)<=1500/44:=Yu (by omega) (by decide);omega
 have d:xs.length*(19+4*(1500/(D*44)+1))<=1000*(19+4*(34+1)):=YR (by omega) (by omega);omega
def aW.below (h:aW w ar v p ps D L G t pg ob P xs A F) {w':ZX} (a:bW w w'):aW w' ar v p ps D L G t pg ob P xs A F:=
 ⟨h.TR.keep (a.block _ h.TR.lt),h.vol.below a lR,h.free,h.UX,h.Vg,h.Vy,h.fit,h.par,h.TM,h.pgs.keep (eR.TF a),h.cat.keep (eR.TF a),h.nb,h.turn,ps.keep _ _ h.kit λk b=>a.block k (ps.lt _ h.kit k b),h.apt⟩
def eF (xs:aS):bg xs.os=xs.names:=by simp [bg,aS.os,aS.names]
def aW.find (h:aW w ar v p ps D L G t pg ob P xs A F) (x:ByteArray) :
 ZV ZS 73 #[ob,Z2 x] w λe w'=>e=Z4 (.tuple #[Z8 Z9 (aD xs.names x:Nat),.bool (lZ xs.os x)])/\bW w w':=by
 have a:Up (bg xs.os):=by rw [eF];exact h.TM.up
 have:=Ld h.cat.any (by have:=h.T9.1;omega) a x;rwa [eF] at this
def aW.there (h:aW w ar v p ps D L G t pg ob P xs A F) {x:ByteArray} (b:x∈xs.names):lZ xs.os x=ZZ:=by
 have a:Up (bg xs.os):=by rw [eF];exact h.TM.up
 exact (BK a x).2 (by rw [eF];exact b)
def aW.T5 (h:aW w ar v p ps D L G t pg ob P xs A F) {x:ByteArray} (b:x∉xs.names):lZ xs.os x=ZY:=by
 have a:Up (bg xs.os):=by rw [eF];exact h.TM.up
 cases hi:lZ xs.os x
 . rfl
 . exact absurd ((BK a x).1 hi) (by rw [eF];exact b)
end
def bN.wk (h:bN K w v l) (g:∀ k,K k->k<w.heap.size->K' k):bN K' w v l:=by
 obtain ⟨ao,c,d,e,f⟩:=h;refine ⟨ao,c,d,e,λi=>?_⟩;obtain ⟨b,off,j,m,a,n⟩:=f i;exact ⟨b,off,j,g _ m a,a,n⟩
def gE.wk (h:gE K w v os) (a:∀ k,K k->k<w.heap.size->K' k):gE K' w v os:=by
 obtain ⟨ao,c,e,f,g⟩:=h;refine ⟨ao,c,e,f,λl=>?_⟩;obtain ⟨b,off,m,n,d,o⟩:=g l;refine ⟨b,off,m,a _ n d,d,λi j=>?_⟩;obtain ⟨t,p,q,r,s⟩:=o i j;exact ⟨t,p,q,r,s.wk a⟩
end
def uw (f:∀ o∈L,ly o.2):∀ u∈aP L,u.oneCell'=ZZ:=by
 intro u a;unfold aP at a;rw [Yg] at a;obtain ⟨q,d,b⟩:=a;simp at b;rcases b with rfl|rfl
 . rfl
 . obtain ⟨ao,n,c,e,_⟩:=f q d;rw [e];rfl
def Ll (h:w.ownsRow base 80 2 v L.length (aP L)) (b:∀ o∈L,ly o.2):Src ZS 2 51 v L.length (aP L) w:=by
 rcases h.2 with ⟨rfl,a⟩|⟨g,cap,cur,rfl,c,d,e,f,i,j⟩
 . have:L=[]:=Ys a;subst this;exact Src.ofNil w underlying51 0
 . exact Src.ofSlice w underlying51 ⟨g,0,Z1⟩ L.length cap (aP L) (kL L) (h.cells (g:=g) rfl) (uw b)
def Tryz.T3:(ZS.info? 80).map (λi=>(i.zero,i.size,i.bytes))=Z0 (Z0 (.agg #[Z2 X1,Z6 Z1 0 0]),2,40):=by kernel_rfl
noncomputable def SU:Array Oper:=((Tryz.f22.body.bind (mW · 2))).getD #[]
def R7:List (Op×Option Nat×List Nat):=[(Op.move (Z3 3),Z0 6,[]),
 (Op.move (Z3 3),Z0 7,[]),
 (Op.nilCheck (Z3 7),Z0 8,[1]),
 (Op.fieldAddr 53 (Z3 8) 0,Z0 9,[2]),
 (Op.load 51 (Z3 9),Z0 10,[3]),
 (Op.move (Z3 0),Z0 11,[]),
 (Op.nilCheck (Z3 11),Z0 12,[5]),
 (Op.fieldAddr 53 (Z3 12) 0,Z0 13,[6]),
 (Op.load 51 (Z3 13),Z0 14,[7]),
 (Op.call { callee:=Callee.builtin Builtin.append,args:=#[Z3 10,Z3 14],argTypes:=#[51,51] },Z0 15,[4,8]),
 (Op.nilCheck (Z3 6),Z0 16,[0,0,1,2,3,4,5,6,7,8,9]),
 (Op.fieldAddr 53 (Z3 16) 0,Z0 17,[10,0,1,2,3,4,5,6,7,8,9]),
 (Op.store 51 (Z3 17) (Z3 15),Z1,[11,9,9,0,1,2,3,4,5,6,7,8,9])]
def Hv:aN SU 6 18 R7:=bx (by kernel_rfl) (by kernel_rfl)
def SV (w0:ZX) (r c:Nat) (v:ZW) (L:List (ByteArray×ZW)) (i:Nat) (u:ZW) (w:ZX):Prop:=match i with
 | 0|1|2|3|10|11=>u=Z7 (Z0 ⟨c,0,Z1⟩)
 | 4=>u=Z6 Z1 0 0
 | 5|6|7=>u=Z7 (Z0 ⟨r,0,Z1⟩)
 | 8=>u=v
 | 9=>w.ownsRow w0.heap.size 80 2 u L.length (aP L)
 | 12=>∃ u',w.heap[c]?=Z0 (Z5 #[u'] 53 (0,0))/\w.ownsRow w0.heap.size 80 2 u' L.length (aP L)
 | _=>True
def Q7 (w0:ZX) (c:Nat) (D:Nat->Bool) (w:ZX):Prop:=aa (λk=>D 12=ZZ/\k=c) w0 w
theorem eM {w0:ZX} {D:Nat->Bool} (h:Q7 w0 c D w) (i:Nat) (b:aa (λk=>i=12/\k=c) w w'):Q7 w0 c (dR D i) w':=by
 unfold Q7 at *;have a:aa (λk=>dR D i 12=ZZ/\k=c) w0 w:=h.mono λk _ q=>⟨by
  unfold dR;split
  . rfl
  . exact q.1,q.2⟩
 exact a.later b (λk _ q=>⟨by unfold dR;rw [if_pos q.1.symm],q.2⟩)
theorem BU {a:Act} (hp:SU=ops) (h:oU w r base v L) (hl:L.length<=1000000) (hs:∀ o∈L,ly o.2) (J:w.heap[c]?=Z0 (Z5 #[Z6 Z1 0 0] 53 (0,0))) (k0:r≠c)
 (k7:a.tmps.size=19) (O:a.eval (Z3 3)=Z7 (Z0 ⟨c,0,Z1⟩)) (V:a.eval (Z3 0)=Z7 (Z0 ⟨r,0,Z1⟩))
 (Y:∀ (w':ZX) (U:List ZW) (u:ZW),U.length=12->oU w' c w.heap.size u L->aa (λk=>k=c) w w'->Q .normal (Act.putFrom a 6 U) w'):(Code.region 2 ops ZZ).wp ZS Q a w:=by
 subst hp;have R:c<w.heap.size:=(XL.1 J).1;have k5:r<w.heap.size:=(XL.1 h.top).1;obtain ⟨id,K,hx,hv,hq⟩:=info_parts Tryz.T3;have F:∀ (D:Nat->Bool) (w':ZX) (k:Nat),Q7 w c D w'->(D 12=ZY\/k≠c)->k<w.heap.size->w'.heap[k]?=w.heap[k]?:=λD w' k b p hz=>b.block k hz (λq=>by
  rcases p with e|e
  . rw [e] at q;cases q.1
  . exact e q.2)
 refine cB (by kernel_rfl) Hv a w (by omega) (SV w r c v L) (Q7 w c) (aa.drew w) ?_ ?_
 . intro i A;match i,A with
   | 0,_=>exact λo d w' D y ho m p s t l b f=>ae (ag ho ((p.slot 3 (by omega)).trans O) w') m ⟨eM b _ (aa.refl _ _),rfl,kq⟩
   | 1,_=>exact λo d w' D y ho m p s t l b f=>ae (ag ho ((p.slot 3 (by omega)).trans O) w') m ⟨eM b _ (aa.refl _ _),rfl,kq⟩
   | 2,_=>
    intro o d w' D y ho m p s t l b f;have u0:d.eval (Z3 7)=Z7 (Z0 ⟨c,0,Z1⟩):=f 1 (l 1 (by decide));exact ae (eo ho u0 w') m ⟨eM b _ (aa.refl _ _),rfl,kq⟩
   | 3,_=>
    intro o d w' D y ho m p s t l b f;have u0:d.eval (Z3 8)=Z7 (Z0 ⟨c,0,Z1⟩):=f 2 (l 2 (by decide));exact ae (v:=Z7 (Z0 ⟨c,0,Z1⟩)) (by simp only [execOp,show o.op=Op.fieldAddr 53 (Z3 8) 0 from ho,u0];go_simp) m ⟨eM b _ (aa.refl _ _),rfl,kq⟩
   | 4,_=>
    intro o d w' D y ho m p s t l b f;have u0:d.eval (Z3 9)=Z7 (Z0 ⟨c,0,Z1⟩):=f 3 (l 3 (by decide));have G:D 12=ZY:=by
     cases q:D 12 with
     | false=>rfl
     | true=>have:=(t 12 q).2 4 (by decide);rw [s] at this;cases this
    have N:w'.cell? ⟨c,0,Z1⟩=Z0 (Z6 Z1 0 0):=by
     have:=(F D w' c b (.inl G) R).trans J;simp [World.cell?,this]
    exact ae (v:=Z6 Z1 0 0) (by simp only [execOp,show o.op=Op.load 51 (Z3 9) from ho,u0];go_simp) m ⟨eM b _ (aa.refl _ _),rfl,kq⟩
   | 5,_=>exact λo d w' D y ho m p s t l b f=>ae (ag ho ((p.slot 0 (by omega)).trans V) w') m ⟨eM b _ (aa.refl _ _),rfl,kq⟩
   | 6,_=>
    intro o d w' D y ho m p s t l b f;have u0:d.eval (Z3 11)=Z7 (Z0 ⟨r,0,Z1⟩):=f 5 (l 5 (by decide));exact ae (eo ho u0 w') m ⟨eM b _ (aa.refl _ _),rfl,kq⟩
   | 7,_=>
    intro o d w' D y ho m p s t l b f;have u0:d.eval (Z3 12)=Z7 (Z0 ⟨r,0,Z1⟩):=f 6 (l 6 (by decide));exact ae (v:=Z7 (Z0 ⟨r,0,Z1⟩)) (by simp only [execOp,show o.op=Op.fieldAddr 53 (Z3 12) 0 from ho,u0];go_simp) m ⟨eM b _ (aa.refl _ _),rfl,kq⟩
   | 8,_=>
    intro o d w' D y ho m p s t l b f;have u0:d.eval (Z3 13)=Z7 (Z0 ⟨r,0,Z1⟩):=f 7 (l 7 (by decide));have N:w'.cell? ⟨r,0,Z1⟩=Z0 v:=by
     have:=(F D w' r b (.inr k0) k5).trans h.top;simp [World.cell?,this]
    exact ae (v:=v) (by simp only [execOp,show o.op=Op.load 51 (Z3 13) from ho,u0];go_simp) m ⟨eM b _ (aa.refl _ _),rfl,kq⟩
   | 9,_=>
    intro o d w' D y ho m p s t l b f;have u0:d.eval (Z3 10)=Z6 Z1 0 0:=f 4 (l 4 (by decide));have u1:d.eval (Z3 14)=v:=f 8 (l 8 (by decide));have G:D 12=ZY:=by
     cases q:D 12 with
     | false=>rfl
     | true=>have:=(t 12 q).2 9 (by decide);rw [s] at this;cases this
    have H:w.grownBy w' Z1:=⟨b.os,b.tape,b.output,b.size,λk p _=>F D w' k b (.inl G) p⟩;have Z:=h.own.kept H (by cases v.ownBlock<;>simp);obtain ⟨v',C,hr,E,B,h4⟩:=lg (P:=ZS) w' w.heap.size 51 51 o.type 80 id _ 2 40 underlying51 K hx hv hq rfl (Z6 Z1 0 0) 0 [] (World.ownsRow_nil _ _ _ _) v L.length (aP L) (Ll Z hs) (by unfold maxLen;omega) (by omega) b.size;rw [XJ,XR] at E;have X:aa (λ_=>False) w' C:=⟨B.os,B.tape,B.output,B.size,λk p _=>B.block k p (by simp [Value.ownBlock])⟩;refine ae (v:=v') (w':=C) (by unfold execOp;simp only [show o.op=Op.call { callee:=Callee.builtin Builtin.append,args:=#[Z3 10,Z3 14],argTypes:=#[51,51] } from ho,resolve,invoke,builtin,Sem.run_bind,Sem.run_pure,Result.andThen_ok,List.map_toArray,XT,List.map_nil,u0,u1,hr]) m ⟨eM b 9 (X.mono λ_ _ q=>q.elim),E,λj u z q=>?_⟩;match j,z,q with
    | 0,_,q|1,_,q|2,_,q|3,_,q|10,_,q|11,_,q|4,_,q|5,_,q|6,_,q|7,_,q|8,_,q=>exact q
    | 9,z,_=>rw [s] at z;cases z
    | 12,z,_=>rw [G] at z;cases z
    | n+13,_,_=>trivial
   | 10,_=>
    intro o d w' D y ho m p s t l b f;have u0:d.eval (Z3 6)=Z7 (Z0 ⟨c,0,Z1⟩):=f 0 (l 0 (by decide));exact ae (eo ho u0 w') m ⟨eM b _ (aa.refl _ _),rfl,kq⟩
   | 11,_=>
    intro o d w' D y ho m p s t l b f;have u0:d.eval (Z3 16)=Z7 (Z0 ⟨c,0,Z1⟩):=f 10 (l 10 (by decide));exact ae (v:=Z7 (Z0 ⟨c,0,Z1⟩)) (by simp only [execOp,show o.op=Op.fieldAddr 53 (Z3 16) 0 from ho,u0];go_simp) m ⟨eM b _ (aa.refl _ _),rfl,kq⟩
   | 12,_=>
    intro o d w' D y ho m p s t l b f;have u0:d.eval (Z3 17)=Z7 (Z0 ⟨c,0,Z1⟩):=f 11 (l 11 (by decide));have u1:w'.ownsRow w.heap.size 80 2 (d.eval (Z3 15)) L.length (aP L):=f 9 (l 9 (by decide));have I:w'.heap[c]?=Z0 (Z5 #[Z6 Z1 0 0] 53 (0,0)):=(F D w' c b (.inl s) R).trans J;obtain ⟨u,M⟩:=nM (d.eval (Z3 15));have N:w'.cell? ⟨c,0,Z1⟩=Z0 (Z6 Z1 0 0):=(by simp [World.cell?,I]);have fz:w'.frozen? ⟨c,0,Z1⟩=ZY:=(by simp [World.frozen?,I]);rw [M] at u1;obtain ⟨T,sl,S,k6⟩:∃ T sl S,u=.slice T sl S:=by
     rcases u1.2 with ⟨e,_⟩|⟨g,cap,cur,e,_⟩
     . exact ⟨_,_,_,e⟩
     . exact ⟨_,_,_,e⟩
    have H:w'.grownBy (w'.setCell ⟨c,0,Z1⟩ u) (Z0 c):=⟨rfl,rfl,rfl,by simp [World.setCell],λi _ A=>blk_setCell_other _ _ _ _ (λe=>A (by rw [e]))⟩;have hh:(w'.setCell ⟨c,0,Z1⟩ u).ownsRow w.heap.size 80 2 u L.length (aP L):=u1.kept H (.inr λe=>by have:=(u1.lt c e).1;omega);refine ja (w':=w'.setCell ⟨c,0,Z1⟩ u) (by rw [k6] at M ⊢;simp only [execOp,show o.op=Op.store 51 (Z3 17) (Z3 15) from ho,u0,M];go_simp) ⟨eM b 12 (aa.setCell _ _ _ ⟨rfl,rfl⟩),⟨u,by simp [World.setCell,Yw,I],hh⟩,λj x z q=>?_⟩;match j,z,q with
    | 0,_,q|1,_,q|2,_,q|3,_,q|10,_,q|11,_,q|4,_,q|5,_,q|6,_,q|7,_,q|8,_,q=>exact q
    | 9,_,q=>exact World.ownsRow.kept q H (.inr λe=>by have:=(World.ownsRow.lt q c e).1;omega)
    | 12,z,_=>rw [s] at z;cases z
    | n+13,_,_=>trivial
   | n+13,hn=>exact absurd hn (by show ¬ n+13<13;omega)
 . rintro d w' hy ⟨D,hD,b⟩ f;obtain ⟨u,W,E⟩:SV w r c v L 12 undef w':=f 12 (by decide);have e:d=Act.putFrom a 6 ((XS 12).map λi=>d.eval (.tmp (6+i))):=hy.out _ (by rw [XM,YB]) (by omega) (λi A=>by
    rw [XM,YB] at A;rw [Yx,X2,List.getElem?_range A];rfl)
   rw [e];exact Y w' _ u (by rw [XM,YB]) ⟨W,E⟩ (b.mono λk _ q=>q.2)
def Nk {vs:List ZW} (h:vs.length=12):∃ a b c d e f g i j k l m,vs=[a,b,c,d,e,f,g,i,j,k,l,m]:=by
 match vs,h with
 | [a,b,c,d,e,f,g,i,j,k,l,m],_=>exact ⟨_,_,_,_,_,_,_,_,_,_,_,_,rfl⟩
theorem xM (h:oU w r base v L) (m:L.length<=1000000) (n:∀ o∈L,ly o.2) :
 ZV ZS 22 #[Z7 (Z0 ⟨r,0,Z1⟩)] w λe w'=>e=Z4 (Z7 (Z0 ⟨w.heap.size,0,Z1⟩))/\(∃ u,oU w' w.heap.size (w.heap.size+1) u L)/\bW w w':=by
 have l:r<w.heap.size:=(XL.1 h.top).1;have d:oU (w.alloc (Z5 #[Z6 Z1 0 0] 53)) r base v L:=⟨(blk_alloc_lt _ _ _ l).trans h.top,h.own.alloc _⟩;have j:=blk_alloc_new w (Z5 #[Z6 Z1 0 0] 53);have b:(w.alloc (Z5 #[Z6 Z1 0 0] 53)).heap.size=w.heap.size+1:=by simp
 have f:bW w (w.alloc (Z5 #[Z6 Z1 0 0] 53)):=bA w _;go_enter func22,ntmps22;go_wp2_with fail;refine BU (by kernel_rfl) d m n j (by omega) rfl rfl rfl ?_;intro w' q u g a i;obtain ⟨s,t,x,y,z,A,B,C,D,E,F,G,rfl⟩:=Nk g;rw [b] at a;have c:bW w w':=f.trans (i.below λk p=>⟨by rw [b];omega,λe=>by omega⟩);have H:=hide2 a c;clear a i c g d j b f;rename_i hK
 refine hK _ _ ?_;clear hK;simp only [Act.putFrom,Act.put,List.setIfInBounds_toArray,List.set_cons_succ,List.set_cons_zero];go_wp2;go_ret;exact ⟨rfl,⟨u,H.out.1⟩,H.out.2⟩
def xN (a:∀ o∈L,ly o.2) (k:Nat):∀ o∈L.take k,ly o.2:=λo h=>a o (Yk h)
def qQ (a:∀ o∈L,ly o.2) (k:Nat):∀ o∈L.drop k,ly o.2:=λo h=>a o (X0 h)
def pD (l:L.length=n) (i:∀ k (r:k<L.length),w.cell? ⟨g,off+k*2,Z1⟩=Z0 (Z2 L[k].1)/\w.cell? ⟨g,off+k*2+1,Z1⟩=Z0 L[k].2) (m:∀ o∈L,ly o.2) :
 Src ZS 2 51 (Z6 (Z0 ⟨g,off,Z1⟩) n c) n (aP L) w:=by
 subst l;refine Src.ofSlice w underlying51 ⟨g,off,Z1⟩ L.length c (aP L) (kL L) (λj u a=>?_) (uw m);rw [Addr.add_mid];have p:j<L.length*2:=by
  obtain ⟨q,_⟩:=XZ.1 a;rwa [kL] at q
 obtain ⟨f,h⟩:=tA L (j/2) (by omega);obtain ⟨c1,d⟩:=i (j/2) (by omega);by_cases e:j%2=0
 . have b:j/2*2=j:=(by omega);rw [b] at f c1;rw [f] at a;rw [c1,a]
 . have b:j/2*2+1=j:=(by omega);rw [b] at h;rw [h] at a;rw [show off+j/2*2+1=off+j by omega] at d;rw [d,a]
def uB (h:w.ownsRow base e size v n xs):∃ b sl a,v=.slice b sl a:=by
 rcases h.2 with ⟨q,_⟩|⟨g,cap,cur,q,_⟩
 . exact ⟨_,_,_,q⟩
 . exact ⟨_,_,_,q⟩
def Q8 (w:ZX) (r:Nat) (L:List (ByteArray×ZW)) (name:ByteArray) (e:ZU) (w':ZX):Prop:=
 (¬ cw name/\e=Z4 (Z8 Z9 6)/\w'=w)\/(cw name/\qB L name/\e=Z4 (Z8 Z9 9)/\w'=w) \/
 (cw name/\∃ k,MN L name k/\e=Z4 (Z8 Z9 0)/\(∃ u,oU w' r w.heap.size u (L.take k++L.drop (k+1)))/\aa (λj=>j=r) w w')
theorem BX (h:oU w r base v L) (hl:L.length<=1000000) (X:∀ o∈L,ly o.2) (name:ByteArray) :
 ZV ZS 23 #[Z7 (Z0 ⟨r,0,Z1⟩),Z2 name] w λe w'=>Q8 w r L name e w':=by
 obtain ⟨z,f0⟩:=h.cell;have kg:=h.shape;have J:=jV h hl name;have hm:=A9 h hl name;obtain ⟨id,s,N,M,K⟩:=info_parts Tryz.T3;go_enter func23,ntmps23;go_wp2_with fail;refine hm.mono ?_;clear hm;rintro e w1 ⟨rfl,hg⟩;rcases hg with ⟨kk,rfl⟩|⟨C,I,rfl⟩|⟨C,k0,kc,rfl⟩
 . have G:=hide kk;clear kk J kg;go_wp2;go_ret;exact .inl ⟨G.out,rfl,rfl⟩
 . have G:=hide2 C I;clear C I J kg;go_wp2;go_ret;exact .inr (.inl ⟨G.out.1,G.out.2,rfl,rfl⟩)
 . obtain ⟨x,hx⟩:=nM ((L.getD k0 (X1,undef)).2);rw [hx];clear hx;go_wp2_with fail;refine J.mono ?_;clear J;rintro e w2 ⟨rfl,hf⟩;rcases hf with ⟨k,hk,rfl,hn,h3⟩|⟨rfl,I⟩
   . rcases kg with ⟨rfl,rfl⟩|⟨g,cap,rfl,kr,ko,H⟩
     . exact absurd hk (by simp)
     . have kh:MN L name k:=⟨hk,hn,h3⟩;have ki:g<w2.heap.size:=block_lt_of_cell (H 0 (by omega)).1;have hp:r≠g:=by
        intro e;rcases h.own.2 with ⟨q,_⟩|⟨g',hb,cur,e1,e2,R,_⟩
        . cases q
        . simp at e1;rw [<- e1.1] at R;rw [<- e,h.top] at R;simp at R
       have km:Src ZS 2 51 (Z6 (Z0 ⟨g,0,Z1⟩) k cap) k (aP (L.take k)) w2:=pD (by rw [XG];omega) (λj l=>by
        rw [XG] at l;obtain ⟨q1,q2⟩:=H j (by omega);rw [XJ,YC];exact ⟨q1,q2⟩) (xN X k)
       have n:=hide5 C kh H h hp;have k1:(k:Int)<(L.length:Int):=(by omega);have k2:¬ (k:Int)<0:=(by omega);clear C kh hn h3 H h hp kc;have kx:r<w2.heap.size:=block_lt_of_cell z;have O:¬ cap=k+1\/cap=k+1:=(Decidable.em (cap=k+1)).symm;have ks:wrap64 ((k:Int)+1)=(k:Int)+1:=(by unfold wrap64;omega);rcases O with O|O
       . have kv:¬ (cap:Int)-((k:Int)+1)=0:=(by omega);go_wp2_with (first
          | (at_builtin;refine af _ rfl (Z3 21) (Z3 27) 51 51 rfl w2.heap.size 80 id _ 2 40 underlying51 s N M K rfl (Z6 Z1 0 0) 0 [] rfl (World.ownsRow_nil _ _ _ _) _ rfl k (aP (L.take k)) km (by unfold maxLen;omega) (by omega) lR ?_;intro F w3 B d k9
             have p:∀ j,j<w2.heap.size->w3.heap[j]?=w2.heap[j]?:=λj l=>d.block j l (by simp [Value.ownBlock]);have t:w3.heap[r]?=_:=(p r (block_lt_of_cell z)).trans n.out.2.2.2.1.top;have Q:w3.cell? ⟨r,0,Z1⟩=Z0 (Z6 (Z0 ⟨g,0,Z1⟩) L.length cap):=(by simp [World.cell?,t]);have f3:w3.frozen? ⟨r,0,Z1⟩=ZY:=(by simp [World.frozen?,t]);have E:=d.size;have U:=d.os;have S:=d.tape;have T:=d.output;have D:Src ZS 2 51 (Z6 (Z0 ⟨g,(k+1)*2,Z1⟩) (L.length-(k+1)) (cap-(k+1))) (L.length-(k+1)) (aP (L.drop (k+1))) w3:=pD (by rw [XI]) (λj l=>by
              rw [XI] at l;obtain ⟨q1,q2⟩:=n.out.2.2.1 (k+1+j) (by omega);rw [YD,show (k+1)*2+j*2=(k+1+j)*2 by omega];exact ⟨(World.cell?_of_block (p g ki)).trans q1,(World.cell?_of_block (p g ki)).trans q2⟩) (qQ X (k+1))
             have c:=hide3 B p D;clear B d p D t)
          | (at_builtin;refine af _ rfl (Z3 29) (Z3 36) 51 51 rfl w2.heap.size 80 id _ 2 40 underlying51 s N M K rfl F (0+k) _ rfl c.out.1 _ rfl (L.length-(k+1)) (aP (L.drop (k+1))) c.out.2.2 (by unfold maxLen;omega) (by omega) E ?_;intro v2 b m a ka
             obtain ⟨y,sl,u,rfl⟩:=uB m;have kf:¬ Z0 r=F.ownBlock:=λe=>by have:=(c.out.1.lt r e.symm).1;omega
             have f:b.heap[r]?=_:=(a.block r (block_lt_of_cell Q) kf).trans ((c.out.2.1 r (block_lt_of_cell z)).trans n.out.2.2.2.1.top);have c4:b.cell? ⟨r,0,Z1⟩=Z0 (Z6 (Z0 ⟨g,0,Z1⟩) L.length cap):=(by simp [World.cell?,f]);have f4:b.frozen? ⟨r,0,Z1⟩=ZY:=(by simp [World.frozen?,f]);have P:=hide3 m a f;clear m a f))
         have ke:(L.take k++L.drop (k+1)).length=0+k+(L.length-(k+1)):=(by rw [XH,XG,XI];omega);obtain ⟨m,a,f⟩:=P.out;have A:b.ownsRow w2.heap.size 80 2 (.slice y sl u) (L.take k++L.drop (k+1)).length (aP (L.take k++L.drop (k+1))):=(by rw [ke,jC];exact m);have V:aa (λj=>j=r) w2 b:=⟨a.os.trans U,a.tape.trans S,a.output.trans T,XK E a.size,λj l kp=>(a.block j (by omega) (λe=>by have:=(c.out.1.lt j e.symm).1;omega)).trans (c.out.2.1 j l)⟩;go_ret;have Z:b.grownBy (b.setCell ⟨r,0,Z1⟩ (.slice y sl u)) (Z0 r):=⟨rfl,rfl,rfl,by simp [World.setCell],λi _ W=>blk_setCell_other _ _ _ _ (λe=>W (by rw [e]))⟩;refine .inr (.inr ⟨n.out.1,k,n.out.2.1,rfl,⟨.slice y sl u,⟨by simp [World.setCell,Yw,f],A.kept Z (.inr λe=>by have:=(A.lt r e).1;omega)⟩⟩,V.trans (aa.setCell _ _ _ rfl)⟩)
       . subst O;have kj:L.length=k+1:=(by omega);have Y:=hide kj;clear kj;go_wp2_with (first
          | (at_builtin;refine af _ rfl (Z3 21) (Z3 27) 51 51 rfl w2.heap.size 80 id _ 2 40 underlying51 s N M K rfl (Z6 Z1 0 0) 0 [] rfl (World.ownsRow_nil _ _ _ _) _ rfl k (aP (L.take k)) km (by unfold maxLen;omega) (by omega) lR ?_;intro F w3 B d k9
             have p:∀ j,j<w2.heap.size->w3.heap[j]?=w2.heap[j]?:=λj l=>d.block j l (by simp [Value.ownBlock]);have t:w3.heap[r]?=_:=(p r (block_lt_of_cell z)).trans n.out.2.2.2.1.top;have Q:w3.cell? ⟨r,0,Z1⟩=Z0 (Z6 (Z0 ⟨g,0,Z1⟩) L.length (k+1)):=(by simp [World.cell?,t]);have f3:w3.frozen? ⟨r,0,Z1⟩=ZY:=(by simp [World.frozen?,t]);have E:=d.size;have U:=d.os;have S:=d.tape;have T:=d.output;have D:Src ZS 2 51 (Z6 (Z0 ⟨g,0,Z1⟩) 0 0) 0 (aP (L.drop (k+1))) w3:=pD (by rw [XI,Y.out];omega) (λj l=>absurd l (by rw [XI,Y.out];omega)) (qQ X (k+1));have c:=hide3 B p D;clear B d p D t)
          | (at_builtin;refine af _ rfl (Z3 29) (Z3 36) 51 51 rfl w2.heap.size 80 id _ 2 40 underlying51 s N M K rfl F (0+k) _ rfl c.out.1 _ rfl 0 (aP (L.drop (k+1))) c.out.2.2 (by unfold maxLen;omega) (by omega) E ?_;intro v2 b m a ka
             obtain ⟨y,sl,u,rfl⟩:=uB m;have kf:¬ Z0 r=F.ownBlock:=λe=>by have:=(c.out.1.lt r e.symm).1;omega
             have f:b.heap[r]?=_:=(a.block r (block_lt_of_cell Q) kf).trans ((c.out.2.1 r (block_lt_of_cell z)).trans n.out.2.2.2.1.top);have c4:b.cell? ⟨r,0,Z1⟩=Z0 (Z6 (Z0 ⟨g,0,Z1⟩) L.length (k+1)):=(by simp [World.cell?,f]);have f4:b.frozen? ⟨r,0,Z1⟩=ZY:=(by simp [World.frozen?,f]);have P:=hide3 m a f;clear m a f))
         have ke:(L.take k++L.drop (k+1)).length=0+k+0:=(by rw [XH,XG,XI,Y.out];omega);obtain ⟨m,a,f⟩:=P.out;have A:b.ownsRow w2.heap.size 80 2 (.slice y sl u) (L.take k++L.drop (k+1)).length (aP (L.take k++L.drop (k+1))):=(by rw [ke,jC];exact m);have V:aa (λj=>j=r) w2 b:=⟨a.os.trans U,a.tape.trans S,a.output.trans T,XK E a.size,λj l kp=>(a.block j (by omega) (λe=>by have:=(c.out.1.lt j e.symm).1;omega)).trans (c.out.2.1 j l)⟩;go_ret;have Z:b.grownBy (b.setCell ⟨r,0,Z1⟩ (.slice y sl u)) (Z0 r):=⟨rfl,rfl,rfl,by simp [World.setCell],λi _ W=>blk_setCell_other _ _ _ _ (λe=>W (by rw [e]))⟩;refine .inr (.inr ⟨n.out.1,k,n.out.2.1,rfl,⟨.slice y sl u,⟨by simp [World.setCell,Yw,f],A.kept Z (.inr λe=>by have:=(A.lt r e).1;omega)⟩⟩,V.trans (aa.setCell _ _ _ rfl)⟩)
   . exact absurd kc.2.1 (I k0 kc.1)
def uN (h:Bs w v l):Src ZS 1 34 v l.length (aH l) w:=by
 obtain ⟨ao,c,rfl,n,o,p,i⟩:=h;have k:∀ u∈aH l,u.oneCell'=ZZ:=λu a=>by unfold aH at a;rw [X3] at a;obtain ⟨x,_,rfl⟩:=a;rfl
 by_cases f:l=[]
 . subst f;cases ao with
   | none=>exact Src.ofNil w underlying34 c
   | some g=>exact Src.ofSlice w underlying34 g 0 c [] rfl (λj u d=>by simp at d) (λu a=>by simp at a)
 . obtain ⟨b,off,rfl,m⟩:=i f;refine Src.ofSlice w underlying34 ⟨b,off,Z1⟩ l.length c (aH l) (by rw [bp,Nat.mul_one]) (λj u d=>?_) k;rw [Addr.add_mid];have e:j<l.length:=(by obtain ⟨q,_⟩:=XZ.1 d;rwa [bp] at q);rw [m j e,<- d];unfold aH;rw [X2,XO e,Yx,XO e];rfl
def Tryz.Un:(ZS.info? 5).map (λi=>(i.zero,i.size,i.bytes))=Z0 (Z0 (Z8 .u8 0),1,1):=by kernel_rfl
theorem Io (r:Nat) (name:ByteArray) (ao:Option Addr) (n c:Nat) (a:¬ cw name) (w:ZX) :
 ZV ZS 34 #[Z7 (Z0 ⟨r,0,Z1⟩),Z2 name,.slice ao n c] w λe w'=>e=Z4 (Z8 Z9 6)/\w'=w:=by
 by_cases b:name.size=0
 . have n0:(name.size:Int)=0:=(by omega);go_enter func34,ntmps34;go_wp2;go_ret;exact ⟨rfl,rfl⟩
 . have n0:¬ (name.size:Int)=0:=(by omega);have d:(16:Int)<(name.size:Int):=(by unfold cw at a;omega);go_enter func34,ntmps34;go_wp2;go_ret;exact ⟨rfl,rfl⟩
theorem Ip (r:Nat) (name:ByteArray) (ao:Option Addr) (n c:Nat) (a:cw name) (d:1500<n) (w:ZX) :
 ZV ZS 34 #[Z7 (Z0 ⟨r,0,Z1⟩),Z2 name,.slice ao n c] w λe w'=>e=Z4 (Z8 Z9 7)/\w'=w:=by
 have b:¬ name.size=0:=by have:=a.1;omega
 have n0:¬ (name.size:Int)=0:=by omega
 have f:¬ (16:Int)<(name.size:Int):=by have:=a.2;omega
 have g:(1500:Int)<(n:Int):=by omega
 clear a;go_enter func34,ntmps34;go_wp2;go_ret;exact ⟨rfl,rfl⟩
theorem Cr (h:oU w r base v L) (i:L.length<=1000000) (name:ByteArray) (ao:Option Addr) (n c:Nat) (a:cw name) (m:n<=1500) (b:¬ qB L name) :
 ZV ZS 34 #[Z7 (Z0 ⟨r,0,Z1⟩),Z2 name,.slice ao n c] w λe w'=>e=Z4 (Z8 Z9 8)/\w'=w:=by
 have d:=jV h i name;have j:¬ name.size=0:=by have:=a.1;omega
 have n0:¬ (name.size:Int)=0:=by omega
 have o:¬ (16:Int)<(name.size:Int):=by have:=a.2;omega
 have p:¬ (1500:Int)<(n:Int):=by omega
 clear a h;go_enter func34,ntmps34;go_wp2_with fail;refine d.mono ?_;rintro e w1 ⟨rfl,g⟩;rcases g with ⟨k,l,rfl,_⟩|⟨rfl,f⟩
 . have k2:(0:Int)<=(k:Int):=(by omega);clear d b;go_wp2;go_ret;exact ⟨rfl,rfl⟩
 . exact absurd f b
def bF (h:w.ownsRow base e size v n xs):∃ d f,v=.slice d n f:=by
 rcases h.2 with ⟨b,c⟩|⟨g,cap,cur,a,_⟩
 . exact ⟨Z1,0,by rw [b,c]⟩
 . exact ⟨_,_,a⟩
def cJ (L:List (ByteArray×ZW)):List ByteArray:=L.map (·.1)
def uO (e:∀ k (n:k<L.length),w1.cell? ⟨g,k*2,Z1⟩=Z0 (Z2 L[k].1)/\w1.cell? ⟨g,k*2+1,Z1⟩=Z0 L[k].2) (d:g<w1.heap.size) (b:bW w1 w3) (h:∀ o∈L,ly o.2) (m:a<=L.length):∀ c,Src ZS 2 51 (Z6 (Z0 ⟨g,0,Z1⟩) a c) a (aP (L.take a)) w3:=λc=>
 pD (by rw [XG];omega) (λj f=>by
  rw [XG] at f;obtain ⟨i,l⟩:=e j (by omega);rw [XJ,YC];exact ⟨(World.cell?_of_block (b.block g d)).trans i,(World.cell?_of_block (b.block g d)).trans l⟩) (xN h a)
def uP (e:∀ k (n:k<L.length),w1.cell? ⟨g,k*2,Z1⟩=Z0 (Z2 L[k].1)/\w1.cell? ⟨g,k*2+1,Z1⟩=Z0 L[k].2) (d:g<w1.heap.size) (b:bW w1 w3) (h:∀ o∈L,ly o.2) (m:a<=L.length):∀ c,Src ZS 2 51 (Z6 (Z0 ⟨g,a*2,Z1⟩) (L.length-a) c) (L.length-a) (aP (L.drop a)) w3:=λc=>
 pD (by rw [XI]) (λj f=>by
  rw [XI] at f;obtain ⟨i,l⟩:=e (a+j) (by omega);rw [YD,show a*2+j*2=(a+j)*2 by omega];exact ⟨(World.cell?_of_block (b.block g d)).trans i,(World.cell?_of_block (b.block g d)).trans l⟩) (qQ h a)
def xT (h:k=L.length) (off c:Nat) (w:ZX):Src ZS 2 51 (Z6 (Z0 ⟨g,off,Z1⟩) (L.length-k) c) (L.length-k) (aP (L.drop k)) w:=by
 subst h;rw [Nat.sub_self,YQ];exact Src.ofSlice w underlying51 ⟨g,off,Z1⟩ 0 c [] rfl (λj u a=>by simp at a) (λu b=>by simp at b)
def su (c:ZX) (name:ByteArray) (a:Option Addr) (n b:Nat):Src ZS 2 51 (Z6 (Z0 ⟨c.heap.size,0,Z1⟩) 1 1) 1 [Z2 name,.slice a n b] (c.alloc (Z5 #[Z2 name,.slice a n b] 80)):=
 Src.ofSlice _ underlying51 ⟨c.heap.size,0,Z1⟩ 1 1 [Z2 name,.slice a n b] rfl (λj u f=>by
  rw [Addr.add_mid,XJ];have g:=heap_alloc_last c (Z5 #[Z2 name,.slice a n b] 80);have e:(#[Value.string name,.slice a n b]:Array ZW)[j]?=Z0 u:=by simpa using f
  simp only [World.cell?,g];exact e) (λu d=>by
  simp only [X5,Yz,or_false] at d;rcases d with rfl|rfl<;>rfl)
def Of {b1 b2:Nat} (f:w.ownsRow b1 5 1 v n xs) (p:w.ownsRow b2 80 2 u m ys) (o:w.grownBy w' u.ownBlock):w'.ownsRow b1 5 1 v n xs:=by
 refine ⟨f.1,?_⟩;rcases f.2 with l|⟨g,cap,cur,i,j,b,q⟩
 . exact .inl l
 . refine .inr ⟨g,cap,cur,i,j,(o.block g (XL.1 b).1 (λe=>?_)).trans b,q⟩;rcases p.2 with ⟨rfl,_⟩|⟨k,c,d,rfl,_,a,_⟩
   . cases e
   . have h:k=g:=(by simpa [Value.ownBlock] using e.symm);subst h;rw [b] at a;cases a
def FC (h:w.ownsRow base e size v n xs) {k:Nat} (a:v.ownBlock=Z0 k):base<=k:=by
 rcases h.2 with ⟨rfl,_⟩|⟨g,cap,cur,rfl,c,_⟩
 . cases a
 . have b:g=k:=(by simpa [Value.ownBlock] using a);omega
def mM {w4:ZX} {vb:ZW} {o:Obj} (_:oU w r base v L) (j:w3.ownsRow w.heap.size 5 1 vb n xs) (f:bW w w3) (l:w4.ownsRow w.heap.size 80 2 u a ys) (g:bW w3 w4) (h:(w4.alloc o).grownBy w5 u.ownBlock):bW w w5/\w5.ownsRow w.heap.size 5 1 vb n xs:=by
 have b:bW w4 (w4.alloc o):=bA w4 _;have c:bW w w4:=f.trans (g.mono f.size);have d:bW w (w4.alloc o):=c.trans (b.mono c.size);have i:=aB l b;exact ⟨d.grown h d.size (λk e=>FC i e),Of (aB (aB j g) b) i h⟩
def kZ {vb:ZW} (d:w5.ownsRow w.heap.size 80 2 u a ys) (b:bW w w5) (f:w5.ownsRow w.heap.size 5 1 vb n xs) (c:w5.grownBy w6 u.ownBlock):bW w w6/\w6.ownsRow w.heap.size 5 1 vb n xs:=
 ⟨b.grown c b.size (λ_ e=>FC d e),Of f d c⟩
def LG (w:ZX) (r:Nat) (L:List (ByteArray×ZW)) (x:ByteArray) (d:List Nat) (e:ZU) (w':ZX):Prop:=
 e=Z4 (Z8 Z9 0)/\∃ u vb,oU w' r w.heap.size u (L.take (aD (cJ L) x)++(x,vb)::L.drop (aD (cJ L) x))/\w'.ownsRow w.heap.size 5 1 vb d.length (aH d)/\aa (λj=>j=r) w w'
theorem pH {vb:ZW} {x:ByteArray} (D:d.length=n) (y:aD (cJ L) x=a) (i:w6.ownsRow w.heap.size 80 2 u m (aP (L.take a)++[Z2 x,vb]++aP (L.drop a))) (t:bW w w6) (B:w6.ownsRow w.heap.size 5 1 vb n (aH d)) (A:w6.heap[r]?=Z0 (Z5 #[v] 53 (0,0))) (G:r<w.heap.size):LG w r L x d (Z4 (Z8 Z9 0)) (w6.setCell ⟨r,0,Z1⟩ u):=by
 have f:∀ j,j≠r->(w6.setCell ⟨r,0,Z1⟩ u).heap[j]?=w6.heap[j]?:=λj c=>blk_setCell_other _ _ _ _ c;have F:w6.grownBy (w6.setCell ⟨r,0,Z1⟩ u) (Z0 r):=⟨rfl,rfl,rfl,by simp [World.setCell],λj _ c=>f j (λe=>c (by rw [e]))⟩;have l:aP (L.take a)++[Z2 x,vb]++aP (L.drop a)=aP (L.take a++(x,vb)::L.drop a):=by
  rw [jC,XU];rfl
 have C:m=(L.take a++(x,vb)::L.drop a).length:=by
  have:=i.1;rw [l,kL] at this;omega
 rw [l,C] at i;have b:∀ {e:ZT} {size k:Nat} {z:ZW} {xs:List ZW},w6.ownsRow w.heap.size e size z k xs->(w6.setCell ⟨r,0,Z1⟩ u).ownsRow w.heap.size e size z k xs:=λ{e size k z xs} h=>by
  refine ⟨h.1,?_⟩;rcases h.2 with s|⟨g,cap,cur,o,p,q,E⟩
  . exact .inl s
  . exact .inr ⟨g,cap,cur,o,p,(f g (by omega)).trans q,E⟩
 refine ⟨rfl,u,vb,?_,?_,?_⟩
 . rw [y];refine ⟨?_,b i⟩;have:=aj (j:=0) A u;exact this
 . rw [D];exact b B
 . exact (aa.TG t _).trans ⟨rfl,rfl,rfl,by simp [World.setCell],λj _ c=>f j c⟩
def SY (w:ZX) (L:List (ByteArray×ZW)) (x:ByteArray) (i:ZW) (wr:ZX):Prop:=∃ k:Nat,k<=L.length/\i=Z8 Z9 k/\wr=w/\∀ j (hj:j<L.length),j<k->kT L[j].1 x=ZZ
theorem LH (h:oU w r base (Z6 (Z0 ⟨g,0,Z1⟩) L.length cap) L) (hl:L.length<=100000) (W:∀ o∈L,ly o.2) (name:ByteArray) (ao:Option Addr) (c:Nat) (d:List Nat) (hd:Bs w (.slice ao d.length c) d) (q4:d.length<=1500) (ky:cw name) (q3:qB L name) (O:∀ k (hk:k<L.length),w.cell? ⟨g,k*2,Z1⟩=Z0 (Z2 L[k].1)/\w.cell? ⟨g,k*2+1,Z1⟩=Z0 L[k].2) (X:g<w.heap.size) (q6:L.length<=cap) :
 ZV ZS 34 #[Z7 (Z0 ⟨r,0,Z1⟩),Z2 name,.slice ao d.length c] w (LG w r L name d):=by
 obtain ⟨c0,f0⟩:=h.cell;have hc:=jV h (by omega) name;obtain ⟨id,f,K,J,I⟩:=info_parts Tryz.T3;obtain ⟨ib,ks,ke,kf,kg⟩:=info_parts Tryz.Un;have h0:¬ name.size=0:=by have:=ky.1;omega
 have n0:¬ (name.size:Int)=0:=by omega
 have n1:¬ (16:Int)<(name.size:Int):=by have:=ky.2;omega
 obtain ⟨n,hn⟩:=nM (d.length);have kz:=uN hd;rw [hn] at kz q4 ⊢;have n2:¬ (1500:Int)<(n:Int):=by omega
 have B:r<w.heap.size:=block_lt_of_cell c0;have p:=hide3 kz h hn;clear ky h kz hd hn;go_enter func34,ntmps34;go_wp2_with fail;refine hc.mono ?_;rintro e w1 ⟨rfl,hf⟩;rcases hf with ⟨k,hk,rfl,hn,kp⟩|⟨rfl,kk⟩
 . exact absurd hn (q3 k hk)
 clear hc kk q3;go_wp2;go_loopw [8] (λi wr=>SY w1 L name i wr) (λi _=>L.length-(intOf i).toNat)
 case atStart=>exact ⟨0,Yl _,rfl,rfl,λj _ h=>by omega⟩
 case round=>
  obtain ⟨k,hk,rfl,rfl,V⟩:=hrel;by_cases kv:k<L.length
  . obtain ⟨q1,q2⟩:=O k kv;obtain ⟨nm,kj⟩:=nM (L[k].1);rw [kj] at q1;have kx:(k:Int)<(L.length:Int):=(by omega);cases h6:kT nm name with
    | true=>
     have q5:Op.bytesLess nm.toList name.toList=ZZ:=h6;have ka:SY wr L name (Z8 Z9 ((k+1:Nat):Int)) wr:=⟨k+1,by omega,rfl,rfl,λj l h=>by
      rcases YO (Nat.le_of_lt_succ h) with e|h'
      . subst e;rw [kj];exact h6
      . exact V j l h'⟩
     have HN:=hide ka;clear ka V q2 kj O;go_wp2;refine ⟨by simpa using HN.out,?_⟩;show L.length-((k:Int)+1).toNat<L.length-((k:Int)).toNat;omega
    | false=>
     have q5:Op.bytesLess nm.toList name.toList=ZY:=h6;have U:aD (cJ L) name=k:=gB _ _ _ (by unfold cJ;rw [XM];omega) (λj l h=>by
      unfold cJ at l ⊢;rw [XY];exact V j (by rwa [XM] at l) h) (λhi=>by simp only [cJ,XY,kj];exact h6)
     have k3:¬ cap=k:=(by omega);have k4:k<=cap:=(by omega);have k5:(k:Int)<=(cap:Int):=(by omega);clear V q2 kj;have C:=hide2 U O;clear U O;go_wp2_with (first
      | (at_builtin;refine af _ rfl (Z3 48) (Z3 49) 34 34 rfl wr.heap.size 5 ib (Z8 .u8 0) 1 1 underlying34 ks ke kf kg rfl (Z6 Z1 0 0) 0 [] rfl (World.ownsRow_nil _ _ _ _) _ rfl n (aH d) p.out.1 (by unfold maxLen;omega) (by omega) lR ?_;intro vb w3 x a Y;rw [XJ,XR] at x;have u:bW wr w3:=⟨a.os,a.tape,a.output,a.size,λj l=>a.block j l (by simp [Value.ownBlock])⟩;have G:=(u.block r B).trans p.out.2.1.top;have c3:w3.cell? ⟨r,0,Z1⟩=Z0 (Z6 (Z0 ⟨g,0,Z1⟩) L.length cap):=by simp [World.cell?,G]
         have f3:w3.frozen? ⟨r,0,Z1⟩=ZY:=(by simp [World.frozen?,G]);obtain ⟨M,N,rfl⟩:=bF x;have q:=hide3 x u (uO C.out.2 X u W (show k<=L.length by omega));clear x a Y u G)
      | (at_builtin;refine af _ rfl (Z3 51) (Z3 57) 51 51 rfl wr.heap.size 80 id _ 2 40 underlying51 f K J I rfl (Z6 Z1 0 0) 0 [] rfl (World.ownsRow_nil _ _ _ _) _ rfl (k) (aP (L.take (k))) (q.out.2.2 cap) (by unfold maxLen;omega) (by omega) q.out.2.1.size ?_;intro v4 A y b Z;rw [XJ,XR] at y;have P:bW w3 A:=⟨b.os,b.tape,b.output,b.size,λj l=>b.block j l (by simp [Value.ownBlock])⟩
         obtain ⟨la,lc,rfl⟩:=bF y;have s:=hide2 y P;clear y b Z P)
      | (at_builtin;refine af _ rfl (Z3 59) (Z3 63) 51 51 rfl wr.heap.size 80 id _ 2 40 underlying51 f K J I rfl (.slice la (k) lc) (k) (aP (L.take (k))) rfl (aB s.out.1 (bA A _)) _ rfl 1 [Z2 name,.slice M n N] (su A name M n N) (by unfold maxLen;omega) (by omega) (XK q.out.2.1.size (XK s.out.2.size (bA A _).size)) ?_;intro v5 w5 E Q hm
         have km:=mM p.out.2.1 q.out.1 q.out.2.1 s.out.1 s.out.2 Q;obtain ⟨v,S⟩:=km;have H:=(v.block r B).trans p.out.2.1.top;have c5:w5.cell? ⟨r,0,Z1⟩=Z0 (Z6 (Z0 ⟨g,0,Z1⟩) L.length cap):=(by simp [World.cell?,H]);have f5:w5.frozen? ⟨r,0,Z1⟩=ZY:=(by simp [World.frozen?,H]);obtain ⟨ma,mc,rfl⟩:=bF E;have m:=hide4 E v S (uP C.out.2 X v W (show k<=L.length by omega));clear E Q hm v S H)
      | (at_builtin;refine af _ rfl (Z3 65) (Z3 71) 51 51 rfl wr.heap.size 80 id _ 2 40 underlying51 f K J I rfl (.slice ma (k+1) mc) (k+1) _ rfl m.out.1 _ rfl (L.length-(k)) (aP (L.drop (k))) (m.out.2.2.2 _) (by unfold maxLen;omega) (by omega) m.out.2.1.size ?_;intro v6 w6 F R hp
         have ko:=kZ m.out.1 m.out.2.1 m.out.2.2.1 R;obtain ⟨D,T⟩:=ko;have z:=(D.block r B).trans p.out.2.1.top;have c6:w6.cell? ⟨r,0,Z1⟩=Z0 (Z6 (Z0 ⟨g,0,Z1⟩) L.length cap):=(by simp [World.cell?,z]);have f6:w6.frozen? ⟨r,0,Z1⟩=ZY:=(by simp [World.frozen?,z]);obtain ⟨na,nc,rfl⟩:=bF F;have t:=hide4 F D T z;clear F R hp D T z))
     all_goals (go_ret;exact pH p.out.2.2 C.out.1 t.out.1 t.out.2.1 t.out.2.2.1 t.out.2.2.2 B)
  . have q0:k=L.length:=(by omega);have kx:¬ (k:Int)<(L.length:Int):=(by omega);have U:aD (cJ L) name=k:=gB _ _ _ (by unfold cJ;rw [XM];omega) (λj l h=>by
     unfold cJ at l ⊢;rw [XY];exact V j (by rwa [XM] at l) h) (λhi=>by unfold cJ at hi;rw [XM] at hi;omega)
    have HK:=hide q0;clear V q0;by_cases kr:cap=k
    . subst kr;clear q6 kv;have C:=hide2 U O;clear U O;go_wp2_with (first
       | (at_builtin;refine af _ rfl (Z3 48) (Z3 49) 34 34 rfl wr.heap.size 5 ib (Z8 .u8 0) 1 1 underlying34 ks ke kf kg rfl (Z6 Z1 0 0) 0 [] rfl (World.ownsRow_nil _ _ _ _) _ rfl n (aH d) p.out.1 (by unfold maxLen;omega) (by omega) lR ?_;intro vb w3 x a Y;rw [XJ,XR] at x;have u:bW wr w3:=⟨a.os,a.tape,a.output,a.size,λj l=>a.block j l (by simp [Value.ownBlock])⟩;have G:=(u.block r B).trans p.out.2.1.top;have c3:w3.cell? ⟨r,0,Z1⟩=Z0 (Z6 (Z0 ⟨g,0,Z1⟩) L.length cap):=by simp [World.cell?,G]
          have f3:w3.frozen? ⟨r,0,Z1⟩=ZY:=(by simp [World.frozen?,G]);obtain ⟨M,N,rfl⟩:=bF x;have q:=hide3 x u (uO C.out.2 X u W (show cap<=L.length by omega));clear x a Y u G)
       | (at_builtin;refine af _ rfl (Z3 51) (Z3 57) 51 51 rfl wr.heap.size 80 id _ 2 40 underlying51 f K J I rfl (Z6 Z1 0 0) 0 [] rfl (World.ownsRow_nil _ _ _ _) _ rfl (cap) (aP (L.take (cap))) (q.out.2.2 cap) (by unfold maxLen;omega) (by omega) q.out.2.1.size ?_;intro v4 A y b Z;rw [XJ,XR] at y;have P:bW w3 A:=⟨b.os,b.tape,b.output,b.size,λj l=>b.block j l (by simp [Value.ownBlock])⟩
          obtain ⟨la,lc,rfl⟩:=bF y;have s:=hide2 y P;clear y b Z P)
       | (at_builtin;refine af _ rfl (Z3 59) (Z3 63) 51 51 rfl wr.heap.size 80 id _ 2 40 underlying51 f K J I rfl (.slice la (cap) lc) (cap) (aP (L.take (cap))) rfl (aB s.out.1 (bA A _)) _ rfl 1 [Z2 name,.slice M n N] (su A name M n N) (by unfold maxLen;omega) (by omega) (XK q.out.2.1.size (XK s.out.2.size (bA A _).size)) ?_;intro v5 w5 E Q hm
          have km:=mM p.out.2.1 q.out.1 q.out.2.1 s.out.1 s.out.2 Q;obtain ⟨v,S⟩:=km;have H:=(v.block r B).trans p.out.2.1.top;have c5:w5.cell? ⟨r,0,Z1⟩=Z0 (Z6 (Z0 ⟨g,0,Z1⟩) L.length cap):=(by simp [World.cell?,H]);have f5:w5.frozen? ⟨r,0,Z1⟩=ZY:=(by simp [World.frozen?,H]);obtain ⟨ma,mc,rfl⟩:=bF E;have m:=hide4 E v S (uP C.out.2 X v W (show cap<=L.length by omega));clear E Q hm v S H)
       | (at_builtin;refine af _ rfl (Z3 65) (Z3 71) 51 51 rfl wr.heap.size 80 id _ 2 40 underlying51 f K J I rfl (.slice ma (cap+1) mc) (cap+1) _ rfl m.out.1 _ rfl (L.length-(cap)) (aP (L.drop (cap))) (xT HK.out _ _ _) (by unfold maxLen;omega) (by omega) m.out.2.1.size ?_;intro v6 w6 F R hp
          have ko:=kZ m.out.1 m.out.2.1 m.out.2.2.1 R;obtain ⟨D,T⟩:=ko;have z:=(D.block r B).trans p.out.2.1.top;have c6:w6.cell? ⟨r,0,Z1⟩=Z0 (Z6 (Z0 ⟨g,0,Z1⟩) L.length cap):=(by simp [World.cell?,z]);have f6:w6.frozen? ⟨r,0,Z1⟩=ZY:=(by simp [World.frozen?,z]);obtain ⟨na,nc,rfl⟩:=bF F;have t:=hide4 F D T z;clear F R hp D T z))
      all_goals (go_ret;exact pH p.out.2.2 C.out.1 t.out.1 t.out.2.1 t.out.2.2.1 t.out.2.2.2 B)
    . have k4:k<=cap:=(by omega);have k5:(k:Int)<=(cap:Int):=(by omega);clear kv;have C:=hide2 U O;clear U O;go_wp2_with (first
       | (at_builtin;refine af _ rfl (Z3 48) (Z3 49) 34 34 rfl wr.heap.size 5 ib (Z8 .u8 0) 1 1 underlying34 ks ke kf kg rfl (Z6 Z1 0 0) 0 [] rfl (World.ownsRow_nil _ _ _ _) _ rfl n (aH d) p.out.1 (by unfold maxLen;omega) (by omega) lR ?_;intro vb w3 x a Y;rw [XJ,XR] at x;have u:bW wr w3:=⟨a.os,a.tape,a.output,a.size,λj l=>a.block j l (by simp [Value.ownBlock])⟩;have G:=(u.block r B).trans p.out.2.1.top;have c3:w3.cell? ⟨r,0,Z1⟩=Z0 (Z6 (Z0 ⟨g,0,Z1⟩) L.length cap):=by simp [World.cell?,G]
          have f3:w3.frozen? ⟨r,0,Z1⟩=ZY:=(by simp [World.frozen?,G]);obtain ⟨M,N,rfl⟩:=bF x;have q:=hide3 x u (uO C.out.2 X u W (show k<=L.length by omega));clear x a Y u G)
       | (at_builtin;refine af _ rfl (Z3 51) (Z3 57) 51 51 rfl wr.heap.size 80 id _ 2 40 underlying51 f K J I rfl (Z6 Z1 0 0) 0 [] rfl (World.ownsRow_nil _ _ _ _) _ rfl (k) (aP (L.take (k))) (q.out.2.2 cap) (by unfold maxLen;omega) (by omega) q.out.2.1.size ?_;intro v4 A y b Z;rw [XJ,XR] at y;have P:bW w3 A:=⟨b.os,b.tape,b.output,b.size,λj l=>b.block j l (by simp [Value.ownBlock])⟩
          obtain ⟨la,lc,rfl⟩:=bF y;have s:=hide2 y P;clear y b Z P)
       | (at_builtin;refine af _ rfl (Z3 59) (Z3 63) 51 51 rfl wr.heap.size 80 id _ 2 40 underlying51 f K J I rfl (.slice la (k) lc) (k) (aP (L.take (k))) rfl (aB s.out.1 (bA A _)) _ rfl 1 [Z2 name,.slice M n N] (su A name M n N) (by unfold maxLen;omega) (by omega) (XK q.out.2.1.size (XK s.out.2.size (bA A _).size)) ?_;intro v5 w5 E Q hm
          have km:=mM p.out.2.1 q.out.1 q.out.2.1 s.out.1 s.out.2 Q;obtain ⟨v,S⟩:=km;have H:=(v.block r B).trans p.out.2.1.top;have c5:w5.cell? ⟨r,0,Z1⟩=Z0 (Z6 (Z0 ⟨g,0,Z1⟩) L.length cap):=(by simp [World.cell?,H]);have f5:w5.frozen? ⟨r,0,Z1⟩=ZY:=(by simp [World.frozen?,H]);obtain ⟨ma,mc,rfl⟩:=bF E;have m:=hide4 E v S (uP C.out.2 X v W (show k<=L.length by omega));clear E Q hm v S H)
       | (at_builtin;refine af _ rfl (Z3 65) (Z3 71) 51 51 rfl wr.heap.size 80 id _ 2 40 underlying51 f K J I rfl (.slice ma (k+1) mc) (k+1) _ rfl m.out.1 _ rfl (L.length-(k)) (aP (L.drop (k))) (xT HK.out _ _ _) (by unfold maxLen;omega) (by omega) m.out.2.1.size ?_;intro v6 w6 F R hp
          have ko:=kZ m.out.1 m.out.2.1 m.out.2.2.1 R;obtain ⟨D,T⟩:=ko;have z:=(D.block r B).trans p.out.2.1.top;have c6:w6.cell? ⟨r,0,Z1⟩=Z0 (Z6 (Z0 ⟨g,0,Z1⟩) L.length cap):=(by simp [World.cell?,z]);have f6:w6.frozen? ⟨r,0,Z1⟩=ZY:=(by simp [World.frozen?,z]);obtain ⟨na,nc,rfl⟩:=bF F;have t:=hide4 F D T z;clear F R hp D T z))
      all_goals (go_ret;exact pH p.out.2.2 C.out.1 t.out.1 t.out.2.1 t.out.2.2.1 t.out.2.2.2 B)
theorem LJ (h:oU w r base (Z6 Z1 0 0) []) (name:ByteArray) (ao:Option Addr) (c:Nat) (d:List Nat) (Q:Bs w (.slice ao d.length c) d) (kb:d.length<=1500) (I:cw name) :
 ZV ZS 34 #[Z7 (Z0 ⟨r,0,Z1⟩),Z2 name,.slice ao d.length c] w (LG w r [] name d):=by
 obtain ⟨W,f0⟩:=h.cell;have P:=jV h (by simp) name;obtain ⟨id,b,F,D,B⟩:=info_parts Tryz.T3;obtain ⟨ib,kc,hq,hr,hs⟩:=info_parts Tryz.Un;have h0:¬ name.size=0:=by have:=I.1;omega
 have n0:¬ (name.size:Int)=0:=by omega
 have n1:¬ (16:Int)<(name.size:Int):=by have:=I.2;omega
 obtain ⟨n,E⟩:=nM (d.length);have J:=uN Q;rw [E] at J kb ⊢;have n2:¬ (1500:Int)<(n:Int):=by omega
 have u:r<w.heap.size:=block_lt_of_cell W;have f:=hide3 J h E;clear I h J Q E;go_enter func34,ntmps34;go_wp2_with fail;refine P.mono ?_;rintro e w1 ⟨rfl,hf⟩;rcases hf with ⟨k,hk,_⟩|⟨rfl,_⟩
 . exact absurd hk (by simp)
 clear P;go_wp2;go_loopw [8] (λi wr=>i=Z8 Z9 0/\wr=w1) (λ_ _=>0)
 case atStart=>exact ⟨rfl,rfl⟩
 case round=>
  obtain ⟨rfl,rfl⟩:=hrel;go_wp2_with (first
   | (at_builtin;refine af _ rfl (Z3 48) (Z3 49) 34 34 rfl wr.heap.size 5 ib (Z8 .u8 0) 1 1 underlying34 kc hq hr hs rfl (Z6 Z1 0 0) 0 [] rfl (World.ownsRow_nil _ _ _ _) _ rfl n (aH d) f.out.1 (by unfold maxLen;omega) (by omega) lR ?_;intro vb w3 s g X;rw [XJ,XR] at s;have y:bW wr w3:=⟨g.os,g.tape,g.output,g.size,λj C=>g.block j C (by simp [Value.ownBlock])⟩;have K:=(y.block r u).trans f.out.2.1.top;have c3:w3.cell? ⟨r,0,Z1⟩=Z0 (Z6 Z1 0 0):=by simp [World.cell?,K]
      have f3:w3.frozen? ⟨r,0,Z1⟩=ZY:=(by simp [World.frozen?,K]);obtain ⟨N,O,rfl⟩:=bF s;have o:=hide2 s y;clear s g X y K)
   | (at_builtin;refine af _ rfl (Z3 51) (Z3 57) 51 51 rfl wr.heap.size 80 id _ 2 40 underlying51 b F D B rfl (Z6 Z1 0 0) 0 [] rfl (World.ownsRow_nil _ _ _ _) _ rfl 0 [] (Src.ofNil _ underlying51 0) (by unfold maxLen;omega) (by omega) o.out.2.size ?_;intro v4 x t l Y;rw [XJ,XR] at t;have R:bW w3 x:=⟨l.os,l.tape,l.output,l.size,λj C=>l.block j C (by simp [Value.ownBlock])⟩
      obtain ⟨la,lc,rfl⟩:=bF t;have p:=hide2 t R;clear t l Y R)
   | (at_builtin;refine af _ rfl (Z3 59) (Z3 63) 51 51 rfl wr.heap.size 80 id _ 2 40 underlying51 b F D B rfl (.slice la 0 lc) 0 [] rfl (aB p.out.1 (bA x _)) _ rfl 1 [Z2 name,.slice N n O] (su x name N n O) (by unfold maxLen;omega) (by omega) (XK o.out.2.size (XK p.out.2.size (bA x _).size)) ?_;intro v5 w5 G S Z
      have ke:=mM f.out.2.1 o.out.1 o.out.2 p.out.1 p.out.2 S;obtain ⟨z,U⟩:=ke;have M:=(z.block r u).trans f.out.2.1.top;have c5:w5.cell? ⟨r,0,Z1⟩=Z0 (Z6 Z1 0 0):=(by simp [World.cell?,M]);have f5:w5.frozen? ⟨r,0,Z1⟩=ZY:=(by simp [World.frozen?,M]);obtain ⟨ma,mc,rfl⟩:=bF G;have m:=hide3 G z U;clear G S Z z U M)
   | (at_builtin;refine af _ rfl (Z3 65) (Z3 71) 51 51 rfl wr.heap.size 80 id _ 2 40 underlying51 b F D B rfl (.slice ma 1 mc) 1 _ rfl m.out.1 _ rfl 0 [] (Src.ofNil _ underlying51 0) (by unfold maxLen;omega) (by omega) m.out.2.1.size ?_;intro v6 w6 H T ha
      have kf:=kZ m.out.1 m.out.2.1 m.out.2.2 T;obtain ⟨A,V⟩:=kf;have v:=(A.block r u).trans f.out.2.1.top;have c6:w6.cell? ⟨r,0,Z1⟩=Z0 (Z6 Z1 0 0):=(by simp [World.cell?,v]);have f6:w6.frozen? ⟨r,0,Z1⟩=ZY:=(by simp [World.frozen?,v]);obtain ⟨na,nc,rfl⟩:=bF H;have q:=hide4 H A V v;clear H T ha A V v))
  all_goals (go_ret;exact pH (a:=0) (L:=[]) f.out.2.2 rfl q.out.1 q.out.2.1 q.out.2.2.1 q.out.2.2.2 u)
def FD (h:oU w r base v L) (t:L.length<=100000) (u:∀ o∈L,ly o.2) (name:ByteArray) (ao:Option Addr) (c:Nat) (d:List Nat) (i:Bs w (.slice ao d.length c) d) (e:d.length<=1500) (f:cw name) (s:qB L name) :
 ZV ZS 34 #[Z7 (Z0 ⟨r,0,Z1⟩),Z2 name,.slice ao d.length c] w (LG w r L name d):=by
 rcases h.shape with ⟨rfl,rfl⟩|⟨g,cap,rfl,y,n,m⟩
 . exact LJ h name ao c d i e f
 . have p:g<w.heap.size:=by
    rcases h.own.2 with ⟨q,_⟩|⟨l,a,cur,b,x,k,_⟩
    . cases q
    . have j:g=l:=by
       simp only [Value.slice.injEq,Yd,Addr.mk.injEq] at b;exact b.1.1
      rw [j];exact (XL.1 k).1
   exact LH h t u name ao c d i e f s m p n
theorem BY (k:FuncId) (first cap:Array ZW) (o:∀ (args:Array ZW) (w:ZX),(callFunc k args).run ZS w=.ok (.enter k args) w) (w:ZX) (R:ZX->ZW->ZX->Prop)
 (h:∀ w1,bW w w1->w1.heap.size=w.heap.size+1->w1.heap[w.heap.size]?=Z0 (Z5 #[.nilIface] 63 (0,0))->ZV ZS k (first++cap) w1 λe w2=>∃ v,e=Z4 v/\isErr v/\R w1 v w2/\w2.heap[w.heap.size]?=w1.heap[w.heap.size]?) :
 ZV ZS 71 #[.func (.func k) first cap] w λe w'=>∃ v w1 w2,e=Z4 v/\isErr v/\bW w w1/\w1.heap.size=w.heap.size+1/\R w1 v w2/\w'=w2.setCell ⟨w.heap.size,0,Z1⟩ v:=by
 have p:∀ (fn:Fn) (first cap:Array ZW) (w:ZX),(Instr.makeFunc fn first cap).run ZS w=.ok (.func fn first cap) w:=λ_ _ _ _=>rfl;have j:=h (w.alloc (Z5 #[.nilIface] 63)) (bA w _) (by simp) (heap_alloc_last w _);have d:(w.alloc (Z5 #[.nilIface] 63)).heap[w.heap.size]?=Z0 (Z5 #[.nilIface] 63 (0,0)):=blk_alloc_new _ _;go_enter_defers func71,ntmps71
 go_wp2_with fail;refine j.mono ?_;clear j;rintro e w2 ⟨v,rfl,l,i,g⟩;have a:w2.heap[w.heap.size]?=Z0 (Z5 #[.nilIface] 63 (0,0)):=g.trans d;have m:w2.cell? ⟨w.heap.size,0,Z1⟩=Z0 .nilIface:=by simp [World.cell?,a]
 have n:w2.frozen? ⟨w.heap.size,0,Z1⟩=ZY:=by simp [World.frozen?,a]
 have c:(w2.setCell ⟨w.heap.size,0,Z1⟩ v).cell? ⟨w.heap.size,0,Z1⟩=Z0 v:=by simp [World.cell?,World.setCell,Yw,a]
 have H:=hide2 i l;clear i g a d h;rcases l with rfl|⟨t,u,rfl⟩
 . go_wp2;refine leaves_cons (f:=106) (args:=#[Z7 (Z0 ⟨w.heap.size,0,Z1⟩)]) (by simp) (by simp [go_sem]) ?_;refine (kF ⟨w.heap.size,0,Z1⟩ _).mono ?_;rintro e u' b ⟨rfl,rfl,rfl⟩;refine ⟨.nilIface,by simp [results,results71,go_sem,c],_,_,w2,rfl,.inl rfl,(Below.refl _ w).alloc lR (Z5 #[.nilIface] 63),by simp,H.out.1,rfl⟩
 . go_wp2;refine leaves_cons (f:=106) (args:=#[Z7 (Z0 ⟨w.heap.size,0,Z1⟩)]) (by simp) (by simp [go_sem]) ?_;refine (kF ⟨w.heap.size,0,Z1⟩ _).mono ?_;rintro e u' b ⟨rfl,rfl,rfl⟩;refine ⟨.iface t u,by simp [results,results71,go_sem,c],_,_,w2,rfl,.inr ⟨t,u,rfl⟩,(Below.refl _ w).alloc lR (Z5 #[.nilIface] 63),by simp,H.out.1,rfl⟩
theorem uC (k:FuncId) (first cap:Array ZW) (E:∀ (args:Array ZW) (w:ZX),(callFunc k args).run ZS w=.ok (.enter k args) w) (w:ZX) (a:Nat) (cs:Array ZW) (q:w.heap[a]?=Z0 (Z5 cs 121 (0,0))) (D:cs[9]?=Z0 (.bool ZY)) (R:ZX->ZW->ZX->Prop)
 (t:∀ w1,bW w w1->w1.heap.size=w.heap.size+1->w1.heap[w.heap.size]?=Z0 (Z5 #[.nilIface] 63 (0,0))->ZV ZS k (first++cap) w1 λe w2=>∃ v,e=Z4 v/\noCut v/\R w1 v w2/\w2.heap[w.heap.size]?=w1.heap[w.heap.size]?/\∃ b,w2.heap[a]?=Z0 (Z5 b 121 (0,0))/\b[9]?=Z0 (.bool ZY)) :
 ZV ZS 46 #[Z7 (Z0 ⟨a,0,Z1⟩),.func (.func k) first cap] w λe w'=>∃ v w1 w2,e=Z4 v/\noCut v/\bW w w1/\w1.heap.size=w.heap.size+1/\R w1 v w2/\w'=(w2.setCell ⟨w.heap.size,0,Z1⟩ v).setCell ⟨a,9,Z1⟩ (.bool ZY):=by
 have K:a<w.heap.size:=(XL.1 q).1;have G:w.cell? ⟨a,9,Z1⟩=Z0 (.bool ZY):=by simp [World.cell?,q,D]
 have o:=BY k first cap E w (λw1 v w2=>noCut v/\R w1 v w2/\∃ b,w2.heap[a]?=Z0 (Z5 b 121 (0,0))/\b[9]?=Z0 (.bool ZY)) (λw1 y z d=>(t w1 y z d).mono (by
  rintro e w2 ⟨v,rfl,d,A,B,C⟩;exact ⟨v,rfl,d.isErr,⟨d,A,C⟩,B⟩))
 go_enter func46,ntmps46;go_wp2_with fail;refine o.mono ?_;rintro e w3 ⟨v,w1,w2,rfl,_,s,x,⟨u,p,b,r,m⟩,rfl⟩;have c:(w2.setCell ⟨w.heap.size,0,Z1⟩ v).heap[a]?=Z0 (Z5 b 121 (0,0)):=(blk_setCell_other _ _ _ _ (by show a≠w.heap.size;omega)).trans r;obtain ⟨w3,f⟩:=nM (w2.setCell ⟨w.heap.size,0,Z1⟩ v);rw [f] at c ⊢;have I:w3.cell? ⟨a,9,Z1⟩=Z0 (.bool ZY):=by simp [World.cell?,c,m]
 have J:w3.frozen? ⟨a,9,Z1⟩=ZY:=by simp [World.frozen?,c]
 have H:=hide5 s x p u f;clear s x p o t c m r f;rcases u with rfl|⟨n,F,rfl⟩
 . go_wp2_with fail;refine (CZ 13 w3).mono ?_;rintro e w' ⟨rfl,rfl⟩;go_wp2;go_ret;obtain ⟨g,h,i,j,l⟩:=H.out;exact ⟨.nilIface,w1,w2,rfl,j,g,h,i,by rw [l]⟩
 . go_wp2_with fail;refine (AR n F w3).mono ?_;rintro e w' ⟨rfl,rfl⟩;go_wp2;go_ret;obtain ⟨g,h,i,j,l⟩:=H.out;exact ⟨.iface 66 (Z8 Z9 n),w1,w2,rfl,j,g,h,i,by rw [l]⟩
def rQ (n:Int):ZW:=.iface 66 (Z8 Z9 n)
def nV (w:ZX) (n:Int) (e:ZU) (w':ZX):Prop:=e=Z4 (rQ n)/\bW w w'
theorem Cj {v L:Nat} {ps:cA} {xs:aS} {A:ay} (h:aW w ar v p ps D L G t pg ob P xs A F) (x:ByteArray) (j:ZW) (g:bu x=ZY) :
 ZV ZS 70 #[Z7 (Z0 ⟨ar,0,Z1⟩),Z2 x,j] w (nV w 6):=by
 obtain ⟨_,_,_,_,f⟩:=h.TR.cells;have a:=h.find x;obtain ⟨k,d⟩:=nM (aD xs.names x);obtain ⟨i,c⟩:=nM (lZ xs.os x);rw [d,c] at a;clear d c h;go_enter func70,ntmps70;go_wp2_with fail;refine a.mono ?_;rintro e w1 ⟨rfl,b⟩;have H:=hide b;clear b a f;go_wp2_with fail;refine (dB x w1).mono ?_;rintro e w2 ⟨rfl,rfl⟩;rw [g];dsimp only;go_wp2;go_ret;exact ⟨rfl,H.out⟩
theorem Cl {v L:Nat} {ps:cA} {xs:aS} {A:ay} (h:aW w ar v p ps D L G t pg ob P xs A F) (x:ByteArray) (ao:Option Addr) (n c:Nat) (j:bu x=ZZ) (m:1500<n) :
 ZV ZS 70 #[Z7 (Z0 ⟨ar,0,Z1⟩),Z2 x,.slice ao n c] w (nV w 7):=by
 obtain ⟨_,_,_,_,g⟩:=h.TR.cells;have a:=h.find x;obtain ⟨k,f⟩:=nM (aD xs.names x);obtain ⟨i,d⟩:=nM (lZ xs.os x);rw [f,d] at a;have l:(1500:Int)<(n:Int):=by omega
 clear f d h;go_enter func70,ntmps70;go_wp2_with fail;refine a.mono ?_;rintro e w1 ⟨rfl,b⟩;have H:=hide b;clear b a g;go_wp2_with fail;refine (dB x w1).mono ?_;rintro e w2 ⟨rfl,rfl⟩;rw [j];dsimp only;go_wp2;go_ret;exact ⟨rfl,H.out⟩
theorem vN {v L:Nat} {ps:cA} {xs:aS} {A:ay} (h:aW w ar v p ps D L G t pg ob P xs A F) (x:ByteArray) (ao:Option Addr) (n c:Nat) (i:bu x=ZZ) (l:n<=1500) (f:x∈xs.names) :
 ZV ZS 70 #[Z7 (Z0 ⟨ar,0,Z1⟩),Z2 x,.slice ao n c] w (nV w 8):=by
 obtain ⟨_,_,_,_,g⟩:=h.TR.cells;have a:=h.find x;obtain ⟨k,d⟩:=nM (aD xs.names x);rw [d,h.there f] at a;have j:¬ (1500:Int)<(n:Int):=by omega
 clear d h f;go_enter func70,ntmps70;go_wp2_with fail;refine a.mono ?_;rintro e w1 ⟨rfl,b⟩;have H:=hide b;clear b a g;go_wp2_with fail;refine (dB x w1).mono ?_;rintro e w2 ⟨rfl,rfl⟩;rw [i];dsimp only;go_wp2;go_ret;exact ⟨rfl,H.out⟩
def fL (D n:Nat):Nat:=max 1 ((n+D*44-1)/(D*44))
def mV (D m n:Nat):Nat:=Ye D (m+(19+4*fL D n))
def sr (g:1<=D) (d:n<=1500):fL D n<=36:=by
 unfold fL;have e:(n+D*44-1)/(D*44)<=n/(D*44)+1:=by
  have:=Fz (D*44) n (by omega);exact XK (Nat.le_max_right _ _) this
 have f:n/(D*44)<=1500/44:=by
  have a:=Yf (c:=D*44) d;have b:1500/(D*44)<=1500/44:=Yu (by omega) (by decide);omega
 omega
def zZ (e:1<=D) (f:m<=2000000):Ye D m<=1000000:=by
 unfold Ye;have:(m+(D*44-4)-1)/(D*44-4)<=(m+(D*44-4)-1)/40:=Yu (by omega) (by decide);have a:(m+(D*44-4)-1)/(D*44-4)<=m/40+1:=by
  refine XK ((Nat.div_le_iff_le_mul_add_pred (by omega)).2 ?_) lR;have b:40*(m/40+1)<=(D*44-4)*(m/40+1):=Nat.mul_le_mul_right _ (by omega);have c:=Nat.div_add_mod m 40;have d:=Nat.mod_lt m (show 40>0 by decide);omega
 omega
theorem Cm {v L:Nat} {ps:cA} {xs:aS} {A:ay} (h:aW w ar v p ps D L G t pg ob P xs A F) (x:ByteArray) (ao:Option Addr) (n c:Nat) (hx:bu x=ZZ) (hn:n<=1500) (U:x∉xs.names) (g:A.nb<(ah xs.os).length+fL D n+2*mV D (az xs.os).length n+2) :
 ZV ZS 70 #[Z7 (Z0 ⟨ar,0,Z1⟩),Z2 x,.slice ao n c] w (nV w 10):=by
 obtain ⟨_,_,_,_,Y⟩:=h.TR.cells;have z:=h.find x;obtain ⟨k,T⟩:=nM (aD xs.names x);rw [T,h.T5 U] at z;have k6:¬ (1500:Int)<(n:Int):=by omega
 have y:=h.par.d1;have hz:=h.par.d;have k0:=h.T6;have hy:=sr y hn;have S:mV D (az xs.os).length n<=1000000:=zZ y (by omega);have hv:=h.T9.2.1;obtain ⟨len,o⟩:=nM ((az xs.os).length);obtain ⟨cnt,m⟩:=nM (fL D n);obtain ⟨pgn,r⟩:=nM (mV D len n);rw [o] at S g k0;rw [r] at S g;rw [m] at hy g;have b:=hide5 h m r o g;clear T h U o m r g;go_enter func70,ntmps70;go_wp2_with fail;refine z.mono ?_;rintro e w1 ⟨rfl,N⟩;have H:=hide N;clear N z Y;go_wp2_with fail;refine (dB x w1).mono ?_;rintro e w2 ⟨rfl,rfl⟩;rw [hx];dsimp only;have f:=b.out.1.below H.out;obtain ⟨Z,_,K,_,_⟩:=f.TR.cells;rw [b.out.2.2.2.1] at K;have E:=dw f.vol.vol (by omega);obtain ⟨q,I⟩:=nM (D*44);rw [I] at E;have C:=nh n q (by omega) ⟨by omega,by omega⟩ w2;have Q:max 1 ((n+q-1)/q)=cnt:=by rw [<- b.out.2.1,<- I];rfl
 rw [Q] at C;have B:=λW=>nT cnt (by omega) W;obtain ⟨pk,s⟩:=nM (19+4*cnt);have V:∀ W,W.heap=w2.heap->ZV ZS 83 #[Z7 (Z0 ⟨ar,0,Z1⟩),Z8 Z9 ((len:Int)+(pk:Int))] W λe w'=>e=Z4 (Z8 Z9 (pgn:Nat))/\w'=W:=λW M=>by
  have:=jj (w:=W) (f.TR.keep (by rw [M])) (f.vol.vol.keep (by rw [M])) y (by omega) (len+(19+4*cnt)) (by omega);have e:Ye D (len+(19+4*cnt))=pgn:=by rw [<- b.out.2.2.1,<- b.out.2.1];rfl
  rw [e,s,Int.natCast_add] at this;exact this
 rw [s] at B;have k5:pk<=200:=by omega
 have k7:IntKind.i64.wrap ((len:Int)+(pk:Int))=(len:Int)+(pk:Int):=by rw [IntKind.wrap_i64];omega
 have l:=hide3 f B V;clear f B V Q I s;go_wp2_with fail;refine E.mono ?_;rintro e w3 ⟨rfl,rfl⟩;clear E;go_wp2_with fail;refine C.mono ?_;rintro e J ⟨rfl,rfl⟩;clear C;go_wp2_with fail;go_quiet (first|(go_at_call 101;refine Calls.quiet_of_same (l.out.2.1 _))|(go_at_call 83;refine Calls.quiet_of_same (l.out.2.2 _ rfl)));have u:bW J (J.drewN nq):=⟨rfl,rfl,rfl,XN _,λ_ _=>rfl⟩;have a:=l.out.1.below u;have i:=rA a.TR a.vol.vol a.vol.arr a.fit a.n0 xs.os a.cat.any (by omega) cnt pgn (by omega) (by omega);have R:decide ((ah xs.os).length+cnt+2*pgn+2<=A.nb)=ZY:=decide_eq_false (by have:=b.out.2.2.2.2;omega);rw [R] at i;have j:=hide (H.out.trans (u.mono H.out.size));clear u a R Z K;obtain ⟨w5,X⟩:=nM (J.drewN nq);rw [X] at i j ⊢;clear X;go_wp2_with fail;refine i.mono ?_;rintro e w6 ⟨rfl,O⟩;have hs:=hide (j.out.trans (O.mono j.out.size));clear O i;dsimp only;go_wp2;go_ret;exact ⟨rfl,hs.out⟩
def mL {A:ay} (h:A.fit) {D L G:Nat} (c:D<=12) (f:G<=4) (j:A.n=D+L+G) (S d:List Nat):∀ k,(A.objTo D L G S d k).fit
 | 0=>h
 | k+1=>(mL h c f j S d k).putAt _ _ _ λi g=>by
  rw [YE,j] at g;have a:i<(aK D L G (gO D d k)).length:=by rw [gz];exact g
  have e:(aK D L G (gO D d k)).getD i []=(aK D L G (gO D d k))[i]:=by simp [a]
  have b:(aX.shard ((aK D L G (gO D d k)).getD i [])).ok:=by rw [e];exact jl c f _ i a
  exact ⟨eJ b,jv b⟩
def PN (h:Bs w (Z6 (Z0 ⟨b,off,Z1⟩) n c) d) (A:n=d.length) {ks m a:Nat} (r:((d.drop ks).take m).length=a) (z:ks+a<=n):Bs w (Z6 (Z0 ⟨b,off+ks,Z1⟩) a (c-ks)) ((d.drop ks).take m):=by
 obtain ⟨ao,u,e,v,y,l,o⟩:=h;simp only [Value.slice.injEq] at e;obtain ⟨rfl,_,rfl⟩:=e;refine ⟨_,_,by rw [r],by omega,by omega,λx s=>l x (X0 (Yk s)),λg=>⟨b,off+ks,rfl,λk j=>?_⟩⟩;obtain ⟨t,i,f,q⟩:=o (λe=>by rw [e] at g;simp at g);simp only [Yd,Addr.mk.injEq] at f;obtain ⟨rfl,rfl,_⟩:=f;have p:k<m:=by rw [XG] at j;omega
 rw [Yi,q (ks+k) (by omega)];simp only [Yx,Yc p,Yh]
def PO (w:ZX) (p:Nat) (A:ay) (F:bh) (B:ay) (e:ZU) (w':ZX):Prop:=e=Z4 .nilIface/\aq w' p B F/\aa (F.has p A.n) w w'
theorem rP {v L ps ho D' L' G' f nn:Nat} {ofb:Bool} {A:ay} (s:bM w ar v D' L' G' t f nn pg ob ofb) (z:nF w v p D L G ps ho A F) (hF:jT F p A.n v) (kf:¬ F.has p A.n ar) (hf:A.fit) (hn:A.n=D+L+G) (hr:bU D L G=ZZ) (ka:1<=D) (hD:D<=12) (hL:1<=L) (kb:L<=4) (hG:G<=4) (hj:D%L=0) (k9:D+L+G<=16)
 (hw:A.wait<0) (hc:gT A D L G) (nm:ByteArray) (sv:ZW) (S:List Nat) (E:bN (λk=>¬ F.has p A.n k) w sv S) (kc:∀ x∈S,x<A.nb) (b off c:Nat) (d:List Nat) (N:∀ w',aa (F.has p A.n) w w'->Bs w' (Z6 (Z0 ⟨b,off,Z1⟩) d.length c) d) (kj:d.length<=1500) (kh:d.length<c) (hs:∀ k,k<S.length->k*(D*44)<=d.length) :
 ZV ZS 104 #[Z7 (Z0 ⟨ar,0,Z1⟩),.agg #[Z2 nm,Z8 Z9 (d.length:Nat),sv],Z6 (Z0 ⟨b,off,Z1⟩) d.length c] w (PO w p A F (A.objTo D L G S d S.length)):=by
 obtain ⟨P,Q,rfl,hv,_⟩:=id E;obtain ⟨c0,_⟩:=s.cells;have k7:=λW (hW:bW w W)=>dw (z.vol.keep (hW.block _ z.vol.lt)) (by omega);obtain ⟨a,O⟩:=nM (D*44);have ky:44<=a/\a<=528:=by omega
 have o:bW w (w.alloc (Z5 #[Z2 nm,Z8 Z9 (d.length:Nat),.slice P S.length Q] 123)):=bA w _;have m:aw (w.alloc (Z5 #[Z2 nm,Z8 Z9 (d.length:Nat),.slice P S.length Q] 123)) w.heap.size 123 [Z2 nm,Z8 Z9 (d.length:Nat),.slice P S.length Q]:=heap_alloc_last w _;obtain ⟨n,q⟩:=nM (d.length);rw [q] at o m kh kj ⊢;have g2:=m.cell (j:=2) (u:=.slice P S.length Q) rfl;have J:=(o.cell (p:=⟨ar,0,Z1⟩) s.lt).trans c0;have U:=k7 _ o;obtain ⟨w1,kz⟩:=nM (w.alloc (Z5 #[Z2 nm,Z8 Z9 (n:Nat),.slice P S.length Q] 123));rw [kz] at U g2 J o m;rw [O] at U hs;have T:=hide8 s z E N o m q O;clear s z E N k7 o m q c0;go_enter func104,ntmps104;go_wp2_with fail;refine U.mono ?_;rintro e R ⟨rfl,rfl⟩;clear U;go_wp2;go_loopw [19] (λi wr=>∃ k:Nat,i=Z8 Z9 (k:Nat)/\k<=S.length/\aq wr p (A.objTo D L G S d k) F/\aa (F.has p A.n) R wr) (λi _=>S.length-(intOf i).toNat)
 case atStart=>exact ⟨0,rfl,Yl _,T.out.2.1.arr.below T.out.2.2.2.2.1 lR,aa.refl _ _⟩
 case round=>
  clear g2 J;obtain ⟨k,rfl,hk,V,C⟩:=hrel;by_cases B:k<S.length
  . obtain ⟨s,z,E,N,o,m,q,O⟩:=T.out;have M:aa (F.has p A.n) w wr:=(aa.TG o _).trans C;obtain ⟨sb,so,hb,e1,hx⟩:=sn (E.keep (eR.T1 M)) (λe=>by rw [e] at B;simp at B);simp only [Value.slice.injEq] at e1;obtain ⟨rfl,_,rfl⟩:=e1;have g1:=hx k B;obtain ⟨y,X⟩:=nM (S[k]);rw [X] at g1;have q0:y<A.nb:=(by rw [<- X];exact kc _ (XQ B));have hh:=s.keep (M.block _ s.lt kf);obtain ⟨ca,_⟩:=hh.cells;have kx:¬ F.has p A.n w.heap.size:=λh=>by have:=z.arr.TH h;omega
    have hi:aw wr w.heap.size 123 _:=m.keep (C.block _ m.lt kx);have cz:=hi.cell (j:=1) (u:=Z8 Z9 (n:Nat)) rfl;have k5:=hs k B;obtain ⟨l,k6⟩:=nM (k*a);obtain ⟨g,hm⟩:=nM ((k+1)*a);have Z:(k+1)*a=k*a+a:=YF k a;have kp:(k:Int)*(a:Int)=((k*a:Nat):Int):=(by rw [YS]);have kr:((k:Int)+1)*(a:Int)=(((k+1)*a:Nat):Int):=(by rw [YS];rfl);rw [k6] at kp Z k5;rw [hm] at kr Z;rw [q] at k5;obtain ⟨bb,kg⟩:=nM (min g n);have q1:l<=bb:=(by omega);have q2:bb<=c:=(by omega);have k0:gO D d k=(d.drop l).take a:=(by unfold gO;rw [O,k6]);have Y:((d.drop l).take a).length=bb-l:=(by rw [XG,XI];omega);have kv:∀ I ty w,(Builtin.min_ I ty #[Z8 Z9 (g:Nat),Z8 Z9 (n:Nat)]).run ZS w=.ok (Z8 Z9 (bb:Nat)) w:=λI ty w=>by
     rw [jb];by_cases K:((n:Nat):Int)<((g:Nat):Int)
     . rw [if_pos K,show bb=n by omega]
     . rw [if_neg K,show bb=g by omega]
    have r:=zR A D L G S d k;have k8:ZV ZS 141 #[Z7 (Z0 ⟨v,0,Z1⟩),Z8 Z9 y,Z6 (Z0 ⟨b,off+l,Z1⟩) (bb-l) (c-l)] wr.drew λe w'=>e=Z4 .nilIface/\aq w' p (A.objTo D L G S d (k+1)) F/\aa (F.has p A.n) R w':=by
     have ke:nF wr.drew v p D L G ps ho (A.objTo D L G S d k) F:=z.turn hF (M.trans (aa.drew _)) (V.keep λ_ _=>rfl);have hz:=N wr.drew (M.trans (aa.drew _));rw [q] at hz;refine (lu ke (by rw [r.1];exact hF) (mL hf hD hG hn S d k) (by rw [r.1];exact hn) hr ka hD hL kb hG hj k9 y (by rw [r.2.1];exact q0) (by rw [r.2.2.1];exact hw) (hc.congr r.1 r.2.2.2) _ _ (PN hz q.symm Y (by omega)) (by rw [Y];omega)).mono ?_;rintro e w' ⟨rfl,K,h2⟩;rw [r.1] at K h2;refine ⟨rfl,?_,C.trans ((aa.drew _).trans h2)⟩;have:A.objTo D L G S d (k+1)=(A.objTo D L G S d k).putAt (XS A.n) y (λi=>(aX.shard ((aK D L G ((d.drop l).take a)).getD i [])).blk):=by
      rw [ay.objTo,k0,fK B,X]
     rw [this];exact K
    have HW:=hide3 k8 hh hi;have q3:bb<=n:=(by omega);have ki:¬ c=l:=(by omega);have q4:IntKind.i64.wrap ((k:Int)+1)=(k:Int)+1:=(by rw [IntKind.wrap_i64];omega);have km:IntKind.i64.wrap (l:Int)=(l:Int):=(by rw [IntKind.wrap_i64];omega);have ko:IntKind.i64.wrap (g:Int)=(g:Int):=(by rw [IntKind.wrap_i64];omega);clear k8 hh hi C M V r k0 Y hx X s z E N o m q O kg Z;go_wp2;go_region_with (go_at_call 141;refine HW.out.1.mono ?_;rintro e w2 ⟨rfl,hp,hq⟩;have H:=hide2 hp hq;clear hp hq);all_goals (
     go_wp2;go_roundw
     case rel=>exact ⟨k+1,by go_num,by omega,H.out.1,H.out.2⟩
     case measure=>simp only [intOf];omega)
  . have kk:k=S.length:=(by omega);subst kk;have H:=hide2 V C;clear V C;go_wp2;go_ret;exact ⟨rfl,H.out.1,(aa.TG T.out.2.2.2.2.1 _).trans H.out.2⟩
theorem xR {v L:Nat} {ps:cA} {vo:ZW} {xs xs':aS} {A B:ay} (h:aW w ar v p ps D L G t pg ob P xs A F) (m:bM w' ar v D L G (t+1) (P'.getD 0 0) (az xs'.os).length vp vo ZY) (i:aq w' p B F) (a:aa (λk=>k=ar\/F.has p A.n k) w w') (b:B.n=A.n) (d:B.nb=A.nb) (r:B.fit)
 (o:eE B D L G (t+1) P' xs') (l:bN (λk=>ar<k/\¬ F.has p A.n k/\¬ ps.bl k) w' vp P') (j:gE (λk=>ar<k/\¬ F.has p A.n k/\¬ ps.bl k) w' vo xs'.os) (u:t+1<=1000000):aW w' ar v p ps D L G (t+1) vp vo P' xs' B F:=by
 have hK:=h.Vy;have x:=a.block _ h.vol.vol.lt (λe=>e.elim h.Wn h.free.v);have k1:2<3:=by decide
 have k2:1<3:=by decide
 have s:=a.block _ h.vol.laid.lt (λe=>e.elim (λq=>by omega) h.free.g);have f:=a.block _ h.vol.TQ.lt (λe=>e.elim (λq=>by omega) h.free.t);exact ⟨m,⟨h.vol.vol.keep x,i,h.vol.laid.keep s,h.vol.TQ.keep f,XK h.vol.room a.size⟩,by rw [b];exact h.free,by rw [b];exact h.UX,h.Vg,h.Vy,r,h.par,o,by rw [b];exact l,by rw [b];exact j,by rw [d];exact h.nb,u,ps.keep _ _ h.kit λk c=>a.block k (ps.lt _ h.kit k c) (λq=>q.elim (h.apt k c).2.1 (h.apt k c).2.2.2),by rw [b];exact h.apt⟩
def uM {B:ay} (h:B.fit) {D L G t f m:Nat} (a:vL D L G) (c:B.n=D+L+G) (p:t<=1000001) (j:f<B.nb) (o:m<=2000000) (P l:List Nat) (k:Nat):((B.pagesTo D L G P l k).putAt (XS B.n) 0 (λ_=>(aX.root D L G t f m).blk)).fit:=by
 have e:=h.nb;have b:(aX.root D L G t f m).ok:=by
  have:=a.d;have:=a.l4;have:=a.g;exact ⟨by omega,by omega,by omega,by omega,by omega,by omega⟩
 exact (gA h a.d a.g c P l k).putAt _ _ _ λi _=>⟨eJ b,jv b⟩
def Cn (c:1<=D) (h:k<Ye D m):k*(D*44-4)<=m:=by
 unfold Ye at h;rcases YT k with rfl|d
 . simp
 . have a:k<(m+(D*44-4)-1)/(D*44-4):=(by omega);have b:(k+1)*(D*44-4)<=m+(D*44-4)-1:=(YU (by omega)).1 a;rw [YF] at b;omega
def Co (c:1<=D) (h:k<fL D n):k*(D*44)<=n:=by
 unfold fL at h;rcases YT k with rfl|d
 . simp
 . have a:k<(n+D*44-1)/(D*44):=(by omega);have b:(k+1)*(D*44)<=n+D*44-1:=(YU (by omega)).1 a;rw [YF] at b;omega
def xS (ho:w.ownsRow base 3 1 (Z6 (Z0 ⟨g,0,Z1⟩) (a+b) cap) (a+b) (Aa l)) (s:l.length=a+b) (hK:K g) (q:a+b<=100000):bN K w (Z6 (Z0 ⟨g,0,Z1⟩) a c1) (l.take a):=by
 rcases ho.2 with ⟨e,_⟩|⟨j,c,cur,e,m,h,p,n,o,k⟩
 . cases e
 . simp only [Value.slice.injEq,Yd,Addr.mk.injEq] at e;obtain ⟨⟨rfl,_,_⟩,_,rfl⟩:=e;have f:(l.take a).length=a:=(by rw [XG];omega);refine ⟨_,c1,by rw [f],by omega,λ_=>⟨g,0,rfl,hK,(XL.1 h).1,λi r=>?_⟩⟩;have d:=ho.cells (g:=g) rfl i (Z8 Z9 ((l[i]'(by omega):Nat):Int)) (by unfold Aa;rw [X2,XO (by omega)];rfl);rw [mN] at d;rw [XJ,YC];exact d
def Im (ho:w.ownsRow base 3 1 (Z6 (Z0 ⟨g,0,Z1⟩) (a+b) cap) (a+b) (Aa l)) (s:l.length=a+b) (hK:K g) (q:a+b<=100000):bN K w (Z6 (Z0 ⟨g,a,Z1⟩) b c1) (l.drop a):=by
 rcases ho.2 with ⟨e,_⟩|⟨j,c,cur,e,m,h,p,n,o,k⟩
 . cases e
 . simp only [Value.slice.injEq,Yd,Addr.mk.injEq] at e;obtain ⟨⟨rfl,_,_⟩,_,rfl⟩:=e;have f:(l.drop a).length=b:=(by rw [XI];omega);refine ⟨_,c1,by rw [f],by omega,λ_=>⟨g,a,rfl,hK,(XL.1 h).1,λi r=>?_⟩⟩;have d:=ho.cells (g:=g) rfl (a+i) (Z8 Z9 ((l[a+i]'(by omega):Nat):Int)) (by unfold Aa;rw [X2,XO (by omega)];rfl);rw [mN] at d;rw [YD];exact d
section
def Cp (os:List Ob):∀ x∈az os,x<256:=by
 intro x a;unfold az at a;obtain ⟨o,_,a⟩:=Yg.1 a;unfold gN at a;simp only [XP] at a;rcases a with ((h|h)|h)|h
 . exact sC _ _ x h
 . unfold gU at h;rcases XP.1 h with h|h
   . obtain ⟨b,_,rfl⟩:=X3.1 h;exact b.toNat_lt
   . rw [YV h];decide
 . exact sC _ _ x h
 . obtain ⟨s,_,h⟩:=Yg.1 h;exact sC _ _ x h
def nW (A:ay) (D L G:Nat) (P l:List Nat):∀ k,(A.pagesTo D L G P l k).reads=A.reads
 | 0=>rfl
 | k+1=>nW A D L G P l k
def Cq (A:ay) (D L G:Nat) (S d:List Nat):∀ k,(A.objTo D L G S d k).reads=A.reads
 | 0=>rfl
 | k+1=>Cq A D L G S d k
def LD (w:ZX) (ar v p:Nat) (ps:cA) (D L G t:Nat) (xs:aS) (A:ay) (F:bh) (x:ByteArray) (d:List Nat) (e:ZU) (w':ZX):Prop:=
 e=Z4 .nilIface/\∃ pg ob P' B o,o.name=x/\aW w' ar v p ps D L G (t+1) pg ob P' (xs.ins (o,d)) B F/\B.n=A.n/\(B.nb=A.nb/\B.lost=A.lost/\B.reads=A.reads)/\aa (λk=>k=ar\/F.has p A.n k) w w'
structure cZ (w w1:ZX) (ar v p:Nat) (ps:cA) (D L G t:Nat) (pg ob:ZW) (P:List Nat) (xs:aS) (A:ay) (F:bh) (x:ByteArray) (d fr:List Nat) (g cnt pgn c1:Nat):Prop where
 live:aW w ar v p ps D L G t pg ob P xs A F
 out:aa (F.has p A.n) w w1
 arr:aq w1 p (A.objTo D L G (fr.take cnt) d cnt) F
 nm:bu x=ZZ
 no:x∉xs.names
 dl:d.length<=1500
 dx:∀ b∈d,b<256
 c:cnt=fL D d.length
 pn:pgn=mV D (az xs.os).length d.length
 f:fr=(bj (tk A.nb (P++ah xs.os)).1 A.nb).take (cnt+pgn)
 fl:fr.length=cnt+pgn
 room:(ah xs.os).length+cnt+2*pgn+2<=A.nb
 s:bN (λk=>ar<k/\¬ F.has p A.n k/\¬ ps.bl k) w1 (Z6 (Z0 ⟨g,0,Z1⟩) cnt cnt) (fr.take cnt)
 q:bN (λk=>ar<k/\¬ F.has p A.n k/\¬ ps.bl k) w1 (Z6 (Z0 ⟨g,cnt,Z1⟩) pgn c1) (fr.drop cnt)
 tt:t+1<=1000000
section
variable {w w1:ZX} {ar v p D L G t:Nat} {ps:cA} {pg ob:ZW} {P:List Nat} {xs:aS} {A:ay} {F:bh} {x:ByteArray} {d fr:List Nat} {g cnt pgn c1:Nat}
def iW (x:ByteArray) (d fr:List Nat) (cnt:Nat):Ob:=⟨x,d.length,fr.take cnt⟩
def cZ.V1 (h:cZ w w1 ar v p ps D L G t pg ob P xs A F x d fr g cnt pgn c1):(fr.take cnt).length=cnt:=by rw [XG,h.fl];omega
def cZ.Wl (h:cZ w w1 ar v p ps D L G t pg ob P xs A F x d fr g cnt pgn c1):(fr.drop cnt).length=pgn:=by rw [XI,h.fl];omega
def cZ.apart (h:cZ w w1 ar v p ps D L G t pg ob P xs A F x d fr g cnt pgn c1):(fr++(P++ah xs.os)).Nodup/\∀ b∈fr++(P++ah xs.os),2<=b/\b<A.nb:=by
 rw [h.f];exact nO h.live.TM.VQ h.live.TM.VH _
def cZ.U9 (h:cZ w w1 ar v p ps D L G t pg ob P xs A F x d fr g cnt pgn c1):iT D (iW x d fr cnt,d):=by
 have e:1<=x.size/\x.size<=16:=by have:=h.nm;unfold bu at this;exact of_decide_eq_true this
 refine ⟨⟨e,h.dl,λb a=>?_,?_⟩,?_,rfl,h.dx⟩
 . have:=(h.apart.2 b (Yb _ (Yk a))).2;have:=h.live.nb;omega
 . show (fr.take cnt).length<=1000;rw [h.V1,h.c];have:=sr h.live.par.d1 h.dl;omega
 . show (fr.take cnt).length=_;rw [h.V1,h.c];rfl
theorem cZ.packed (h:cZ w w1 ar v p ps D L G t pg ob P xs A F x d fr g cnt pgn c1):(az (xs.ins (iW x d fr cnt,d)).os).length=(az xs.os).length+(19+4*cnt):=by
 rw [Hy];have e:(gN (iW x d fr cnt)).length=19+4*(fr.take cnt).length:=gd h.U9.fit;rw [h.V1] at e;exact congrArg _ e
def cZ.kept (h:cZ w w1 ar v p ps D L G t pg ob P xs A F x d fr g cnt pgn c1):eR (λk=>ar<k/\¬ F.has p A.n k/\¬ ps.bl k) w w1:=⟨h.out.size,λk a hK=>h.out.block k a hK.2.1⟩
def LF (h:cZ w w1 ar v p ps D L G t pg ob P xs A F x d fr g cnt pgn c1) :
 ZV ZS 105 #[ob,Z8 Z9 (aD xs.names x:Nat),.agg #[Z2 x,Z8 Z9 (d.length:Nat),Z6 (Z0 ⟨g,0,Z1⟩) cnt cnt]] w1 (uG (λk=>ar<k/\¬ F.has p A.n k/\¬ ps.bl k) w1 (xs.ins (iW x d fr cnt,d)).os):=by
 have b:xs.os.length=xs.names.length:=by rw [<- eF,bS]
 have a:=B1 (h.live.cat.keep h.kept) (by have:=h.live.T9.1;omega) (λk c=>⟨by have:=h.live.TR.lt;have:=h.out.size;omega,λe=>by have:=h.live.vol.arr.TH e;have:=h.out.size;omega,λe=>by have:=ps.lt _ h.live.kit _ e;have:=h.out.size;omega⟩) (i:=aD xs.names x) (by rw [b];exact xD _ _) (iW x d fr cnt) _ h.s;rw [Ln];exact a
theorem EB (h:cZ w w1 ar v p ps D L G t pg ob P xs A F x d fr g cnt pgn c1) {w2:ZX} {u:ZW} (H:gE (λk=>ar<k/\¬ F.has p A.n k/\¬ ps.bl k) w2 u (xs.ins (iW x d fr cnt,d)).os) (I:bW w1 w2) :
 ZV ZS 85 #[Z7 (Z0 ⟨ar,0,Z1⟩),u,Z6 (Z0 ⟨g,cnt,Z1⟩) pgn c1] w2 (LD w ar v p ps D L G t xs A F x d):=by
 obtain ⟨oo,oc,rfl,hol,_⟩:=id H;have i:=h.live.par;have R:=h.V1;have j:=h.Wl;have a:=zR A D L G (fr.take cnt) d cnt;have J:aa (F.has p A.n) w w2:=h.out.trans (aa.TG I _);have l:=h.live.TM;have kb:1<=pgn:=by rw [h.pn];unfold mV pgs;omega
 have k6:fr.drop cnt≠[]:=λe=>by rw [e] at j;simp at j;omega
 have Q:∀ b∈fr.drop cnt,b<A.nb:=λb k9=>(h.apart.2 b (Yb _ (X0 k9))).2;have V:=h.packed;have hn:(az (xs.ins (iW x d fr cnt,d)).os).length<=1000000:=by
  have h1:=h.live.T6;have h2:=sr h.live.par.d1 h.dl;have h3:=jo (xs:=xs) h.live.par.d1 l.fits;have Z:=h.live.T9.1;have h5:xs.os.length=xs.length:=by simp [aS.os]
  have h6:1500/(D*44)<=34:=by
   have:=h.live.par.d1;have:1500/(D*44)<=1500/44:=Yu (by omega) (by decide);omega
  have h7:xs.length*(19+4*(1500/(D*44)+1))<=1000*(19+4*(34+1)):=YR (by omega) (by omega);rw [V,h.c];omega
 have W:(fr.drop cnt).length=pgs D (az (xs.ins (iW x d fr cnt,d)).os).length:=by rw [j,h.pn,V,h.c];rfl
 have hg:∀ y∈xs.ins (iW x d fr cnt,d),iT D y:=λy K=>by
  rcases X5.1 ((j5 xs (iW x d fr cnt,d)).mem_iff.1 K) with e|e
  . rw [e];exact h.U9
  . exact l.fits y e
 have hf:∀ o∈(xs.ins (iW x d fr cnt,d)).os,o.fit:=λo ho=>by
  obtain ⟨y,K,rfl⟩:=X3.1 ho;exact (hg y K).fit
 have hp:(xs.ins (iW x d fr cnt,d)).os.length<=10000:=by
  have:=(j5 xs (iW x d fr cnt,d)).length_eq;have e:(xs.ins (iW x d fr cnt,d)).os.length=(xs.ins (iW x d fr cnt,d)).length:=by simp [aS.os]
  have Z:=h.live.T9.1;have h5:xs.os.length=xs.length:=by simp [aS.os]
  rw [e,this,Yn];omega
 have k5:aq w2 p (A.objTo D L G (fr.take cnt) d cnt) F:=h.arr.below I lR;have k7:nF w2 v p D L G ps.ps ps.ho (A.objTo D L G (fr.take cnt) d cnt) F:=h.live.vol.turn h.live.free J k5;have X:bN (λk=>ar<k/\¬ F.has p A.n k/\¬ ps.bl k) w2 (Z6 (Z0 ⟨g,cnt,Z1⟩) pgn c1) (fr.drop cnt):=h.q.keep (eR.TF I);have O:=nS (w:=w2) (h.live.TR.keep (J.block _ h.live.TR.lt h.live.UX)) k7 (by rw [a.1];exact h.live.free) (by rw [a.1];exact h.live.UX) (mL h.live.fit i.d i.g l.n _ _ _) (by rw [a.1];exact l.n) i.r i.d1 i.d i.l1 i.l4 i.g i.div i.s (by rw [a.2.2.1];exact l.wait) (l.lost.congr a.1 a.2.2.2) (by have:=h.live.turn;omega)
  oo _ oc (az (xs.ins (iW x d fr cnt,d)).os) (Cp _) hn (tX H.any hf hp) g cnt c1 (fr.drop cnt) (by rw [j,a.1];exact X.UR λk C=>C.2.1) k6 (by rw [a.2.1];exact Q) (λk C=>Cn i.d1 (by rw [<- W];exact C))
 rw [j] at O;refine O.mono ?_;rintro e w3 ⟨rfl,S,k8,E⟩;rw [a.1,j] at S;rw [a.1] at E;have M:aa (λk=>k=ar\/F.has p A.n k) w w3:=(J.mono λ_ _ e=>.inr e).trans E;have T:eR (λk=>ar<k/\¬ F.has p A.n k/\¬ ps.bl k) w2 w3:=⟨E.size,λk C hK=>E.block k C (λe=>e.elim (λq=>by have:=hK.1;omega) hK.2.1)⟩;have N:=Lp l (iW x d fr cnt,d) h.U9 h.no W (by
  show ((fr.take cnt++fr.drop cnt)++(P++ah xs.os)).Nodup;rw [X7];exact h.apart.1) (by
  show ∀ b∈(fr.take cnt++fr.drop cnt)++(P++ah xs.os),2<=b/\b<A.nb;rw [X7];exact h.apart.2) (by
  show (ah xs.os).length+(fr.take cnt).length+2*(fr.drop cnt).length+2<=A.nb;rw [R,j];exact h.room)
 have Y:(iW x d fr cnt,d).1.TE.length=cnt:=R;rw [Y,j] at N;have ka:(fr.drop cnt).getD 0 0<A.nb:=by
  rw [fK (by rw [j];omega)];exact Q _ (XQ _)
 have U:=uM (B:=A.objTo D L G (fr.take cnt) d cnt) (t:=t+1) (f:=(fr.drop cnt).getD 0 0) (m:=(az (xs.ins (iW x d fr cnt,d)).os).length) (mL h.live.fit i.d i.g l.n _ _ _) i (by rw [a.1];exact l.n) (by have:=h.tt;omega) (by rw [a.2.1];exact ka) (by omega) (fr.drop cnt) (az (xs.ins (iW x d fr cnt,d)).os) pgn;rw [a.1] at U;have z:=iz (A.objTo D L G (fr.take cnt) d cnt) D L G (fr.drop cnt) (az (xs.ins (iW x d fr cnt,d)).os) pgn;refine ⟨rfl,_,_,fr.drop cnt,_,iW x d fr cnt,rfl,xR h.live k8 S M ?_ ?_ U N (X.keep T) (H.keep T) h.tt,?_,?_,M⟩
 . exact z.1.trans a.1
 . exact z.2.1.trans a.2.1
 . exact z.1.trans a.1
 . exact ⟨z.2.1.trans a.2.1,z.2.2.2.trans a.2.2.2,(nW _ _ _ _ _ _ _).trans (Cq _ _ _ _ _ _ _)⟩
end
end
section
def LK (w:ZX) (ar v p:Nat) (ps:cA) (D L G t:Nat) (xs:aS) (A:ay) (F:bh) (k:Nat) (e:ZU) (w':ZX):Prop:=
 e=Z4 .nilIface/\∃ pg ob P' B,aW w' ar v p ps D L G (t+1) pg ob P' (xs.del k) B F/\B.n=A.n/\(B.nb=A.nb/\B.lost=A.lost/\B.reads=A.reads)/\aa (λk=>k=ar\/F.has p A.n k) w w'
section
variable {w:ZX} {ar v p D L G t:Nat} {ps:cA} {pg ob:ZW} {P:List Nat} {xs:aS} {A:ay} {F:bh}
def aW.Uq (h:aW w ar v p ps D L G t pg ob P xs A F) (k:Nat):(az (xs.del k).os).length<=1000000:=XK (qP xs k) h.T6
theorem Nx (h:aW w ar v p ps D L G t pg ob P xs A F) (k:Nat) {pgn:Nat} (b:pgn=pgs D (az (xs.del k).os).length) :
 ZV ZS 82 #[Z7 (Z0 ⟨ar,0,Z1⟩),Z8 Z9 (pgn:Nat)] w λe w'=>∃ g cap,e=Z4 (.tuple #[Z6 (Z0 ⟨g,0,Z1⟩) pgn cap,.bool ZZ])/\w'.ownsRow w.heap.size 3 1 (Z6 (Z0 ⟨g,0,Z1⟩) pgn cap) pgn (Aa ((bj (tk A.nb (P++ah xs.os)).1 A.nb).take pgn))/\((bj (tk A.nb (P++ah xs.os)).1 A.nb).take pgn).length=pgn/\w.heap.size<=g/\g<w'.heap.size/\bW w w':=by
 have d:=uy h.TM k;rw [<- b] at d;have q:=h.nb;have o:1<=pgn:=by rw [b];unfold pgs;omega
 have j:=zZ (D:=D) h.par.d1 (m:=(az (xs.del k).os).length) (by have:=h.Uq k;omega);rw [<- b] at j;have a:=lW h.TR h.vol.vol h.vol.arr h.fit h.n0 P xs.os h.pgs.any h.cat.any pgn (by omega);rw [decide_eq_true d] at a;have c:((bj (tk A.nb (P++ah xs.os)).1 A.nb).take pgn).length=pgn:=by rw [XG];omega
 rw [c] at a;refine a.mono ?_;rintro e w' ⟨u,rfl,ho,f⟩;rcases ho.2 with ⟨_,n⟩|⟨g,cap,cur,rfl,i,l,r,_⟩
 . omega
 . exact ⟨g,cap,rfl,ho,c,i,(XL.1 l).1,f⟩
theorem Iq (h:aW w ar v p ps D L G t pg ob P xs A F) (k:Nat) {w2:ZX} {u:ZW} {pgn g cap:Nat} (U:pgn=pgs D (az (xs.del k).os).length) (C:gE (λk=>ar<k/\¬ F.has p A.n k/\¬ ps.bl k) w2 u (xs.del k).os) (O:bW w w2)
 (I:bN (λk=>ar<k/\¬ F.has p A.n k/\¬ ps.bl k) w2 (Z6 (Z0 ⟨g,0,Z1⟩) pgn cap) ((bj (tk A.nb (P++ah xs.os)).1 A.nb).take pgn)) (c:((bj (tk A.nb (P++ah xs.os)).1 A.nb).take pgn).length=pgn) (k7:t+1<=1000000) :
 ZV ZS 85 #[Z7 (Z0 ⟨ar,0,Z1⟩),u,Z6 (Z0 ⟨g,0,Z1⟩) pgn cap] w2 (LK w ar v p ps D L G t xs A F k):=by
 obtain ⟨oo,oc,rfl,hol,_⟩:=id C;have a:=h.par;have i:=h.TM;have z:=nO i.VQ i.VH pgn;obtain ⟨fr,k0⟩:=nM ((bj (tk A.nb (P++ah xs.os)).1 A.nb).take pgn);rw [k0] at I c z;have k6:1<=pgn:=by rw [U];unfold pgs;omega
 have Z:fr≠[]:=λe=>by rw [e] at c;simp at c;omega
 have M:∀ b∈fr,b<A.nb:=λb hx=>(z.2 b (Yb _ hx)).2;have W:=h.Uq k;have T:fr.length=pgs D (az (xs.del k).os).length:=by rw [c,U]
 have N:=kY xs k;have V:∀ o∈(xs.del k).os,o.fit:=λo ho=>by
  obtain ⟨y,hy,rfl⟩:=X3.1 ho;exact (i.fits y (N.subset hy)).fit
 have X:(xs.del k).os.length<=10000:=by
  have h1:=N.length_le;have e:(xs.del k).os.length=(xs.del k).length:=by simp [aS.os]
  have h4:=h.T9.1;have h5:xs.os.length=xs.length:=by simp [aS.os]
  omega
 have l:=h.below O;have Q:=nS (w:=w2) l.TR l.vol l.free l.UX l.fit i.n a.r a.d1 a.d a.l1 a.l4 a.g a.div a.s i.wait i.lost (by have:=h.turn;omega)
  oo _ oc (az (xs.del k).os) (Cp _) W (tX C.any V X) g 0 cap fr (by rw [c];exact I.UR λk H=>H.2.1) Z M (λj Y=>Cn a.d1 (by rw [<- T];exact Y))
 rw [c] at Q;refine Q.mono ?_;rintro e w3 ⟨rfl,R,hv,E⟩;rw [c] at R;have J:aa (λk=>k=ar\/F.has p A.n k) w w3:=(aa.TG O _).trans E;have S:eR (λk=>ar<k/\¬ F.has p A.n k/\¬ ps.bl k) w2 w3:=⟨E.size,λk H hK=>E.block k H (λe=>e.elim (λq=>by have:=hK.1;omega) hK.2.1)⟩;have K:=Lq i k T z.1 z.2;rw [c] at K;have hz:fr.getD 0 0<A.nb:=by
  rw [fK (by rw [c];omega)];exact M _ (XQ _)
 have k5:=uM (B:=A) (t:=t+1) (f:=fr.getD 0 0) (m:=(az (xs.del k).os).length) h.fit a i.n (by omega) hz (by omega) fr (az (xs.del k).os) pgn;have x:=iz A D L G fr (az (xs.del k).os) pgn;exact ⟨rfl,_,_,fr,_,xR h hv R J x.1 x.2.1 k5 K (I.keep S) (C.keep S) k7,x.1,⟨x.2.1,x.2.2.2,nW _ _ _ _ _ _ _⟩,J⟩
end
theorem Ny {v L:Nat} {ps:cA} {xs:aS} {A:ay} (h:aW w ar v p ps D L G t pg ob P xs A F) (x:ByteArray) (g:bu x=ZY) :
 ZV ZS 54 #[Z7 (Z0 ⟨ar,0,Z1⟩),Z2 x] w (nV w 6):=by
 obtain ⟨_,_,_,_,f⟩:=h.TR.cells;have a:=h.find x;obtain ⟨k,d⟩:=nM (aD xs.names x);obtain ⟨i,c⟩:=nM (lZ xs.os x);rw [d,c] at a;clear d c h;go_enter func54,ntmps54;go_wp2_with fail;refine a.mono ?_;rintro e w1 ⟨rfl,b⟩;have H:=hide b;clear b a f;go_wp2_with fail;refine (dB x w1).mono ?_;rintro e w2 ⟨rfl,rfl⟩;rw [g];dsimp only;go_wp2;go_ret;exact ⟨rfl,H.out⟩
theorem EC {v L:Nat} {ps:cA} {xs:aS} {A:ay} (h:aW w ar v p ps D L G t pg ob P xs A F) (x:ByteArray) (g:bu x=ZZ) (f:x∉xs.names) :
 ZV ZS 54 #[Z7 (Z0 ⟨ar,0,Z1⟩),Z2 x] w (nV w 9):=by
 obtain ⟨_,_,_,_,d⟩:=h.TR.cells;have a:=h.find x;obtain ⟨k,c⟩:=nM (aD xs.names x);rw [c,h.T5 f] at a;clear c h;go_enter func54,ntmps54;go_wp2_with fail;refine a.mono ?_;rintro e w1 ⟨rfl,b⟩;have H:=hide b;clear b a d;go_wp2_with fail;refine (dB x w1).mono ?_;rintro e w2 ⟨rfl,rfl⟩;rw [g];dsimp only;go_wp2;go_ret;exact ⟨rfl,H.out⟩
theorem Rb {v L:Nat} {ps:cA} {xs:aS} {A:ay} (h:aW w ar v p ps D L G t pg ob P xs A F) (x:ByteArray) (hx:bu x=ZZ) (J:x∈xs.names) (kg:t+1<=1000000) :
 ZV ZS 54 #[Z7 (Z0 ⟨ar,0,Z1⟩),Z2 x] w (LK w ar v p ps D L G t xs A F (aD xs.names x)):=by
 obtain ⟨_,_,_,_,c8⟩:=h.TR.cells;have N:=h.find x;have Q:aD xs.names x<xs.os.length:=by
  obtain ⟨q,_⟩:=tY h.TM.up J;rwa [<- eF,bS] at q
 obtain ⟨k,I⟩:=nM (aD xs.names x);rw [I,h.there J] at N;rw [I] at Q ⊢;obtain ⟨pgn,hf⟩:=nM (pgs D (az (xs.del k).os).length);obtain ⟨len,hc⟩:=nM ((az (xs.del k).os).length);have f:=hide4 h Q hf hc;clear I h J Q hf hc;go_enter func54,ntmps54;go_wp2_with fail;refine N.mono ?_;rintro e w1 ⟨rfl,Z⟩;have H:=hide Z;clear Z N c8;go_wp2_with fail;refine (dB x w1).mono ?_;rintro e w2 ⟨rfl,rfl⟩;rw [hx];dsimp only;have i:=f.out.1.below H.out;obtain ⟨_,_,_,_,d8⟩:=i.TR.cells;have T:=uH i.cat (by have:=i.T9.1;omega) (λj hj=>⟨by have:=i.TR.lt;omega,λe=>by have:=i.vol.arr.TH e;omega,λe=>by have:=ps.lt _ i.kit _ e;omega⟩) f.out.2.1;rw [<- Lo] at T;have U:=hide i;clear i;go_wp2_with fail;refine T.mono ?_;rintro e w3 ⟨u,rfl,C,E⟩;have z:=U.out.below E;have X:∀ o∈(xs.del k).os,o.fit:=λo ho=>by
  obtain ⟨y,hy,rfl⟩:=X3.1 ho;exact (z.TM.fits y ((kY xs k).subset hy)).fit
 have he:(xs.del k).os.length<=10000:=by
  have W:=(kY xs k).length_le;have e:(xs.del k).os.length=(xs.del k).length:=by simp [aS.os]
  have h4:=z.T9.1;have h5:xs.os.length=xs.length:=by simp [aS.os]
  omega
 have R:=tW C X he;have kf:=z.Uq k;rw [f.out.2.2.2] at R kf;have r:=hide3 z C (H.out.trans (E.mono H.out.size));clear T C E z X he d8 U;dsimp only;go_wp2_with fail;refine R.mono ?_;rintro e w4 ⟨rfl,B⟩;have c:=r.out.1.below B;have S:=jj c.TR c.vol.vol c.par.d1 (by have:=c.par.d;omega) len (by omega);have s:pgs D len=pgn:=by rw [<- f.out.2.2.2];exact f.out.2.2.1
 rw [s] at S;have kb:=Nx c k f.out.2.2.1.symm;have l:bW w w4:=r.out.2.2.trans (B.mono r.out.2.2.size);have V:=hide3 c (r.out.2.1.keep (eR.TF B)) l;clear c B l s R r;dsimp only;go_wp2_with fail;refine S.mono ?_;rintro e hd ⟨rfl,rfl⟩;clear S;dsimp only;go_wp2_with fail;refine kb.mono ?_;rintro e w5 ⟨g,cap,rfl,k8,O,kc,ke,M⟩;obtain ⟨c,k6,l⟩:=V.out;have Y:ar<g/\¬ F.has p A.n g/\¬ ps.bl g:=⟨by have:=c.TR.lt;omega,λe=>by have:=c.vol.arr.TH e;omega,λe=>by have:=ps.lt _ c.kit _ e;omega⟩;have k9:=zZ (D:=D) c.par.d1 (m:=(az (xs.del k).os).length) (by have:=c.Uq k;omega);rw [f.out.2.2.1] at k9;have hs:pgn<=1000:=by
  have W:=uy c.TM k;rw [f.out.2.2.1] at W;have h2:=lX c.TM.VQ c.TM.VH;have h3:=c.nb;omega
 have ka:bN (λk=>ar<k/\¬ F.has p A.n k/\¬ ps.bl k) w5 (Z6 (Z0 ⟨g,0,Z1⟩) pgn cap) ((bj (tk A.nb (P++ah xs.os)).1 A.nb).take pgn):=by
  have:=xS (K:=λk=>ar<k/\¬ F.has p A.n k/\¬ ps.bl k) (a:=pgn) (b:=0) (c1:=cap) k8 O Y (by omega);rwa [XX (by omega)] at this
 have k7:=Iq f.out.1 k f.out.2.2.1.symm (k6.keep (eR.TF M)) (l.trans (M.mono l.size)) ka O kg;clear c k6 l Y k9 hs ka kb k8 O kc ke M V;dsimp only;go_wp2_with fail;refine k7.mono ?_;rintro e w6 ⟨rfl,hp⟩;have HF:=hide hp;clear hp k7;dsimp only;go_wp2;go_ret;exact ⟨rfl,HF.out⟩
end
section
section
variable {P:List St} {A B:List (List Nat)} (h:∀ k,k<P.length->(bL P k).k=0->A.getD (bL P k).b.toNat []=B.getD (bL P k).b.toNat [])
include h
def zT:∀ k,k<=P.length->fl P A k=fl P B k
 | 0,_=>rfl
 | k+1,hk=>by
  have ih:=zT k (by omega);unfold fl;rw [ih];cases fl P B k with
  | some n=>rfl
  | none=>
   show (if (bL P k).k=0 then _ else _)=if (bL P k).k=0 then _ else _;by_cases a:(bL P k).k=0
   . rw [if_pos a,if_pos a,h k (by omega) a]
   . rw [if_neg a,if_neg a]
def uD (b:List (List Nat)):∀ k,k<=P.length->bR P A b k=bR P B b k
 | 0,_=>rfl
 | k+1,hk=>by
  unfold bR;rw [uD b k (by omega)];unfold dE;by_cases a:(bL P k).k=0
  . rw [if_pos a,if_pos a,h k (by omega) a]
  . rw [if_neg a,if_neg a]
def uE (a:List (List Nat)):∀ k,k<=P.length->dn P A a k=dn P B a k
 | 0,_=>rfl
 | k+1,hk=>by
  unfold dn;rw [uE a k (by omega),uD h a k (by omega)]
def BZ:eu P A=eu P B:=by unfold eu;rw [zT h _ lR]
def Lr {x y:Nat} (f:gx P B y) (g:∀ k,k<P.length->(bL P k).k=0->¬ oG x (bL P k).b.toNat):gx P A x:=λk c a=>by
 obtain ⟨_,d,e⟩:=f k c a;rw [<- zT h (k+1) (by omega),<- h k c a] at d;rw [<- h k c a] at e;exact ⟨g k c a,d,e⟩
end
theorem Nm {L s d x:Nat} {C:Ck} {dl:List (List Nat)} (y:1<=D) (n:D<=12) (o:G<=4) (t:D%L=0) (f:D+L+G<=16) (j:tells (fw D L G) (ab (av (D+L+G) s))=Z0 C) (B:d<D+L+G) (K:s.testBit d=ZZ) (u:dl.length=D) (M:∀ l∈dl,∀ x∈l,x<256)
 (e:∀ i,(nD (bG D L G s C)).testBit i=ZZ->Dl.getD i []=(dF (aO D L G) dl 44).getD i []/\x.testBit i=ZY) :
 gx (bG D L G s C) Dl x/\dn (bG D L G s C) Dl (eU (1+(ab (av (D+L+G) s)).length) (eu (bG D L G s C) Dl)) (bG D L G s C).length=(ab (av (D+L+G) s)).map (λd:Nat=>((d:Int),(dF (aO D L G) dl 44).getD d [])):=by
 have h:∀ k,k<(bG D L G s C).length->(bL (bG D L G s C) k).k=0->(nD (bG D L G s C)).testBit (bL (bG D L G s C) k).b.toNat=ZZ:=λk e a=>by
  rw [dL _ _ e] at a ⊢;exact (rX _ _).2 ⟨_,XQ e,a,rfl⟩
 have g:∀ k,k<(bG D L G s C).length->(bL (bG D L G s C) k).k=0->Dl.getD (bL (bG D L G s C) k).b.toNat []=(IQ (dF (aO D L G) dl 44) s).getD (bL (bG D L G s C) k).b.toNat []:=λk c a=>by
  rw [(e _ (h k c a)).1];rw [dL _ _ c] at a ⊢;obtain ⟨i,z,I,J⟩:=lU f (XQ c) a;rw [z,X4,zo _ _ _ (by rw [zt,dj];exact I),if_neg (by rw [J];decide)]
 refine ⟨Lr g (M5 f (by decide)) λk c a H=>?_,?_⟩
 . have:=(e _ (h k c a)).2;rw [ph.1 H] at this;cases this
 . obtain ⟨O,w,E,A⟩:=M6 (m:=44) (Dt:=dl) n o f j u M;have F:=M7 y n o t f j B K;rw [uE g _ _ lR,BZ g,w];refine YL (by simp [E]) λk r N=>?_;have v:k<(ab (av (D+L+G) s)).length:=(by omega);obtain ⟨p,q⟩:=A k r v;rw [XY,<- p,<- q F]
end
theorem j6 (A:ay) (ds:List Nat) (i:Nat):(bH A ds).testBit i=ZZ↔i∈ds/\A.lost i=ZZ:=by
 obtain ⟨Q,rfl⟩:∃ Q,ds=Q.reverse:=⟨ds.reverse,by simp⟩;induction Q with
 | nil=>simp [bH]
 | cons t Q ih=>
  rw [List.reverse_cons];cases h:A.lost t
  . rw [kQ A _ _ h,ih,XP,Yy];constructor
    . rintro ⟨b,a⟩;exact ⟨.inl b,a⟩
    . rintro ⟨b|rfl,a⟩
      . exact ⟨b,a⟩
      . rw [h] at a;cases a
  . rw [j1 A _ _ h,Nat.testBit_or,Nat.testBit_two_pow,Bool.or_eq_true,ih,decide_eq_true_eq,XP,Yy];constructor
    . rintro (⟨b,a⟩|rfl)
      . exact ⟨.inl b,a⟩
      . exact ⟨.inr rfl,h⟩
    . rintro ⟨b|rfl,a⟩
      . exact .inl ⟨b,a⟩
      . exact .inr rfl
theorem Ca (A:ay) (ds a:List Nat) (h:∀ i∈a,i∉ds):(A.TJ ds).TJ a=A.TJ (ds++a):=by
 unfold ay.TJ;congr 1;funext i;show (if i∈a then wrap64 ((if i∈ds then wrap64 (A.reads i+1) else A.reads i)+1) else (if i∈ds then wrap64 (A.reads i+1) else A.reads i))=if i∈ds++a then wrap64 (A.reads i+1) else A.reads i;by_cases b:i∈a
 . rw [if_pos b,if_neg (h i b),if_pos (Ym _ b)]
 . rw [if_neg b];by_cases c:i∈ds
   . rw [if_pos c,if_pos (Yb _ c)]
   . rw [if_neg c,if_neg (λq=>(XP.1 q).elim c b)]
def Ex (A:ay) (ds a:List Nat):mT (A.TJ ds) a=mT A a:=rfl
def Cb (A:ay) (ds a:List Nat):bH (A.TJ ds) a=bH A a:=rfl
def zW (N:Nat) (ds:List Nat) (R:Nat->List Nat):List (List Nat):=(XS N).map λi=>if i∈ds then R i else []
def Ns (N:Nat) (ds:List Nat):Nat:=nD (((XS N).filter λi=>decide (i∉ds)).map λi:Nat=>⟨0,0,(i:Int),0⟩)
theorem uI (N:Nat) (ds:List Nat) (i:Nat):(Ns N ds).testBit i=ZZ↔i<N/\i∉ds:=by
 unfold Ns;rw [rX];constructor
 . rintro ⟨s,f,_,a⟩;obtain ⟨j,e,rfl⟩:=X3.1 f;obtain ⟨c,d⟩:=YW.1 e;have:j=i:=a;subst this;exact ⟨YE.1 c,of_decide_eq_true d⟩
 . rintro ⟨b,a⟩;exact ⟨_,X3.2 ⟨i,YW.2 ⟨YE.2 b,decide_eq_true a⟩,rfl⟩,rfl,rfl⟩
def Cc (N:Nat) (ds:List Nat) (R:Nat->List Nat):(zW N ds R).length=N:=by simp [zW]
def Cd (a:i<N):(zW N ds R).getD i []=if i∈ds then R i else []:=by simp [zW,a]
def Lu (h:w.heap[bl]?=Z0 (Z5 (aH l).toArray 217 (0,0))) (c:l.length=44) (d:∀ x∈l,x<256):Bs w (Z6 (Z0 ⟨bl,0,Z1⟩) 44 44) l:=by
 refine ⟨Z0 ⟨bl,0,Z1⟩,44,by rw [c],by omega,by omega,d,λ_=>⟨bl,0,rfl,λk a=>?_⟩⟩;have e:(aH l)[k]?=Z0 (Z8 .u8 ((l.getD k 0:Nat):Int)):=by
  unfold aH;rw [X2,XO a];simp [a]
 have b:(aH l).toArray[k]?=Z0 (Z8 .u8 ((l.getD k 0:Nat):Int)):=by simpa using e
 simp [World.cell?,h,b]
def Q9 (n:w.rowIs g 34 N f) (o:∀ i∈ds,(R i).length=44/\∀ x∈R i,x<256) (j:Kn w base BN f R ds):In w g (zW N ds R) (Ns N ds):=by
 intro i c;have b:i<N:=by rw [Cc] at c;exact c
 have p:(zW N ds R)[i]=if i∈ds then R i else []:=by rw [<- Cd b];simp [c]
 have h:=n.cell b;refine ⟨λa=>?_,λa=>?_⟩
 . rw [h,j.1 i ((uI N ds i).1 (ph.1 a)).2];rfl
 . have d:i∈ds:=by
    by_cases q:i∈ds
    . exact q
    . exact absurd (ph.2 ((uI N ds i).2 ⟨b,q⟩)) a
   obtain ⟨bl,k,_,_,l⟩:=j.2 i d;obtain ⟨e,m⟩:=o i d;rw [p,if_pos d,e];exact ⟨⟨bl,0,Z1⟩,44,by rw [h,k],Lu l e m⟩
theorem Ie (b:∀ i∈ds,(R i).length=44/\∀ x∈R i,x<256):∀ l∈zW N ds R,l.length<=100000:=by
 intro l a;unfold zW at a;obtain ⟨i,_,rfl⟩:=X3.1 a;split
 . rename_i h;rw [(b i h).1];omega
 . simp
def If {row:List Nat} (h:aL w bl l) (g:m<=l.length) (e:l.take m=row):w.rangeAt bl 0 (aH row)/\row.length=m:=by
 have c:row.length=m:=by rw [<- e,XG];omega
 refine ⟨λj u a=>?_,c⟩;unfold aH at a;rw [X2,Option.map_eq_some_iff] at a;obtain ⟨x,b,rfl⟩:=a;have f:j<row.length:=(XZ.1 b).1;have d:=World.rowIs.cell h (i:=j) (by omega);rw [XJ];rw [d];unfold vb;have:l.getD j 0=x:=by
  rw [<- e,YM,if_pos (by omega)] at b;rw [Yx,b];rfl
 rw [this]
def rE (h:w.heap[bl]?=Z0 (Z5 (aH l).toArray 217 (0,0))):w.rangeAt bl 0 (aH l):=λj u a=>by simp [World.cell?,h];simpa using a
theorem pE {S:Nat} (e:gone<65536) (f:sp<65536) {i:Nat}:i∈py ds (ab (IR (IR S gone) sp))↔i∈ab S/\gone.testBit i=ZY/\sp.testBit i=ZY/\i∉ds:=by
 rw [zO,sq f,sq e];constructor
 . rintro ⟨⟨⟨a,b⟩,c⟩,d⟩;exact ⟨a,b,c,d⟩
 . rintro ⟨a,b,c,d⟩;exact ⟨⟨⟨a,b⟩,c⟩,d⟩
def Ey {x:Nat} (h:¬ x.testBit i=ZZ):x.testBit i=ZY:=by cases q:x.testBit i;rfl;exact absurd q h
def Lt (P:List St) (D c:List (List Nat)) (k:Nat) (h:(bL P k).k=0):bR P D c (k+1)=(bR P D c k).set (bL P k).a.toNat (D.getD (bL P k).b.toNat [])/\dn P D c (k+1)=dn P D c k:=by
 simp [bR,dn,dE,gZ,h]
def No (P:List St) (D d:List (List Nat)) (k:Nat) (h:(bL P k).k=1):bR P D d (k+1)=(bR P D d k).set (bL P k).a.toNat (iL ((bR P D d k).getD (bL P k).a.toNat []) ((bR P D d k).getD (bL P k).b.toNat []) (bL P k).c)/\dn P D d (k+1)=dn P D d k:=by
 simp [bR,dn,dE,gZ,h]
def Np (P:List St) (D c:List (List Nat)) (k:Nat) (h:(bL P k).k=2):bR P D c (k+1)=bR P D c k/\dn P D c (k+1)=dn P D c k++[((bL P k).b,(bR P D c k).getD (bL P k).a.toNat [])]:=by
 simp [bR,dn,dE,gZ,h]
def TA (w0:ZX) (B:Nat) (P:List St) (D R0:List (List Nat)) (n r gR:Nat) (vO iv:ZW) (wr:ZX):Prop:=
 ∃ k T O,k<=P.length/\iv=Z8 Z9 (k:Nat)/\Rn w0 B P D R0 n r gR k vO T O wr
def PQ (regs:Int) (P:List St) (D:List (List Nat)) (gone:Nat) (w:ZX) (e:ZU) (w':ZX):Prop:=
 (iK regs P D.length->gx P D gone->∃ v O,e=Z4 (.tuple #[v,.nilIface])/\mS 252 w' w.heap.size v O/\O.map (λq=>(q.1,q.2.2.2.take q.2.2.1))=dn P D (eU regs.toNat (eu P D)) P.length) /\
 (iK regs P D.length->¬ gx P D gone->e=Z4 (.tuple #[Z6 Z1 0 0,.iface 66 (Z8 Z9 2)]))/\(¬ iK regs P D.length->e=Z4 (.tuple #[Z6 Z1 0 0,.iface 66 (Z8 Z9 4)]))/\bW w w'
def mS.weaken {t:ZT} {base':Nat} (h:mS t w base v O) (c:base'<=base):mS t w base' v O:=
 ⟨cW h.own c,λq d=>by obtain ⟨a,b⟩:=h.row q d;exact ⟨by omega,b⟩,h.nodup⟩
def Tryz.UE:(ZS.info? 252).map (λi=>(i.zero,i.size,i.bytes))=Z0 (Z0 (.agg #[Z8 Z9 0,Z6 Z1 0 0]),2,32):=by kernel_rfl
def Nq (w:ZX) (n:Nat) (b:n=w.heap.size) (x y:ZW) (t:ZT):∀ j v,[x,y][j]?=Z0 v->(w.alloc (Z5 #[x,y] t)).cell? ((⟨n,0,Z1⟩:Addr).add j)=Z0 v:=by
 subst b;intro j v a;rw [mN];rcases j with _|_|j;all_goals simp at a
 all_goals subst a;simp
def R8 (w:ZX) (k a b c:ZW) (t:ZT):∃ d,w.alloc (Z5 #[k,a,b,c] t)=d/\bW w d/\d.heap.size=w.heap.size+1/\d.cell? ⟨w.heap.size,1,Z1⟩=Z0 a/\d.cell? ⟨w.heap.size,2,Z1⟩=Z0 b/\d.cell? ⟨w.heap.size,3,Z1⟩=Z0 c:=
 ⟨_,rfl,bA _ _,nblk_alloc _ _,by simp,by simp,by simp⟩
theorem Nr (regs:Int) (v:ZW) (P:List St) (V ci:Nat) (D:List (List Nat)) (gone:Nat) (w:ZX) (h:Ps .u8 w v P) (hP:∀ s∈P,yN s) (Y:In w V D gone) (xd:V<w.heap.size) (q2:∀ l∈D,l.length<=100000) (L:P.length<=5000) :
 ZV ZS 152 #[.agg #[Z8 Z9 regs,v],Z6 (Z0 ⟨V,0,Z1⟩) D.length ci] w λe w'=>PQ regs P D gone w e w':=by
 obtain ⟨i0,x2,x9,xa,xb⟩:=info_parts Tryz.UE;have kf:bW w (w.alloc (Z5 #[Z8 Z9 regs,v] 210)):=bA _ _;have h0:=h.mono kf;obtain ⟨ao,c,rfl⟩:=h.slice;go_enter func152,ntmps152;go_wp2_with fail;refine (Gm regs D.length _ P _ h0).mono ?_;rintro e w1 ⟨kr,ks,M⟩;try change Below _ _ _ at M
 rw [nblk_alloc] at M;obtain ⟨p0,p1⟩:=QC M rfl;have x7:=M.size;try change Below _ _ _ at x7
 rw [nblk_alloc] at x7;have h5:=kf.trans (M.mono (by omega));by_cases K:iK regs P D.length
 . have H:=kr K;subst H;obtain ⟨⟨g0,g1,g2⟩,hy⟩:=id K;obtain ⟨r,rfl⟩:∃ r:Nat,regs=(r:Int):=⟨regs.toNat,by omega⟩;have q8:=hide K;have qp:=hide hy;have hr:∀ i,i<P.length->(bL P i).k=0->0<=(bL P i).b/\(bL P i).b<(D.length:Int):=by
    intro i hi hk;rw [dL P i hi] at *;rcases hy i hi with h|h
    . exact ⟨h.2.2.2.1,h.2.2.2.2⟩
    . omega
   have q4:r<=32:=(by omega);have h1:=h.mono h5;have qc:=Y.mono h5;clear K hy kr ks h0 M kf g0 g1;go_wp2_with fail;refine (pU _ P V ci D gone w1 h1 qc q2 hr L).mono ?_;rintro e w2 ⟨kx,ky,k6⟩;have q0:=(k6.cell (block_lt_of_cell p0)).trans p0;have q1:=(k6.cell (block_lt_of_cell p1)).trans p1;have k7:=h5.trans (k6.mono (by omega));have xf:=k6.size;clear hr h1 qc p0 p1 h5 k6;by_cases E:gx P D gone
   . have H:=kx E;subst H;have qi:=Gn E;have ka:=hide E;have q6:=hide (OQ E);clear E kx ky;obtain ⟨n,F⟩:=nM (eu P D);have HN:=hide F;rw [F] at qi q6;rw [F];clear F;go_wp2_with fail;refine (yY r n w2 q4 qi).mono ?_;rintro e w3 ⟨z,T0,rfl,qe,qb,ko⟩;have x8:=ko.size;have hd:=(ko.cell (block_lt_of_cell q1)).trans q1;have qd:Rn w2 w2.heap.size P D (eU r n) n r z 0 (Z6 Z1 0 0) T0 [] w3:=⟨qe,qb,λl L=>by
      have:=YV (show l∈YX r (YX n 0) from L);rw [this];simp,mS.nil _ _ _,rfl,λp _ q hq=>by simp at hq,ko,x8⟩
     have qa:=hide qd;clear qd qe qb q0 q1;go_wp2;clear hd;go_loopw [10,37] (λvO iv wr=>TA w2 w2.heap.size P D (eU r n) n r z vO iv wr) (λ_ iv _=>P.length-(intOf iv).toNat)
     case atStart=>exact ⟨0,T0,[],Yl _,rfl,qa.out⟩
     case round=>
      clear qa;rename ZX=>wo;obtain ⟨k,T,O,hk,rfl,Z⟩:=hrel;have xh:=Z.size;have kp:=k7.trans (Z.below.mono (by omega));by_cases J:k<P.length
      . rcases (h.mono kp).cases with ⟨rfl,_⟩|⟨b,off,cc,e,_,hc⟩
        . simp at J
        simp at e;obtain ⟨rfl,rfl⟩:=e;obtain ⟨d0,d1,d2,d3⟩:=hc k J;have hy:=qp.out k J;unfold iJ at hy;have qh:=hP _ (XQ J);have k9:=dL P k J;have C:=hide (Lt P D (eU r n) k);have hm:=hide (No P D (eU r n) k);have hs:=hide (Np P D (eU r n) k);have kb:=hide (ka.out k J);have k0:=hide (q6.out k J);have h4:Hid (Mz P D gone k↔((bL P k).k=0->¬ oG gone (bL P k).b.toNat/\fl P D (k+1)=Z0 (D.getD (bL P k).b.toNat []).length/\(D.getD (bL P k).b.toNat []).length<=4096)):=Iff.rfl;rw [k9] at C hm hs k0 h4;have qn:=hide (Y.mono kp);have HC:=hide hc;have u:=hide Z;have HI:=hide Y;have HH:=hide h;have xc:=hide hP;clear hc Z Y h hP k9;have qj:=qh.2.2.2.2.2;clear qh;generalize P[k].k=sk at *;generalize P[k].a=sa at *;generalize P[k].b=sb at *;generalize P[k].c=N at *;obtain ⟨d,hz,B,xg,b1,b2,b3⟩:=R8 wo (Z8 .u8 (sk:Int)) (Z8 Z9 sa) (Z8 Z9 sb) (Z8 .u8 (N:Int)) 284;have ki:=hide (u.out.next B);rcases hy with ⟨kz,a0,a1,x0,x1⟩|⟨x3,a0,a1,x0,x1,xe⟩
        . obtain ⟨A,rfl⟩:∃ A:Nat,sa=(A:Int):=⟨sa.toNat,by omega⟩;obtain ⟨X,rfl⟩:∃ X:Nat,sb=(X:Int):=⟨sb.toNat,by omega⟩;have hA:A<r:=(by omega);have hX:X<D.length:=(by omega);obtain ⟨g,I,o,y,t,G,t5,t6,t7,t8,t9⟩:=u.out.Wf A hA;replace o:=(B.cell (block_lt_of_cell o)).trans o
          replace y:=y.below B
          rw [X4,X4] at C;rw [X4] at hs;rcases kz with rfl|rfl
          . have h6:Hid (wo.alloc (Z5 #[Z8 .u8 0,Z8 Z9 (A:Int),Z8 Z9 (X:Int),Z8 .u8 (N:Int)] 284)=d):=hz;have qg:D.getD X []=D[X]:=(by simp [hX]);have q3:=h4.out.1 kb.out rfl;have kg:=k0.out rfl;rw [X4,qg] at q3 kg;rw [qg] at C;obtain ⟨ax,cx,u1,u2⟩:=(qn.out X hX).2 q3.1;have Q:=(B.cell (block_lt_of_cell u1)).trans u1;have hb:=u2.mono B;have qk:∀ x∈D[X],x<256:=by
             obtain ⟨_,_,_,_,_,h,_⟩:=u2;exact h
            obtain ⟨wc,hh,ke,f⟩:=J5 d.drew 3 g n n _ D[X] (Z0 ax) cx y hb kg t;have HW:=hide ((ki.out.next (show bW d d.drew from ⟨rfl,rfl,rfl,XN _,λ_ _=>rfl⟩)).write I t f ke kg qk (C.out rfl).1 (C.out rfl).2);rw [kg] at Q hh;have kj:=hide hh;have z1:=f.cell (show d.drew.cell? ⟨wo.heap.size,1,Z1⟩=_ from b1) (by simp;omega);have z2:=f.cell (show d.drew.cell? ⟨wo.heap.size,2,Z1⟩=_ from b2) (by simp;omega);have z3:=f.cell (show d.drew.cell? ⟨z,A,Z1⟩=_ from o) (by simp;omega);have z4:=f.cell (show d.drew.cell? ⟨V,X,Z1⟩=_ from Q) (by simp;omega);clear hh ke f u1 u2 hb I y t G C hm hs kb k0 h4 q3 qk hz;go_wp2;rw [h6.out];go_region_held3 (λw'=>w'.cell? ⟨wo.heap.size,1,Z1⟩=Z0 (Z8 Z9 (A:Int))/\w'.cell? ⟨wo.heap.size,2,Z1⟩=Z0 (Z8 Z9 (X:Int))/\w'.cell? ⟨z,A,Z1⟩=Z0 (Z6 (Z0 ⟨g,0,Z1⟩) n n)/\w'.cell? ⟨V,X,Z1⟩=Z0 (Z6 (Z0 ax) n cx)) (first|exact ⟨b1,b2,o,Q⟩|exact ⟨z1,z2,z3,z4⟩) (refine Gy rfl (Z3 49) (Z3 54) rfl _ _ _ rfl rfl kj.out ?_);go_wp2;go_roundw
            case rel=>
             obtain ⟨T',km⟩:=HW.out;exact ⟨k+1,T',O,by omega,by go_num,km⟩
            case measure=>simp [intOf];omega
          . have h6:Hid (wo.alloc (Z5 #[Z8 .u8 2,Z8 Z9 (A:Int),Z8 Z9 (X:Int),Z8 .u8 (N:Int)] 284)=d):=hz;have hv:=ki.out.next (show bW d d.drew from ⟨rfl,rfl,rfl,XN _,λ_ _=>rfl⟩);have hol:=hv.Wg;have kv:=Dr ⟨g,0,Z1⟩ n _ d.drew (by have:=Bs.Uj (n:=n) (show aL d.drew g _ from y) (by omega) (by omega) G;rw [XX (by omega),t] at this;rw [t];exact this) (by omega);rw [t] at kv;have qm:=hide kv;have k5:=hide hv;have q9:=hide (hs.out rfl);have kc:=hide t;have kk:=hide G;have q7:=hide (λj hj=>(u.out.outs.own.lt j hj).2);have qo:=hide (ub u.out.TQ.own u.out.outs.own);have z1:d.drew.cell? ⟨wo.heap.size,1,Z1⟩=Z0 (Z8 Z9 (A:Int)):=b1;have z2:d.drew.cell? ⟨wo.heap.size,2,Z1⟩=Z0 (Z8 Z9 (X:Int)):=b2;have z3:d.drew.cell? ⟨z,A,Z1⟩=Z0 (Z6 (Z0 ⟨g,0,Z1⟩) n n):=o;clear kv hv I y t G C hm hs kb k0 h4 hz;go_wp2;rw [h6.out];go_region_held3 (λw'=>w'.cell? ⟨wo.heap.size,1,Z1⟩=Z0 (Z8 Z9 (A:Int))/\w'.cell? ⟨wo.heap.size,2,Z1⟩=Z0 (Z8 Z9 (X:Int))/\w'.cell? ⟨z,A,Z1⟩=Z0 (Z6 (Z0 ⟨g,0,Z1⟩) n n)) (first|exact ⟨b1,b2,o⟩|exact ⟨R,S,U⟩|exact ⟨((bA _ _).cell (block_lt_of_cell R)).trans R,((bA _ _).cell (block_lt_of_cell S)).trans S,((bA _ _).cell (block_lt_of_cell U)).trans U⟩|exact ⟨qr,xi,xj⟩)
             (first
              | (go_at_call 173;refine qm.out.mono ?_;rintro e wd ⟨bd,m,rfl,qy,qv,x6,W⟩
                 have R:=(W.cell (block_lt_of_cell z1)).trans z1;have S:=(W.cell (block_lt_of_cell z2)).trans z2;have U:=(W.cell (block_lt_of_cell z3)).trans z3)
              | (refine step_append_lies _ rfl (Z3 73) (Z3 83) 248 rfl w2.heap.size 252 i0 (.agg #[Z8 Z9 0,Z6 Z1 0 0]) 2 32 underlying248 x2 x9 xa xb rfl (by decide) u10 O.length (pY O) rfl ((k5.out.next W).next (bA _ _)).outs.own ⟨wd.heap.size,0,Z1⟩ 1 1 [Z8 Z9 (X:Int),Z6 (Z0 ⟨bd,0,Z1⟩) n (n+m)] rfl rfl (Nq _ _ rfl _ _ _) (by intro q hq;simp at hq;rcases hq with rfl|rfl<;>rfl) (by omega) (by unfold maxLen;omega) (by omega) (by have:=((k5.out.next W).next ((Below.refl _ _).alloc lR (Z5 #[Z8 Z9 (X:Int),Z6 (Z0 ⟨bd,0,Z1⟩) n (n+m)] 252))).size;exact this) _ rfl ?_;intro g5 xk w5 k8 h8 qx x5
                 have qr:=h8.cell (((bA _ _).cell (block_lt_of_cell R)).trans R) (λe=>by have:=q7.out _ e.symm;simp at this);have xi:=h8.cell (((bA _ _).cell (block_lt_of_cell S)).trans S) (λe=>by have:=q7.out _ e.symm;simp at this);have xj:=h8.cell (((bA _ _).cell (block_lt_of_cell U)).trans U) (λe=>qo.out e.symm)))
            go_wp2;go_roundw
            case rel=>exact ⟨k+1,T,_,by omega,by go_num,k5.out.put W qy qv kc.out (by omega) x6 kk.out h8 k8 q9.out.1 q9.out.2⟩
            case measure=>simp [intOf];omega
        . obtain ⟨A,rfl⟩:∃ A:Nat,sa=(A:Int):=⟨sa.toNat,by omega⟩;obtain ⟨X,rfl⟩:∃ X:Nat,sb=(X:Int):=⟨sb.toNat,by omega⟩;have hA:A<r:=(by omega);have hX:X<r:=(by omega);have qs:A≠X:=(by omega);obtain ⟨g,I,o,y,t,G,t5,t6,t7,t8,t9⟩:=u.out.Wf A hA;obtain ⟨g',qf,s1,s2,s3,s4,s5,s6,s7,s8,s9⟩:=u.out.Wf X hX;have qz:=u.out.VA I qf qs;replace o:=(B.cell (block_lt_of_cell o)).trans o
          replace y:=y.below B
          replace s1:=(B.cell (block_lt_of_cell s1)).trans s1
          replace s2:=s2.below B
          rw [X4,X4] at hm;subst x3;have h6:Hid (wo.alloc (Z5 #[Z8 .u8 1,Z8 Z9 (A:Int),Z8 Z9 (X:Int),Z8 .u8 (N:Int)] 284)=d):=hz;have hv:=ki.out.next (show bW d d.drew from ⟨rfl,rfl,rfl,XN _,λ_ _=>rfl⟩);have kh:=hide (zI g g' n N _ _ d.drew qj y s2 t s3 qz G s4 (by omega));have k5:=hide hv;have q5:=hide (hm.out rfl);have qq:=hide I;have kc:=hide t;have kk:=hide G;have z1:d.drew.cell? ⟨wo.heap.size,1,Z1⟩=Z0 (Z8 Z9 (A:Int)):=b1;have z2:d.drew.cell? ⟨wo.heap.size,2,Z1⟩=Z0 (Z8 Z9 (X:Int)):=b2;have z3:d.drew.cell? ⟨wo.heap.size,3,Z1⟩=Z0 (Z8 .u8 (N:Int)):=b3;have z4:d.drew.cell? ⟨z,A,Z1⟩=Z0 (Z6 (Z0 ⟨g,0,Z1⟩) n n):=o;have z5:d.drew.cell? ⟨z,X,Z1⟩=Z0 (Z6 (Z0 ⟨g',0,Z1⟩) n n):=s1;clear hv I qf y t G s2 s3 s4 C hm hs kb k0 h4 hz;go_wp2;rw [h6.out];go_region_held3 (λw'=>w'.cell? ⟨wo.heap.size,1,Z1⟩=Z0 (Z8 Z9 (A:Int))/\w'.cell? ⟨wo.heap.size,2,Z1⟩=Z0 (Z8 Z9 (X:Int))/\w'.cell? ⟨wo.heap.size,3,Z1⟩=Z0 (Z8 .u8 (N:Int))/\w'.cell? ⟨z,A,Z1⟩=Z0 (Z6 (Z0 ⟨g,0,Z1⟩) n n)/\w'.cell? ⟨z,X,Z1⟩=Z0 (Z6 (Z0 ⟨g',0,Z1⟩) n n)) (first|exact ⟨b1,b2,b3,o,s1⟩|exact ⟨R,S,U,y4,y5⟩)
           (first
            | (go_at_call 91;refine kh.out.mono ?_;rintro e wc ⟨rfl,ke,f⟩
               have R:=f.cell z1 (by simp;omega);have S:=f.cell z2 (by simp;omega);have U:=f.cell z3 (by simp;omega);have y4:=f.cell z4 (by simp;omega);have y5:=f.cell z5 (by simp;omega)))
          go_wp2;go_roundw
          case rel=>
           obtain ⟨T',km⟩:=k5.out.write qq.out kc.out f ke (by rw [tZ];exact kc.out) (Hi kk.out qj) q5.out.1 q5.out.2;exact ⟨k+1,T',O,by omega,by go_num,km⟩
          case measure=>simp [intOf];omega
      . have x4:k=P.length:=(by omega);subst x4;have u:=hide Z;clear Z h hP Y;go_wp2;go_ret2;refine ⟨λ_ _=>⟨_,O,rfl,u.out.outs.weaken (by omega),?_⟩,λ_ L=>absurd ka.out L,λF=>absurd q8.out F,kp⟩;rw [HN.out,X4];exact u.out.vals
   . have H:=ky E;subst H;have ka:=hide E;clear E kx ky;go_wp2;go_ret2;exact ⟨λ_ L=>absurd L ka.out,λ_ _=>rfl,λF=>absurd q8.out F,k7⟩
 . have H:=ks K;subst H;have HN:=hide K;clear K kr ks h0 h hP Y M kf;go_wp2;go_ret2;exact ⟨λhp=>absurd hp HN.out,λhp=>absurd hp HN.out,λ_=>rfl,h5⟩
structure Oe (w wx:ZX) (O:List (Int×Nat×Nat×List Nat)) (gg:Nat):Prop where
 ge:w.heap.size<=gg
 lt:gg<wx.heap.size
 cells:∀ i (hi:i<O.length),wx.cell? ⟨gg,i*2,Z1⟩=Z0 (Z8 Z9 O[i].1)/\wx.cell? ⟨gg,i*2+1,Z1⟩=Z0 (lB O[i].2)
 row:∀ q∈O,w.heap.size<=q.2.1/\aL wx q.2.1 q.2.2.2/\q.2.2.1<=q.2.2.2.length/\∀ x∈q.2.2.2,x<256
 below:bW w wx
theorem Lv {P:List St} {Ms:List (Int×List Nat)} (D:Ps .u8 w vp P) (z:∀ s∈P,yN s) (x:In w g Dl lost) (B:g<w.heap.size) (y:Dl.length=N) (o:∀ l∈Dl,l.length<=100000) (C:P.length<=5000) (u:iK regs P N) (r:gx P Dl lost) (ho:dn P Dl (eU regs.toNat (eu P Dl)) P.length=Ms) (i:Ms≠[]) :
 ZV ZS 152 #[.agg #[Z8 Z9 regs,vp],Z6 (Z0 ⟨g,0,Z1⟩) N N] w λe w'=>∃ O b cap,e=Z4 (.tuple #[Z6 (Z0 ⟨b,0,Z1⟩) O.length cap,.nilIface])/\O.map (λq=>(q.1,q.2.2.2.take q.2.2.1))=Ms/\Oe w w' O b:=by
 subst y;refine (Nr regs vp P g Dl.length Dl lost w D z x B o C).mono ?_;rintro e w' ⟨n,_,_,A⟩;obtain ⟨v,O,rfl,f,c⟩:=n u r;rw [ho] at c;rcases f.cases with ⟨d,_⟩|⟨b,cap,rfl,j⟩
 . rw [d] at c;exact absurd c.symm i
 . have p:O≠[]:=λq=>i (by rw [<- c,q];rfl);have t:b<w'.heap.size:=block_lt_of_cell (j 0 (List.length_pos_iff.2 p)).1;refine ⟨O,b,cap,rfl,c,?_,t,j,λq E=>?_,A⟩
   . rcases f.own.2 with ⟨d,_⟩|⟨G,F,cur,a,h,_⟩
     . cases d
     . injection a with a;injection a with a;injection a with a;omega
   . obtain ⟨a,h,k,_,m⟩:=f.row q E;exact ⟨a,h,k,m⟩
def Fd (f0 f:Nat->ZW) (O:List (Int×Nat×Nat×List Nat)) (k:Nat):Prop:=(∀ i:Nat,(∀ q∈O.take k,q.1≠(i:Int))->f i=f0 i)/\∀ i:Nat,(∃ q∈O.take k,q.1=(i:Int))->∃ q∈O,q.1=(i:Int)/\f i=lB q.2
def R9 (w2:ZX) (r v b g N gone sp:Nat) (f0:Nat->ZW) (O:List (Int×Nat×Nat×List Nat)) (iv:ZW) (wr:ZX):Prop:=∃ k:Nat,k<=O.length/\iv=Z8 Z9 k/\∃ f,wr.rowIs g 34 N f/\Fd f0 f O k/\ew wr r v b g N gone sp/\aa (λk=>k=g) w2 wr
theorem Fd.step {f0:Nat->ZW} {d:Nat} (h:Fd f0 f O k) (g:k<O.length) (c:O[k].1=(d:Int)):Fd f0 (λi=>if i=d then lB O[k].2 else f i) O (k+1):=by
 have j:O.take (k+1)=O.take k++[O[k]]:=by rw [YJ,XO g];rfl
 constructor
 . intro i b;rw [j] at b;have l:i≠d:=λe=>b O[k] (Ym _ (Yy.2 rfl)) (by rw [c,e]);show (if i=d then _ else f i)=f0 i;rw [if_neg l];exact h.1 i λq a=>b q (Yb _ a)
 . rintro i ⟨q,a,e⟩;show ∃ q∈O,q.1=(i:Int)/\(if i=d then lB O[k].2 else f i)=lB q.2;by_cases b:i=d
   . rw [if_pos b];exact ⟨O[k],XQ g,by rw [c,b],rfl⟩
   . rw [if_neg b];rw [j] at a;rcases XP.1 a with a|a
     . exact h.2 i ⟨q,a,e⟩
     . rw [Yy] at a;rw [a,c] at e;exact absurd (YG e).symm b
structure PR (w:ZX) (r v b g N gone sp:Nat) (f:Nat->ZW) (M:List Nat) (R:Nat->List Nat) (w':ZX):Prop where
 rd:ew w' r v b g N gone sp
 row:∃ f',w'.rowIs g 34 N f'/\(∀ i,i∉M->f' i=f i)/\∀ i,i∈M->∃ bl m l,f' i=Z6 (Z0 ⟨bl,0,Z1⟩) m l.length/\w.heap.size<=bl/\m<=l.length/\aL w' bl l/\l.take m=R i/\∀ x∈l,x<256
 out:aa (λk=>k=g) w w'
theorem Lw {P:List St} {ao:Option Addr} {pm pc:Nat} {v:Nat} {M:List Nat} (Z:ew w r v b g N gone sp) (K:w.rowIs g 34 N f) (kz:r≠g) (hp:Ps .u8 w (.slice ao pm pc) P) (hP:∀ s∈P,yN s) (hI:In w g Dl lost) (hN:Dl.length=N) (k6:∀ l∈Dl,l.length<=100000) (hl:P.length<=5000) (J:iK regs P N) (kj:gx P Dl lost) (ho:dn P Dl (eU regs.toNat (eu P Dl)) P.length=M.map (λd:Nat=>((d:Int),R d))) (hM:M≠[]) (km:∀ d∈M,d<N) (q4:M.length<=16) :
 ZV ZS 128 #[Z7 (Z0 ⟨r,0,Z1⟩),.agg #[Z8 Z9 regs,.slice ao pm pc]] w λe w'=>e=Z4 .nilIface/\PR w r v b g N gone sp f M R w':=by
 obtain ⟨w1,ke⟩:=nM (w.alloc (Z5 #[Z8 Z9 regs,.slice ao pm pc] 210));have a:bW w w1:=by rw [<- ke];exact bA w _
 have kf:w1.heap[w.heap.size]?=Z0 (Z5 #[Z8 Z9 regs,.slice ao pm pc] 210 (0,0)):=by rw [<- ke];exact blk_alloc_new _ _
 have k0:w1.cell? ⟨w.heap.size,0,Z1⟩=Z0 (Z8 Z9 regs):=by simp [World.cell?,kf]
 have k1:w1.cell? ⟨w.heap.size,1,Z1⟩=Z0 (.slice ao pm pc):=by simp [World.cell?,kf]
 have E:=Z.keep (a.block _ Z.lt);have I:=K.of_block (a.block _ K.lt);have cs:=E.cells.2.2.1;have k7:=Lv (w:=w1.drew) (hp.mono a.drew) hP (hI.mono a.drew) (YY K.lt a.size) hN k6 hl J kj ho (λq=>hM (List.map_eq_nil_iff.1 q));have HG:=hide (show g<w1.heap.size from YY K.lt a.size);have H:=hide4 a E I k7;clear Z K hp hI a kf E I k7 J kj ho k6 hP hM;go_enter func128,ntmps128;go_upto_region 1 with fail;go_cut [5,6] from 9 to 17 (λv5 v6 wx=>∃ O n cap,v5=Z6 (Z0 ⟨n,0,Z1⟩) O.length cap/\v6=.nilIface/\O.map (λq=>(q.1,q.2.2.2.take q.2.2.1))=M.map (λd:Nat=>((d:Int),R d))/\Oe w1.drew wx O n)
 case first=>
  go_region_with (go_at_call 152;refine H.out.2.2.2.mono ?_;rintro e w2 ⟨O,n,cap,rfl,u,z⟩;have c:=hide2 u z;clear u z);all_goals (go_wp2_with fail;go_meet;case rel=>exact ⟨O,n,cap,rfl,rfl,c.out.1,c.out.2⟩)
 case rest=>
  rename ZX=>w2;clear k0 k1 cs ke;obtain ⟨O,n,cap,rfl,rfl,u,z⟩:=hcut;obtain ⟨a,E,I,_⟩:=H.out;have U:bW w1 w2:=((Below.refl _ w1).drew).trans z.below;have kk:=E.keep (U.block _ E.lt);have hf:=I.of_block (U.block _ I.lt);have kg:O.length=M.length:=by have:=congrArg List.length u;simpa using this
  have q5:O.length<=16:=by omega
  have Q:∀ k (Y:k<O.length),∃ d,d∈M/\O[k].1=(d:Int)/\O[k].2.2.2.take O[k].2.2.1=R d:=λk Y=>by
   have e:=congrArg (λl=>l[k]?) u;simp only [X2,XO Y,XO (show k<M.length by omega),YZ,Yd,Y3] at e;exact ⟨M[k],XQ _,e.1,e.2⟩
  have c:=hide7 z kk hf (a.trans (U.mono a.size)) u kg Q;clear z a E I U kk hf u Q;go_wp2;go_loopw [20] (λiv wr=>R9 w2 r v b g N gone sp f O iv wr) (λiv _=>O.length-(intOf iv).toNat)
  case atStart=>exact ⟨0,Yl _,rfl,f,c.out.2.2.1,⟨λ_ _=>rfl,λi ⟨q,L,_⟩=>by cases L⟩,c.out.2.1,aa.refl _ _⟩
  case round=>
   rename ZX=>wo;obtain ⟨k,Y,rfl,fk,y,o,F,B⟩:=hrel;by_cases kc:k<O.length
   . obtain ⟨d,ka,D,_⟩:=c.out.2.2.2.2.2.2 k kc;have kp:=km d ka;obtain ⟨q0,q1⟩:=c.out.1.cells k kc;have kh:=HG.out;have kr:n≠g:=(by have:=c.out.1.ge;have:w1.drew.heap.size=w1.heap.size:=rfl;omega);have k5:=c.out.1.lt;have J:=B.block n k5 kr;have d0:wo.cell? ⟨n,k*2,Z1⟩=Z0 (Z8 Z9 (d:Int)):=(World.cell?_of_block J).trans (by rw [q0,D]);have d1:wo.cell? ⟨n,k*2+1,Z1⟩=Z0 (lB O[k].2):=(World.cell?_of_block J).trans q1;have C:=o.step kc D;obtain ⟨hv,kb⟩:=nM (lB O[k].2);rw [kb] at d1 C;obtain ⟨p,x,t,q2⟩:∃ p x t,hv=.slice p x t:=⟨_,_,_,kb.symm⟩;subst q2;have V:bW wo (wo.alloc (Z5 #[Z8 Z9 (d:Int),.slice p x t] 252)):=bA wo _;have G:(wo.alloc (Z5 #[Z8 Z9 (d:Int),.slice p x t] 252)).heap[wo.heap.size]?=Z0 (Z5 #[Z8 Z9 (d:Int),.slice p x t] 252 (0,0)):=blk_alloc_new _ _;have m:=F.keep (V.block _ F.lt);have h:=y.of_block (V.block _ y.lt);have A:aa (λk=>k=g) w2 (wo.alloc (Z5 #[Z8 Z9 (d:Int),.slice p x t] 252)):=B.trans (aa.TG V _);obtain ⟨w3,S⟩:=nM (wo.alloc (Z5 #[Z8 Z9 (d:Int),.slice p x t] 252));have q6:=y.lt;have T:=hide6 m h A G C S;clear o C q0 q1 J kb V G m h A F y B D kh k5 S;go_wp2;obtain ⟨m,h,A,G,C,S⟩:=T.out;rw [S] at m h A G ⊢;have k0:w3.cell? ⟨wo.heap.size,0,Z1⟩=Z0 (Z8 Z9 d):=(by simp [World.cell?,G]);have k1:w3.cell? ⟨wo.heap.size,1,Z1⟩=Z0 (.slice p x t):=(by simp [World.cell?,G]);have cs:=m.cells.2.2.1;have cg:=h.cell (i:=d) kp;have fg:=h.frozen d;have H4:=hide4 m h A C;clear m h A G C S T d0 d1;go_region;go_wp2;go_roundw
     case rel=>
      obtain ⟨m,h,A,C⟩:=H4.out;have hO:aa (λk=>k=g) w3 (w3.setCell ⟨g,d,Z1⟩ (.slice p x t)):=aa.setCell _ _ _ rfl;exact ⟨k+1,by omega,by go_num,_,h.set d _,C,m.keep (hO.block _ m.lt kz),A.trans (hO.trans (aa.drew _))⟩
     case measure=>simp [intOf]<;>omega
   . have kv:k=O.length:=(by omega);subst kv;have T:=hide4 y o F B;clear y o F B;go_wp2;go_ret;obtain ⟨y,o,F,B⟩:=T.out;obtain ⟨z,_,_,ko,u,kg,Q⟩:=c.out;unfold Fd at o;rw [YP] at o;have q3:=H.out.1.size;refine ⟨rfl,F,⟨fk,y,λi W=>o.1 i λq L e=>?_,λi W=>?_⟩,(aa.TG ko _).trans B⟩
     . obtain ⟨j,X,rfl⟩:=Yr L;obtain ⟨d,ka,D,_⟩:=Q j X;rw [D] at e;exact W (YG e▸ka)
     . obtain ⟨j,X,rfl⟩:=Yr W;have ks:j<O.length:=(by omega);have kx:O[j].1=((M[j]:Nat):Int):=by
        have e:=congrArg (λl=>l[j]?) u;simp only [X2,XO ks,XO X,YZ,Yd,Y3] at e;exact e.1
       obtain ⟨q,L,e1,e2⟩:=o.2 M[j] ⟨O[j],XQ _,kx⟩;obtain ⟨j2,ki,rfl⟩:=Yr L;obtain ⟨d,_,D,ky⟩:=Q j2 ki;rw [D] at e1;obtain ⟨r1,r2,r3,r4⟩:=z.row _ (XQ ki);have kh:=HG.out;have q7:w1.drew.heap.size=w1.heap.size:=rfl;exact ⟨_,_,_,e2,by omega,r3,World.rowIs.of_block r2 (B.block _ (aL.lt r2) (by omega)),by rw [ky,YG e1],r4⟩
def ay.rdTo (A:ay) (k:Nat):ay:=A.rd λi=>if i<k then 0 else A.reads i
def uF (A:ay) (k:Nat):List ZW:=(XS k).map λi=>Z8 Z9 (A.reads i)
def Ia (A:ay) (k:Nat):uF A (k+1)=uF A k++[Z8 Z9 (A.reads k)]:=by simp [uF,List.range_succ]
theorem Ib (A:ay) (k:Nat):(A.rdTo k).TI k 0=A.rdTo (k+1):=by
 unfold ay.rdTo ay.TI ay.rd;congr 1;funext i;show (if i=k then (0:Int) else if i<k then 0 else A.reads i)=if i<k+1 then 0 else A.reads i;by_cases h:i=k
 . rw [if_pos h,if_pos (by omega)]
 . rw [if_neg h];by_cases q:i<k
   . rw [if_pos q,if_pos (by omega)]
   . rw [if_neg q,if_neg (by omega)]
def aA.VS {X:ZX} {A:ay} (h:aA X p (A.rdTo A.n) F):aA X p (A.rd λ_=>0) F:=by
 refine ⟨h.top,?_,h.blk,h.bad,h.inj⟩;obtain ⟨cs,c,d⟩:=h.Vt;refine ⟨cs,c,λk a=>?_⟩;rw [d k a];unfold mO;have b:k/4<A.n:=by have:k<4*A.n:=a;omega
 show Z0 (if k%4=0 then Value.bool (A.lost (k/4)) else if k%4=1 then _ else if k%4=2 then _ else Z8 Z9 (if k/4<A.n then 0 else A.reads (k/4)))=_;rw [if_pos b];rfl
def Nn {wr:ZX} {B:ay} {o:Obj} {lv:ZW} (d:aA wr p B F) (g:wr.ownsRow base 3 1 lv k xs) (a:(wr.alloc o).grownBy w' lv.ownBlock) (f:∀ j,F.has p B.n j->j<base) (i:base<=wr.heap.size):aA w' p B F/\aa (λj=>base<=j) wr w':=by
 have h:wr.heap.size<=w'.heap.size:=by have:=a.size;rw [World.size_alloc] at this;omega
 have c:∀ j,j<base->w'.heap[j]?=wr.heap[j]?:=λj b=>(a.block j (by rw [World.size_alloc];omega) (λe=>by have:=gJ g e.symm;omega)).trans (blk_alloc_lt _ _ _ (by omega));exact ⟨d.keep λj b=>c j (f j b),a.os,a.tape,a.output,h,λj _ l=>c j (by omega)⟩
def SW (w:ZX) (p:Nat) (A:ay) (F:bh) (lv iv:ZW) (wr:ZX):Prop:=∃ k:Nat,k<=A.n/\iv=Z8 Z9 k/\wr.ownsRow w.heap.size 3 1 lv k (uF A k)/\aA wr p (A.rdTo k) F/\aa (F.has p A.n) w wr
theorem Eu {A:ay} (h:aA w p A F) (hn:A.n<=1000) :
 ZV ZS 10 #[Z7 (Z0 ⟨p,0,Z1⟩)] w λe w'=>∃ v,e=Z4 v/\w'.ownsRow w.heap.size 3 1 v A.n (uF A A.n)/\aA w' p (A.rd λ_=>0) F/\aa (F.has p A.n) w w':=by
 obtain ⟨V,M,P,Q,T⟩:=info_parts Tryz.Uu;obtain ⟨m,_⟩:=h.TS;have hv:=h.VE;have hr:=h.VO;have hp:=h.apart.1;have y:SW w p A F (Z6 Z1 0 0) (Z8 Z9 (0:Nat)) w:=⟨0,Yl _,rfl,World.ownsRow_nil _ _ _ _,by
  have e:A.rdTo 0=A:=by unfold ay.rdTo ay.rd;simp
  rw [e];exact h,aa.refl _ _⟩
 have H:=hide2 y (λj (R:F.has p A.n j)=>h.TH R);clear y h;go_enter func10,ntmps10;go_wp2;go_loopw [3,10] (λW r wr=>SW w p A F W r wr) (λ_ r _=>A.n-(intOf r).toNat)
 case atStart=>exact H.out.1
 case round=>
  clear m;rename ZX=>wr;obtain ⟨k,hk,rfl,d,b,a⟩:=hrel;have C:=a.size;by_cases z:k<A.n
  . obtain ⟨m,_⟩:=b.TS;obtain ⟨I,d1,J,s⟩:=b.Ud k z;have o:wr.cell? ⟨F.g,k*4+3,Z1⟩=Z0 (Z8 Z9 (A.reads k)):=by
     rw [s];show Z0 (Value.int .i64 (if k<k then 0 else A.reads k))=_;rw [if_neg (Nat.lt_irrefl k)]
    obtain ⟨x,l⟩:=nM (A.reads k);rw [l] at o;have f:=hide4 d b a l;clear I d1 J s l b a;have t:(A.rdTo k).n=A.n:=rfl;rw [t] at m;clear t;go_wp2_with (at_builtin;refine wpList_append_own_at _ rfl (Z3 13) (Z3 22) 41 rfl w.heap.size 3 V (Z8 Z9 0) 1 8 underlying41 M P Q T rfl (by decide) _ k _ rfl (d.alloc _) ⟨wr.heap.size,0,Z1⟩ 1 1 _ rfl rfl (sH wr _ _) (by intro u E;simp at E;subst E;rfl) (by unfold maxLen;omega) (by omega) (by simp;omega) ?_;intro X w' ho D K L;obtain ⟨c,i⟩:=Nn f.out.2.1 f.out.1 D H.out.2 C;obtain ⟨Y,_⟩:=c.TS;have y3:=(c.Ud k z).2.2.2;have yf:=c.Ug (k*4+3);rw [show (A.rdTo k).n=A.n from rfl] at Y;have G:=hide3 ho c i;clear ho D K L c i);go_roundw
    case rel=>
     obtain ⟨ho,c,i⟩:=G.out;obtain ⟨_,_,a,l⟩:=f.out;have B:=c.TI k 0;rw [Ib] at B;have hs:w.heap.size<=w'.heap.size:=XK C i.size;have O:X.ownBlock≠Z0 F.g:=λe=>by have:=gJ ho e;omega
     refine ⟨k+1,by omega,by go_num,?_,B,?_⟩
     . rw [Ia,l];exact dA ho (aa.setCell (S:=λj=>j=F.g) _ ⟨F.g,k*4+3,Z1⟩ _ rfl) (λq U e=>O (e▸U))
     . exact (a.later i (λj Z h2=>by omega)).trans (aa.setCell _ _ _ (.inr (.inl rfl)))
    case measure=>simp [intOf]<;>omega
  . have N:k=A.n:=(by omega);subst N;have f:=hide3 d b a;clear d b a;go_wp2;go_ret;obtain ⟨d,b,a⟩:=f.out;exact ⟨_,rfl,d,b.VS,a⟩
def Ev {A:ay} (h:aq w p A F) (g:A.n<=1000) :
 ZV ZS 10 #[Z7 (Z0 ⟨p,0,Z1⟩)] w λe w'=>∃ v,e=Z4 v/\w'.ownsRow w.heap.size 3 1 v A.n (uF A A.n)/\aq w' p (A.rd λ_=>0) F/\aa (F.has p A.n) w w':=by
 obtain ⟨R,d,b,a⟩:=h;refine (Eu d (by rw [a.n];exact g)).mono ?_;rintro e w' ⟨v,rfl,ho,f,c⟩;rw [a.n] at ho c;have e:uF R A.n=uF A A.n:=by unfold uF;rw [a.reads]
 rw [e] at ho;exact ⟨v,rfl,ho,⟨_,f,⟨b.n,b.nb,b.len,b.byt⟩,⟨a.n,a.nb,a.wait,a.lost,rfl,a.here⟩⟩,c⟩
