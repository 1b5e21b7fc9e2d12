import Derived.Test.YthibhmemkhmocaaGreatDoorM05
import Derived.Lib.AppendZerosOnto
import Derived.Laws.Cover1
import Derived.Lib.UnsafeStr
import Derived.Lib.Overlaps
import Derived.Laws.Externs
import Derived.Shelf.RegionOpenPlain
import Derived.RangeFuncRecord
import Derived.Deep.RegionHeld3
import Derived.Laws.BytesString
import Derived.Laws.CopyRow
import Derived.Laws.IdiomStrings
set_option maxRecDepth 100000
set_option linter.all false
set_option maxHeartbeats 8000000
open Go.IntKind renaming i64 -> Z9, u64 -> Z8
open Go.Value renaming int -> Z7, pointer -> Z6, slice -> Z5, bool -> Z1, string -> ZZ, tuple -> ZY
open Go.Obj renaming cells -> Z4
open Go.Ending renaming returned -> Z3
open Go.Operand renaming tmp -> Z0
open Option renaming none -> ZX, some -> ZW
open Bool renaming true -> ZV, false -> ZU
open Go renaming World -> ZT, Value -> ZS, Calls -> ZQ, Ending -> ZP, TypeId -> ZO
open Go.RowKit renaming Below -> ZR
open List renaming range -> YE, replicate -> YI, takeWhile_cons -> YJ, length -> YK, take_take -> YL, drop_sublist -> YN, drop_left -> YS, drop_eq_nil_of_le -> YT
open ByteArray renaming empty -> YF
open Exists renaming intro -> YG
open Nat renaming min -> YH, min_self -> YQ, succ_lt_succ -> YU, le_of_lt_succ -> YV, le_max_left -> YX, pos_of_ne_zero -> YY
open List.Pairwise renaming sublist -> YM
open List.Sublist renaming append -> YO, refl -> YP
open UInt8 renaming ofNat -> YR
open Array renaming toList_append -> YW, getElem?_setIfInBounds_self_of_lt -> YZ
open Go.Proofs.Tryz renaming prog -> ZN
open Go.Proofs.Tryz
namespace Go.Proofs.YthibhmemkhmocaaGreatDoor
def XR:=@List.mem_flatMap
def XS:=@Go.Src.ofNil
def Vs:=@Go.Proofs.Tryz.underlying144
def XT:=@Nat.eq_or_lt_of_le
def Yo:=@List.getElem_drop
def acb:=@List.take_add
def Yp:=@Nat.div_le_div_right
def Yq:=@Go.Lib.size_eq
def acd:=@Nat.min_eq_right
def abD:=@Nat.div_le_div_left
def ace:=@Go.Proofs.Tryz.underlying221
def Yr:=@Go.Proofs.Tryz.underlying262
def abE:=@Go.Proofs.Tryz.underlying9
def acf:=@Go.Proofs.Tryz.underlying215
end Go.Proofs.YthibhmemkhmocaaGreatDoor
namespace Go.Proofs.YthibhmemkhmocaaGreatDoor
open Go.RowKit Go.Shelf Go.Deep Gf
variable {ops:Array Oper} {a b:ByteArray} {C:Ck} {Q:Exit->Act->ZT->Prop} {lost regs room:Int} {es:List (Nat×Nat×Nat)} {ns:List ByteArray} {l P dl P' ds:a8} {cur:List ZS} {nb base n ar p D L G ps ho g c i size m k B t cap N d s bl sb q:Nat} {R:Nat->a8} {ol nw:Nat->Nat} {K K' S T:Nat->Prop} {f sv:Nat->ZS} {o:Ob} {x:Ob×ZS} {ao:Option Addr} {E:Prop} {α:Type} {e:ZO} {v u steps ne:ZS} {w w' X w2 w3:ZT}
theorem Fi (w:ZT):E6 w (Z5 ZX 0 0) []:=by
 intro W _;go_enter func142,ntmps142;go_wp2_with fail;refine (length_nil W).mono ?_;rintro e w' ⟨rfl,rfl⟩;go_wp2_with (at_make;refine cP _ rfl (.const (Z7 Z9 0)) (Z0 10) rfl _ 0 rfl rfl rfl ec ?_;intro w2 b a c);have H:=al b a;clear b a;refine VH 1 ?_;rw [Vz];go_wp2;go_ret;obtain ⟨b,a⟩:=H.o;exact ⟨_,0,rfl,⟨rfl,.inr ⟨_,0,_,rfl,TV _,b.SO,TV _,eD,rfl,rfl⟩⟩,a⟩
def bf.weaken (h:bf K w v l) (f:∀ k,K k->K' k):bf K' w v l:=by
 obtain ⟨ao,c,a,d,e⟩:=h;refine ⟨ao,c,a,d,λhl=>?_⟩;obtain ⟨b,off,g,i,j⟩:=e hl;exact ⟨b,off,g,f b i,j⟩
def IZ (h:3<=nb):(aZ (tk nb ([]++af [])).1 nb).take 1=[2]/\1<=(aZ (tk nb ([]++af [])).1 nb).length:=by
 have e:(tk nb ([]++af [])).1=λ_=>ZU:=rfl;rw [e];have a:aZ (λ_=>ZU) 3=[2]:=by simp [aZ,Vw]
 obtain ⟨r,hr⟩:=kM (λ_=>ZU) h;rw [a] at hr;rw [<- hr];exact ⟨rfl,ek⟩
def nB (A:az) (D L G:Nat):az:=(A.putAt (YE A.n) 1 (λ_=>.filled)).TQ D L G 1 [2] []
def C3 (h:w.ownsRow base 3 1 u n (jZ l)) (hl:l≠[]) (hll:l.length<=1000000) {K:Nat->Prop} (hK:∀ k,base<=k->K k):∃ g c,u=Z5 (ZW ⟨g,0,ZX⟩) l.length c/\bf K w u l:=by
 have b:n=l.length:=by have:=h.1;unfold jZ at this;rw [Ue,Wg] at this;omega
 rcases h.2 with ⟨_,j⟩|⟨g,cap,cur,a,d,e,_⟩
 . exact absurd (UW ec) hl
 . refine ⟨g,cap,by rw [a,b],ZW ⟨g,0,ZX⟩,cap,by rw [a,b],hll,λ_=>⟨g,0,rfl,hK g d,⟨_,_,_,e,ee⟩,λi f=>?_⟩⟩;have:=h.cells (g:=g) T2 i (Z7 Z9 ((l[i]:Nat):Int)) (by unfold jZ;simp [f]);rw [jG] at this;rw [Uj];exact this
theorem I0 {v:Nat} {off:Bool} {A:az} {F:aK} (J:a9 w ar v 0 0 0 0 0 0 (Z5 ZX 0 0) (Z5 ZX 0 0) off) (m:pG w v p D L G ps ho A F) (k9:¬ F.S ar) (kj:3<=A.nb) (ki:A.fine D L G) :
 ZQ ZN 94 #[Z6 (ZW ⟨ar,0,ZX⟩)] w λe w'=>e=Z3 .nilIface/\aA w' p (nB A D L G) F/\(∃ u,a9 w' ar v D L G 1 2 0 u (Z5 ZX 0 0) off/\bf (λk=>w.heap.size<=k) w' u [2])/\aa (λk=>k=ar\/F.S k) w w':=by
 obtain ⟨hr,kf,hD,hL,km,hG,kh,hy⟩:=m.par;have hn:=m.n;go_enter func94,ntmps94;go_wp2_with fail;obtain ⟨S,Z⟩:=nM (2^(D+L+G)-1);have hj:ab S=YE A.n:=by rw [<- Z,hn];exact ot hy
 have k6:S<65536:=by
  have:2^(D+L+G)<=2^16:=UY ee hy;omega
 have ke:∀ X,bW w X->ZQ ZN 118 #[Z6 (ZW ⟨v,0,ZX⟩),Z7 Z9 (1:Nat),dI .filled,Z7 Z8 S] X λe w'=>(∃ z:Nat,e=Z3 (Z7 Z8 z))/\aA w' p (A.putAt (YE A.n) 1 (λ_=>.filled)) F/\aa (F.S) w w':=λX hb=>by
  have h:=eZ (m.below hb lR) 1 S ec k6 (λi P=>by rw [hj] at P;simpa using P) .filled trivial;rw [hj] at h;exact h.mono λe w' q=>⟨⟨_,q.1⟩,q.2.1,(aa.RL hb _).trans q.2.2⟩
 have hm:=kI (m.vol.keep (w':=w.drew) rfl) m.par;rw [Z] at hm;have k0:=J.cells.1;have r:=aE ke hm J;clear ke hm Z hj k6;go_cut [16] from 5 to 15 (λ_ wx=>aA wx p (A.putAt (YE A.n) 1 (λ_=>.filled)) F/\aa (F.S) w wx)
 case first=>
  go_region_with (first
   | (go_at_call 112;refine r.o.2.1.mono ?_;rintro e w5 ⟨rfl,ka⟩;have Y:bW w w5:=((TW _ w).drew).trans ka;have j0:=(r.o.2.2.keep (Y.block _ r.o.2.2.lt)).cells.1;have H5:=ak Y;clear ka Y)
   | (go_at_call 118;refine (r.o.1 w5 H5.o).mono ?_;rintro e w6 ⟨⟨z,rfl⟩,hz,k5⟩;have H6:=al hz k5;clear hz k5))
  all_goals (go_wp2_with fail;go_meet;case rel=>exact H6.o)
 case rest=>
 rename ZT=>w1;obtain ⟨hg,f⟩:=hcut;clear k0 r;obtain ⟨E,j⟩:=nM (A.putAt (YE A.n) 1 (λ_=>.filled));obtain ⟨s,t,U⟩:E.n=A.n/\E.nb=A.nb/\E.fine D L G:=by rw [<- j];exact ⟨rfl,rfl,(dJ.put _ _ _ _).fine ki⟩
 rw [j] at hg;have d:=J.keep (f.block _ J.lt k9);have a:=m.turn f hg s;have hq:=jh d a.vol kf ec 0 ee;have hp:pgs D 0=1:=by unfold pgs;rw [Xx ec];rfl
 rw [hp] at hq;have hs:=lM d a.vol a.arr (by rw [s];omega) [] [] (bf.nil _ _) (eN.nil _ _) 1 ee;obtain ⟨y,B⟩:=IZ (nb:=E.nb) (by rw [t];exact kj);rw [y,UZ B] at hs;have T:=a7 d a f hq hs j;clear d a f hq hs j hg y B;go_wp2_with fail;refine T.o.2.2.2.1.mono ?_;rintro e w2 ⟨rfl,kk⟩;subst kk;go_wp2_with fail;refine T.o.2.2.2.2.1.mono ?_;rintro e w3 ⟨u,rfl,h8,O⟩;obtain ⟨d,a,f,_,_,j⟩:=T.o;have k8:=d.keep (O.block _ d.lt);have k7:=a.below O lR;obtain ⟨g,c,hu,hh⟩:=C3 (K:=λk=>w2.heap.size<=k) h8 ek ee (λk Q=>Q);subst hu;have M:bf (λk=>¬ F.S k) w3 (Z5 (ZW ⟨g,0,ZX⟩) [2].length c) [2]:=by
  obtain ⟨ao,W,q1,q2,q3⟩:=hh;refine ⟨ao,W,q1,q2,λhl=>?_⟩;obtain ⟨b,V,r1,r2,C⟩:=q3 hl;exact ⟨b,V,r1,λq=>e9 (a.arr.RN q),C⟩
 have kc:=nz k8 k7 U k9 ZX 0 0 [] (λx R=>by cases R) ee (Fi w3) g 0 c [2] M ek (λx R=>by simp at R;subst R;rw [t];omega) (λk Q=>by simp at Q;subst Q;simp);have H:aa (F.S) w w3:=f.trans (aa.RL O _);have H3:=a7 kc H hh a d.lt f.size;clear kc H M hh k8 k7 h8 O d a f;go_wp2_with fail;refine H3.o.1.mono ?_;rintro e w4 ⟨l,rfl,I,N⟩;have H4:=aE I N l;clear I N l;go_wp2;go_ret;obtain ⟨I,N,l⟩:=H4.o;obtain ⟨_,H,M,a,kg,hv⟩:=H3.o;refine ⟨rfl,?_,⟨_,N,?_⟩,(H.mono λ_ _ q=>.inr q).trans l⟩
 . unfold nB;rw [j];exact I
 . obtain ⟨ao,W,q1,q2,q3⟩:=M;refine ⟨ao,W,q1,q2,λhl=>?_⟩;obtain ⟨b,V,r1,r2,C,r4⟩:=q3 hl;have h7:b≠ar:=λe=>by omega
   have kb:¬ F.S b:=λq=>by have:=a.arr.RN (k:=b) q;omega
   refine ⟨b,V,r1,TU hv r2,C.keep (l.block b C.lt (λq=>q.elim h7 kb)),λi P=>?_⟩;exact (Uk (l.block b C.lt (λq=>q.elim h7 kb))).trans (r4 i P)
def GK:Ob:=⟨YF,0,[]⟩
def PQ (a b:ByteArray):Bool:=Op.bytesLess a.toList b.toList || a.toList==b.toList
def Aq (os:List Ob):Prop:=∀ i (_:i+1<os.length),PQ (os.getD (i+1) GK).name (os.getD i GK).name=ZU
def Tryz.RV:(ZN.info? 152).map (λi=>(i.zero,i.size,i.bytes))=ZW (ZW (.agg #[ZZ YF,Z7 Z9 0,Z5 ZX 0 0]),3,48):=ei
def bf.ltS (h:bf K w v l):bf (λk=>k<w.heap.size) w v l:=by
 obtain ⟨ao,c,d,e,f⟩:=h;refine ⟨ao,c,d,e,λhl=>?_⟩;obtain ⟨b,off,g,_,a,i⟩:=f hl;exact ⟨b,off,g,a.lt,a,i⟩
def eN.ltS {os:List Ob} (h:eN K w v os):eN (λk=>k<w.heap.size) w v os:=by
 obtain ⟨ao,c,d,e,f⟩:=h;refine ⟨ao,c,d,e,λhl=>?_⟩;obtain ⟨b,off,j,_,a,l⟩:=f hl;refine ⟨b,off,j,a.lt,a,λi g=>?_⟩;obtain ⟨sv,m,n,o,p⟩:=l i g;exact ⟨sv,m,n,o,p.ltS⟩
def ai (w:ZT) (g:Nat) (e:ZO) (cur:List ZS):Prop:=w.heap[g]?=ZW (Z4 cur.toArray e (0,0))
def ai.lt (h:ai w g e cur):g<w.heap.size:=(TX.1 h).1
def ai.cell (h:ai w g e cur) {j:Nat} {u:ZS} (a:cur[j]?=ZW u):w.cell? ⟨g,j,ZX⟩=ZW u:=by
 unfold ai at h;simp [World.cell?,h,a]
def ai.R2 (h:ai w g e cur) (j:Nat):w.frozen? ⟨g,j,ZX⟩=ZU:=by
 unfold ai at h;simp [World.frozen?,h]
def ai.keep (h:ai w g e cur) (a:w'.heap[g]?=w.heap[g]?):ai w' g e cur:=a.trans h
def yI:∀ (a:List ZS) (o:Nat) (cur:Array ZS),o+a.length<=cur.size->we cur o a=(cur.toList.take o++a++cur.toList.drop (o+a.length)).toArray
 | [],o,cur,_=>by simp [we]
 | v::r,o,cur,h=>by
  simp only [UA] at h ⊢;unfold we;rw [yI r (o+1) (cur.setIfInBounds o v) en,Yz];have e:(cur.toList.set o v).take (o+1)=cur.toList.take o++[v]:=by
   rw [Ve,List.take_set_of_le (TV o),YA en];rfl
  have b:(cur.toList.set o v).drop (o+1+r.length)=cur.toList.drop (o+(r.length+1)):=by
   rw [List.drop_set_of_lt ec,(ec:o+1+r.length=o+(r.length+1))]
  rw [e,b];simp
def ai.set (h:ai w g e cur) (o:Nat) (a:List ZS) (ho:o+a.length<=cur.length):ai (w.setCells g o a) g e (cur.take o++a++cur.drop (o+a.length)):=by
 unfold ai at h ⊢;rw [ju a o w h,yI a o cur.toArray (oD ho)]
def dX {P:Program} (w:ZT) (l y z elem:ZO) (k:Nat) (g o a d b h c f:Nat) (e:ZO) (cur cs:List ZS)
 (x:P.underlying l=ZW (.slice elem)) (q:(P.info? elem).map (·.size)=ZW k) (u:cs.length=YH c a*k)
 (s:∀ j v,cs[j]?=ZW v->w.cell? ⟨b,h+j,ZX⟩=ZW v) (m:ai w g e cur) (ho:o+cs.length<=cur.length) (r:∀ v∈cs,v.oneCell'=ZV) :
 (Builtin.copy_ #[l,y] z #[Z5 (ZW ⟨g,o,ZX⟩) a d,Z5 (ZW ⟨b,h,ZX⟩) c f]).run P w=.ok (goInt (YH c a)) (w.setCells g o cs):=by
 have hl:=run_loadCells_list (P:=P) w ⟨b,h,ZX⟩ cs (λj v p=>by rw [Vo];exact s j v p);have n:=run_storeCells_cells (P:=P) g o cs 0 w (λj p=>by
  rw [VR];rw [m.cell (Uc (by omega:o+j<cur.length))];rfl) (λj _=>m.R2 _) r
 cases hq:P.info? elem with
 | none=>simp [hq] at q
 | some i=>
  have t:i.size=k:=by simpa [hq] using q
  simp only [VR] at n;simp [Builtin.copy_,UL x,Builtin.lenOf,Builtin.firstCells,sizeOf,typeInfo,hq,t,<- u,hl,n]
def uA {P:Program} (w:ZT) (t e k:ZO) (z:ZS) (g o n c:Nat) (d:ZO) (cur:List ZS) (h:P.underlying t=ZW (.slice e)) (i:∀ w,(zeroValue e).run P w=.ok z w) (p:0<n)
 (a:ai w g d cur) (ho:o+(Builtin.zeroCells z.cells n).toList.length<=cur.length) (f:∀ v∈(Builtin.zeroCells z.cells n).toList,v.oneCell'=ZV) :
 (Builtin.clear_ #[t] k #[Z5 (ZW ⟨g,o,ZX⟩) n c]).run P w=.ok (ZY #[]) (w.setCells g o (Builtin.zeroCells z.cells n).toList):=by
 have b:=run_storeCells_cells (P:=P) g o (Builtin.zeroCells z.cells n).toList 0 w (λj l=>by
  rw [VR];rw [a.cell (Uc (by omega:o+j<cur.length))];rfl) (λj _=>a.R2 _) f
 simp only [VR] at b;obtain ⟨m,rfl⟩:∃ m,n=m+1:=⟨n-1,ec⟩;simp [Builtin.clear_,UL h,i,b]
def jB (x:Ob×ZS):List ZS:=[ZZ x.1.name,Z7 Z9 (x.1.size:Nat),x.2]
def bQ (L:List (Ob×ZS)):List ZS:=L.flatMap jB
def bT (L:List (Ob×ZS)):(bQ L).length=L.length*3:=by
 induction L with
 | nil=>rfl
 | cons x L ih=>unfold bQ at ih ⊢;rw [VL,Ua,ih,UA];simp [jB];omega
def iW (L M:List (Ob×ZS)):bQ (L++M)=bQ L++bQ M:=by unfold bQ;rw [WN]
def C4 (L:List (Ob×ZS)) (k:Nat):(bQ L).take (k*3)=bQ (L.take k):=by
 by_cases h:k<=L.length
 . have e:bQ L=bQ (L.take k)++bQ (L.drop k):=(by rw [<- iW,Wn]);have:(bQ (L.take k)).length=k*3:=(by rw [bT,Uo];omega);rw [e,VW ec,UI ec]
 . rw [UI (by rw [bT];omega),UI ec]
def uB (L:List (Ob×ZS)) (k:Nat):(bQ L).drop (k*3)=bQ (L.drop k):=by
 by_cases h:k<=L.length
 . have e:bQ L=bQ (L.take k)++bQ (L.drop k):=(by rw [<- iW,Wn]);have hl:(bQ (L.take k)).length=k*3:=(by rw [bT,Uo];omega);rw [e,<- hl,YS]
 . rw [YT (by rw [bT];omega),YT ec];rfl
def L2 (L:List (Ob×ZS)) (k:Nat) (d:k<L.length):(bQ L)[k*3]?=ZW (ZZ L[k].1.name)/\(bQ L)[k*3+1]?=ZW (Z7 Z9 (L[k].1.size:Nat))/\(bQ L)[k*3+2]?=ZW L[k].2:=by
 have e:∀ j,(bQ L)[k*3+j]?=(bQ (L.drop k))[j]?:=λj=>by rw [<- uB,Wf]
 have a:=e 0;have b:=e 1;have c:=e 2;rw [X5 d] at a b c;exact ⟨a,b,c⟩
def GL (h:∃ b sl sc,x.2=.slice b sl sc):∀ u∈jB x,u.oneCell'=ZV:=by
 obtain ⟨b,sl,sc,e⟩:=h;intro u a;simp only [jB,Uv,Xd,or_false] at a;rcases a with rfl|rfl|rfl
 . rfl
 . rfl
 . rw [e];rfl
def OL (K:Nat->Prop) (w:ZT) (L:List (Ob×ZS)):Prop:=∀ x∈L,bf K w x.2 x.1.RK
def OL.one {L:List (Ob×ZS)} (h:OL K w L):∀ u∈bQ L,u.oneCell'=ZV:=by
 intro u a;unfold bQ at a;rw [XR] at a;obtain ⟨x,d,b⟩:=a;obtain ⟨ao,c,e,_⟩:=h x d;exact GL ⟨ao,_,c,e⟩ u b
def bf.TD (h:bf K w v l) (f:∀ k,K k->K' k):bf K' w v l:=by
 obtain ⟨ao,c,a,d,e⟩:=h;refine ⟨ao,c,a,d,λhl=>?_⟩;obtain ⟨b,off,g,i,j⟩:=e hl;exact ⟨b,off,g,f b i,j⟩
def OM {os:List Ob} (h:eN K w v os):∃ L:List (Ob×ZS),L.map (·.1)=os/\OL K w L/\∀ w',ef K w w'->Src ZN 3 144 v L.length (bQ L) w':=by
 obtain ⟨ao,c,rfl,hl,B⟩:=h;by_cases s:os=[]
 . subst s;refine ⟨[],rfl,λx l=>by simp at l,λw' _=>?_⟩;cases ao with
   | none=>exact XS w' Vs c
   | some z=>exact Vl w' Vs z 0 c [] rfl (λj u a=>Zm) (λu H=>by simp at H)
 . obtain ⟨b,off,rfl,hK,E,r⟩:=B s;have C:∃ f:Nat->ZS,∀ i (d:i<os.length),w.cell? ⟨b,off+i*3,ZX⟩=ZW (ZZ os[i].name)/\w.cell? ⟨b,off+i*3+1,ZX⟩=ZW (Z7 Z9 (os[i].size:Nat))/\w.cell? ⟨b,off+i*3+2,ZX⟩=ZW (f i)/\bf K w (f i) os[i].RK:=by
    refine ⟨λi=>if d:i<os.length then Classical.choose (r i d) else .nilIface,λi d=>?_⟩;have:=Classical.choose_spec (r i d);simpa [d] using this
   obtain ⟨f,y⟩:=C;obtain ⟨L,hL⟩:∃ L:List (Ob×ZS),L=os.zipIdx.map (λq=>(q.1,f q.2)):=⟨_,rfl⟩;have p:L.length=os.length:=(by rw [hL];simp);have g:∀ i (d:i<os.length),L[i]' ec=(os[i],f i):=λi d=>by subst hL;simp
   have t:OL K w L:=λx l=>by
    obtain ⟨i,d,e⟩:=UR l;rw [g i ec] at e;rw [<- e];exact (y i ec).2.2.2
   refine ⟨L,?_,t,?_⟩
   . refine Vc (by simp [p]) λi I A=>?_;rw [UN,g i A]
   . intro w' F;have k:=F.2 b E.lt hK;rw [<- p];refine Vl w' Vs ⟨b,off,ZX⟩ L.length c (bQ L) (bT L) (λj u a=>?_) t.one;rw [Vo];have J:j<L.length*3:=(by obtain ⟨q,_⟩:=Va.1 a;rwa [bT] at q);have G:j/3<L.length:=ec;obtain ⟨m,n,o⟩:=L2 L (j/3) G;obtain ⟨b0,b1,b2,_⟩:=y (j/3) ec;rw [g (j/3) ec] at m n o;have D:j=j/3*3\/j=j/3*3+1\/j=j/3*3+2:=ec;rcases D with q|q|q
     . rw [q,m] at a;rw [q,<- a];exact (Uk k).trans b0
     . rw [q,n] at a;rw [q,<- a,<- Vv];exact (Uk k).trans b1
     . rw [q,o] at a;rw [q,<- a,<- Vv];exact (Uk k).trans b2
def uC {L:List (Ob×ZS)} (h:w.ownsRow base 152 3 u L.length (bQ L)) (hl:L.length<=1000000) (hK:∀ k,base<=k->K k) (n:OL K w L):eN K w u (L.map (·.1)):=by
 rcases h.2 with ⟨rfl,q⟩|⟨g,cap,cur,rfl,o,d,r,s,t,m⟩
 . have:L=[]:=UW q;subst this;exact eN.nil _ _
 . refine ⟨ZW ⟨g,0,ZX⟩,cap,by rw [Ue],by rw [Ue];exact hl,λ_=>⟨g,0,rfl,hK g o,⟨_,_,_,d,ee⟩,λi b=>?_⟩⟩;rw [Ue] at b;obtain ⟨e,f,l⟩:=L2 L i b;have a:∀ j u,j<L.length*3->(bQ L)[j]?=ZW u->w.cell? ⟨g,0+j,ZX⟩=ZW u:=λj u p c=>by
    rw [<- m,VM p] at c;rw [Uj];simp [World.cell?,d];simpa using c
   refine ⟨L[i].2,?_,?_,?_,?_⟩
   . rw [UN];exact a _ _ ec e
   . rw [UN,Vv];exact a _ _ ec f
   . rw [Vv];exact a _ _ ec l
   . rw [UN];exact n _ (T6 b)
theorem C7 (k:FuncId) (first cap:Array ZS) (p:∀ (args:Array ZS) (w:ZT),(callFunc k args).run ZN w=.ok (.enter k args) w) (w:ZT) (R:ZT->ZS->ZT->Prop)
 (h:∀ w1,bW w w1->w1.heap.size=w.heap.size+1->w1.heap[w.heap.size]?=ZW (Z4 #[.nilIface] 64 (0,0))->ZQ ZN k (first++cap) w1 λe w2=>∃ v,e=Z3 v/\isErr v/\R w1 v w2/\w2.heap[w.heap.size]?=w1.heap[w.heap.size]?) :
 ZQ ZN 75 #[.func (.func k) first cap] w λe w'=>∃ v w1 w2,e=Z3 v/\isErr v/\bW w w1/\w1.heap.size=w.heap.size+1/\R w1 v w2/\w'=w2.setCell ⟨w.heap.size,0,ZX⟩ v:=by
 have j:=h (w.alloc (Z4 #[.nilIface] 64)) (bA w _) ek (UC w _);have d:(w.alloc (Z4 #[.nilIface] 64)).heap[w.heap.size]?=ZW (Z4 #[.nilIface] 64 (0,0)):=Ug _ _;go_enter_defers func75,ntmps75
 go_wp2_with fail;refine j.mono ?_;clear j;rintro e w2 ⟨v,rfl,l,i,g⟩;have a:w2.heap[w.heap.size]?=ZW (Z4 #[.nilIface] 64 (0,0)):=g.trans d;have m:w2.cell? ⟨w.heap.size,0,ZX⟩=ZW .nilIface:=Zs
 have n:w2.frozen? ⟨w.heap.size,0,ZX⟩=ZU:=by simp [World.frozen?,a]
 have c:(w2.setCell ⟨w.heap.size,0,ZX⟩ v).cell? ⟨w.heap.size,0,ZX⟩=ZW v:=by simp [World.cell?,World.setCell,Vy,a]
 have H:=al i l;clear i g a d h;rcases l with rfl|⟨t,u,rfl⟩
 . go_wp2;refine leaves_cons (f:=106) (args:=#[Z6 (ZW ⟨w.heap.size,0,ZX⟩)]) ek (by simp [go_sem]) ?_;refine (tH ⟨w.heap.size,0,ZX⟩ _).mono ?_;rintro e u' b ⟨rfl,rfl,rfl⟩;refine ⟨.nilIface,by simp [results,results75,go_sem,c],_,_,w2,rfl,.inl rfl,(TW _ w).alloc lR (Z4 #[.nilIface] 64),ek,H.o.1,rfl⟩
 . go_wp2;refine leaves_cons (f:=106) (args:=#[Z6 (ZW ⟨w.heap.size,0,ZX⟩)]) ek (by simp [go_sem]) ?_;refine (tH ⟨w.heap.size,0,ZX⟩ _).mono ?_;rintro e u' b ⟨rfl,rfl,rfl⟩;refine ⟨.iface t u,by simp [results,results75,go_sem,c],_,_,w2,rfl,.inr ⟨t,u,rfl⟩,(TW _ w).alloc lR (Z4 #[.nilIface] 64),ek,H.o.1,rfl⟩
theorem lU (k:FuncId) (first cap:Array ZS) (E:∀ (args:Array ZS) (w:ZT),(callFunc k args).run ZN w=.ok (.enter k args) w) (w:ZT) (a:Nat) (cs:Array ZS) (q:w.heap[a]?=ZW (Z4 cs 146 (0,0))) (D:cs[9]?=ZW (Z1 ZU)) (R:ZT->ZS->ZT->Prop)
 (t:∀ w1,bW w w1->w1.heap.size=w.heap.size+1->w1.heap[w.heap.size]?=ZW (Z4 #[.nilIface] 64 (0,0))->ZQ ZN k (first++cap) w1 λe w2=>∃ v,e=Z3 v/\mX v/\R w1 v w2/\w2.heap[w.heap.size]?=w1.heap[w.heap.size]?/\∃ cs',w2.heap[a]?=ZW (Z4 cs' 146 (0,0))/\cs'[9]?=ZW (Z1 ZU)) :
 ZQ ZN 52 #[Z6 (ZW ⟨a,0,ZX⟩),.func (.func k) first cap] w λe w'=>∃ v w1 w2,e=Z3 v/\mX v/\bW w w1/\w1.heap.size=w.heap.size+1/\R w1 v w2/\w'=(w2.setCell ⟨w.heap.size,0,ZX⟩ v).setCell ⟨a,9,ZX⟩ (Z1 ZU):=by
 have K:a<w.heap.size:=(TX.1 q).1;have G:w.cell? ⟨a,9,ZX⟩=ZW (Z1 ZU):=by simp [World.cell?,q,D]
 have m:=C7 k first cap E w (λw1 v w2=>mX v/\R w1 v w2/\∃ cs',w2.heap[a]?=ZW (Z4 cs' 146 (0,0))/\cs'[9]?=ZW (Z1 ZU)) (λw1 y z c=>(t w1 y z c).mono (by
  rintro e w2 ⟨v,rfl,c,A,B,C⟩;exact ⟨v,rfl,c.isErr,⟨c,A,C⟩,B⟩))
 go_enter func52,ntmps52;go_wp2_with fail;refine m.mono ?_;rintro e w3 ⟨v,w1,w2,rfl,_,s,x,⟨u,p,cs',r,l⟩,rfl⟩;have b:(w2.setCell ⟨w.heap.size,0,ZX⟩ v).heap[a]?=ZW (Z4 cs' 146 (0,0)):=(Ud _ _ _ _ (by show a≠w.heap.size;omega)).trans r;obtain ⟨w3,d⟩:=nM (w2.setCell ⟨w.heap.size,0,ZX⟩ v);rw [d] at b ⊢;have I:w3.cell? ⟨a,9,ZX⟩=ZW (Z1 ZU):=by simp [World.cell?,b,l]
 have J:w3.frozen? ⟨a,9,ZX⟩=ZU:=by simp [World.frozen?,b]
 have H:=a6 s x p u d;clear s x p m t b l r d;rcases u with rfl|⟨n,F,rfl⟩
 . go_wp2_with fail;refine (zJ 13 w3).mono ?_;rintro e w' ⟨rfl,rfl⟩;go_wp2;go_ret;obtain ⟨f,g,h,i,j⟩:=H.o;exact ⟨.nilIface,w1,w2,rfl,i,f,g,h,by rw [j]⟩
 . go_wp2_with fail;refine (Ky n F w3).mono ?_;rintro e w' ⟨rfl,rfl⟩;go_wp2;go_ret;obtain ⟨f,g,h,i,j⟩:=H.o;exact ⟨.iface 66 (Z7 Z9 n),w1,w2,rfl,i,f,g,h,by rw [j]⟩
def L3:∀ (x y:List UInt8),Op.bytesLess x y=decide (x<y)
 | [],[]=>by simp [Op.bytesLess]
 | _::_,[]=>by simp [Op.bytesLess]
 | [],_::_=>by simp [Op.bytesLess]
 | a::x,b::y=>by
  rw [Op.bytesLess,L3 x y];simp only [List.cons_lt_cons_iff];by_cases c:a<b<;>by_cases d:a=b<;>by_cases e:x<y<;>simp [c,d,e]
def jC (a b:ByteArray):Bool:=Op.bytesLess a.toList b.toList
def Ar:jC a b=ZV↔a.toList<b.toList:=by unfold jC;rw [L3];simp
def As:jC a b=ZU↔¬ a.toList<b.toList:=by unfold jC;rw [L3];simp
def iX (a:ByteArray):jC a a=ZU:=As.2 (List.lt_irrefl _)
def jT {c:ByteArray} (h:jC a b=ZV) (k:jC b c=ZV):jC a c=ZV:=Ar.2 (List.lt_trans (Ar.1 h) (Ar.1 k))
def toList_inj (h:a.toList=b.toList):a=b:=by
 have c:a.data.toList=b.data.toList:=by rw [<- Lib.toList_data,<- Lib.toList_data];exact h
 have d:a.data=b.data:=Array.toList_inj.1 c;cases a;cases b;simpa using d
def sF (h:jC a b=ZU) (k:jC b a=ZU):a=b:=toList_inj (List.le_antisymm (As.1 k) (As.1 h))
def I1 (h:PQ a b=ZU):jC b a=ZV:=by
 unfold PQ at h;rw [XQ] at h;cases hb:jC b a
 . have e:=sF (a:=a) (b:=b) h.1 hb;rw [e] at h;simp at h
 . rfl
theorem I2 (h:jC b a=ZV):PQ a b=ZU:=by
 unfold PQ;rw [XQ];constructor
 . cases hb:Op.bytesLess a.toList b.toList
   . rfl
   . have:=jT (a:=b) (b:=a) (c:=b) h hb;rw [iX] at this;cases this
 . cases hb:(a.toList==b.toList)
   . rfl
   . have e:=toList_inj (eq_of_beq hb);rw [e,iX] at h;cases h
def Up (ns:List ByteArray):Prop:=ns.Pairwise (λa b=>jC a b=ZV)
def aU (os:List Ob):List ByteArray:=os.map (·.name)
def bj (os:List Ob):(aU os).length=os.length:=by unfold aU;rw [Ue]
def sG {os:List Ob} (a:i<os.length):os.getD i GK=os[i]:=by rw [Ub,Uc a];rfl
def I3 (ns:List ByteArray) (h:∀ i (c:i+1<ns.length),jC ns[i] ns[i+1]=ZV):Up ns:=by
 unfold Up;rw [V3];intro i j c a b;obtain ⟨d,rfl⟩:∃ d,j=i+1+d:=⟨j-(i+1),ec⟩;clear b;induction d with
 | zero=>exact h i a
 | succ d ih=>exact jT (ih ec) (h (i+1+d) a)
def ON {os:List Ob} (h:Aq os):Up (aU os):=by
 refine I3 _ λi a=>?_;rw [bj] at a;have:=I1 (h i a);rw [sG a,sG (by omega:i<os.length)] at this;have e:∀ j (b:j<os.length),(aU os)[j]'(by rw [bj];exact b)=os[j].name:=λj b=>by unfold aU;rw [UN]
 rw [e i ec,e (i+1) a];exact this
def At {os:List Ob} (h:Up (aU os)):Aq os:=by
 intro i a;unfold Up at h;rw [V3] at h;have:=h i (i+1) Zy Zy (Nat.lt_succ_self i);refine I2 ?_;rw [sG a,sG (by omega:i<os.length)];unfold aU at this;simpa using this
def aI (ns:List ByteArray) (x:ByteArray):Nat:=(ns.takeWhile (λn=>jC n x)).length
def yJ (ns:List ByteArray) (x:ByteArray):aI ns x<=ns.length:=by unfold aI;exact (List.takeWhile_prefix _).length_le
def gL:∀ (ns:List ByteArray) (x:ByteArray) (i:Nat),i<=ns.length->(∀ j (e:j<ns.length),j<i->jC ns[j] x=ZV)->(∀ a:i<ns.length,jC ns[i] x=ZU)->aI ns x=i
 | [],x,i,a,_,_=>by simp at a;subst a;rfl
 | n::ns,x,0,a,b,c=>by
  have:=c ek;unfold aI;rw [YJ];simp at this;simp [this]
 | n::ns,x,i+1,a,b,c=>by
  have d:=b 0 ek ec;simp at d;have:=gL ns x i (oD a) (λj e g=>b (j+1) (YU e) ec) (λf=>c (YU f));unfold aI at this ⊢;rw [YJ];simp [d,this]
def mZ:∀ (ns:List ByteArray) (x:ByteArray) (j:Nat) (a:j<ns.length),j<aI ns x->jC ns[j] x=ZV
 | [],_,j,a,_=>Zm
 | n::ns,x,j,a,h=>by
  unfold aI at h;rw [YJ] at h;cases b:jC n x
  . simp [b] at h
  . simp [b] at h;cases j with
    | zero=>simpa using b
    | succ j=>simpa using mZ ns x j (oD a) (by unfold aI;omega)
def yK:∀ (ns:List ByteArray) (x:ByteArray) (a:aI ns x<ns.length),jC ns[aI ns x] x=ZU
 | [],x,a=>Zm
 | n::ns,x,a=>by
  by_cases b:jC n x=ZV
  . have e:aI (n::ns) x=aI ns x+1:=(by unfold aI;rw [YJ];simp [b]);have c:=yK ns x (by rw [e] at a;simpa using a);simp only [e,X6];exact c
  . have e:aI (n::ns) x=0:=(by unfold aI;rw [YJ];simp [b]);simp only [e,ab4];simpa using b
def wF (b:Up ns) (x:ByteArray) (j:Nat) (f:j<ns.length) (h:aI ns x<=j):jC ns[j] x=ZU:=by
 have a:=yK ns x ec;rcases XT h with e|d
 . subst e;exact a
 . unfold Up at b;rw [V3] at b;have c:=b _ _ ec f d;cases hb:jC ns[j] x
   . rfl
   . rw [jT c hb] at a;cases a
def ij (a:Up ns) {x:ByteArray} {k:Nat} (b:k<ns.length) (e:ns[k]=x):aI ns x=k:=by
 refine gL ns x k (Nat.le_of_lt b) (λj d c=>?_) (λf=>by rw [e];exact iX x);unfold Up at a;rw [V3] at a;have:=a j k d b c;rwa [e] at this
def uD (b:Up ns) {x:ByteArray} (c:x∈ns):∃ h:aI ns x<ns.length,ns[aI ns x]=x:=by
 obtain ⟨k,a,e⟩:=UR c;have:=ij b a e;exact ⟨ec,by simp only [this];exact e⟩
def I4 (c:Up ns) {x:ByteArray} (m:x∉ns):Up (ns.take (aI ns x)++x::ns.drop (aI ns x)):=by
 have n:=yJ ns x;unfold Up;rw [abJ,List.pairwise_cons];refine ⟨YM (List.take_sublist _ _) c,⟨λa g=>?_,YM (YN _ _) c⟩,λa g b f=>?_⟩
 . obtain ⟨j,h,e⟩:=UR g;rw [Um] at h;rw [Yo] at e;have d:=wF c x (aI ns x+j) ec ec;rw [e] at d;cases f:jC x a
   . exact absurd (U0 g) (by rw [sF d f];exact m)
   . rfl
 . obtain ⟨j,h,e⟩:=UR g;rw [Uo] at h;rw [List.getElem_take] at e;have d:=mZ ns x j ec ec;rw [e] at d;rcases Uv.1 f with rfl|f
   . exact d
   . obtain ⟨i,l,k⟩:=UR f;rw [Um] at l;rw [Yo] at k;unfold Up at c;rw [V3] at c;have:=c j (aI ns x+i) ec ec ec;rwa [e,k] at this
def L4 (b:Up ns) (k:Nat):Up (ns.take k++ns.drop (k+1)):=by
 refine YM ?_ b;have a:(ns.take k++ns.drop (k+1)).Sublist (ns.take k++ns.drop k):=YO (YP _) (by rw [<- VG];exact YN _ _);rwa [Wn] at a
def OO {x:Nat} (a:x<256):gm 1 x=x:=by rw [fC ee a,eo x a]
theorem L5 (D i t:Nat) (a:i<D):(dh D i).getD t 0=if t=i then 1 else 0:=by
 unfold dh;rw [Ub,Xn];by_cases e:t=i
 . subst e;simp [a]
 . rw [TS (λq=>e q.symm),TS e,WH];split<;>rfl
def C8 (D i q:Nat) (c:i<D) (Dt:List a8) (b:(Dt.getD i []).getD q 0<256):∀ t,Ou (dh D i) Dt t q=if i<t then (Dt.getD i []).getD q 0 else 0
 | 0=>by rw [TS ec];rfl
 | t+1=>by
  show Ou (dh D i) Dt t q^^^gm ((dh D i).getD t 0) ((Dt.getD t []).getD q 0)=_;rw [C8 D i q c Dt b t,L5 D i t c];by_cases e:t=i
  . subst e;rw [TS ec,TT rfl,OO b,TT ec,VU]
  . rw [TS e,bI,U4];by_cases a:i<t
    . rw [TT a,TT ec]
    . rw [TS a,TS ec]
def I5 (D L G i:Nat) (b:i<D):∃ h:i<(aT D L G).length,(aT D L G)[i]=dh D i:=by
 have hl:i<(aT D L G).length:=Zd
 refine ⟨hl,?_⟩;have a:(aT D L G)[i]?=ZW (dh D i):=by
  unfold aT;rw [VC en,VC en];simp [b]
 rw [Uc hl] at a;exact UM a
def C9 (a:∀ x∈dl,x<256):∀ x∈iO D dl,x<256:=by
 intro x h;unfold iO at h;rcases Ui.1 h with q|q
 . exact a x q
 . rw [VF q];decide
theorem Da (a:i<D) (hl:dl.length<=D*44) (j:∀ x∈dl,x<256):(dg D L G dl).getD i []=((iO D dl).drop (i*44)).take 44:=by
 obtain ⟨h,g⟩:=I5 D L G i a;have e:(dg D L G dl).getD i []=cI (aT D L G)[i] (dQ D dl) 44 (dQ D dl).length:=by simp [dg,fs,h]
 rw [e,g,dW];have hr:(dQ D dl).getD i []=((iO D dl).drop (i*44)).take 44:=by simp [dQ,a]
 have d:=mj hl a;unfold cI;apply Vc
 . simp [d]
 . intro q k b;have c:((dQ D dl).getD i []).getD q 0=(((iO D dl).drop (i*44)).take 44)[q]:=(by rw [hr,Ub,Uc b];rfl);have f:((dQ D dl).getD i []).getD q 0<256:=(by rw [c];exact C9 j _ (U0 (UX (T6 b))));rw [UN,List.getElem_range,C8 D i q a _ f,TT a,c]
def yL:∀ m,((YE m).map λi=>((iO D dl).drop (i*44)).take 44).flatten=(iO D dl).take (44*m)
 | 0=>ek
 | m+1=>by
  rw [Vw,Uw,ab8,yL m,(ec:44*(m+1)=44*m+44),acb];simp [WC]
def L6 (h:size<=dl.length):(iO D dl).take size=dl.take size:=by
 unfold iO;rw [VW h]
theorem I6 (f:m=(size+43)/44) (d:m<=D) (hl:dl.length<=D*44) (c:∀ x∈dl,x<256) (b:size<=dl.length):((YE m).map λi=>(dg D L G dl).getD i []).flatten.take size=dl.take size:=by
 have e:((YE m).map λi=>(dg D L G dl).getD i [])=(YE m).map λi=>((iO D dl).drop (i*44)).take 44:=by
  apply Wt;intro i a;exact Da (e9 (Ur.1 a)) hl c
 rw [e,yL,YL,(ec:min size (44*m)=size),L6 b]
def Db (c:∀ x∈dl,x<256):(dQ D dl).length=D/\∀ l∈dQ D dl,∀ x∈l,x<256:=by
 refine ⟨dW D dl,λl hl x a=>?_⟩;obtain ⟨i,b,rfl⟩:=UR hl;rw [ou b] at a;exact C9 c x (U0 (UX a))
def dz (D:Nat) (d:a8) (k:Nat):a8:=(d.drop (k*(D*44))).take (D*44)
def ik (h:k<l.length):l.getD k 0=l[k]:=by rw [Ub,Uc h];rfl
def lV (h:k<l.length):l.getD k 0∈l:=by rw [ik h];exact T6 h
def az.at (A:az) (b:Nat) (f:Nat->bG):Prop:=∀ i,i<A.n->A.rc i b=f i/\(gnB A b i=ZV->A.sv.testBit i=ZV)
def az.holds (A:az) (D L G:Nat) (S:a8) (c:Nat->a8):Prop:=∀ k,k<S.length->A.at (S.getD k 0) (PP D L G (c k))
def jU (A:az) (ds:a8) {b m:Nat} (f:Nat->bG) (i:Nat) (h:m≠b):(A.putAt ds b f).rc i m=A.rc i m:=TS λq=>h q.1
def L7 (A:az) (b:Nat) (f:Nat->bG) {i n:Nat} (h:i<n):(A.putAt (YE n) b f).rc i b=f i:=TT ⟨rfl,Ur.2 h⟩
def oO {A:az} {S:a8} {c:Nat->a8} (i:Nat) {m:Nat} (h:m∉S):∀ k,k<=S.length->(A.wrTo D L G S c k).rc i m=A.rc i m
 | 0,_=>rfl
 | k+1,hk=>(jU _ _ (b:=S.getD k 0) _ _ (λe:m=S.getD k 0=>h (e▸lV hk))).trans (oO i h k ec)
def uE {A:az} (b:Nat) (f:Nat->bG) (hl:∀ i,i<A.n->A.lost i=ZV->A.sv.testBit i=ZV):(A.putAt (YE A.n) b f).at b f:=λi a=>⟨L7 _ _ _ a,λq=>hl i a (ry (Ur.2 a) q)⟩
def az.at.off {A B:az} {b:Nat} {f:Nat->bG} (h:A.at b f) (k:Alw A B) (hr:∀ i,B.rc i b=A.rc i b):B.at b f:=λi a=>⟨(hr i).trans (h i (k.n▸a)).1,λq=>by rw [k.sv];exact (k.gn b i q).elim (h i (k.n▸a)).2 id⟩
def az.holds.off {A B:az} {S:a8} {c:Nat->a8} (h:A.holds D L G S c) (k:Alw A B) (hr:∀ b∈S,∀ i,B.rc i b=A.rc i b):B.holds D L G S c:=λj a=>(h j a).off k (hr _ (lV a))
def GM {A:az} {S:a8} {c:Nat->a8} (a:A.fine D L G) (b:S.Nodup):∀ k j,j<k->k<=S.length->(A.wrTo D L G S c k).at (S.getD j 0) (PP D L G (c j))
 | 0,_,hj,_=>ec
 | k+1,j,hj,hk=>by
  rcases XT (YV hj) with rfl|d
  . exact uE _ _ ((kQ A D L G S c j).2.2.fine a).2
  . refine (GM a b k j d ec).off (dJ.put _ _ _ _).Tq λi=>jU _ _ _ _ (λe=>?_);rw [ik ec,ik ec] at e;have:=(List.getElem_inj b).1 e;omega
def uF {A:az} {S:a8} (a:A.fine D L G) (c:Nat->a8) (d:S.Nodup):(A.wrTo D L G S c S.length).holds D L G S c:=λk b=>GM a d _ k b lR
abbrev aL:=List (Ob×a8)
def aL.os (xs:aL):List Ob:=xs.map (·.1)
def aL.names (xs:aL):List ByteArray:=aU xs.os
structure ll (D:Nat) (x:Ob×a8):Prop where
 fit:x.1.fit
 st:x.1.RK.length=max 1 ((x.1.size+D*44-1)/(D*44))
 len:x.2.length=x.1.size
 byt:∀ b∈x.2,b<256
def uG {xs:aL} {x:Ob×a8} (a:x∈xs) {b:Nat} (h:b∈x.1.RK):b∈af xs.os:=XR.2 ⟨x.1,List.mem_map_of_mem a,h⟩
structure cK (A:az) (D L G t:Nat) (P:a8) (xs:aL):Prop where
 turn:0<t
 root:A.at 0 (λ_=>.root D L G t (P.getD 0 0) (an xs.os).length)
 fill:A.at 1 (λ_=>.filled)
 pl:P.length=pgs D (an xs.os).length
 page:A.holds D L G P (cj D P (an xs.os))
 nod:(P++af xs.os).Nodup
 Tl:∀ x∈P++af xs.os,2<=x/\x<A.nb
 fits:∀ x∈xs,ll D x
 up:Up xs.names
 held:∀ x∈xs,A.holds D L G x.1.RK (dz D x.2)
 room:(af xs.os).length+2*P.length+2<=A.nb
def cK.off {A B:az} {xs:aL} (h:cK A D L G t P xs) (k:Alw A B) (hr:∀ b,(b<2\/b∈P++af xs.os)->∀ i,B.rc i b=A.rc i b):cK B D L G t P xs:=
 ⟨h.turn,h.root.off k (hr 0 (.inl ee)),h.fill.off k (hr 1 (.inl ee)),h.pl,h.page.off k λb a=>hr b (.inr (UG _ a)),h.nod,k.nb▸h.Tl,h.fits,h.up,λx c=>(h.held x c).off k λb a=>hr b (.inr (VQ _ (uG c a))),k.nb▸h.room⟩
def PR (A:az) (D L G t:Nat) (P l:a8):(A.TQ D L G t P l).n=A.n/\(A.TQ D L G t P l).nb=A.nb/\dJ A (A.TQ D L G t P l):=have h:=kQ A D L G P (cj D P l) P.length;⟨h.1,h.2.1,h.2.2.trans (dJ.put _ _ _ _)⟩
def qC {B:az} {xs':aL} (j:B.fine D L G) (p:B.at 1 (λ_=>.filled))
 (r:P'.length=pgs D (an xs'.os).length) (f:(P'++af xs'.os).Nodup) (d:∀ x∈P'++af xs'.os,2<=x/\x<B.nb) (o:∀ x∈xs',ll D x) (s:Up xs'.names) (m:∀ x∈xs',B.holds D L G x.1.RK (dz D x.2)) (n:(af xs'.os).length+2*P'.length+2<=B.nb) {t':Nat} (t:0<t') :
 cK (B.TQ D L G t' P' (an xs'.os)) D L G t' P' xs':=by
 have c:=PR B D L G t' P' (an xs'.os);have h:=kQ B D L G P' (cj D P' (an xs'.os)) P'.length;have g:∀ b∈P'++af xs'.os,b≠0:=λb a e=>e9 ((d b a).1)
 refine ⟨t,(by have:=uE (A:=B.wrTo D L G P' (cj D P' (an xs'.os)) P'.length) 0 (λ_=>.root D L G t' (P'.getD 0 0) (an xs'.os).length) (h.2.2.fine j).2;rwa [h.1] at this),p.off c.2.2.Tq λi=>(jU _ _ _ _ ee).trans (oO i (λq=>e9 ((d 1 (UG _ q)).1)) _ lR),r,
  (uF (A:=B) j (cj D P' (an xs'.os)) (U9.1 f).1).off (dJ.put _ _ _ _).Tq λb a i=>jU _ _ _ _ (g b (UG _ a)),f,by rw [c.2.1];exact d,o,s,λx l=>(m x l).off c.2.2.Tq λb a i=>?_,by rw [c.2.1];exact n⟩
 have k:=uG l a;exact (jU _ _ _ _ (g b (VQ _ k))).trans (oO i (λq=>(U9.1 f).2.2 b q b k rfl) _ lR)
def aL.ins (xs:aL) (x:Ob×a8):aL:=xs.take (aI xs.names x.1.name)++x::xs.drop (aI xs.names x.1.name)
def aL.del (xs:aL) (k:Nat):aL:=xs.take k++xs.drop (k+1)
def jV (xs:aL) (x:Ob×a8):(xs.ins x).Perm (x::xs):=by
 unfold aL.ins;refine List.perm_middle.trans ?_;rw [Wn]
def L8 (xs:aL) (x:Ob×a8):(xs.ins x).os=xs.os.take (aI xs.names x.1.name)++x.1::xs.os.drop (aI xs.names x.1.name):=by
 unfold aL.ins aL.os;rw [Uw,U1,WJ,WK]
def I7 (xs:aL) (x:Ob×a8):(xs.ins x).names=xs.names.take (aI xs.names x.1.name)++x.1.name::xs.names.drop (aI xs.names x.1.name):=by
 unfold aL.names;rw [L8];unfold aU aL.names aU;rw [Uw,U1,WJ,WK]
def L9 (xs:aL) (k:Nat):(xs.del k).os=xs.os.take k++xs.os.drop (k+1):=by
 unfold aL.del aL.os;rw [Uw,WJ,WK]
def I8 (xs:aL) (k:Nat):(xs.del k).names=xs.names.take k++xs.names.drop (k+1):=by
 unfold aL.names;rw [L9];unfold aU;rw [Uw,WJ,WK]
def kU (xs:aL) (k:Nat):(xs.del k).Sublist xs:=by
 have a:(xs.take k++xs.drop (k+1)).Sublist (xs.take k++xs.drop k):=YO (YP _) (by rw [<- VG];exact YN _ _);rwa [Wn] at a
def Fj (o:Ob) (os:List Ob):af (o::os)=o.RK++af os:=by unfold af;rw [VL]
def qD (xs:aL) (x:Ob×a8):(af (xs.ins x).os).Perm (x.1.RK++af xs.os):=by
 have h:=(jV xs x).map (·.1);have:=h.flatMap_right (·.RK);rw [U1,VL] at this;exact this
def I9 (xs:aL) (x:Ob×a8):(an (xs.ins x).os).length=(an xs.os).length+(bL x.1).length:=by
 have h:=((jV xs x).map (·.1)).flatMap_right bL;rw [U1,VL] at h;have:=h.length_eq;rw [Ua] at this;unfold an aL.os;omega
def oP {β:Type} (f:α->List β):∀ {l m:List α},l.Sublist m->(l.flatMap f).Sublist (m.flatMap f)
 | _,_,.slnil=>ek
 | _,_,.cons a h=>by rw [VL];exact (oP f h).trans (acp _ _)
 | _,_,.cons_cons a h=>by rw [VL,VL];exact YO (YP _) (oP f h)
def Ja (xs:aL) (k:Nat):(af (xs.del k).os).Sublist (af xs.os):=oP _ ((kU xs k).map _)
def qE (xs:aL) (k:Nat):(an (xs.del k).os).length<=(an xs.os).length:=(oP bL ((kU xs k).map (Prod.fst:Ob×a8->Ob))).length_le
def uH (h:m<=n):pgs D m<=pgs D n:=by
 unfold pgs;have:(m+(D*44-4)-1)/(D*44-4)<=(n+(D*44-4)-1)/(D*44-4):=Yp ec;omega
def Ma {A:az} {xs:aL} (h:cK A D L G t P xs) (o:A.fine D L G) (x:Ob×a8) (v:ll D x) (r:x.1.name∉xs.names) (s:P'.length=pgs D (an (xs.ins x).os).length)
 (m:((x.1.RK++P')++(P++af xs.os)).Nodup) (k:∀ b∈(x.1.RK++P')++(P++af xs.os),2<=b/\b<A.nb) (H:(af xs.os).length+x.1.RK.length+2*P'.length+2<=A.nb) :
 cK ((A.wrTo D L G x.1.RK (dz D x.2) x.1.RK.length).TQ D L G (t+1) P' (an (xs.ins x).os)) D L G (t+1) P' (xs.ins x):=by
 obtain ⟨F,l,g⟩:=kQ A D L G x.1.RK (dz D x.2) x.1.RK.length;rw [U9] at m;obtain ⟨w,z,j⟩:=m;obtain ⟨p,B,C⟩:=U9.1 w;obtain ⟨I,E,J⟩:=U9.1 z;have n:∀ b,b∉x.1.RK->∀ i,(A.wrTo D L G x.1.RK (dz D x.2) x.1.RK.length).rc i b=A.rc i b:=λb c i=>oO i c _ lR;refine qC (g.fine o) (h.fill.off g.Tq (n 1 λe=>by have:=(k 1 (by simp [e])).1;omega)) s ?_ ?_ ?_ ?_ ?_ ?_ ec
 . have u:(P'++af (xs.ins x).os).Perm (P'++(x.1.RK++af xs.os)):=(qD xs x).append_left P';rw [u.nodup_iff,U9];refine ⟨B,?_,?_⟩
   . rw [U9];exact ⟨p,E,λa f b c=>j a (by simp [f]) b Za⟩
   . intro a f b c;rcases Ui.1 c with c|c
     . exact λe=>C b c a f e.symm
     . exact j a (by simp [f]) b Za
 . intro b c;rw [l];refine k b ?_;rcases Ui.1 c with c|c
   . simp [c]
   . have:=(qD xs x).mem_iff.1 c;rcases Ui.1 this with q|q<;>simp [q]
 . intro y d;rcases Uv.1 ((jV xs x).mem_iff.1 d) with rfl|d
   . exact v
   . exact h.fits y d
 . rw [I7];exact I4 h.up r
 . intro y d;rcases Uv.1 ((jV xs x).mem_iff.1 d) with rfl|d
   . exact uF o _ p
   . exact (h.held y d).off g.Tq λb c=>n b λe=>j _ (UG _ e) _ (VQ _ (uG d c)) rfl
 . rw [(qD xs x).length_eq,Ua,l];omega
def Mc {A:az} {xs:aL} (h:cK A D L G t P xs) (m:A.fine D L G) (k:Nat) (f:P'.length=pgs D (an (xs.del k).os).length)
 (j:(P'++(P++af xs.os)).Nodup) (i:∀ b∈P'++(P++af xs.os),2<=b/\b<A.nb) :
 cK (A.TQ D L G (t+1) P' (an (xs.del k).os)) D L G (t+1) P' (xs.del k):=by
 have d:=Ja xs k;obtain ⟨n,o,p⟩:=U9.1 j;obtain ⟨u,q,v⟩:=U9.1 o;refine qC m h.fill f ?_ ?_ (λx e=>h.fits x ((kU xs k).subset e)) ?_ (λx e=>h.held x ((kU xs k).subset e)) ?_ ec
 . rw [U9];exact ⟨n,q.sublist d,λa l b c=>p a l b (VQ _ (d.subset c))⟩
 . intro b c;refine i b ?_;rcases Ui.1 c with c|c
   . simp [c]
   . simp [d.subset c]
 . rw [I8];exact L4 h.up k
 . have:=d.length_le;have:=h.room;have g:=uH (D:=D) (qE xs k);rw [<- f,<- h.pl] at g;omega
theorem GN (q s:Nat) (d:1<=q):max 1 ((s+q-1)/q)<=s/q+1:=by
 have c:(s+q-1)/q<=(s+q)/q:=Yp ec;rw [Nat.add_div_right _ ec] at c;generalize s/q=a at c ⊢;generalize (s+q-1)/q=b at c ⊢;omega
def rC (D:Nat) (xs:aL):Nat:=(xs.map λx=>x.2.length/(D*44)+1).sum
def GO (hD:1<=D):∀ {xs:aL},(∀ x∈xs,ll D x)->(af xs.os).length<=rC D xs
 | [],_=>by simp [rC,af,aL.os]
 | x::xs,h=>by
  have ih:=GO hD (xs:=xs) (λy c=>h y Za);have a:=h x ek;have b:=GN (D*44) x.1.size ec;rw [<- a.st] at b;have e:af (aL.os (x::xs))=x.1.RK++af (aL.os xs):=by unfold aL.os;rw [U1,Fj]
  rw [e,Ua];unfold rC at ih ⊢;rw [U1,XH,a.len];omega
def jl (hD:1<=D):∀ {xs:aL},(∀ x∈xs,ll D x)->(an xs.os).length<=xs.length*(19+4*(1500/(D*44)+1))
 | [],_=>by simp [an,aL.os]
 | x::xs,h=>by
  have:=jl hD (xs:=xs) (λy c=>h y Za);have a:=h x ek;have b:=GN (D*44) x.1.size ec;rw [<- a.st] at b;have:x.1.size/(D*44)<=1500/(D*44):=Yp a.fit.size;have e:an (aL.os (x::xs))=bL x.1++an (aL.os xs):=by unfold aL.os an;rw [U1,VL]
  rw [e,Ua,cZ a.fit,UA,XL];omega
def Fk (hD:1<=D) (k:D<=6) {xs:aL} (h:∀ x∈xs,ll D x) {n nb count pages:Nat} (i:n<=1500) (b:count=max 1 ((n+D*44-1)/(D*44))) (c:pages=pgs D ((an xs.os).length+(19+4*count)))
 (d:nb<(af xs.os).length+count+2*pages+2):nb<rC D xs+(n/(D*44)+1)+2*((xs.length+1)*200/(D*44)+1)+8:=by
 have e:=GO hD h;have f:=jl hD h;have g:=GN (D*44) n ec;rw [<- b] at g;have j:n/(D*44)<=1500/(D*44):=Yp i;suffices hs:pages<=(xs.length+1)*200/(D*44)+4 by omega
 obtain ⟨m,a⟩:=nM (xs.length);obtain ⟨l,hl⟩:=nM ((an xs.os).length);rw [a,hl] at f;rw [hl] at c;rw [a];clear e b a hl d h;subst c;unfold pgs;have:D=1\/D=2\/D=3\/D=4\/D=5\/D=6:=ec
 rcases this with rfl|rfl|rfl|rfl|rfl|rfl<;>omega
def Fl {A:az} {xs:aL} (h:cK A D L G t P xs) {count pages l:Nat} (c:pages=pgs D ((an xs.os).length+l)) (d:(af xs.os).length+count+2*pages+2<=A.nb) :
 count+pages<=(aZ (tk A.nb (P++af xs.os)).1 A.nb).length:=by
 have a:=lS h.nod h.Tl;have b:=uH (D:=D) (ec:(an xs.os).length<=(an xs.os).length+l);rw [<- c,<- h.pl] at b;rw [Ua] at a;omega
def Fm {A:az} {xs:aL} (h:cK A D L G t P xs) (k:Nat):pgs D (an (xs.del k).os).length<=(aZ (tk A.nb (P++af xs.os)).1 A.nb).length:=by
 have a:=lS h.nod h.Tl;have b:=uH (D:=D) (qE xs k);rw [<- h.pl] at b;rw [Ua] at a;have:=h.room;omega
theorem mw (x:ByteArray) (w:ZT):ZQ ZN 167 #[ZZ x] w λe w'=>e=Z3 (Z1 ZU)/\w'=w:=by
 go_enter func167,ntmps167;go_wp2;go_ret;exact ⟨ek,rfl⟩
def rV (a b:ByteArray):Int:=if jC a b then -1 else if jC b a then 1 else 0
def GP:rV a b<0↔jC a b=ZV:=by
 unfold rV;cases h1:jC a b<;>cases h2:jC b a<;>simp
theorem GQ:rV a b=0↔a=b:=by
 unfold rV;constructor
 . intro h;cases h1:jC a b
   . cases h2:jC b a
     . exact sF h1 h2
     . simp [h1,h2] at h
   . simp [h1] at h
 . rintro rfl;simp [iX]
theorem Dd (x y:ByteArray) (w:ZT):ZQ ZN 133 #[ZZ x,ZZ y] w λe w'=>e=Z3 (Z7 Z9 (rV x y))/\w'=w:=by
 by_cases a:x=y
 . subst a;have hl:Op.bytesLess x.toList x.toList=ZU:=iX x;have c:rV x x=0:=GQ.2 rfl;rw [c];go_enter func133,ntmps133;go_wp2_with fail;refine (mw x w).mono ?_;rintro e w1 ⟨rfl,rfl⟩;go_wp2_with fail;refine (mw x w1).mono ?_;rintro e w2 ⟨rfl,rfl⟩;go_wp2;go_ret;exact ⟨rfl,rfl⟩
 . have d:¬ x.toList=y.toList:=λe=>a (toList_inj e);have f:(!x.toList==y.toList)=ZV:=(by simp [d]);obtain ⟨lt,b⟩:=nM (jC x y);have hl:Op.bytesLess x.toList y.toList=lt:=b;have c:rV x y=if lt then -1 else 1:=by
    unfold rV;rw [b];cases lt
    . cases hg:jC y x
      . exact absurd (sF b hg) a
      . rfl
    . rfl
   rw [c];clear c b;go_enter func133,ntmps133;go_wp2_with fail;refine (mw x w).mono ?_;rintro e w1 ⟨rfl,rfl⟩;go_wp2_with fail;refine (mw y w1).mono ?_;rintro e w2 ⟨rfl,rfl⟩;cases lt
   . go_wp2;go_ret;exact ⟨rfl,rfl⟩
   . go_wp2;go_ret;exact ⟨rfl,rfl⟩
theorem yM (nm x:ByteArray) (sz:Int) (sv:ZS) (w:ZT):ZQ ZN 132 #[.agg #[ZZ nm,Z7 Z9 sz,sv],ZZ x] w λe w'=>e=Z3 (Z7 Z9 (rV nm x))/\bW w w':=by
 have a:bW w (w.alloc (Z4 #[ZZ nm,Z7 Z9 sz,sv] 152)):=bA w _;go_enter func132,ntmps132;go_wp2_with fail;refine (Dd nm x _).mono ?_;rintro e w1 ⟨rfl,rfl⟩;go_wp2;go_ret;exact ⟨rfl,a⟩
def mJ (os:List Ob) (x:ByteArray):Bool:=match (aU os)[aI (aU os) x]? with
 | some n=>decide (n=x)
 | none=>ZU
theorem De {os:List Ob} (d:Up (aU os)) (x:ByteArray):mJ os x=ZV↔x∈aU os:=by
 unfold mJ;constructor
 . intro h;split at h
   . rename_i n c
     have:=WE h;rw [<- this];exact List.mem_of_getElem? c
   . cases h
 . intro h;obtain ⟨a,b⟩:=uD d h;rw [Uc a,b];simp
def FdR (w:ZT) (os:List Ob) (x:ByteArray) (i j:ZS) (wr:ZT):Prop:=∃ a b:Nat,a<=b/\b<=os.length/\i=Z7 Z9 a/\j=Z7 Z9 b/\(∀ k (hk:k<os.length),k<a->jC os[k].name x=ZV)/\(∀ k (hk:k<os.length),b<=k->jC os[k].name x=ZU)/\bW w wr
def PS {os:List Ob} (a:Up (aU os)) {i j:Nat} (b:i<os.length) (c:j<os.length) (h:i<j):jC os[i].name os[j].name=ZV:=by
 unfold Up at a;rw [V3] at a;have:=a i j (by rw [bj];exact b) (by rw [bj];exact c) h;unfold aU at this;rwa [UN,UN] at this
def eN.at' {os:List Ob} (h:eN K w (.slice ao n c) os) {k:Nat} (a:k<os.length):∃ b off sv,ao=ZW ⟨b,off,ZX⟩/\b<w.heap.size/\K b/\w.cell? ⟨b,off+k*3,ZX⟩=ZW (ZZ os[k].name)/\w.cell? ⟨b,off+k*3+1,ZX⟩=ZW (Z7 Z9 (os[k].size:Nat))/\w.cell? ⟨b,off+k*3+2,ZX⟩=ZW sv/\bf K w sv os[k].RK:=by
 obtain ⟨d,r,e,_,f⟩:=h;obtain ⟨b,off,g,i,j,l⟩:=f (λe=>by rw [e] at a;simp at a);simp only [Vx] at e;obtain ⟨rfl,_,_⟩:=e;obtain ⟨sv,m,o,p,q⟩:=l k a;exact ⟨b,off,sv,g,j.lt,i,m,o,p,q⟩
theorem Fo {os:List Ob} (K:eN (λk=>k<w.heap.size) w v os) (kb:os.length<=10000) (R:Up (aU os)) (x:ByteArray) :
 ZQ ZN 131 #[v,ZZ x,.func (.func 132) #[] #[]] w λe w'=>e=Z3 (ZY #[Z7 Z9 (aI (aU os) x:Nat),Z1 (mJ os x)])/\bW w w':=by
 obtain ⟨ao,c,rfl,k0,_⟩:=id K;obtain ⟨N,M⟩:=nM (os.length);have H:=al K R;clear K R;rw [M];go_enter func131,ntmps131;go_wp2;go_loopw [9,10] (λi j wr=>FdR w os x i j wr) (λi j _=>(intOf j).toNat-(intOf i).toNat)
 case atStart=>exact ⟨0,N,T8 _,ec,rfl,rfl,λk _ h=>ec,λk r h=>ec,TW _ w⟩
 case round=>
  obtain ⟨a,b,k8,T,rfl,rfl,p,n,f⟩:=hrel;by_cases k9:a<b
  . obtain ⟨m,D⟩:∃ m:Nat,m=(a+b)/2:=⟨_,rfl⟩;have Q:((a:Int)+(b:Int))/2=(m:Int):=ec;have L:m<os.length:=ec;obtain ⟨b0,off,sv,rfl,Z,_,z,A,E,_⟩:=(H.o.1.keep (ef.RM f)).at' (k:=m) L;obtain ⟨nm,d⟩:=nM (os[m].name);obtain ⟨sz,C⟩:∃ sz:Int,((os[m].size:Nat):Int)=sz:=⟨_,rfl⟩;rw [d] at z;rw [C] at A;have k5:m<N:=ec;have k6:(m:Int)<(N:Int):=ec;have s:=a6 p n f d D;clear p n f d D C;go_wp2_with fail;refine (yM nm x sz sv wr).mono ?_;rintro e w1 ⟨rfl,u⟩;obtain ⟨I,l⟩:=nM (rV nm x);rw [l];obtain ⟨p,n,f,d,D⟩:=s.o;have g:bW w w1:=f.trans (u.mono f.size);by_cases O:I<0
    . have q:jC nm x=ZV:=GP.1 (by rw [l];exact O);have F:b9 (FdR w os x (Z7 Z9 ((m+1:Nat):Int)) (Z7 Z9 (b:Nat)) w1):=ak ⟨m+1,b,ec,T,rfl,rfl,(λk r h=>by
       rcases XT (YV h) with e|J
       . subst e;rw [d];exact q
       . have:=PS H.o.2 r L J;rw [d] at this;exact jT this q),(λk r h=>n k r h),g⟩
      clear p n f d u g q l s z A E;dsimp only;have ka:m<=10000:=ec;have k7:a<=m:=ec;have X:m<b:=ec;clear D Q;go_wp2;refine ⟨oD F.o,?_⟩;show ((b:Int)).toNat-((m:Int)+1).toNat<((b:Int)).toNat-((a:Int)).toNat;omega
    . have q:jC nm x=ZU:=by
       cases h:jC nm x
       . rfl
       . exact absurd (GP.2 h) (by rw [l];exact O)
      have F:b9 (FdR w os x (Z7 Z9 (a:Nat)) (Z7 Z9 (m:Nat)) w1):=ak ⟨a,m,ec,ec,rfl,rfl,(λk r h=>p k r h),(λk r h=>by
       rcases XT h with e|J
       . subst e;rw [d];exact q
       . have:=PS H.o.2 L r J;rw [d] at this;cases hx:jC os[k].name x
         . rfl
         . rw [jT this hx] at q;cases q),g⟩
      clear p n f d u g q l s z A E;dsimp only;have k7:a<=m:=ec;have X:m<b:=ec;clear D Q;go_wp2;refine ⟨F.o,?_⟩;show ((m:Int)).toNat-((a:Int)).toNat<((b:Int)).toNat-((a:Int)).toNat;omega
  . have S:a=b:=ec;subst S;have y:aI (aU os) x=a:=gL _ _ _ Zy (λj W h=>by
     have hz:j<os.length:=(by rwa [bj] at W);simpa [aU] using p j hz h) (λV=>by
     have hy:a<os.length:=(by rwa [bj] at V);simpa [aU] using n a hy lR)
    by_cases hr:a<N
    . have Y:a<os.length:=M.symm▸hr;obtain ⟨b0,off,sv,rfl,Z,_,z,A,E,_⟩:=(H.o.1.keep (ef.RM f)).at' (k:=a) Y;obtain ⟨nm,d⟩:=nM (os[a].name);obtain ⟨sz,C⟩:∃ sz:Int,((os[a].size:Nat):Int)=sz:=⟨_,rfl⟩;have B:mJ os x=decide (rV nm x=0):=by
       unfold mJ;rw [y,Uc Zy];simp only [aU,UN,d];exact decide_eq_decide.2 GQ.symm
      rw [d] at z;rw [C] at A;have U:(a:Int)<(N:Int):=ec;have s:=ak f;have G:=al y B;clear p n f d y B C;go_wp2_with fail;refine (yM nm x sz sv wr).mono ?_;rintro e w1 ⟨rfl,u⟩;obtain ⟨I,l⟩:=nM (rV nm x);have t:=al G.o.1 (G.o.2.trans (by rw [l]));rw [l];have g:b9 (bW w w1):=ak (s.o.trans (u.mono s.o.size));clear u s G z A E l;by_cases P:I=0
      . subst P;go_wp2;go_ret2;refine ⟨?_,g.out⟩;rw [t.out.1,t.out.2];rfl
      . go_wp2;go_ret2;refine ⟨?_,g.out⟩;rw [t.out.1,t.out.2];simp [P]
    . have B:mJ os x=ZU:=by
       unfold mJ;rw [y,Vm Zy]
      have U:¬ (a:Int)<(N:Int):=ec;have g:b9 (bW w wr):=ak f;have t:=al y B;clear p n f y B;go_wp2;go_ret2;refine ⟨?_,g.out⟩;rw [t.out.1,t.out.2];rfl
theorem Md {os:List Ob} (c:eN (λk=>k<w.heap.size) w v os) (g:os.length<=10000) (h:Up (aU os)) (x:ByteArray) :
 ZQ ZN 97 #[v,ZZ x] w λe w'=>e=Z3 (ZY #[Z7 Z9 (aI (aU os) x:Nat),Z1 (mJ os x)])/\bW w w':=by
 have a:=Fo c g h x;obtain ⟨n,f⟩:=nM (aI (aU os) x);obtain ⟨i,d⟩:=nM (mJ os x);rw [f,d] at a ⊢;clear f d;go_enter func97,ntmps97;go_wp2_with fail;refine a.mono ?_;rintro e w1 ⟨rfl,b⟩;have H:=ak b;clear b a c;go_wp2;go_ret2;exact ⟨rfl,H.o⟩
def bZ (x:ByteArray):Bool:=decide (1<=x.size/\x.size<=16)
theorem jW (x:ByteArray) (w:ZT):ZQ ZN 98 #[ZZ x] w λe w'=>e=Z3 (Z1 (bZ x))/\w'=w:=by
 have g:bZ x=(decide (1<=x.size)&&decide (x.size<=16)):=by unfold bZ;simp
 rw [g];obtain ⟨n,f⟩:=nM (x.size);rw [f];by_cases b:1<=n
 . have a:(1:Int)<=(n:Int):=ec;by_cases c:n<=16
   . have d:(n:Int)<=16:=ec;go_enter func98,ntmps98;go_wp2;go_ret;exact ⟨by simp [b,c],rfl⟩
   . have d:¬ (n:Int)<=16:=ec;go_enter func98,ntmps98;go_wp2;go_ret;exact ⟨ek,rfl⟩
 . have a:¬ (1:Int)<=(n:Int):=ec;go_enter func98,ntmps98;go_wp2;go_ret;exact ⟨ek,rfl⟩
theorem uI (s:ByteArray) (w:ZT) (l:¬ s.size=0) (A:s.size<=1000000):ZQ ZN 164 #[ZZ s] w λe w'=>e=Z3 (ZZ s)/\bW w w':=by
 obtain ⟨i,d,v,a,y⟩:=Uu Tryz.R4;have m:(ZN.info? 5).map (·.size)=ZW 1:=by rw [d];simp [a]
 have r:ZN.cellsOf 5=1:=by simp [Program.cellsOf,d,a]
 obtain ⟨M,b⟩:∃ M,M=madeCells (Value.int .u8 0).cells (((s.size:Nat):Int).toNat*i.size):=⟨_,rfl⟩;have B:M.size=s.size:=by rw [b,size_madeCells,a];simp
 have D:∀ W:ZT,(Instr.makeSlice 40 (Z7 Z9 (s.size:Int)) (Z7 Z9 (s.size:Int))).run ZN W=.ok (Z5 (ZW ⟨W.heap.size,0,ZX⟩) s.size s.size) (W.alloc (Z4 M 5)):=λW=>by
  have h:=run_make (P:=ZN) W 40 5 i (Z7 .u8 0) Un d v .i64 .i64 (s.size:Int) (s.size:Int) ec ec (by rw [y];omega) ec;rw [<- b] at h;simpa using h
 clear b;have t:=Lib.run_copy_row_string (P:=ZN) (w.alloc (Z4 M 5)) 40 9 3 5 w.heap.size 0 s.size s.size s M 5 Un m (abq w _) lR ec;obtain ⟨Y,c⟩:∃ Y,Y=(M.toList.take 0++Lib.byteCells s.data.toList++M.toList.drop (0+s.size)).toArray:=⟨_,rfl⟩;rw [<- c] at t;have f:Y.toList=Lib.byteCells s.data.toList:=by
  rw [c,List.toList_toArray,Wq,Uq,WT (by rw [WB];omega),Ws]
 have C:Y.size=s.size:=by rw [<- WB,f,Lib.byteCells_length,<- Yq]
 have g:((w.alloc (Z4 M 5)).setRow w.heap.size Y).heap[w.heap.size]?=ZW (Z4 Y 5 (0,0)):=Vt _ _ M _ 5 (0,0) (abq w _);have u:s.data.toList≠[]:=λe=>l (by rw [Yq,e];rfl);have n:=Lib.run_unsafeString_row (P:=ZN) ((w.alloc (Z4 M 5)).setRow w.heap.size Y) 310 3 9 5 underlying310 r w.heap.size Y.size (by unfold World.shape?;rw [g]) s.data.toList u (by rw [<- Yq];omega) (by rw [<- Yq];omega)
  (λj x z=>Lib.cells_of_row g Y.size j _ (by rw [UI (by rw [WB];exact TV _),f];simp [Lib.byteCells,z]))
 rw [<- Yq] at n;clear c;go_enter func164,ntmps164;go_wp2;go_ret;have o:bW w (w.alloc (Z4 M 5)):=bA w _;have q:ZR w.heap.size (w.alloc (Z4 M 5)) ((w.alloc (Z4 M 5)).setRow w.heap.size Y):=⟨rfl,rfl,rfl,ek,λk E=>setRow_other _ _ _ _ ec⟩;exact ⟨rfl,Lib.below_freeze (o.trans q) (p:=⟨w.heap.size,0,ZX⟩) lR _⟩
theorem uJ (s:ByteArray) (w:ZT) (c:¬ s.size=0) (d:s.size<=1000000):ZQ ZN 128 #[ZZ s] w λe w'=>e=Z3 (ZZ s)/\bW w w':=by
 have b:=uI s w c d;go_enter func128,ntmps128;go_wp2_with fail;refine b.mono ?_;rintro e w1 ⟨rfl,a⟩;have H:=ak a;clear a b;go_wp2;go_ret;exact ⟨rfl,H.o⟩
theorem oQ {os:List Ob} (a:eN K w v os) (hr:os.length<=10000) :
 ZQ ZN 138 #[v] w λe w'=>∃ u L,e=Z3 u/\L.map (·.1)=os/\OL K w L/\w'.ownsRow w.heap.size 152 3 u L.length (bQ L)/\bW w w':=by
 obtain ⟨L,hL,j,f⟩:=OM a;obtain ⟨ao,c,rfl,Q,d⟩:=id a;have F:L.length=os.length:=by rw [<- hL,Ue]
 obtain ⟨M,I,B,C,D⟩:=Uu Tryz.RV;cases ao with
 | none=>
  have t:os=[]:=Classical.byContradiction λh=>by obtain ⟨b,off,e,_⟩:=d h;cases e
  subst t;have E:L=[]:=UW F;subst E;have G:=λl=>XM (P:=ZN) l 144 152 ZX 0 c 0 0 Vs;simp only [UV];clear d a f j;go_enter func138,ntmps138;go_wp2;go_ret;exact ⟨_,[],rfl,rfl,λx J=>by simp at J,UK _ _ _ _,TW _ _⟩
 | some s=>
  have G:=λl=>XM (P:=ZN) l 144 152 (ZW s) os.length c 0 0 Vs;have g:bW w (w.alloc (Z4 #[] 152)):=bA _ _;have p:=f _ (ef.RM g);have r:(w.alloc (Z4 #[] 152)).ownsRow w.heap.size 152 3 (Z5 (ZW ⟨w.heap.size,0,ZX⟩) 0 0) 0 []:=⟨rfl,.inr ⟨w.heap.size,0,#[],rfl,TV _,UC w _,TV _,eD,rfl,rfl⟩⟩;have H:=a6 hL j g p r;clear d a f j g p r hL;go_enter func138,ntmps138;go_wp2_with (at_builtin;refine ae _ rfl (Z0 5) (Z0 6) 144 144 rfl w.heap.size 152 M _ 3 48 Vs I B C D rfl _ 0 [] um (by exact H.o.2.2.2.2) _ um L.length (bQ L) (by exact H.o.2.2.2.1) eD ec (by exact H.o.2.2.1.size) ?_;intro R w3 i q A;rw [Uj,Uq] at i;have m:=al i q;clear i q A);go_ret;obtain ⟨y,z,n,N,O⟩:=H.o;exact ⟨_,L,rfl,y,z,m.o.1,n.grown m.o.2 n.size (λk e=>B3)⟩
def oR {o:Oper} {a:Act} {K:Act->ZT->Prop} (f:o.guard=ZX) (d x:Operand) (b c:ZO) (e:o.op=Op.call { callee:=Callee.builtin Builtin.copy,args:=#[d,x],argTypes:=#[b,c] })
 (v u:ZS) (hd:a.eval d=v) (hx:a.eval x=u) {v':ZS} {w':ZT} (hr:(Builtin.copy_ #[b,c] o.type #[v,u]).run ZN w=.ok v' w') (hK:K (a.put o.dst v') w'):if Region.wanted o (yielded ops a.tmps)=ZV then Oper.wp ZN o a w K Q else E:=by
 rw [TT (by simp [Region.wanted,f])];unfold Oper.wp;simp [execOp,e,resolve,invoke,builtin,hd,hx,hr,Result.andThen];exact hK
theorem Me (cur c v:List α) (a m k:Nat) (g:cur.take k=c) (l:c.length=k) (h:v.length=m) (f:a<=k) (n:k+m<=cur.length) :
 ((cur.take (a+m)++c.drop a++cur.drop (a+m+(c.drop a).length)).take a++v++(cur.take (a+m)++c.drop a++cur.drop (a+m+(c.drop a).length)).drop (a+v.length)).take (k+m)=c.take a++(v++c.drop a) /\
 ((cur.take (a+m)++c.drop a++cur.drop (a+m+(c.drop a).length)).take a++v++(cur.take (a+m)++c.drop a++cur.drop (a+m+(c.drop a).length)).drop (a+v.length)).length=cur.length:=by
 have b:(cur.take (a+m)).length=a+m:=Jx
 have d:(cur.take (a+m)++c.drop a++cur.drop (a+m+(c.drop a).length)).take a=c.take a:=by
  rw [Uz,VW ec,YL,Wo ec,<- g,YL,Wo f]
 have e:(cur.take (a+m)++c.drop a++cur.drop (a+m+(c.drop a).length)).drop (a+v.length)=c.drop a++cur.drop (a+m+(c.drop a).length):=by
  rw [h,Uz];exact List.drop_left' b
 have i:(c.take a).length=a:=Jx
 have j:(c.drop a).length=k-a:=by rw [Um];omega
 rw [d,e];constructor
 . rw [Uz,<- Uz v,<- Uz (c.take a)];have:(c.take a++(v++c.drop a)).length=k+m:=by rw [Ua,Ua];omega
   rw [<- this,Yf]
 . simp only [Ua,Um,Uo];omega
def kV (b:Nat):∀ (a:List ZS) (o:Nat) (w:ZT),(w.drew.setCells b o a).heap=(w.setCells b o a).heap
 | [],_,_=>rfl
 | v::r,o,w=>kV b r (o+1) (w.setCell ⟨b,o,ZX⟩ v)
theorem GR (L:List (Ob×ZS)) (x:Ob×ZS) (i:Nat):(bQ L).take (i*3)++(jB x++(bQ L).drop (i*3))=bQ (L.take i++x::L.drop i):=by
 rw [C4,uB,iW];congr 1
def GS:(ZN.info? 152).map (·.size)=ZW 3:=ei
theorem Df {vb:Nat} {cur:Array ZS} {L:List (Ob×ZS)} (A:w.heap[g]?=ZW (Z4 cur 152 (0,0))) (Q:base<=g) (C:cur.size=cap*3) (z:cur.toList.take (L.length*3)=bQ L) (N:∀ u∈bQ L,u.oneCell'=ZV) (T:∀ u∈jB x,u.oneCell'=ZV)
 (X:i<L.length) (V:L.length+1<=cap) (hl:L.length<=10000) (D:w.heap[vb]?=ZW (Z4 (jB x).toArray 152 (0,0))) (R:vb≠g) :
 ZQ ZN 166 #[Z5 (ZW ⟨g,0,ZX⟩) L.length cap,Z7 Z9 i,Z5 (ZW ⟨vb,0,ZX⟩) 1 1] w λe w'=>e=Z3 (Z5 (ZW ⟨g,0,ZX⟩) (L.length+1) cap)/\ZR base w w'/\∃ a,ai w' g 152 a/\a.length=cap*3/\a.take ((L.length+1)*3)=bQ (L.take i++x::L.drop i):=by
 obtain ⟨n,O⟩:=nM (L.length);have m:ai w g 152 cur.toList:=by unfold ai;exact A
 have r:ai w vb 152 (jB x):=D;have h:cur.toList.length=cap*3:=oD C
 have s:((bQ L).drop (i*3)).length=(n-i)*3:=by rw [Um,bT,O];omega
 have kf:(jB x).length=3:=rfl;have S:∀ lb cb ob,(callFunc 191 #[Z5 (ZW ⟨vb,0,ZX⟩) 1 1,Z5 (ZW ⟨g,ob,ZX⟩) lb cb]).run ZN w=.ok (.value (Z1 ZU)) w:=λlb cb ob=>by
  rw [run_callFunc_extern func191 ei ei ei (e:=Extern.SlicesOverlaps.overlaps #[143,143] #[4]) ei,
   Lib.run_overlaps_apart w 143 4 152 underlying143 3 (λw=>by obtain ⟨io,ka,kb,Z,kc⟩:=Uu Tryz.RV;simp [sizeOf,typeInfo,ka,Z]) ⟨vb,0,ZX⟩ ⟨g,ob,ZX⟩ 1 1 lb cb R 152 152 3 (cap*3) (by simp [World.shape?,D];rfl) (by simp [World.shape?,A,C]) ec (r.R2 _) (r.R2 _)]
  rfl
 have I:∀ c d l1 b E y sc,d=i*3+3->l1=n-i->E=i*3->y=n+1-i->(Builtin.copy_ #[144,144] c #[Z5 (ZW ⟨g,d,ZX⟩) l1 b,Z5 (ZW ⟨g,E,ZX⟩) y sc]).run ZN w.drew=.ok (goInt (YH y l1)) (w.drew.setCells g (i*3+3) ((bQ L).drop (i*3))):=by
  rintro c d l1 b E y sc rfl rfl rfl rfl;refine dX w.drew _ _ c 152 3 g (i*3+3) _ b g (i*3) _ sc 152 cur.toList _ Vs GS (by rw [s];show _=min _ _*3;rw [acd ec]) (λj u l=>?_) m (by rw [s,h];omega) (λu hu=>N u (U0 hu));refine m.cell ?_;rw [Wf] at l;have ke:i*3+j<L.length*3:=by obtain ⟨q,_⟩:=Va.1 l;rwa [bT] at q
  rw [<- z,VM ke] at l;exact l
 have f:=m.set (i*3+3) ((bQ L).drop (i*3)) (by rw [s,h];omega);have G:ai (w.setCells g (i*3+3) ((bQ L).drop (i*3))) vb 152 (jB x):=r.keep (aQ g _ _ _ _ R);obtain ⟨c1,B⟩:=nM (cur.toList.take (i*3+3)++(bQ L).drop (i*3)++cur.toList.drop (i*3+3+((bQ L).drop (i*3)).length));have K:=Me cur.toList (bQ L) (jB x) (i*3) 3 (L.length*3) z (bT L) rfl ec (by rw [h];omega);rw [B] at f K;obtain ⟨t,v⟩:=K;have p:c1.length=cap*3:=by
  rw [<- B];simp only [Ua,Um,Uo,bT,h];omega
 have J:∀ (W:ZT),W.heap=(w.setCells g (i*3+3) ((bQ L).drop (i*3))).heap->∀ c d l1 b,d=i*3->l1=n+1-i->(Builtin.copy_ #[144,143] c #[Z5 (ZW ⟨g,d,ZX⟩) l1 b,Z5 (ZW ⟨vb,0,ZX⟩) 1 1]).run ZN W=.ok (goInt (YH 1 l1)) (W.setCells g (i*3) (jB x)):=by
  rintro W M c d l1 b rfl rfl;have k6:ai W g 152 c1:=by unfold ai;rw [M];exact f
  have Y:ai W vb 152 (jB x):=by unfold ai;rw [M];exact G
  refine dX W _ _ c 152 3 g (i*3) _ b vb 0 1 1 152 c1 _ Vs GS (by show _=min _ _*3;rw [Wo ec];rfl) (λj u l=>?_) k6 (by rw [p,kf];omega) T;rw [Uj];exact Y.cell l
 have H:=aE f t v;have k9:=ak m.lt;have p:=ak p;have hr:=ak h;have F:=al I J;have U:=ak S;rw [O] at X V hl ⊢;have kp:IntKind.i64.wrap ((i:Int)+1)=(i:Int)+1:=l3
 have kr:¬ (cap:Int)<(n:Int)+1:=ec
 have km:i<=n:=ec
 have kh:¬ (cap=i+1):=ec
 have kj:¬ (cap=i):=ec
 have ko:((i:Int)+1).toNat=i+1:=ec
 have kg:(0:Int)<=(i:Int)+1:=ec
 have ki:(i:Int)<=(n:Int)+1:=ec
 clear m r s S I J f G B t v h C z N T D A;go_enter func166,ntmps166;go_wp2_with (simp only [U.o]);go_region_law (refine oR rfl _ _ 144 144 rfl _ _ D2 D2 (F.o.1 _ ((i+1)*3) (n-i) (cap-(i+1)) (i*3) (n+1-i) (cap-i) ec ec ec ec) ?_)
 have k8:∀ c b,(Builtin.copy_ #[144,143] c #[Z5 (ZW ⟨g,i*3,ZX⟩) (n+1-i) b,Z5 (ZW ⟨vb,0,ZX⟩) 1 1]).run ZN (w.drew.setCells g (i*3+3) ((bQ L).drop (i*3)))=.ok (goInt (YH 1 (n+1-i))) ((w.drew.setCells g (i*3+3) ((bQ L).drop (i*3))).setCells g (i*3) (jB x)):=λc b=>F.o.2 _ (kV _ _ _ _) c (i*3) (n+1-i) b rfl rfl;go_wp2;go_ret;obtain ⟨f,t,v⟩:=H.o;have k7:ai (w.drew.setCells g (i*3+3) ((bQ L).drop (i*3))) g 152 c1:=by unfold ai;rw [kV];exact f
 have kk:g<w.heap.size:=k9.out;have P:ZR base w (w.drew.setCells g (i*3+3) ((bQ L).drop (i*3))):=(TW base w).drew.grown (cB _ _ _ _) (by show base<=w.heap.size;omega) (λk e=>by cases e;exact Q);refine ⟨rfl,P.grown (cB _ _ _ _) (TU ec P.size) (λk e=>by cases e;exact Q),_,k7.set (i*3) (jB x) (by have h1:c1.length=cap*3:=p.out;have h2:(jB x).length=3:=rfl;omega),?_,?_⟩
 . rw [v];exact hr.out
 . rw [(ec:(n+1)*3=L.length*3+3),t,GR]
theorem Dg {vb:Nat} {cur:Array ZS} {L:List (Ob×ZS)} (Z:w.heap[g]?=ZW (Z4 cur 152 (0,0))) (ko:base<=w.heap.size) (kp:cur.size=cap*3) (Q:cur.toList.take (L.length*3)=bQ L) (hs:∀ u∈bQ L,u.oneCell'=ZV) (kh:∀ u∈jB x,u.oneCell'=ZV)
 (hi:i<L.length) (kx:L.length<=cap) (hv:cap<L.length+1) (hl:L.length<=10000) (hx:w.heap[vb]?=ZW (Z4 (jB x).toArray 152 (0,0))) :
 ZQ ZN 166 #[Z5 (ZW ⟨g,0,ZX⟩) L.length cap,Z7 Z9 i,Z5 (ZW ⟨vb,0,ZX⟩) 1 1] w λe w'=>∃ c,e=Z3 (Z5 (ZW ⟨w.heap.size,0,ZX⟩) (L.length+1) c)/\ZR base w w'/\L.length+1<=c/\c<=9223372036854775807/\∃ d,ai w' w.heap.size 152 d/\d.length=c*3/\d.take ((L.length+1)*3)=bQ (L.take i++x::L.drop i):=by
 obtain ⟨io,kf,hq,hr,S⟩:=Uu Tryz.RV;obtain ⟨n,J⟩:=nM (L.length);have y:ai w g 152 cur.toList:=by unfold ai;exact Z
 have T:ai w vb 152 (jB x):=hx;have A:((bQ L).drop (i*3)).length=(n-i)*3:=by rw [Um,bT,J];omega
 have r:((bQ L).take (i*3)).length=i*3:=by rw [Uo,bT,J];omega
 have B:(jB x).length=3:=rfl;have X:∀ j u,(bQ L)[j]?=ZW u->w.cell? ⟨g,j,ZX⟩=ZW u:=λj u b=>by
  refine y.cell ?_;have V:j<L.length*3:=Y6
  rw [<- Q,VM V] at b;exact b
 have hold:(Builtin.firstCells io.size i (Z5 (ZW ⟨g,0,ZX⟩) i cap)).run ZN w.drew=.ok ((bQ L).take (i*3)).toArray w.drew:=by
  rw [hr];exact run_firstCells_some w.drew 3 i ⟨g,0,ZX⟩ i cap _ r (λj u b=>by
   rw [Vo,Uj];rw [X8] at b;split at b
   . exact X j u b
   . cases b)
 have ke:i+(n+1-i)=n+1:=ec
 have kg:(n:Int)+1-(i:Int)=((n+1-i:Nat):Int):=ec
 have s:=λh=>Lib.run_append_grow_zeros w 144 3 h 152 io _ .i64 .i64 Vs WQ kf hq (ZW ⟨g,0,ZX⟩) i cap _ hold (n+1-i) ec ec ec ec (by rw [S];omega) (by rw [S,ke];exact abr ec ec);rw [ke] at s;obtain ⟨C,I⟩:=nM (grownCap w (n+1) cap 152);have kk:n+1<=C:=by rw [<- I];exact abo w _ _ _
 have km:C<=9223372036854775807:=by
  have:=abp w (n+1) cap 152 eD;rw [I] at this;unfold maxLen at this;omega
 rw [I] at s;obtain ⟨a,E⟩:∃ a:Array ZS,((bQ L).take (i*3)).toArray++Builtin.zeroCells (Value.agg #[ZZ YF,Z7 Z9 0,Z5 ZX 0 0]).cells (n+1-i)++Builtin.zeroCells (Value.agg #[ZZ YF,Z7 Z9 0,Z5 ZX 0 0]).cells (C-(n+1))=a:=⟨_,rfl⟩;rw [E] at s;have kj:(Value.agg #[ZZ YF,Z7 Z9 0,Z5 ZX 0 0]).cells.size=3:=um
 have K:a.toList.length=C*3:=by
  rw [<- E];simp only [WB,Array.size_append,size_zeroCells,UH,kj,r];omega
 have kb:a.toList.take (i*3)=(bQ L).take (i*3):=by
  rw [<- E,YW,YW,Uz,VW (by simp [r])];rw [UI (by simp [r])]
 obtain ⟨l,N⟩:=nM (w.drew.alloc (Z4 a 152));rw [N] at s;have U:ai l w.heap.size 152 a.toList:=by rw [<- N];exact abq w.drew _
 have t:bW w l:=by rw [<- N];exact (TW _ w).drew.alloc lR _
 have ki:ai l vb 152 (jB x):=T.keep (t.block _ T.lt);have kc:ai l g 152 cur.toList:=y.keep (t.block _ y.lt);have v:∀ h p,(Builtin.copy_ #[144,143] h #[Z5 (ZW ⟨w.heap.size,i*3,ZX⟩) (n+1-i) p,Z5 (ZW ⟨vb,0,ZX⟩) 1 1]).run ZN l=.ok (goInt (YH 1 (n+1-i))) (l.setCells w.heap.size (i*3) (jB x)):=λh p=>by
  refine dX l _ _ h 152 3 w.heap.size (i*3) _ p vb 0 1 1 152 a.toList _ Vs GS (by show _=min _ _*3;rw [Wo ec];rfl) (λj u b=>?_) U (by rw [K,B];omega) kh;rw [Uj];exact ki.cell b
 have z:=U.set (i*3) (jB x) (by rw [K,B];omega);obtain ⟨f,O⟩:=nM (l.setCells w.heap.size (i*3) (jB x));have kv:g<w.heap.size:=y.lt;have hp:ai f g 152 cur.toList:=by rw [<- O];exact kc.keep (aQ _ _ _ _ _ ec)
 have R:bW w f:=by rw [<- O];exact t.grown (cB _ _ _ _) t.size (λk e=>B3)
 rw [O] at v z;obtain ⟨m,P⟩:=nM (a.toList.take (i*3)++jB x++a.toList.drop (i*3+(jB x).length));have G:m.length=C*3:=by rw [<- P];simp only [Ua,Um,Uo,K,B];omega
 have Y:m.take (i*3+3)=(bQ L).take (i*3)++jB x:=by
  rw [<- P,kb];have:((bQ L).take (i*3)++jB x).length=i*3+3:=by rw [Ua,r,B]
  rw [<- this,Yf]
 rw [P] at z;have hh:∀ h p sc,(Builtin.copy_ #[144,144] h #[Z5 (ZW ⟨w.heap.size,(i+1)*3,ZX⟩) (n-i) p,Z5 (ZW ⟨g,i*3,ZX⟩) (n-i) sc]).run ZN f.drew=.ok (goInt (YH (n-i) (n-i))) (f.drew.setCells w.heap.size ((i+1)*3) ((bQ L).drop (i*3))):=λh p sc=>by
  refine dX f.drew _ _ h 152 3 w.heap.size ((i+1)*3) _ p g (i*3) _ sc 152 m _ Vs GS (by rw [A];show _=min _ _*3;rw [YQ]) (λj u b=>?_) z (by rw [A,G];omega) (λu hu=>hs u (U0 hu));have h2:f.cell? ⟨g,i*3+j,ZX⟩=ZW u:=by
   refine hp.cell ?_;rw [Wf] at b;have V:i*3+j<L.length*3:=Y6;rw [<- Q,VM V] at b;exact b
  exact h2
 have M:ai (f.drew.setCells w.heap.size ((i+1)*3) ((bQ L).drop (i*3))) w.heap.size 152 _:=ai.set (w:=f.drew) z ((i+1)*3) ((bQ L).drop (i*3)) (by rw [A,G];omega);have F:bW w (f.drew.setCells w.heap.size ((i+1)*3) ((bQ L).drop (i*3))):=R.drew.grown (cB _ _ _ _) R.size (λk e=>B3);have hm:(m.take ((i+1)*3)++(bQ L).drop (i*3)++m.drop ((i+1)*3+((bQ L).drop (i*3)).length)).length=C*3/\(m.take ((i+1)*3)++(bQ L).drop (i*3)++m.drop ((i+1)*3+((bQ L).drop (i*3)).length)).take ((n+1)*3)=bQ (L.take i++x::L.drop i):=by
  constructor
  . simp only [Ua,Um,Uo,bT,G,J];omega
  . rw [(ec:(i+1)*3=i*3+3),Y];have:((bQ L).take (i*3)++jB x++(bQ L).drop (i*3)).length=(n+1)*3:=by rw [Ua,Ua,r,B,A];omega
    rw [<- this,Yf,Uz,GR]
 have H:=aE M F hm;have D:=aE s v hh;have W:=al kk km;rw [J] at hi hv hl kx ⊢;have q5:IntKind.i64.wrap ((i:Int)+1)=(i:Int)+1:=l3
 have q6:(cap:Int)<(n:Int)+1:=ec
 have q3:i<=n:=ec
 have kz:¬ (C=i+1):=ec
 have q1:¬ (cap=i):=ec
 have q2:¬ (C=i):=ec
 have q4:((i:Int)+1).toNat=i+1:=ec
 have ky:(0:Int)<=(i:Int)+1:=ec
 have q0:(i:Int)<=(n:Int)+1:=ec
 clear y T A r X hold s E K kb N U t ki kc v z O hp R P G Y hh M F hm I kj kp Q hs kh hx Z kv kf hq hr S;rw [<- kg] at D;go_enter func166,ntmps166;clear kg;have v:=D.o.2.1;go_wp2_with (at_builtin;refine Lib.wpList_append_run _ rfl _ _ _ _ rfl _ _ rfl rfl _ _ (D.o.1 _) ?_);clear v;go_region_law (refine oR rfl _ _ 144 144 rfl _ _ D2 D2 (D.o.2.2 _ (C-(i+1)) (cap-i)) ?_)
 go_wp2;go_ret;obtain ⟨M,F,kr,ks⟩:=H.o;exact ⟨C,rfl,F.mono ko,W.o.1,W.o.2,_,M,kr,ks⟩
def OP {vb:Nat} (d:w.heap[vb]?=ZW (Z4 (jB x).toArray 152 (0,0))) (b:∀ u∈jB x,u.oneCell'=ZV):Src ZN 3 143 (Z5 (ZW ⟨vb,0,ZX⟩) 1 1) 1 (jB x) w:=by
 have a:ai w vb 152 (jB x):=d;exact Vl w underlying143 ⟨vb,0,ZX⟩ 1 1 (jB x) rfl (λj u c=>by rw [Vo,Uj];exact a.cell c) b
theorem Fp {vb:Nat} {L:List (Ob×ZS)} (ho:w.ownsRow base 152 3 u L.length (bQ L)) (d:base<=w.heap.size) (l:∀ u∈jB x,u.oneCell'=ZV) (hl:L.length<=10000) (m:w.heap[vb]?=ZW (Z4 (jB x).toArray 152 (0,0))) :
 ZQ ZN 166 #[u,Z7 Z9 (L.length:Nat),Z5 (ZW ⟨vb,0,ZX⟩) 1 1] w λe w'=>∃ u',e=Z3 u'/\w'.ownsRow base 152 3 u' (L.length+1) (bQ (L++[x]))/\ZR base w w':=by
 obtain ⟨z,v,q,r,s⟩:=Uu Tryz.RV;have i:=OP m l;have h:∀ k,u.ownBlock=ZW k->base<=k:=λk e=>by
  rcases ho.2 with ⟨rfl,_⟩|⟨g,cap,cur,rfl,t,_⟩
  . cases e
  . cases e;exact t
 have H:=aE ho i h;obtain ⟨n,y⟩:=nM (L.length);have j:bQ (L++[x])=bQ L++jB x:=by rw [iW];congr 1
 rw [j];rcases ho.2 with ⟨rfl,p⟩|⟨g,cap,cur,rfl,t,B,C,E,F,A⟩
 . rw [y] at p hl H ⊢;subst p;clear ho i h m l j;go_enter func166,ntmps166;go_wp2_with (at_builtin;refine ae _ rfl (Z0 23) (Z0 24) 144 143 rfl base 152 z _ 3 48 Vs v q r s rfl _ 0 (bQ L) um acr _ um 1 (jB x) (by exact H.o.2.1) eD ec d ?_;intro D w3 c b f;have a:=al c b;clear c b f);go_ret;exact ⟨_,rfl,a.o.1,(TW base w).grown a.o.2 d H.o.2.2⟩
 . rw [y] at hl H C ⊢;clear ho i h m l j A B;go_enter func166,ntmps166;go_wp2_with (at_builtin;refine ae _ rfl (Z0 23) (Z0 24) 144 143 rfl base 152 z _ 3 48 Vs v q r s rfl _ n (bQ L) um acr _ um 1 (jB x) (by exact H.o.2.1) eD ec d ?_;intro D w3 c b f;have a:=al c b;clear c b f);all_goals (go_ret;exact ⟨_,rfl,a.o.1,(TW base w).grown a.o.2 d H.o.2.2⟩)
def Au {L:List (Ob×ZS)} (h:ai w g 152 cur) (a:base<=g) (c:n=L.length) (b:n<=cap) (e:cap<=9223372036854775807) (hl:cur.length=cap*3) (d:cur.take (n*3)=bQ L):w.ownsRow base 152 3 (Z5 (ZW ⟨g,0,ZX⟩) n cap) n (bQ L):=
 ⟨by rw [bT,c],.inr ⟨g,cap,cur.toArray,rfl,a,h,b,eD,oD hl,oD d⟩⟩
def Fs {vb:Nat} {L:List (Ob×ZS)} (ho:w.ownsRow base 152 3 u L.length (bQ L)) (f:base<=w.heap.size) (p:∀ u∈bQ L,u.oneCell'=ZV) (j:∀ u∈jB x,u.oneCell'=ZV) (hl:L.length<=10000) (k:w.heap[vb]?=ZW (Z4 (jB x).toArray 152 (0,0))) (D:u.ownBlock≠ZW vb) (A:i<=L.length) :
 ZQ ZN 166 #[u,Z7 Z9 (i:Nat),Z5 (ZW ⟨vb,0,ZX⟩) 1 1] w λe w'=>∃ u',e=Z3 u'/\w'.ownsRow base 152 3 u' (L.length+1) (bQ (L.take i++x::L.drop i))/\ZR base w w':=by
 rcases XT A with e|t
 . subst e;rw [VA,List.drop_length];exact Fp ho f j hl k
 . have o:L.length+1=(L.take i++x::L.drop i).length:=en;rcases ho.2 with ⟨rfl,E⟩|⟨g,cap,cur,rfl,q,r,C,B,s,n⟩
   . omega
   . have z:cap<=9223372036854775807:=(by unfold maxLen at B;omega);by_cases m:L.length+1<=cap
     . refine (Df r q s n p j t m hl k (λe=>D (by rw [e];rfl))).mono ?_;rintro e w' ⟨rfl,h,a,b,c,d⟩;exact ⟨_,rfl,Au b q o m z c d,h⟩
     . refine (Dg r f s n p j t C ec hl k).mono ?_;rintro e w' ⟨l,rfl,h,v,y,a,b,c,d⟩;exact ⟨_,rfl,Au b f o v y c d,h⟩
def Av {xs:List ZS} (ho:w.ownsRow base 152 3 u n xs) (d:g<base):u.ownBlock≠ZW g:=λe=>by
 rcases ho.2 with ⟨rfl,_⟩|⟨a,cap,cur,rfl,c,_⟩
 . cases e
 . have:a=g:=W7;omega
def Aw {xs:List ZS} (ho:w.ownsRow base 152 3 u n xs) (d:w.heap.size<=g):u.ownBlock≠ZW g:=λe=>by
 rcases ho.2 with ⟨rfl,_⟩|⟨a,cap,cur,rfl,c,h,_⟩
 . cases e
 . have:a=g:=W7;have:=(TX.1 h).1;omega
def Jb {xs:List ZS} (ho:w.ownsRow base 152 3 u n xs) (o:Obj):(w.alloc o).ownsRow base 152 3 u n xs:=by
 refine ⟨ho.1,?_⟩;rcases ho.2 with h|⟨g,cap,cur,rfl,a,h,hr⟩
 . exact .inl h
 . exact .inr ⟨g,cap,cur,rfl,a,(We w o g (TX.1 h).1).trans h,hr⟩
def uK (K:Nat->Prop) (w:ZT) (os:List Ob) (e:ZP) (w':ZT):Prop:=∃ u,e=Z3 u/\eN K w' u os/\bW w w'
theorem Dh {os:List Ob} (M:eN K w v os) (k8:os.length<=9999) (hK:∀ k,w.heap.size<=k->K k) {i:Nat} (hi:i<=os.length) (o:Ob) (sv:ZS) (z:bf K w sv o.RK) :
 ZQ ZN 130 #[v,Z7 Z9 (i:Nat),.agg #[ZZ o.name,Z7 Z9 (o.size:Nat),sv]] w (uK K w (os.take i++o::os.drop i)):=by
 obtain ⟨nm,Q⟩:=nM (o.name);obtain ⟨sz,S⟩:∃ sz:Int,((o.size:Nat):Int)=sz:=⟨_,rfl⟩;have T:∀ u∈jB (o,sv),u.oneCell'=ZV:=by
  obtain ⟨ao,c,e,_⟩:=z;exact GL ⟨ao,_,c,e⟩
 have U:(jB (o,sv)).toArray=#[ZZ nm,Z7 Z9 sz,sv]:=by rw [<- Q,<- S];rfl
 have O:∀ W,bW w W->ZQ ZN 138 #[v] W λe w'=>∃ u L,e=Z3 u/\L.map (·.1)=os/\OL K W L/\w'.ownsRow W.heap.size 152 3 u L.length (bQ L)/\bW W w':=λW r=>oQ (M.keep (ef.RM r)) ec;have P:∀ (W g:ZT) (u:ZS) (L:List (Ob×ZS)) (base vb:Nat),bW w W->bW W g->L.map (·.1)=os->OL K W L->g.ownsRow base 152 3 u L.length (bQ L)->w.heap.size<=base->W.heap.size<=base->base<=g.heap.size->g.heap[vb]?=ZW (Z4 #[ZZ nm,Z7 Z9 sz,sv] 152 (0,0))->u.ownBlock≠ZW vb ->
  ZQ ZN 166 #[u,Z7 Z9 (i:Nat),Z5 (ZW ⟨vb,0,ZX⟩) 1 1] g (uK K w (os.take i++o::os.drop i)):=λW g u L base vb r k0 hL b ho k9 X k5 Y k6=>by
  have k7:L.length=os.length:=by rw [<- hL,Ue]
  refine (Fs ho k5 b.one T ec (by rw [U];exact Y) k6 ec).mono ?_;rintro e w' ⟨u',rfl,R,Z⟩;have s:bW W w':=k0.trans (Z.mono X);have H:bW w w':=r.trans (s.mono r.size);have I:L.length+1=(L.take i++(o,sv)::L.drop i).length:=en
  rw [I] at R;refine ⟨u',rfl,?_,H⟩;have d:=uC (K:=K) (L:=L.take i++(o,sv)::L.drop i) R (by rw [<- I];omega) (λk hk=>hK k ec) (λy V=>by
   rw [Ui,Uv] at V;rcases V with h|h|h
   . exact (b y (UX h)).keep (ef.RM s)
   . subst h;exact z.keep (ef.RM H)
   . exact (b y (U0 h)).keep (ef.RM s))
  have e:(L.take i++(o,sv)::L.drop i).map (·.1)=os.take i++o::os.drop i:=by rw [Uw,U1,WJ,WK,hL]
  rwa [e] at d
 rw [Q,S];have A:=ak O;have B:=ak P;clear O P M z T U hK;go_enter func130,ntmps130;have q:bW w (w.alloc (Z4 #[ZZ nm,Z7 Z9 sz,sv] 152)).drew:=(bA w _).drew;have N:bW w ((w.alloc (Z4 #[ZZ nm,Z7 Z9 sz,sv] 152)).drew.alloc (Z4 #[ZZ nm,Z7 Z9 sz,sv] 152)):=q.alloc q.size _;have f:=al q N;have G:=UC w (Z4 #[ZZ nm,Z7 Z9 sz,sv] 152);have hr:ai (w.alloc (Z4 #[ZZ nm,Z7 Z9 sz,sv] 152)).drew w.heap.size 152 [ZZ nm,Z7 Z9 sz,sv]:=G;have C:=hr.cell (j:=0) (u:=ZZ nm) rfl;have D:=hr.cell (j:=1) (u:=Z7 Z9 sz) rfl;have E:=hr.cell (j:=2) (u:=sv) rfl;have F:=hr.lt;have J:(w.alloc (Z4 #[ZZ nm,Z7 Z9 sz,sv] 152)).drew.heap.size=w.heap.size+1:=by show (w.alloc _).heap.size=_;exact Uh _ _
 have x:((w.alloc (Z4 #[ZZ nm,Z7 Z9 sz,sv] 152)).drew.alloc (Z4 #[ZZ nm,Z7 Z9 sz,sv] 152)).heap[w.heap.size+1]?=ZW (Z4 #[ZZ nm,Z7 Z9 sz,sv] 152):=by rw [<- J];exact UC _ _
 have t:=al x (show w.heap.size+1<((w.alloc (Z4 #[ZZ nm,Z7 Z9 sz,sv] 152)).drew.alloc (Z4 #[ZZ nm,Z7 Z9 sz,sv] 152)).heap.size from (TX.1 x).1);have n:=a5 F C D E;clear q N F C D E G hr x J;go_wp2_with fail;go_region_with (first
  | (go_at_call 138;first
   | (refine (A.o (w.alloc (Z4 #[ZZ nm,Z7 Z9 sz,sv] 152)).drew f.o.1).mono ?_;rintro e w1 ⟨u,L,rfl,hL,b,ho,l⟩;have b0:=λj=>l.cell (p:=⟨w.heap.size,j,ZX⟩) (n.out.1);have c0:w1.cell? ⟨w.heap.size,0,ZX⟩=ZW (ZZ nm):=(b0 0).trans n.out.2.1;have c1:w1.cell? ⟨w.heap.size,1,ZX⟩=ZW (Z7 Z9 sz):=(b0 1).trans n.out.2.2.1;have c2:w1.cell? ⟨w.heap.size,2,ZX⟩=ZW sv:=(b0 2).trans n.out.2.2.2;clear b0;have a:=a5 hL b ho l;clear hL b ho l)
   | (refine (A.o ((w.alloc (Z4 #[ZZ nm,Z7 Z9 sz,sv] 152)).drew.alloc (Z4 #[ZZ nm,Z7 Z9 sz,sv] 152)) f.o.2).mono ?_;rintro e w1 ⟨u,L,rfl,hL,b,ho,l⟩;have a:=a5 hL b ho l;clear hL b ho l))
  | (go_at_call 166;first
   | (refine (B.o (w.alloc (Z4 #[ZZ nm,Z7 Z9 sz,sv] 152)).drew (w1.alloc (Z4 #[ZZ nm,Z7 Z9 sz,sv] 152)) u L (w.alloc (Z4 #[ZZ nm,Z7 Z9 sz,sv] 152)).drew.heap.size w1.heap.size f.o.1 (a.o.2.2.2.alloc a.o.2.2.2.size _) a.o.1 a.o.2.1 (Jb a.o.2.2.1 _) f.o.1.size lR (a.o.2.2.2.alloc a.o.2.2.2.size _).size (UC w1 _) (Aw a.o.2.2.1 lR)).mono ?_;rintro e w2 ⟨u2,rfl,d,m⟩;have HF:=al d m;clear d m)
   | (refine (B.o ((w.alloc (Z4 #[ZZ nm,Z7 Z9 sz,sv] 152)).drew.alloc (Z4 #[ZZ nm,Z7 Z9 sz,sv] 152)) w1 u L ((w.alloc (Z4 #[ZZ nm,Z7 Z9 sz,sv] 152)).drew.alloc (Z4 #[ZZ nm,Z7 Z9 sz,sv] 152)).heap.size (w.heap.size+1) f.o.2 a.o.2.2.2 a.o.1 a.o.2.1 a.o.2.2.1 f.o.2.size lR a.o.2.2.2.size ((a.o.2.2.2.block _ t.out.2).trans t.out.1) (Av a.o.2.2.1 t.out.2)).mono ?_;rintro e w2 ⟨u2,rfl,d,m⟩;have HF:=al d m;clear d m)))
 all_goals (go_wp2;go_ret;exact ⟨_,rfl,HF.o.1,HF.o.2⟩)
def lW {o:Oper} {a:Act} {K:Act->ZT->Prop} (f:o.guard=ZX) (d x:Operand) (b c:ZO) (e:o.op=Op.call { callee:=Callee.builtin Builtin.append,args:=#[d,x],argTypes:=#[b,c] })
 (v u:ZS) (hd:a.eval d=v) (hx:a.eval x=u) {v':ZS} {w':ZT} (hr:(Builtin.append_ #[b,c] o.type #[v,u]).run ZN w=.ok v' w') (hK:K (a.put o.dst v') w'):if Region.wanted o (yielded ops a.tmps)=ZV then Oper.wp ZN o a w K Q else E:=by
 rw [TT (by simp [Region.wanted,f])];unfold Oper.wp;simp [execOp,e,resolve,invoke,builtin,hd,hx,hr,Result.andThen];exact hK
theorem Mf (cur:List ZS) (L:List (Ob×ZS)) (i N:Nat) (c:L.length=N+1) (j:i<=N) (e:cur.take (L.length*3)=bQ L) (hl:(N+1)*3<=cur.length) (a:List ZS) (h:a.length=3) :
 ((cur.take (i*3)++(bQ L).drop ((i+1)*3)++cur.drop (i*3+((bQ L).drop ((i+1)*3)).length)).take (N*3)++a++(cur.take (i*3)++(bQ L).drop ((i+1)*3)++cur.drop (i*3+((bQ L).drop ((i+1)*3)).length)).drop (N*3+a.length)).take (N*3)=bQ (L.take i++L.drop (i+1)) /\
 ((cur.take (i*3)++(bQ L).drop ((i+1)*3)++cur.drop (i*3+((bQ L).drop ((i+1)*3)).length)).take (N*3)++a++(cur.take (i*3)++(bQ L).drop ((i+1)*3)++cur.drop (i*3+((bQ L).drop ((i+1)*3)).length)).drop (N*3+a.length)).length=cur.length:=by
 have g:((bQ L).drop ((i+1)*3)).length=(N-i)*3:=by rw [Um,bT,c];omega
 have d:cur.take (i*3)=bQ (L.take i):=by
  rw [<- C4,<- e,YL,Wo ec]
 have f:(cur.take (i*3)++(bQ L).drop ((i+1)*3)).length=N*3:=by rw [Ua,Uo,g];omega
 have b:(cur.take (i*3)++(bQ L).drop ((i+1)*3)++cur.drop (i*3+((bQ L).drop ((i+1)*3)).length)).take (N*3)=cur.take (i*3)++(bQ L).drop ((i+1)*3):=by
  conv=>lhs;rw [<- f]
  exact Yf
 constructor
 . rw [b,Uz,VW ec,UI ec,d,uB,iW]
 . rw [b];simp only [Ua,Um,Uo,bT,h,c];omega
theorem Ft {cur:Array ZS} {L:List (Ob×ZS)} (T:w.heap[g]?=ZW (Z4 cur 152 (0,0))) (X:base<=g) (Y:cur.size=cap*3) (C:cur.toList.take (L.length*3)=bQ L) (R:∀ u∈bQ L,u.oneCell'=ZV) (F:L.length=N+1) (U:i<=N) (k0:L.length<=cap) (kb:cap<=9223372036854775807) (hl:L.length<=10000) :
 ZQ ZN 137 #[Z5 (ZW ⟨g,0,ZX⟩) L.length cap,Z7 Z9 (i:Nat),Z7 Z9 ((i:Int)+1)] w λe w'=>e=Z3 (Z5 (ZW ⟨g,0,ZX⟩) N cap)/\ZR base w w'/\∃ a,ai w' g 152 a/\a.length=cap*3/\a.take (N*3)=bQ (L.take i++L.drop (i+1)):=by
 obtain ⟨Z,K,Q,t,hr⟩:=Uu Tryz.RV;have f:ai w g 152 cur.toList:=by unfold ai;exact T
 have m:cur.toList.length=cap*3:=oD Y
 have s:((bQ L).drop ((i+1)*3)).length=(N-i)*3:=by rw [Um,bT,F];omega
 have O:∀ u∈(bQ L).drop ((i+1)*3),u.oneCell'=ZV:=λu A=>R u (U0 A);have M:∀ j u,(bQ L)[j]?=ZW u->w.drew.cell? ⟨g,j,ZX⟩=ZW u:=λj u b=>by
  have h2:w.cell? ⟨g,j,ZX⟩=ZW u:=by
   refine f.cell ?_;have ka:j<L.length*3:=Y6;rw [<- C,VM ka] at b;exact b
  exact h2
 have S:∀ sc,Src ZN 3 144 (Z5 (ZW ⟨g,if cap=i+1 then 0 else (i+1)*3,ZX⟩) (N-i) sc) (N-i) ((bQ L).drop ((i+1)*3)) w.drew:=λsc=>by
  refine Vl w.drew Vs _ (N-i) sc _ s (λj u b=>?_) O;rw [Vo];split
  . rename_i v
    have:N-i=0:=ec
    rw [this] at s;have:=UW (by omega:((bQ L).drop ((i+1)*3)).length=0);rw [this] at b;simp at b
  . rw [Wf] at b;exact M _ _ b
 have D:∀ l sc,(Builtin.append_ #[144,144] l #[Z5 (ZW ⟨g,0,ZX⟩) i cap,Z5 (ZW ⟨g,if cap=i+1 then 0 else (i+1)*3,ZX⟩) (N-i) sc]).run ZN w.drew=.ok (Z5 (ZW ⟨g,0,ZX⟩) N cap) (w.drew.setCells g (i*3) ((bQ L).drop ((i+1)*3))):=λl sc=>by
  have hs:Src ZN Z.size 144 (Z5 (ZW ⟨g,if cap=i+1 then 0 else (i+1)*3,ZX⟩) (N-i) sc) (N-i) ((bQ L).drop ((i+1)*3)) w.drew:=by rw [t];exact S sc
  have h:=run_append_room_src (P:=ZN) (w:=w.drew) 144 144 l 152 Z Vs K g 0 i cap _ (N-i) _ hs ec (λj b=>by
   rw [t];have:=f.cell (Uc (by rw [m];rw [s] at b;omega:0+i*3+j<cur.toList.length));show (w.cell? _).isSome=ZV;rw [this];rfl) (λj b=>f.R2 _)
  rw [t,Uj,(ec:i+(N-i)=N)] at h;exact h
 have r:ai (w.drew.setCells g (i*3) ((bQ L).drop ((i+1)*3))) g 152 _:=ai.set (w:=w.drew) f (i*3) ((bQ L).drop ((i+1)*3)) (by rw [s,m];omega);obtain ⟨p,G⟩:=nM (w.drew.setCells g (i*3) ((bQ L).drop ((i+1)*3)));have I:ZR base w p:=by rw [<- G];exact (TW base w).drew.grown (cB _ _ _ _) (by show base<=w.heap.size;have:=f.lt;omega) (λk e=>by cases e;exact X)
 rw [G] at D r;obtain ⟨c1,J⟩:=nM (cur.toList.take (i*3)++(bQ L).drop ((i+1)*3)++cur.toList.drop (i*3+((bQ L).drop ((i+1)*3)).length));obtain ⟨d,y,x,k8⟩:∃ d,(Builtin.zeroCells (Value.agg #[ZZ YF,Z7 Z9 0,Z5 ZX 0 0]).cells 1).toList=d/\d.length=3/\∀ u∈d,u.oneCell'=ZV:=by
  refine ⟨[ZZ YF,Z7 Z9 0,Z5 ZX 0 0],ei,rfl,?_⟩;intro u A;simp only [Uv,Xd,or_false] at A;rcases A with rfl|rfl|rfl<;>rfl
 have B:=Mf cur.toList L i N F U C (by rw [m];omega) d x;rw [J] at r B;have E:c1.length=cap*3:=by rw [<- J];simp only [Ua,Um,Uo,bT,m];omega
 have k9:∀ l c,(Builtin.clear_ #[144] l #[Z5 (ZW ⟨g,N*3,ZX⟩) 1 c]).run ZN p=.ok (ZY #[]) (p.setCells g (N*3) d):=λl c=>by
  have h:=uA (P:=ZN) p 144 152 l g (N*3) 1 c 152 c1 Vs (z:=.agg #[ZZ YF,Z7 Z9 0,Z5 ZX 0 0]) (λw=>by simp [zeroValue,typeInfo,K,Q]) ec r (by rw [y,x,E];omega) (by rw [y];exact k8);rw [y] at h;exact h
 have V:=r.set (N*3) d (by rw [x,E];omega);have W:ZR base w (p.setCells g (N*3) d):=I.grown (cB _ _ _ _) (TU (e9 f.lt) I.size) (λk e=>by cases e;exact X);have H:=a5 V W B m;have n:=ak D;rw [F] at k0 hl ⊢;have k1:(0:Int)<=(i:Int)+1:=ec
 have k2:((i:Int)+1).toNat=i+1:=ec
 have k3:¬ cap=N:=ec
 have k4:i<=N+1:=ec
 have k5:(i:Int)<=(N:Int)+1:=ec
 clear f m s O M S D r G I J y x k8 B E V W T Y C R K Q t hr;by_cases v:cap=i+1
 . rw [TT v] at n;obtain rfl:i=N:=ec;subst v;rw [Xb] at n;clear k0 U k3;go_enter func137,ntmps137;go_wp2;go_region_law (refine lW rfl _ _ 144 144 rfl _ _ D2 D2 (n.o _ 0) ?_)
   go_wp2;go_ret;exact ⟨rfl,H.o.2.1,_,H.o.1,H.o.2.2.1.2.trans H.o.2.2.2,H.o.2.2.1.1⟩
 . rw [TS v] at n;have k6:i<=cap:=ec;have k7:(i:Int)<=(cap:Int):=ec;go_enter func137,ntmps137;go_wp2;go_region_law (refine lW rfl _ _ 144 144 rfl _ _ D2 D2 (n.o _ (cap-(i+1))) ?_)
   go_wp2;go_ret;exact ⟨rfl,H.o.2.1,_,H.o.1,H.o.2.2.1.2.trans H.o.2.2.2,H.o.2.2.1.1⟩
theorem uL {os:List Ob} (m:eN K w v os) (R:os.length<=9999) (hK:∀ k,w.heap.size<=k->K k) {i:Nat} (P:i<os.length) :
 ZQ ZN 101 #[v,Z7 Z9 (i:Nat)] w (uK K w (os.take i++os.drop (i+1))):=by
 have r:=oQ m ec;have s:∀ (W:ZT) (u:ZS) (L:List (Ob×ZS)),L.map (·.1)=os->OL K w L->W.ownsRow w.heap.size 152 3 u L.length (bQ L)->bW w W->ZQ ZN 137 #[u,Z7 Z9 (i:Nat),Z7 Z9 ((i:Int)+1)] W (uK K w (os.take i++os.drop (i+1))):=λW u L hL a ho b=>by
  have Q:L.length=os.length:=by rw [<- hL,Ue]
  rcases ho.2 with ⟨rfl,O⟩|⟨g,cap,cur,rfl,p,G,M,I,J,E⟩
  . omega
  . have l:cap<=9223372036854775807:=(by unfold maxLen at I;omega);obtain ⟨N,F⟩:∃ N,L.length=N+1:=⟨L.length-1,ec⟩;refine (Ft G p J E a.one F ec M l ec).mono ?_;rintro e w' ⟨rfl,H,f,B,C,D⟩;have c:bW w w':=b.trans H;have d:N=(L.take i++L.drop (i+1)).length:=en;refine ⟨_,rfl,?_,c⟩;have t:=Au B p d ec l C D;have A:(L.take i++L.drop (i+1)).map (·.1)=os.take i++os.drop (i+1):=(by rw [Uw,WJ,WK,hL]);rw [<- A,d];rw [d] at t;refine uC t ec hK (λy x=>?_);rw [Ui] at x;rcases x with h|h
    . exact (a y (UX h)).keep (ef.RM c)
    . exact (a y (U0 h)).keep (ef.RM c)
 have z:=ak s;clear s m hK;go_enter func101,ntmps101;go_wp2_with fail;refine r.mono ?_;rintro e w1 ⟨u,L,rfl,hL,a,ho,b⟩;have q:=z.o w1 u L hL a ho b;clear r hL a ho b;go_wp2_with fail;refine q.mono ?_;rintro e w2 ⟨u2,rfl,j,n⟩;have HF:=al j n;clear j n q;go_wp2;go_ret;exact ⟨_,rfl,HF.o.1,HF.o.2⟩
section
def jX (T:ZO):Prop:=T=223\/T=264\/T=261\/T=299
structure aR where
 ps:Nat
 ho:Nat
 bl:Nat->Prop
 S:ZT->Prop
 keep:∀ w w',S w->(∀ k,bl k->w'.heap[k]?=w.heap[k]?)->S w'
 kd:∀ w,S w->∀ k,bl k->∀ cs T z,w.heap[k]?=ZW (Z4 cs T z)->jX T
 lt:∀ w,S w->∀ k,bl k->k<w.heap.size
 cl:∀ w,S w->∀ k,bl k->k+2=ps\/∃ cs T z,w.heap[k]?=ZW (Z4 cs T z)
structure aS (w:ZT) (ar v p:Nat) (ps:aR) (D L G t:Nat) (pg ob:ZS) (P:a8) (xs:aL) (A:az) (F:aK):Prop where
 arc:a9 w ar v D L G t (P.getD 0 0) (an xs.os).length pg ob ZU
 vol:pG w v p D L G ps.ps ps.ho A F
 nar:¬ F.S ar
 vlt:3<=v/\v<ar
 disk:cK A D L G t P xs
 pgs:bf (λk=>ar<k/\¬ F.S k/\¬ ps.bl k) w pg P
 cat:eN (λk=>ar<k/\¬ F.S k/\¬ ps.bl k) w ob xs.os
 nb:A.nb<=1000
 turn:t<=1000000
 kit:ps.S w
 apt:∀ k,ps.bl k->3<=k/\k≠ar/\k≠v/\¬ F.S k
 hl:ps.ho<2^(D+L+G)
 fine:A.fine D L G
def bf.any (h:bf K w v l):bf (λk=>k<w.heap.size) w v l:=by
 obtain ⟨ao,c,d,e,f⟩:=h;refine ⟨ao,c,d,e,λhl=>?_⟩;obtain ⟨b,off,g,j,a,i⟩:=f hl;exact ⟨b,off,g,a.lt,a,i⟩
def eN.any {os:List Ob} (h:eN K w v os):eN (λk=>k<w.heap.size) w v os:=by
 obtain ⟨ao,c,d,e,f⟩:=h;refine ⟨ao,c,d,e,λhl=>?_⟩;obtain ⟨b,off,j,q,a,l⟩:=f hl;refine ⟨b,off,j,a.lt,a,λi g=>?_⟩;obtain ⟨sv,m,n,o,p⟩:=l i g;exact ⟨sv,m,n,o,p.any⟩
def uM:∀ {xs:aL},(∀ x∈xs,ll D x)->xs.os.length<=(af xs.os).length
 | [],_=>TV _
 | x::xs,h=>by
  have:=uM (xs:=xs) (λy c=>h y Za);have b:=(h x ek).st;have:1<=x.1.RK.length:=by rw [b];exact YX _ _
  have e:af (aL.os (x::xs))=x.1.RK++af (aL.os xs):=by simp [af,aL.os]
  have a:(aL.os (x::xs)).length=(aL.os xs).length+1:=KP
  rw [e,a,Ua];omega
section
variable {w:ZT} {ar v p D L G t:Nat} {ps:aR} {pg ob:ZS} {P:a8} {xs:aL} {A:az} {F:aK}
def aS.vne (h:aS w ar v p ps D L G t pg ob P xs A F):v≠ar:=e9 h.vlt
def aS.n0 (h:aS w ar v p ps D L G t pg ob P xs A F):0<A.n:=by have:=h.vol.n;have:=h.vol.par.d1;omega
def aS.Sj (h:aS w ar v p ps D L G t pg ob P xs A F):xs.os.length<=1000/\(af xs.os).length<=1000/\P.length<=1000:=by
 have:=uM h.disk.fits;have:=h.disk.room;have:=h.nb;omega
def aS.packL_le (h:aS w ar v p ps D L G t pg ob P xs A F):(an xs.os).length<=1000000:=by
 have:=jl h.vol.par.d1 h.disk.fits;have:=h.Sj.1;have:xs.os.length=xs.length:=KP
 have:1500/(D*44)<=34:=by
  have:=h.vol.par.d1;have:1500/(D*44)<=1500/44:=abD ec ee;omega
 have:xs.length*(19+4*(1500/(D*44)+1))<=1000*(19+4*(34+1)):=Xm ec ec;omega
def aS.below (h:aS w ar v p ps D L G t pg ob P xs A F) {w':ZT} (a:bW w w'):aS w' ar v p ps D L G t pg ob P xs A F:=
 { h with arc:=h.arc.keep (a.block _ h.arc.lt),vol:=h.vol.below a lR,pgs:=h.pgs.keep (ef.RM a),cat:=h.cat.keep (ef.RM a),kit:=ps.keep _ _ h.kit λk b=>a.block k (ps.lt _ h.kit k b) }
def eC (xs:aL):aU xs.os=xs.names:=by simp [aU,aL.os,aL.names]
def aS.find (h:aS w ar v p ps D L G t pg ob P xs A F) (x:ByteArray) :
 ZQ ZN 97 #[ob,ZZ x] w λe w'=>e=Z3 (ZY #[Z7 Z9 (aI xs.names x:Nat),Z1 (mJ xs.os x)])/\bW w w':=by
 have a:Up (aU xs.os):=ZF
 have:=Md h.cat.any (e9 h.Sj.1) a x;rwa [eC] at this
def aS.there (h:aS w ar v p ps D L G t pg ob P xs A F) {x:ByteArray} (b:x∈xs.names):mJ xs.os x=ZV:=by
 have a:Up (aU xs.os):=ZF
 exact (De a x).2 (by rw [eC];exact b)
def aS.Sp (h:aS w ar v p ps D L G t pg ob P xs A F) {x:ByteArray} (b:x∉xs.names):mJ xs.os x=ZU:=by
 have a:Up (aU xs.os):=ZF
 cases hi:mJ xs.os x
 . rfl
 . exact absurd ((De a x).1 hi) (by rw [eC];exact b)
end
def bf.wk (h:bf K w v l) (g:∀ k,K k->k<w.heap.size->K' k):bf K' w v l:=by
 obtain ⟨ao,c,d,e,f⟩:=h;refine ⟨ao,c,d,e,λhl=>?_⟩;obtain ⟨b,off,i,j,a,m⟩:=f hl;exact ⟨b,off,i,g _ j a.lt,a,m⟩
def eN.wk {os:List Ob} (h:eN K w v os) (a:∀ k,K k->k<w.heap.size->K' k):eN K' w v os:=by
 obtain ⟨ao,c,e,f,g⟩:=h;refine ⟨ao,c,e,f,λhl=>?_⟩;obtain ⟨b,off,l,m,d,n⟩:=g hl;refine ⟨b,off,l,a _ m d.lt,d,λi j=>?_⟩;obtain ⟨sv,o,p,q,r⟩:=n i j;exact ⟨sv,o,p,q,r.wk a⟩
end
theorem m3 (n m:Nat) (h:n<=1000000) (f:1<=m/\m<=1000000) (w:ZT):ZQ ZN 125 #[Z7 Z9 n,Z7 Z9 m] w λe w'=>e=Z3 (Z7 Z9 ((max 1 ((n+m-1)/m):Nat):Int))/\w'=w:=by
 have a:=tW n m ec f w;obtain ⟨q,b⟩:=nM ((n+m-1)/m);rw [b] at a;rw [b];have g:∀ (d:ZO) (w:ZT),(Builtin.max_ #[3,3] d #[Z7 Z9 1,Z7 Z9 (q:Int)]).run ZN w=.ok (Z7 Z9 ((max 1 q:Nat):Int)) w:=λd w=>by
  rw [qV];congr 2;split<;>omega
 clear b;go_enter func125,ntmps125;go_wp2_with fail;refine a.mono ?_;rintro e w' ⟨rfl,c⟩;obtain rfl:w=w':=c.symm;clear a c;go_wp2;go_ret;exact ⟨rfl,rfl⟩
theorem Jc (ao:Option Addr) (n c a bb:Nat) (i:a<=bb) (j:bb<=c):∃ d,(∀ w,(Instr.sliceAt 40 (.slice ao n c) (ZW (Z7 Z9 (a:Nat))) (ZW (Z7 Z9 (bb:Nat))) ZX).run ZN w=.ok (.slice d (bb-a) (c-a)) w)/\∀ b off,ao=ZW ⟨b,off,ZX⟩->c≠a->d=ZW ⟨b,off+a,ZX⟩:=by
 match ao with
 | none=>exact ⟨ZX,λw=>ua,λ_ _ h=>vE⟩
 | some ⟨b,off,x⟩=>exact ⟨if c=a then ZW ⟨b,off,x⟩ else ZW (Addr.add ⟨b,off,x⟩ a),λw=>ua,λg e h f=>by rw [TS f];cases h;rw [Vo]⟩
def Ri {a':Option Addr} {d:a8} (h:Bs w (.slice ao n c) d) (A:n=d.length) {ks m a:Nat} (q:∀ b off,ao=ZW ⟨b,off,ZX⟩->c≠ks->a'=ZW ⟨b,off+ks,ZX⟩) (f:((d.drop ks).take m).length=a) (z:ks+a<=n):Bs w (.slice a' a (c-ks)) ((d.drop ks).take m):=by
 obtain ⟨g,t,e,u,v,l,o⟩:=h;simp only [Vx] at e;obtain ⟨rfl,_,rfl⟩:=e;refine ⟨_,_,by rw [f],ec,ec,λx s=>l x (U0 (UX s)),λhl=>?_⟩;obtain ⟨b,off,i,r⟩:=o (λe=>by rw [e] at hl;simp at hl);have:0<a:=by rw [<- f];exact Ym.2 hl
 refine ⟨b,off+ks,q b off i ec,λk j=>?_⟩;have p:k<m:=by rw [Uo] at j;omega
 rw [Vv,r (ks+k) ec];simp only [Ub,VM p,Wf]
theorem rW {v D' L' G' f nn:Nat} {pg ob:ZS} {ofb:Bool} {A:az} {F:aK} (r:a9 w ar v D' L' G' t f nn pg ob ofb) (b:pG w v p D L G ps ho A F) (kc:A.fine D L G) (k6:¬ F.S ar)
 (nm:ByteArray) (sv:ZS) (S:a8) (B:bf (λk=>¬ F.S k) w sv S) (k5:∀ x∈S,x<A.nb) (ao:Option Addr) (c:Nat) (d:a8) (K:∀ w',aa F.S w w'->Bs w' (.slice ao d.length c) d) (kb:d.length<=1500) (ka:d.length<=c) (hm:∀ k,k<S.length->k*(D*44)<=d.length) :
 ZQ ZN 129 #[Z6 (ZW ⟨ar,0,ZX⟩),.agg #[ZZ nm,Z7 Z9 (d.length:Nat),sv],.slice ao d.length c] w (E4 w p D L G S (dz D d) A F):=by
 have kr:=b.par.d1;have hD:=b.par.d;obtain ⟨M,sc,rfl,hn,_⟩:=id B;obtain ⟨c0,_⟩:=r.cells;have hz:=λW (hW:bW w W)=>dE (b.vol.keep (hW.block _ b.vol.lt)) ec;obtain ⟨sz,J⟩:=nM (D*44);have km:44<=sz/\sz<=528:=ec
 have l:bW w (w.alloc (Z4 #[ZZ nm,Z7 Z9 (d.length:Nat),.slice M S.length sc] 152)):=bA w _;have g:ai (w.alloc (Z4 #[ZZ nm,Z7 Z9 (d.length:Nat),.slice M S.length sc] 152)) w.heap.size 152 [ZZ nm,Z7 Z9 (d.length:Nat),.slice M S.length sc]:=UC w _;obtain ⟨n,q⟩:=nM (d.length);rw [q] at l g ka kb ⊢;have g2:=g.cell (j:=2) (u:=.slice M S.length sc) rfl;have H:=(l.cell (p:=⟨ar,0,ZX⟩) r.lt).trans c0;have Q:=hz _ l;obtain ⟨w1,ko⟩:=nM (w.alloc (Z4 #[ZZ nm,Z7 Z9 (n:Nat),.slice M S.length sc] 152));rw [ko] at Q g2 H l g;rw [J] at Q hm;have O:=hide8 r b B K l g q J;clear r b B K hz l g q c0;go_enter func129,ntmps129;go_wp2_with fail;refine Q.mono ?_;rintro e N ⟨rfl,rfl⟩;clear Q;go_wp2;go_loopw [19] (λi wr=>∃ k:Nat,i=Z7 Z9 (k:Nat)/\k<=S.length/\aA wr p (A.wrTo D L G S (dz D d) k) F/\aa (F.S) N wr) (λi _=>S.length-(intOf i).toNat)
 case atStart=>exact ⟨0,rfl,T8 _,O.o.2.1.arr.below O.o.2.2.2.2.1 lR,aa.refl _ _⟩
 case round=>
  clear g2 H;obtain ⟨k,rfl,hk,R,z⟩:=hrel;by_cases s:k<S.length
  . obtain ⟨r,b,B,K,l,g,q,J⟩:=O.o;have I:aa (F.S) w wr:=(aa.RL l _).trans z;obtain ⟨sb,so,hb,e1,hq⟩:=sC (B.keep (ef.R8 I)) (λe=>by rw [e] at s;simp at s);simp only [Vx] at e1;obtain ⟨rfl,_,rfl⟩:=e1;have g1:=hq k s;obtain ⟨y,U⟩:=nM (S[k]);rw [U] at g1;have kp:y<A.nb:=(by rw [<- U];exact k5 _ (T6 s));have Y:=r.keep (I.block _ r.lt k6);obtain ⟨ca,_⟩:=Y.cells;have kk:¬ F.S w.heap.size:=λh=>by have:=b.arr.RN h;omega
    have Z:ai wr w.heap.size 152 _:=g.keep (z.block _ g.lt kk);have cz:=Z.cell (j:=1) (u:=Z7 Z9 (n:Nat)) rfl;have hv:=hm k s;obtain ⟨m,hx⟩:=nM (k*sz);obtain ⟨a,hh⟩:=nM ((k+1)*sz);have X:(k+1)*sz=k*sz+sz:=W5 k sz;have kh:(k:Int)*(sz:Int)=((k*sz:Nat):Int):=(by rw [XJ]);have ki:((k:Int)+1)*(sz:Int)=(((k+1)*sz:Nat):Int):=(by rw [XJ];rfl);rw [hx] at kh X hv;rw [hh] at ki X;rw [q] at hv;obtain ⟨bb,k9⟩:=nM (min a n);have k7:m<=bb:=ec;have k8:bb<=c:=ec;have hs:dz D d k=(d.drop m).take sz:=(by unfold dz;rw [J,hx]);have V:((d.drop m).take sz).length=bb-m:=(by rw [Uo,Um];omega);have kj:∀ E ty w,(Builtin.min_ E ty #[Z7 Z9 (a:Nat),Z7 Z9 (n:Nat)]).run ZN w=.ok (Z7 Z9 (bb:Nat)) w:=λE ty w=>by
     rw [je];by_cases P:((n:Nat):Int)<((a:Nat):Int)
     . rw [TT P,(ec:bb=n)]
     . rw [TS P,(ec:bb=a)]
    obtain ⟨a',kx,hp⟩:=Jc ao n c m bb k7 k8;have T:=kQ A D L G S (dz D d) k;have k0:ZQ ZN 165 #[Z6 (ZW ⟨v,0,ZX⟩),Z7 Z9 y,.slice a' (bb-m) (c-m)] wr.drew λe w'=>e=Z3 .nilIface/\aA w' p (A.wrTo D L G S (dz D d) (k+1)) F/\aa F.S N w':=by
     have hr:=K wr.drew (I.trans (aa.drew _));rw [q] at hr;refine (lh (b.turn (I.trans (aa.drew _)) (R.keep λ_ _=>rfl) T.1) (T.2.2.fine kc) y (by rw [T.2.1];exact kp) _ _ (Ri hr q.symm hp V ec) (by rw [V];omega)).mono ?_;rintro e w' ⟨rfl,P,h2⟩;refine ⟨rfl,?_,z.trans ((aa.drew _).trans h2)⟩;rw [az.wrTo,hs,ik s,U];exact P
    have HW:=aE k0 Y Z;have kv:IntKind.i64.wrap ((k:Int)+1)=(k:Int)+1:=l3;have kf:IntKind.i64.wrap (m:Int)=(m:Int):=l3;have kg:IntKind.i64.wrap (a:Int)=(a:Int):=l3;clear hp k0 Y Z z I R T hs V hq U r b B K l g q J k9 X;go_wp2;go_region_with (go_at_call 165;refine HW.o.1.mono ?_;rintro e w2 ⟨rfl,hi,hj⟩;have C:=al hi hj;clear hi hj);all_goals (
     go_wp2;go_roundw
     case rel=>exact ⟨k+1,eT,ec,C.o.1,C.o.2⟩
     case measure=>simp only [intOf];omega)
  . have ke:k=S.length:=ec;subst ke;have C:=al R z;clear R z;go_wp2;go_ret;exact ⟨rfl,C.o.1,(aa.RL O.o.2.2.2.2.1 _).trans C.o.2⟩
def mfl (a:g<L) (j:Nat) (b:j<D):mf (aT D L G) (D+g) j=if g*(D/L)<=j/\j<(g+1)*(D/L) then 1 else 0:=by
 unfold mf aT;have e:((YE D).map (dh D)++(YE L).map (dw D L)++(YE G).map (de D)).getD (D+g) []=dw D L g:=by
  rw [Uz,Ub,U7 ek];simp only [Ue,Vp,WY];rw [VC (oD a)];simp [a]
 rw [e];unfold dw;simp [b]
def mfg (a:i<G) (j:Nat) (b:j<D):mf (aT D L G) (D+L+i) j=gi ((D+i)^^^j):=by
 unfold mf aT;have e:((YE D).map (dh D)++(YE L).map (dw D L)++(YE G).map (de D)).getD (D+L+i) []=de D i:=by
  rw [Ub,U7 ek];simp only [Ua,Ue,Vp,WY];simp [a]
 rw [e];unfold de;simp [b]
def Rj (o:1<=D) (hD:D<=12) (hG:G<=4) (k:D%L=0) (p:d<D+L+G):∃ j,j<D/\mf (aT D L G) d j≠0:=by
 by_cases a:d<D
 . refine ⟨d,a,?_⟩;unfold mf;rw [GB D L G d a];unfold dh;simp [a]
 . by_cases n:d<D+L
   . obtain ⟨g,rfl⟩:∃ g,d=D+g:=⟨d-D,ec⟩;have h:g<L:=ec;have c:D/L*L=D:=Nat.div_mul_cancel (Nat.dvd_of_mod_eq_zero k);have m:0<D/L:=YY λe=>by rw [e] at c;omega
     have f:g*(D/L)<D:=by
      have b:=aci h m;rw [WC L,c] at b;exact b
     refine ⟨g*(D/L),f,?_⟩;rw [mfl h _ f,TT ⟨TV _,by rw [XL];omega⟩];decide
   . obtain ⟨i,rfl⟩:∃ i,d=D+L+i:=⟨d-(D+L),ec⟩;have l:i<G:=ec;refine ⟨0,ec,?_⟩;rw [mfg l 0 ec,U4];exact aai ec ec
theorem OQ {lost:Nat} (u:1<=D) (hD:D<=12) (hG:G<=4) (t:D%L=0) (b:D+L+G<=16) (z:tells (jR D L G) (ab (aw (D+L+G) lost))=ZW C) (n:d<D+L+G) (hl:lost.testBit d=ZV):0<iD (ab (bz (D+L+G) lost)) (aP 8 C (bz (D+L+G) lost)).1:=by
 apply YY;intro h;obtain ⟨r,_⟩:=oK hD hG z;have l:=jQ D L G hD hG;have e:D+(L+G)=D+L+G:=ec
 obtain ⟨k,o,w⟩:=UR ((bM b).2 ⟨n,hl⟩);obtain ⟨j,A,x⟩:=Rj u hD hG t n;have y:∀ i,i∈ab (bz (D+L+G) lost)->cF (aP 8 C (bz (D+L+G) lost)).1 i=ZU:=λi a=>by
  cases hr:cF (aP 8 C (bz (D+L+G) lost)).1 i
  . rfl
  . unfold iD at h;have:=UW h;have p:i∈(ab (bz (D+L+G) lost)).filter (cF (aP 8 C (bz (D+L+G) lost)).1):=Vq.2 ⟨a,hr⟩;rw [this] at p;cases p
 have c:=r.sum l (λi a=>by rw [e];exact ((bM b).1 a).1) (λq=>if q=j then 1 else 0) (λq=>by show (if q=j then 1 else 0)<256;split<;>decide) k o;rw [e,w] at c;have E:=dV (f:=λi=>if i∈ab (aw (D+L+G) lost) then 0 else gm ((aP 8 C (bz (D+L+G) lost)).1.m k i) (xs (λq=>gm (mf (aT D L G) i q) (if q=j then 1 else 0)) D)) (D+L+G) (λi a=>by
  by_cases g:i∈ab (aw (D+L+G) lost)
  . rw [TT g]
  . have v:lost.testBit i=ZU:=by
     cases hb:lost.testBit i
     . rfl
     . exact absurd ((bM b).2 ⟨a,hb⟩) g
    have:=gX.1 (y i ((oJ b).2 ⟨a,v⟩)) k (by rw [r.told];exact o);rw [TS g,this,bI])
 rw [E] at c;have s:=jq (f:=λq=>gm (mf (aT D L G) d q) (if q=j then 1 else 0)) (k:=j) D A (λq _ B=>by rw [TS B,bD]);rw [s,TT rfl,eo _ (l.byt d j)] at c;exact x c.symm
section
section
variable {P:List St} {A B:List a8} (h:∀ k,k<P.length->(bF P k).k=0->A.getD (bF P k).b.toNat []=B.getD (bF P k).b.toNat [])
include h
def Ay:∀ k,k<=P.length->fl P A k=fl P B k
 | 0,_=>rfl
 | k+1,hk=>by
  have ih:=Ay k ec;unfold fl;rw [ih];cases fl P B k with
  | some n=>rfl
  | none=>
   show (if (bF P k).k=0 then _ else _)=if (bF P k).k=0 then _ else _;by_cases a:(bF P k).k=0
   . rw [TT a,TT a,h k ec a]
   . rw [TS a,TS a]
def uN (R0:List a8):∀ k,k<=P.length->bP P A R0 k=bP P B R0 k
 | 0,_=>rfl
 | k+1,hk=>by
  unfold bP;rw [uN R0 k ec];unfold dO;by_cases a:(bF P k).k=0
  . rw [TT a,TT a,h k ec a]
  . rw [TS a,TS a]
def uO (R0:List a8):∀ k,k<=P.length->dA P A R0 k=dA P B R0 k
 | 0,_=>rfl
 | k+1,hk=>by
  unfold dA;rw [uO R0 k ec,uN h R0 k ec]
def Di:eB P A=eB P B:=by unfold eB;rw [Ay h _ lR]
def Mg {x y:Nat} (f:gJ P B y) (g:∀ k,k<P.length->(bF P k).k=0->¬ oz x (bF P k).b.toNat):gJ P A x:=λk c a=>by
 obtain ⟨_,d,e⟩:=f k c a;rw [<- Ay h (k+1) ec,<- h k c a] at d;rw [<- h k c a] at e;exact ⟨g k c a,d,e⟩
end
def OR {x:Nat} {dl Dl:List a8} (v:1<=D) (hD:D<=12) (hG:G<=4) (q:D%L=0) (f:D+L+G<=16) (j:tells (jR D L G) (ab (aw (D+L+G) s))=ZW C) (z:d<D+L+G) (H:s.testBit d=ZV) (r:dl.length=D) (I:∀ l∈dl,∀ x∈l,x<256)
 (e:∀ i,(Ad (bS D L G s C)).testBit i=ZV->Dl.getD i []=(fs (aT D L G) dl 44).getD i []/\x.testBit i=ZU) :
 gJ (bS D L G s C) Dl x/\dA (bS D L G s C) Dl (eW (1+(ab (aw (D+L+G) s)).length) (eB (bS D L G s C) Dl)) (bS D L G s C).length=(ab (aw (D+L+G) s)).map (λd:Nat=>((d:Int),(fs (aT D L G) dl 44).getD d [])):=by
 have h:∀ k,k<(bS D L G s C).length->(bF (bS D L G s C) k).k=0->(Ad (bS D L G s C)).testBit (bF (bS D L G s C) k).b.toNat=ZV:=λk e a=>by
  rw [dS _ _ e] at a ⊢;exact (oC _ _).2 ⟨_,T6 e,a,rfl⟩
 have g:∀ k,k<(bS D L G s C).length->(bF (bS D L G s C) k).k=0->Dl.getD (bF (bS D L G s C) k).b.toNat []=(JZ (fs (aT D L G) dl 44) s).getD (bF (bS D L G s C) k).b.toNat []:=λk c a=>by
  rw [(e _ (h k c a)).1];rw [dS _ _ c] at a ⊢;obtain ⟨i,w,F,hl⟩:=jS f (T6 c) a;rw [w,VD,Ak _ _ _ (by rw [Am,cJ];exact F),TS (by rw [hl];decide)]
 refine ⟨Mg g (OD f ee) λk c a E=>?_,?_⟩
 . have:=(e _ (h k c a)).2;rw [oM.1 E] at this;cases this
 . obtain ⟨O,u,A,y⟩:=OE (m:=44) (Dt:=dl) hD hG f j r I;have B:=OQ v hD hG q f j z H;rw [uO g _ _ lR,Di g,u];refine Vc (by simp [A]) λk p J=>?_;have t:k<(ab (aw (D+L+G) s)).length:=ec;obtain ⟨n,o⟩:=y k p t;rw [UN,<- n,<- o B]
end
def Az (N:Nat) (ds:a8) (R:Nat->a8):List a8:=(YE N).map λi=>if i∈ds then R i else []
def OS (N:Nat) (ds:a8):Nat:=Ad (((YE N).filter λi=>decide (i∉ds)).map λi:Nat=>⟨0,0,(i:Int),0⟩)
theorem uP (N:Nat) (ds:a8) (i:Nat):(OS N ds).testBit i=ZV↔i<N/\i∉ds:=by
 unfold OS;rw [oC];constructor
 . rintro ⟨s,f,_,a⟩;obtain ⟨j,e,rfl⟩:=T9.1 f;obtain ⟨c,d⟩:=Vq.1 e;have:j=i:=a;subst this;exact ⟨Ur.1 c,WE d⟩
 . rintro ⟨b,a⟩;exact ⟨_,T9.2 ⟨i,Vq.2 ⟨Ur.2 b,UZ a⟩,rfl⟩,rfl,rfl⟩
def Dj (N:Nat) (ds:a8) (R:Nat->a8):(Az N ds R).length=N:=by simp [Az]
def Dk (a:i<N):(Az N ds R).getD i []=if i∈ds then R i else []:=by simp [Az,a]
def Mh (h:w.heap[bl]?=ZW (Z4 (aJ l).toArray 213 (0,0))) (hl:l.length=44) (c:∀ x∈l,x<256):Bs w (Z5 (ZW ⟨bl,0,ZX⟩) 44 44) l:=by
 refine ⟨ZW ⟨bl,0,ZX⟩,44,by rw [hl],ec,ec,c,λ_=>⟨bl,0,rfl,λk a=>?_⟩⟩;have e:(aJ l)[k]?=ZW (Z7 .u8 ((l.getD k 0:Nat):Int)):=by
  unfold aJ;rw [UD,Uc a];simp [a]
 have b:(aJ l).toArray[k]?=ZW (Z7 .u8 ((l.getD k 0:Nat):Int)):=oD e
 simp [World.cell?,h,b]
def aaK (n:w.rowIs g 40 N f) (o:∀ i∈ds,(R i).length=44/\∀ x∈R i,x<256) (j:Kn w base wE f R ds):In w g (Az N ds R) (OS N ds):=by
 intro i c;have b:i<N:=by rw [Dj] at c;exact c
 have p:(Az N ds R)[i]=if i∈ds then R i else []:=by rw [<- Dk b];simp [c]
 have h:=n.cell b;refine ⟨λa=>?_,λa=>?_⟩
 . rw [h,j.1 i ((uP N ds i).1 (oM.1 a)).2];rfl
 . have d:i∈ds:=by
    by_cases q:i∈ds
    . exact q
    . exact absurd (oM.2 ((uP N ds i).2 ⟨b,q⟩)) a
   obtain ⟨bl,k,_,_,l⟩:=j.2 i d;obtain ⟨e,m⟩:=o i d;rw [p,TT d,e];exact ⟨⟨bl,0,ZX⟩,44,by rw [h,k],Mh l e m⟩
theorem Jd (a:∀ i∈ds,(R i).length=44/\∀ x∈R i,x<256):∀ l∈Az N ds R,l.length<=100000:=by
 intro l hl;unfold Az at hl;obtain ⟨i,_,rfl⟩:=T9.1 hl;split
 . rename_i h;rw [(a i h).1];omega
 . simp
def yN {row:a8} (h:aM w bl l) (g:m<=l.length) (e:l.take m=row):w.rangeAt bl 0 (aJ row)/\row.length=m:=by
 have c:row.length=m:=by rw [<- e,Uo];omega
 refine ⟨λj u a=>?_,c⟩;unfold aJ at a;rw [UD,Wk] at a;obtain ⟨x,b,rfl⟩:=a;have f:j<row.length:=(Va.1 b).1;have d:=abM h (i:=j) ec;rw [Uj];rw [d];unfold vb;have:l.getD j 0=x:=by
  rw [<- e,X8,TT ec] at b;rw [Ub,b];rfl
 rw [this]
def jm (h:w.heap[bl]?=ZW (Z4 (aJ l).toArray 213 (0,0))):w.rangeAt bl 0 (aJ l):=λj u a=>by simp [World.cell?,h];simpa using a
theorem oS {S gone sp:Nat} (e:gone<65536) (f:sp<65536) {i:Nat}:i∈A2 ds (ab (yG (yG S gone) sp))↔i∈ab S/\gone.testBit i=ZU/\sp.testBit i=ZU/\i∉ds:=by
 rw [GE,sD f,sD e];constructor
 . rintro ⟨⟨⟨a,b⟩,c⟩,d⟩;exact ⟨a,b,c,d⟩
 . rintro ⟨a,b,c,d⟩;exact ⟨⟨⟨a,b⟩,c⟩,d⟩
def feN (T gone sp:Nat) (ds:a8):a8:=A2 ds (ab (yG (yG T gone) sp))
def uQ {x:Nat} (h:¬ x.testBit i=ZV):x.testBit i=ZU:=by cases q:x.testBit i;rfl;exact absurd q h
structure CI (w:ZT) (D L G:Int) (X:ZT):Prop where
 par:X.heap[w.heap.size]?=ZW (Z4 #[Z7 Z9 D,Z7 Z9 L,Z7 Z9 G] 27 (0,0))
 res:X.heap[w.heap.size+1]?=ZW (Z4 #[Z7 Z9 0,Z5 ZX 0 0] 206 (0,0))
 below:bW w X
def CI.mono {Y:ZT} {D L G:Int} (h:CI w D L G X) (a:ZR B X Y) (b:w.heap.size+2<=B):CI w D L G Y:=
 ⟨(a.block _ ec).trans h.par,(a.block _ ec).trans h.res,h.below.trans (a.mono ec)⟩
def CI.new (w:ZT) (D L G:Int):CI w D L G ((w.alloc (Z4 #[Z7 Z9 D,Z7 Z9 L,Z7 Z9 G] 27)).alloc (Z4 #[Z7 Z9 0,Z5 ZX 0 0] 206)):=by
 refine ⟨?_,?_,(bA w _).alloc ek _⟩
 . rw [We _ _ _ ek];exact X2 _ _
 . have:=X2 (w.alloc (Z4 #[Z7 Z9 D,Z7 Z9 L,Z7 Z9 G] 27)) (Z4 #[Z7 Z9 0,Z5 ZX 0 0] 206);rwa [Ul] at this
def Rk (n:Nat):Nat:=2^n-1
def Mi (lost n:Nat) (hl:lost<18446744073709551616) (a:n<=16):bits .and .u64 (lost:Int) (Rk n:Int)=((aw n lost:Nat):Int):=by
 have:=jk a;have:0<2^n:=VO n;exact fH lost (2^n-1) hl ec
def Mj (lost n:Nat) (a:n<=16):bits .andNot .u64 (Rk n:Int) ((aw n lost:Nat):Int)=((bz n lost:Nat):Int):=by
 have:=jk a;have:=oI lost a;exact Yb (2^n-1) (aw n lost) ec ec
def Rm (D L G lost:Nat) (w:ZT) (e:ZP) (w':ZT):Prop:=
 bW w w'/\((tells (jR D L G) (ab (aw (D+L+G) lost))=ZX/\e=Z3 (ZY #[.agg #[Z7 Z9 0,Z5 ZX 0 0],.iface 66 (Z7 Z9 3)])) \/
  (∃ C v,tells (jR D L G) (ab (aw (D+L+G) lost))=ZW C/\e=Z3 (ZY #[.agg #[Z7 Z9 (1+((ab (aw (D+L+G) lost)).length:Int)),v],.nilIface]) /\
   w'.ownsRow w.heap.size 299 4 v (fW (aP 8 C (bz (D+L+G) lost)).1 (aw (D+L+G) lost) (bz (D+L+G) lost)).length (ez .u8 (fW (aP 8 C (bz (D+L+G) lost)).1 (aw (D+L+G) lost) (bz (D+L+G) lost)))))
def Ml {z:Int} (k:Nat) (a:k<=16) (b:z=(k:Int)) (w:ZT) :
 ZQ ZN 135 #[Z7 Z9 z] w λe w'=>e=Z3 (Z7 Z8 (Rk k:Int))/\w'=w:=by subst b;exact me k a w
theorem wG (D L G lost:Nat) (hr:cW D L G=ZV) (kb:1<=D) (hD:D<=12) (hL:1<=L) (T:L<=4) (hG:G<=4) (hs:D%L=0) (c:D+L+G<=16) (hl:lost<18446744073709551616) (w:ZT) (E:aG w) (h2:3<=w.heap.size) :
 ZQ ZN 196 #[.agg #[Z7 Z9 D,Z7 Z9 L,Z7 Z9 G],Z7 Z8 lost] w λe w'=>Rm D L G lost w e w':=by
 have h:=CI.new w D L G;have j:((w.alloc (Z4 #[Z7 Z9 (D:Int),Z7 Z9 (L:Int),Z7 Z9 (G:Int)] 27)).alloc (Z4 #[Z7 Z9 0,Z5 ZX 0 0] 206)).heap.size=w.heap.size+2:=ek
 obtain ⟨p0,p1,p2⟩:=fx h.par;have K:=al h j;clear h j;go_enter func196,ntmps196;go_wp2_with fail;refine (pA D L G _).mono ?_;rintro e w1 ⟨rfl,q⟩;obtain ⟨h,j⟩:=K.o;try change ZR _ _ _ at q
 rw [j] at q;have kc:=q.size;try change ZR _ _ _ at kc
 rw [j] at kc;have A:=h.mono q lR;obtain ⟨p0,p1,p2⟩:=fx A.par;have M:=ak A;clear K h j q A;go_wp2_with fail;refine (du D L G _ ec ec ec).mono ?_;rintro e w2 ⟨rfl,F⟩;have kh:=F.size;have B:=M.o.mono F ec;obtain ⟨p0,p1,p2⟩:=fx B.par;have r:=ak B;clear B F M;go_wp2_with fail;refine (Ml (D+L+G) c ec w2).mono ?_;rintro e J ⟨rfl,hx⟩;subst hx;have kf:=Mi lost (D+L+G) hl c;go_wp2_with fail;refine (lj D L G (aw (D+L+G) lost) hr kb hD hL T hG hs c (oI lost c) J (E.mono ec r.o.below) ec).mono ?_;rintro e a ⟨x,hg⟩;have ki:=x.size;have t:=r.o.mono x ec;have hz:=zeroCk;rcases hg with ⟨y,rfl⟩|⟨C,u,rfl⟩
 . have R:=bY dN;have n:bW a ((a.alloc (Z4 (aV dN) 332)).setRow a.heap.size (aV dN)):=(bA _ _).grown (aN _ _ _) ek (λk e=>B3);have d:=t.mono n ec;obtain ⟨r0,r1,g1,g0⟩:=ay d.res;have b:=al d y;clear t d x n r y;go_wp2_with (refine Wz rfl 332 (Z0 8) (Z0 25) rfl a.heap.size (aV dN) rfl rfl 332 (aV dN) (aC.new a dN).heap (dR _) rfl (mn _) ?_);obtain ⟨Q,y⟩:=b.o;have z:=iV (y':=Z5 ZX 0 0) (iU (x':=Z7 Z9 0) Q.res);obtain ⟨n0,I,_⟩:=ay z;refine Ut (v:=ZY #[.agg #[Z7 Z9 0,Z5 ZX 0 0],.iface 66 (Z7 Z9 3)]) (by simp [results,results196,go_sem,n0,I]) rfl ?_;exact ⟨(Q.below.setCell (p:=⟨w.heap.size+1,0,ZX⟩) eP _).setCell (p:=⟨w.heap.size+1,1,ZX⟩) eP _,.inl ⟨y,rfl⟩⟩
 . have s:=(oK hD hG u).1;have P:=Ai hD T hG u;have N:eA (aP 8 C (bz (D+L+G) lost)).1:=⟨s.byt,s.le,e9 s.Sb⟩;have kg:=Mj lost (D+L+G) c;have R:=bY C;have n:bW a ((a.alloc (Z4 (aV dN) 332)).setRow a.heap.size (aV C)):=(bA _ _).grown (aN _ _ _) ek (λk e=>B3);have W:aC ((a.alloc (Z4 (aV dN) 332)).setRow a.heap.size (aV C)) a.heap.size C:=(aC.new a dN).setRow C;have d:=t.mono n ec;have Z:((a.alloc (Z4 (aV dN) 332)).setRow a.heap.size (aV C)).heap.size=a.heap.size+1:=V1;have U:=E.mono ec d.below;have b:=a6 d W Z U u;have HF:=al P N;clear t d x n W Z U r u s P N;go_wp2_with (first
    | refine Wz rfl 332 (Z0 8) (Z0 25) rfl a.heap.size (aV C) rfl rfl 332 (aV dN) (aC.new a dN).heap (dR _) (by rw [bY,bY]) (mn _) ?_
    | refine abl rfl 332 (Z0 8) rfl a.heap.size rfl 332 (aV C) (0,0) _ b.o.2.1.heap XP rfl (dR _) ?_)
   obtain ⟨w5,Y⟩:=nM ((a.alloc (Z4 (aV dN) 332)).setRow a.heap.size (aV C));rw [Y] at b ⊢;clear Y R hz;refine (EP C (bz (D+L+G) lost) w5 HF.o.1 (CM lost c) b.o.2.2.2.1 (e9 b.o.2.2.1)).mono ?_;rintro e w7 ⟨rfl,H⟩;have kj:=H.size;have X:=b.o.1.mono H (e9 b.o.2.2.1);have ke:a.heap.size+1<=w7.heap.size:=(e9 b.o.2.2.1);have S:=ak X;clear X H;go_wp2_with fail;refine (IW (aP 8 C (bz (D+L+G) lost)).1 (aw (D+L+G) lost) (bz (D+L+G) lost) w7 HF.o.2 (oI lost c) (CM lost c) (E.mono ec S.out.below) ec).mono ?_;rintro e w8 ⟨v,rfl,V,l⟩;obtain ⟨ao,m,f,rfl⟩:∃ ao m f,v=.slice ao m f:=by
    rcases l.2 with ⟨rfl,_⟩|⟨g,cap,cur,rfl,_⟩
    . exact ⟨_,_,_,rfl⟩
    . exact ⟨_,_,_,rfl⟩
   have i:=S.out.mono V ec;obtain ⟨r0,r1,g1,g0⟩:=ay i.res;have H8:=al i l;clear i l V;go_wp2;obtain ⟨i,l⟩:=H8.o;have z:=iV (y':=.slice ao m f) (iU (x':=Z7 Z9 (1+((ab (aw (D+L+G) lost)).length:Int))) i.res);obtain ⟨n0,I,_⟩:=ay z;have O:(Value.slice ao m f).ownBlock≠ZW (w.heap.size+1):=λe=>e9 (jO l e)
   have hv:=(l.kept (dy w8 (w.heap.size+1) 0 (Z7 Z9 (1+((ab (aw (D+L+G) lost)).length:Int)))) (.inr O)).kept (dy _ (w.heap.size+1) 1 (.slice ao m f)) (.inr O);refine Ut (v:=ZY #[.agg #[Z7 Z9 (1+((ab (aw (D+L+G) lost)).length:Int)),.slice ao m f],.nilIface]) (by simp [results,results196,go_sem,n0,I]) rfl ?_;exact ⟨(i.below.setCell (p:=⟨w.heap.size+1,0,ZX⟩) eP _).setCell (p:=⟨w.heap.size+1,1,ZX⟩) eP _,.inr ⟨C,_,b.o.2.2.2.2,rfl,gw hv ec⟩⟩
def bH (D L G lost:Int) (rd:Bool):ZS:=.agg #[Z7 Z9 D,Z7 Z9 L,Z7 Z9 G,Z7 Z8 lost,Z1 rd]
def oT (e:Bool) (D L G lost:Int) (rd:Bool) (w:ZT):(Instr.checkKey e 10000 221 (bH D L G lost rd)).run ZN w=.ok () w:=ei
theorem OT (D L G lost:Int) (rd:Bool) (w:ZT):(Op.equal 221 (bH D L G lost rd) (bH D L G lost rd)).run ZN w=.ok ZV w:=by
 unfold bH Op.equal Op.maxDepth;go_simp
def uR {es:Array MapEntry} (h:w.heap[m]?=ZW (.map es n)):(getObj m).run ZN w=.ok (.map es n) w:=by simp [getObj,Sem.run,h]
def Mm {es:Array MapEntry} (h:w.heap[m]?=ZW (.map es n)) (o:Obj):(setObj m o).run ZN w=.ok () (w.putObj m o):=by simp [setObj,Sem.run,h,World.putObj]
def jD (w:ZT) (n:Nat) (D L G lost:Int) (rd:Bool) (regs:Int) (steps:ZS) (ne ol:ZS):Prop:=w.heap[n]?=ZW (Z4 (mV D L G lost rd regs steps ne ol) 261 (0,0))
def jD.lt {D L G:Int} {rd:Bool} {ol:ZS} (h:jD w n D L G lost rd regs steps ne ol):n<w.heap.size:=(TX.1 h).1
def jD.cells {D L G:Int} {rd:Bool} {ol:ZS} (h:jD w n D L G lost rd regs steps ne ol):w.cell? ⟨n,7,ZX⟩=ZW ne/\w.cell? ⟨n,8,ZX⟩=ZW ol/\w.frozen? ⟨n,7,ZX⟩=ZU/\w.frozen? ⟨n,8,ZX⟩=ZU:=by
 have a:w.heap[n]?=ZW (Z4 (mV D L G lost rd regs steps ne ol) 261 (0,0)):=h;simp [World.cell?,World.frozen?,a,mV]
def jD.SV {D L G:Int} {rd:Bool} {ol:ZS} (h:jD w n D L G lost rd regs steps ne ol) (x:ZS):jD (w.setCell ⟨n,7,ZX⟩ x) n D L G lost rd regs steps x ol:=ag (j:=7) h x
def jD.SL {D L G:Int} {rd:Bool} {ol:ZS} (h:jD w n D L G lost rd regs steps ne ol) (x:ZS):jD (w.setCell ⟨n,8,ZX⟩ x) n D L G lost rd regs steps ne x:=ag (j:=8) h x
def jD.keep {D L G:Int} {rd:Bool} {ol:ZS} (h:jD w n D L G lost rd regs steps ne ol) (e:w'.heap[n]?=w.heap[n]?):jD w' n D L G lost rd regs steps ne ol:=e.trans h
def fO (w:ZT) (b i j:Nat) (x y:ZS):aa (λk=>k=b) w ((w.setCell ⟨b,i,ZX⟩ x).setCell ⟨b,j,ZX⟩ y):=by
 have a:aa (λk=>k=b) w (w.setCell ⟨b,i,ZX⟩ x):=aa.setCell _ _ _ rfl;have c:aa (λk=>k=b) (w.setCell ⟨b,i,ZX⟩ x) ((w.setCell ⟨b,i,ZX⟩ x).setCell ⟨b,j,ZX⟩ y):=aa.setCell _ _ _ rfl;exact a.trans c
def aaL (w:ZT) (sb n:Nat):Prop:=jD w sb 0 0 0 0 ZU 0 (Z5 ZX 0 0) (Z6 (ZW ⟨n,0,ZX⟩)) (Z6 (ZW ⟨n,0,ZX⟩))
def fP (w:ZT) (sb:Nat) (room:Int):Prop:=w.heap[sb+1+1]?=ZW (Z4 #[Z7 Z9 room,.map (ZW (sb+1)),Z6 (ZW ⟨sb,0,ZX⟩)] 264 (0,0))
def jD.value {D L G:Int} {rd:Bool} {ol:ZS} (h:jD w n D L G lost rd regs steps ne ol):w.cell? ⟨n,5,ZX⟩=ZW (Z7 Z9 regs)/\w.cell? ⟨n,6,ZX⟩=ZW steps:=by
 have a:w.heap[n]?=ZW (Z4 (mV D L G lost rd regs steps ne ol) 261 (0,0)):=h;simp [World.cell?,a,mV]
def gx (hl:fP w sb room):w.cell? ⟨sb+1+1,0,ZX⟩=ZW (Z7 Z9 room)/\w.cell? ⟨sb+1+1,1,ZX⟩=ZW (.map (ZW (sb+1)))/\w.cell? ⟨sb+1+1,2,ZX⟩=ZW (Z6 (ZW ⟨sb,0,ZX⟩)):=by
 have a:w.heap[sb+1+1]?=_:=hl;simp [World.cell?,a]
def aa.putObj (w:ZT) (m:Nat) (o:Obj) (h:S m):aa S w (w.putObj m o):=⟨rfl,rfl,rfl,Ok,λk _ a=>UP (λe=>a (e▸h))⟩
section
theorem Fu (s i:Nat) (g:s<65536) (f:i<16) (w:ZT):ZQ ZN 209 #[Z7 Z8 s,Z7 Z9 i] w λe w'=>e=Z3 (Z1 (s.testBit i))/\w'=w:=by
 have key:(bits .and .u64 ((s:Int)/2^i) 1==1)=s.testBit i:=by
  have e:((s:Int)/2^i)=((s/2^i:Nat):Int):=by rw [Ya,Xu];rfl
  have d:s/2^i<=s:=VV _ _;have b:=fH (s/2^i) 1 ec ee;rw [e,show ((1:Int))=((1:Nat):Int) from rfl,b,Nat.and_one_is_mod,Wy];by_cases c:s/2^i%2=1
  . rw [c];rfl
  . have a:s/2^i%2=0:=ec;rw [a];rfl
 go_enter func209,ntmps209;go_wp2;go_ret;exact ⟨by rw [<- key];rfl,rfl⟩
def OU {e:Nat} {xs:List ZS} (b:w.ownsRow base e s v n xs):∃ ao m a,v=.slice ao m a:=by
 rcases b.2 with ⟨rfl,_⟩|⟨g,cap,cur,rfl,_⟩
 . exact ⟨_,_,_,rfl⟩
 . exact ⟨_,_,_,rfl⟩
def yO {lost:Nat} (h:lost<2^n):aw n lost=lost:=by unfold aw;rw [abR,VY h]
def GT {lost:Nat} (hD:D<=12) (hG:G<=4) (h:D+L+G<=16) (b:tells (jR D L G) (ab (aw (D+L+G) lost))=ZX):¬ gu D L G lost:=λq=>by
 obtain ⟨C,a⟩:=(E9 hD hG h).1 q;rw [b] at a;cases a
theorem OV (hD:D<=12) (hG:G<=4) (h16:D+L+G<=16) {K:a8} {C:Ck} (hK:tells (jR D L G) K=ZW C) (f:∀ i,i∈K↔i<D+L+G/\s.testBit i=ZV):gu D L G s:=by
 have b:=jQ D L G hD hG;have e:D+(L+G)=D+L+G:=ec
 unfold gu;rw [CN _ _ _ h16];rcases b.told K with ⟨h,_,d⟩|⟨c,_⟩
 . have:=b.full d;rw [e] at this;have g:(λi=>i∉ab (aw (D+L+G) s))=λi=>i∉K:=funext λi=>propext (not_congr ((bM h16).trans (f i).symm));rw [g];exact this
 . have a:tells (jR D L G) K=ZX:=c;rw [hK] at a;cases a
def uS:ZP:=Z3 (ZY #[.agg #[Z7 Z9 0,Z5 ZX 0 0],.iface 66 (Z7 Z9 3)])
def GrA (D L G lost:Nat) (w w':ZT) (z:Int) (ao:Option Addr) (m c:Nat) (er:ZS):Prop:=bW w w'/\((er=.iface 66 (Z7 Z9 3)/\z=0/\ao=ZX/\m=0/\c=0/\¬ gu D L G lost)\/(er=.nilIface/\∃ s C,(∀ i,lost.testBit i=ZV->s.testBit i=ZV)/\tells (jR D L G) (ab (aw (D+L+G) s))=ZW C/\z=1+((ab (aw (D+L+G) s)).length:Int)/\w'.ownsRow w.heap.size 299 4 (.slice ao m c) (bS D L G s C).length (ez .u8 (bS D L G s C))))
def Ro (D L G lost:Nat) (w:ZT) (e:ZP) (w':ZT):Prop:=∃ z ao m c er,e=Z3 (ZY #[.agg #[Z7 Z9 z,.slice ao m c],er])/\GrA D L G lost w w' z ao m c er
def Ro.no {lost:Nat} (h:bW w w') (a:¬ gu D L G lost):Ro D L G lost w uS w':=⟨0,ZX,0,0,_,rfl,h,.inl ⟨rfl,rfl,rfl,rfl,rfl,a⟩⟩
def aaM (w:ZT) (D L G lost cb:Nat) (lv iv:ZS) (wr:ZT):Prop:=
 ∃ (k s:Nat) (C:Ck),k<=D+L+G/\lv=Z7 Z8 (s:Nat)/\iv=Z7 Z9 ((D+L+G:Nat)-1-(k:Int))/\aC wr cb C/\(∃ K,tells (jR D L G) K=ZW C/\∀ i,i∈K↔i<D+L+G/\s.testBit i=ZV)/\(∀ i,lost.testBit i=ZV->s.testBit i=ZV)/\s<2^(D+L+G)/\CI w D L G wr/\cb<wr.heap.size/\w.heap.size+2<=cb
section
variable (D L G lost:Nat) (hr:cW D L G=ZV) (hD1:1<=D) (hD:D<=12) (hL:1<=L) (hL4:L<=4) (hG:G<=4) (hdiv:D%L=0) (h16:D+L+G<=16) (hl:lost<2^(D+L+G))
include hr hD1 hD hL hL4 hG hdiv h16 hl
def rE (w:ZT) (k:aG w) (g:3<=w.heap.size):ZQ ZN 196 #[.agg #[Z7 Z9 D,Z7 Z9 L,Z7 Z9 G],Z7 Z8 lost] w (Ro D L G lost w):=by
 have:lost<65536:=T7 hl (jk h16);refine (wG D L G lost hr hD1 hD hL hL4 hG hdiv h16 ec w k g).mono ?_;rintro e w1 ⟨a,f⟩;rcases f with ⟨j,rfl⟩|⟨c,v,h,rfl,b⟩
 . exact Ro.no a (GT hD hG h16 j)
 . obtain ⟨ao,m,d,rfl⟩:=OU b;exact ⟨_,ao,m,d,_,rfl,a,.inr ⟨rfl,lost,c,λi q=>q,h,rfl,b⟩⟩
theorem Dm (w:ZT) (hT:aG w) (d:3<=w.heap.size):ZQ ZN 195 #[.agg #[Z7 Z9 D,Z7 Z9 L,Z7 Z9 G],Z7 Z8 lost] w (Ro D L G lost w):=by
 have kx:lost<65536:=T7 hl (jk h16);have g:=CI.new w D L G;have r:((w.alloc (Z4 #[Z7 Z9 (D:Int),Z7 Z9 (L:Int),Z7 Z9 (G:Int)] 27)).alloc (Z4 #[Z7 Z9 0,Z5 ZX 0 0] 206)).heap.size=w.heap.size+2:=ek
 obtain ⟨S,T,U⟩:=fx g.par;have kh:=lj D L G lost hr hD1 hD hL hL4 hG hdiv h16 kx _ (hT.mono ec g.below) (TU d g.below.size);have W:=aE g r kh;clear g r kh;go_enter func195,ntmps195;go_wp2_with fail;refine W.o.2.2.mono ?_;rintro e w1 ⟨E,hx⟩;obtain ⟨g,r,_⟩:=W.o;try change ZR _ _ _ at E
 rw [r] at E;have t:=E.size;try change ZR _ _ _ at t
 rw [r] at t;have Y:=g.mono E lR;have hz:=zeroCk;have k7:∀ C,bW w1 ((w1.alloc (Z4 (aV dN) 332)).setRow w1.heap.size (aV C)):=λC=>(bA _ _).grown (aN _ _ _) ek (λk e=>B3);rcases hx with ⟨kk,rfl⟩|⟨C,N,rfl⟩
 . have f:=Y.mono (k7 dN) t;obtain ⟨r0,r1,g1,g0⟩:=ay f.res;have x:=ak f;have kr:=ak (GT hD hG h16 (by rw [yO hl];exact kk));clear kk W g r E Y k7 f;go_wp2_with (refine Wz rfl 332 (Z0 6) (Z0 13) rfl w1.heap.size (aV dN) rfl rfl 332 (aV dN) (aC.new w1 dN).heap (dR _) rfl (mn _) ?_);obtain ⟨n0,n1,_⟩:=ay (iV (y':=Z5 ZX 0 0) (iU (x':=Z7 Z9 0) x.o.res));refine Ut (v:=ZY #[.agg #[Z7 Z9 0,Z5 ZX 0 0],.iface 66 (Z7 Z9 3)]) (by simp [results,results195,go_sem,n0,n1]) rfl (Ro.no ?_ kr.out);exact (x.o.below.setCell (p:=⟨w.heap.size+1,0,ZX⟩) eP _).setCell (p:=⟨w.heap.size+1,1,ZX⟩) eP _
 have B:aC ((w1.alloc (Z4 (aV dN) 332)).setRow w1.heap.size (aV C)) w1.heap.size C:=(aC.new w1 dN).setRow C;have f:=Y.mono (k7 C) t;obtain ⟨S,T,U⟩:=fx f.par;have x:=a5 B f t N;clear W g r E Y k7 B f N;go_wp2_with (refine Wz rfl 332 (Z0 6) (Z0 13) rfl w1.heap.size (aV C) rfl rfl 332 (aV dN) (aC.new w1 dN).heap (dR _) rfl (mn _) ?_);obtain ⟨w5,ko⟩:=nM ((w1.alloc (Z4 (aV dN) 332)).setRow w1.heap.size (aV C));rw [ko] at x S T U ⊢;clear ko hz;refine (du D L G _ ec ec ec).mono ?_;rintro e w6 ⟨rfl,k8⟩;obtain ⟨B,f,t,N⟩:=x.o;have l:=(TX.1 B.heap).1;have he:aaM w D L G lost w1.heap.size (Z7 Z8 (lost:Nat)) (Z7 Z9 ((D:Int)+L+G-1)) w6:=⟨0,lost,C,T8 _,rfl,by congr 1;omega,B.keep (k8.block _ l),⟨_,N,λi=>by have:=bM (lost:=lost) (i:=i) h16;rwa [yO hl] at this⟩,λ_ q=>q,hl,f.mono k8 ec,T7 l k8.size,t⟩;have kf:=ak he;clear S T U B f l k8 he x N;go_wp2;go_loopw [1,8] (λlv iv wr=>aaM w D L G lost w1.heap.size lv iv wr) (λ_ iv _=>(intOf iv+1).toNat)
 case atStart=>exact kf.out
 case round=>
  clear kf;rename ZT=>wo;obtain ⟨k,s,C1,hk,rfl,rfl,k9,⟨K,hK⟩,A,R,a,l,kg⟩:=hrel;have kz:s<65536:=T7 R (jk h16);by_cases kj:k<D+L+G
  . obtain ⟨i,hi⟩:∃ i,i=D+L+G-1-k:=⟨_,rfl⟩;have P:((D+L+G:Nat):Int)-1-(k:Int)=(i:Int):=ec;rw [P];have q4:=tR w1.heap.size i C1 wo k9 (Ai hD hL4 hG hK.1) ec;have kc:i<16:=ec;have HN:=hide7 a k9 l kg A R hK;have b:=aE hi kj P;clear a k9 l kg P hi kj A R hK;go_wp2_with fail;refine (Fu s i kz kc wo).mono ?_;rintro e w2 ⟨rfl,q5⟩;subst q5;cases hb:s.testBit i with
    | true=>
     go_wp2;go_roundw
     case rel=>
      obtain ⟨d,X,F,I,J,M,y⟩:=HN.o;exact ⟨k+1,s,C1,e9 b.o,rfl,ZG,X,⟨K,y⟩,J,M,d,F,I⟩
     case measure=>have:=b.o;simp [intOf]<;>omega
    | false=>
     go_wp2_with fail;refine q4.mono ?_;rintro e w3 (⟨q8,rfl,q6⟩|⟨C',ka,rfl,k6,n⟩)
     . subst q6;go_wp2;go_roundw
       case rel=>
        obtain ⟨d,X,F,I,J,M,y⟩:=HN.o;exact ⟨k+1,s,C1,e9 b.o,rfl,ZG,X,⟨K,y⟩,J,M,d,F,I⟩
       case measure=>have:=b.o;simp [intOf]<;>omega
     . have H3:=aE ka k6 n;clear ka k6 n;go_wp2_with fail;refine (eU s i ec ec w3).mono ?_;rintro e w4 ⟨rfl,q7⟩;subst q7;go_wp2;go_roundw
       case rel=>
        obtain ⟨d,X,F,I,J,M,y⟩:=HN.o;obtain ⟨ka,k6,n⟩:=H3.o;have ky:=d.below.size;exact ⟨k+1,s|||2^i,C',e9 b.o,rfl,ZG,k6,⟨K++[i],by rw [j9,y.1];exact ka,λj=>by rw [Ui,U6,y.2 j,V6,Xj,X9,decide_eq_true_iff];have:=b.o;constructor;rintro (⟨V,u⟩|q);exact ⟨V,.inl u⟩;exact ⟨ec,.inr q.symm⟩;rintro ⟨V,u|u⟩;exact .inl ⟨V,u⟩;exact .inr u.symm⟩,λj q=>by rw [V6,J j q];rfl,WO M (VE ee (e9 b.o)),
         ⟨(n.block _ ec (λe=>e9 (UM e))).trans d.par,(n.block _ ec (λe=>e9 (UM e))).trans d.res,d.below.grown n ky (λq e=>e9 (UM e))⟩,T7 F n.size,I⟩
       case measure=>have:=b.o;simp [intOf]<;>omega
  . have kv:k=D+L+G:=ec;subst kv;have P:((D+L+G:Nat):Int)-1-((D+L+G:Nat):Int)=-1:=ec;rw [P];have ki:=rE D L G s hr hD1 hD hL hL4 hG hdiv h16 R wo (hT.mono ec a.below) (TU d a.below.size);obtain ⟨S,T,U⟩:=fx a.par;have H:=aE A ki a;have ks:=ak (OV hD hG h16 hK.1 hK.2);clear ki a k9 l A hK R;go_wp2_with fail;refine H.o.2.1.mono ?_;rintro e w3 ⟨z,ao,m,c,er,rfl,O,Z⟩;have a:=H.o.2.2;have kp:=(TX.1 a.res).1;have Q:=(O.block _ kp).trans a.res;obtain ⟨r0,r1,g1,g0⟩:=ay Q;have H3:=a5 Z O Q kp;clear Z O Q S T U a;go_wp2;obtain ⟨Z,O,Q,hs⟩:=H3.o;obtain ⟨n0,n1,_⟩:=ay (iV (y':=.slice ao m c) (iU (x':=Z7 Z9 z) Q));refine Ut (v:=ZY #[.agg #[Z7 Z9 z,.slice ao m c],er]) (by simp [results,results195,go_sem,n0,n1]) rfl ?_;obtain ⟨A,_,a⟩:=H.o;have kb:bW w w3:=a.below.trans (O.mono a.below.size);refine ⟨z,ao,m,c,er,rfl,(kb.setCell (p:=⟨w.heap.size+1,0,ZX⟩) eP _).setCell (p:=⟨w.heap.size+1,1,ZX⟩) eP _,?_⟩;rcases Z with q|⟨q0,s',C,V,u,q3,km⟩
    . exact absurd ks.out q.2.2.2.2.2
    . have hp:(Value.slice ao m c).ownBlock≠ZW (w.heap.size+1):=λe=>by have:=jO km e;omega
      have ke:=(km.kept (dy w3 (w.heap.size+1) 0 (Z7 Z9 z)) (.inr hp)).kept (dy _ (w.heap.size+1) 1 (.slice ao m c)) (.inr hp);exact .inr ⟨q0,s',C,λi h=>V i (A i h),u,q3,gw ke (e9 a.below.size)⟩
end
end
structure wH (w w2:ZT) (D L G lost:Int) (rd:Bool):Prop where
 par:w2.heap[w.heap.size]?=ZW (Z4 #[Z7 Z9 D,Z7 Z9 L,Z7 Z9 G,Z7 Z8 lost,Z1 rd] 221 (0,0))
 res:w2.heap[w.heap.size+1]?=ZW (Z4 #[Z7 Z9 0,Z5 ZX 0 0] 206 (0,0))
 below:bW w w2
 size:w.heap.size+2<=w2.heap.size
def wH.new (w:ZT) (D L G lost:Int) (rd:Bool):wH w ((w.alloc (Z4 #[Z7 Z9 D,Z7 Z9 L,Z7 Z9 G,Z7 Z8 lost,Z1 rd] 221)).alloc (Z4 #[Z7 Z9 0,Z5 ZX 0 0] 206)) D L G lost rd:=by
 refine ⟨(UF _ _ _ ek).trans (Ug _ _),?_,(bA w _).alloc ek _,ek⟩;have:=Ug (w.alloc (Z4 #[Z7 Z9 D,Z7 Z9 L,Z7 Z9 G,Z7 Z8 lost,Z1 rd] 221)) (Z4 #[Z7 Z9 0,Z5 ZX 0 0] 206);rwa [Ul] at this
def wH.mono {D L G:Int} {rd:Bool} (h:wH w w2 D L G lost rd) (a:bW w2 w3):wH w w3 D L G lost rd:=by
 have:=h.size;exact ⟨(a.block _ ec).trans h.par,(a.block _ ec).trans h.res,h.below.trans (a.mono h.below.size),TU h.size a.size⟩
def wH.cells {D L G:Int} {rd:Bool} (h:wH w w2 D L G lost rd):w2.cell? ⟨w.heap.size,0,ZX⟩=ZW (Z7 Z9 D)/\w2.cell? ⟨w.heap.size,1,ZX⟩=ZW (Z7 Z9 L)/\w2.cell? ⟨w.heap.size,2,ZX⟩=ZW (Z7 Z9 G)/\w2.cell? ⟨w.heap.size,3,ZX⟩=ZW (Z7 Z8 lost)/\w2.cell? ⟨w.heap.size,4,ZX⟩=ZW (Z1 rd):=by
 have a:=h.par;simp [World.cell?,a]
def aa.after (a:bW w w2) (b:aa T w2 w3):aa T w w3:=⟨b.os.trans a.os,b.tape.trans a.tape,b.output.trans a.output,TU a.size b.size,λk c d=>(b.block k (T7 c a.size) d).trans (a.block k c)⟩
def nC (D L G s:Nat) (ao:Option Addr) (m c:Nat) (e:ZP):Prop:=e=Z3 (ZY #[.agg #[Z7 Z9 (1+((ab (aw (D+L+G) s)).length:Int)),.slice ao m c],.nilIface])
def pF.parts (h:pF w sb room):fP w sb room/\(∃ n,w.heap[sb+1]?=ZW (.map #[] n))/\aaL w sb sb/\w.cell? ⟨sb+1+1+1,0,ZX⟩=ZW (Z6 (ZW ⟨sb+1+1,0,ZX⟩)):=by
 refine ⟨h.list,h.map,h.ends,?_⟩;have a:=h.RY;simp [World.cell?,a]
def Fv (k n:Nat):eW (k+1) n=eW k n++[YI n 0]:=by
 unfold eW;rw [List.replicate_succ']
def MkR (w:ZT) (B g r n:Nat) (i:ZS) (wr:ZT):Prop:=
 ∃ k T,k<=r/\i=Z7 Z9 (k:Nat)/\oE wr B g r T/\cM T n (eW k n)/\ZR B w wr/\B<=wr.heap.size
def Rp (r n:Nat) (w:ZT) (e:ZP) (w':ZT):Prop:=∃ g T,e=Z3 (Z5 (ZW ⟨g,0,ZX⟩) r r)/\eh w' w.heap.size (Z5 (ZW ⟨g,0,ZX⟩) r r) T/\cM T n (eW r n)/\bW w w'
def qF {T:List (Nat×Nat×a8)} {M:List a8} (h:cM T D M):T.length=M.length:=oD (Ux YK h)
theorem AA (r n:Nat) (w:ZT) (hr:r<=32) (L:n<=4096) :
 ZQ ZN 178 #[Z7 Z9 r,Z7 Z9 n] w λe w'=>Rp r n w e w':=by
 go_enter func178,ntmps178;go_wp2_with (at_make;refine mY _ rfl (Z0 7) (Z0 7) rfl _ r rfl rfl rfl ec ?_;intro wc j f G;clear G);have m:oE wc w.heap.size w.heap.size r []:=⟨j.congr (λi _=>by simp [shv]),λp h=>by simp at h,ek⟩;have v:=f.size;clear j;go_loopw [11] (λi wr=>MkR w w.heap.size w.heap.size r n i wr) (λi _=>r-(intOf i).toNat)
 case atStart=>exact ⟨0,[],T8 _,rfl,m,rfl,f,v⟩
 case round=>
  clear m f v;rename ZT=>wo;obtain ⟨k,T,K,rfl,g,a,u,E⟩:=hrel;have s:=qF a;have A:T.length=k:=by rw [s];simp [eW]
  by_cases D:k<r
  . have c:=ak a;clear a s
    go_wp2_with (at_make;refine cP _ rfl (Z0 16) (Z0 16) rfl _ n rfl rfl rfl ec ?_;intro w2 B t J
                 have d:=g.below t;have H:=d.tab.cell (i:=k) D;have I:=d.tab.frozen k)
    have q:=d.push (b:=wo.heap.size) (n:=n) (l:=YI n 0) ec B ek en (by intro x F;have:=VF F;omega) (λp h e=>e9 ((g.row p h).2.1.lt));rw [A,XY] at q;refine ⟨⟨k+1,_,ec,eT,q,?_,(u.trans (t.mono E)).setCell ek _,en⟩,l7⟩;have z:=c.o;unfold cM at z ⊢;rw [Fv,Uw,Uw,z];rfl
  . have C:k=r:=ec;subst C;have y:=g.done ec lR eD;have HT:=ak y;have c:=ak a;clear y a;go_wp2;go_ret;exact ⟨_,T,rfl,HT.o,c.o,u⟩
def Mn (w:ZT) (f:ZO) (g n cap:Nat) (old src:a8) (ao:Option Addr) (c:Nat) (d:aM w g old) (B:Bs w (.slice ao src.length c) src) (D:src.length=n) (ho:old.length=n) :
 ∃ w',(Builtin.copy_ #[40,40] f #[Z5 (ZW ⟨g,0,ZX⟩) n cap,.slice ao src.length c]).run ZN w=.ok (Z7 Z9 (n:Nat)) w'/\aM w' g src/\w.grownBy w' (ZW g):=by
 subst D;have o:(ZN.info? 5).map (λi=>i.size)=ZW 1:=ei
 by_cases a:src.length=0
 . have A:src=[]:=UW a;have z:old=[]:=UW ec;subst A z;exact ⟨w,run_copy_none (P:=ZN) w 40 40 f 5 (ZW ⟨g,0,ZX⟩) ao 0 cap 0 c Un o ek,d,Wx _ _⟩
 . obtain ⟨s,E,e,_,_,G,u⟩:=B;simp at e;obtain ⟨b,off,h,C⟩:=u Zk;rw [<- e.1] at h;subst h;have l:=run_copy_row (P:=ZN) w 40 40 f 5 g 0 src.length cap ⟨b,off,ZX⟩ src.length c _ 5 (bv src) Un o d.heap (by simp [bv]) (λj v p=>by
    have m:j<src.length:=by
     obtain ⟨q,_⟩:=Va.1 p;simpa [bv] using q
    rw [Vo,C j m,<- p];simp [bv,m]) (by simp [bv];omega) (by intro v r;simp [bv] at r;obtain ⟨x,_,rfl⟩:=r;rfl)
   have t:(List.take 0 (List.map (λx=>Value.int .u8 ((x:Nat):Int)) old).toArray.toList++bv src++List.drop (0+(bv src).length) (List.map (λx=>Value.int .u8 ((x:Nat):Int)) old).toArray.toList)=src.map (λx=>Value.int .u8 ((x:Nat):Int)):=by
    simp [bv];omega
   rw [t] at l;refine ⟨w.setRow g (src.map (λx=>Value.int .u8 ((x:Nat):Int))).toArray,by rw [l];simp [bv,goInt],?_,?_⟩
   . exact aM.of_heap (Vt w g (old.map (λx=>Value.int .u8 ((x:Nat):Int))).toArray (src.map (λx=>Value.int .u8 ((x:Nat):Int))).toArray 5 _ d.heap)
   . refine ⟨rfl,rfl,rfl,V1,λk F y=>setRow_other w g k _ (λe=>y Wb)⟩
def Je {o:Oper} {a:Act} {K:Act->ZT->Prop} (b:o.guard=ZX) (d s:Operand) (ho:o.op=.call { callee:=.builtin .copy,args:=#[d,s],argTypes:=#[40,40] })
 (vd vs v':ZS) (hd:a.eval d=vd) (hs:a.eval s=vs) (h0:(Builtin.copy_ #[40,40] o.type #[vd,vs]).run ZN w=.ok v' w') (h:K (a.put o.dst v') w'):if Region.wanted o (yielded ops a.tmps)=ZV then Oper.wp ZN o a w K Q else E:=by
 rw [TT (by simp [Region.wanted,b])];unfold Oper.wp;simp [execOp,ho,resolve,invoke,builtin,hd,hs,h0,Result.andThen];exact h
def AC {xs:List ZS} (h:w.ownsRow base 254 2 v n xs) {b:Nat} {l:a8} (i:aM w b l):v.ownBlock≠ZW b:=by
 intro e;rcases h.2 with ⟨f,_⟩|⟨g,cap,cur,d,k,a,_⟩
 . rw [f] at e;simp [Value.ownBlock] at e
 . rw [d] at e;simp [Value.ownBlock] at e;subst e;obtain ⟨c,j,_⟩:=i;rw [j] at a;simp at a
def mH.aside {O:List (Int×Nat×Nat×a8)} {b:Nat} (h:mH 254 w base v O) (j:aM w b l) (f:w.grownBy w' (ZW b)) (i:∀ q∈O,q.2.1≠b):mH 254 w' base v O:=
 ⟨h.own.kept f (.inr (AC h.own j)),λq g=>by
  obtain ⟨a,c,d⟩:=h.row q g;exact ⟨a,c.grown f (by intro e;simp at e;exact i q g e),d⟩,h.nodup⟩
def Jf {T:List (Nat×Nat×a8)} {R:List a8} (h:cM T n R) (i:Nat) (b:i<T.length) (l:a8):cM (T.set i (T[i].1,T[i].2.1,l)) n (R.set i l):=by
 have:=qF h;have a:=h.at b ec;unfold cM at *;rw [List.map_set,List.map_set,h,a]
section
def uT (x y:a8) (c:Nat):(iR x y c).length=x.length:=by simp [iR]
def Jg {x y:a8} (e:∀ a∈x,a<256) (d:c<256):∀ a∈iR x y c,a<256:=by
 intro a b;simp only [iR,T9,Ur] at b;obtain ⟨j,_,rfl⟩:=b;exact V9 (n:=8) (dm e j) (bu _ d)
theorem AD (b d n c:Nat) (x y:a8) (w:ZT) (p:c<256) (q:aM w b x) (r:aM w d y) (f:x.length=n) (s:y.length=n) (l:d≠b) (m:∀ a∈x,a<256) (o:∀ a∈y,a<256) (v:n<=100000) :
 ZQ ZN 179 #[Z5 (ZW ⟨b,0,ZX⟩) n n,Z5 (ZW ⟨d,0,ZX⟩) n n,Z7 .u8 c] w λe w'=>e=Z3 (ZY #[])/\aM w' b (iR x y c)/\w.grownBy w' (ZW b):=by
 have hr:w.rowIs b 5 n (tv (λi=>x.getD i 0)):=by
  have:=q;unfold aM at this;rw [f] at this;exact this
 refine (jt b 5 n 0 n n d 0 n c (λi=>x.getD i 0) (λi=>y.getD i 0) w p hr (λj=>dm m j) (λj=>dm o j) ec ec (λi t=>by rw [Uj];exact r.cell i ec) (.inl l)).mono ?_;rintro e w' ⟨rfl,g,h⟩;refine ⟨rfl,?_,h⟩;unfold aM;rw [uT,f];refine g.congr λj u=>?_;have k:j<x.length:=ec
 unfold tv vb gU iR;rw [TT ec];simp [k]
structure Rn (w0:ZT) (B:Nat) (P:List St) (D R0:List a8) (n r gR k:Nat) (vO:ZS) (T:List (Nat×Nat×a8)) (O:List (Int×Nat×Nat×a8)) (wr:ZT):Prop where
 tab:eh wr B (Z5 (ZW ⟨gR,0,ZX⟩) r r) T
 hold:cM T n (bP P D R0 k)
 len:∀ l∈bP P D R0 k,l.length=n
 outs:mH 254 wr B vO O
 vals:O.map (λq=>(q.1,q.2.2.2.take q.2.2.1))=dA P D R0 k
 apart:∀ p∈T,∀ q∈O,p.1≠q.2.1
 below:ZR B w0 wr
 size:B<=wr.heap.size
variable {w0:ZT} {B:Nat} {P:List St} {D R0:List a8} {n r gR k:Nat} {vO:ZS} {T:List (Nat×Nat×a8)} {O:List (Int×Nat×Nat×a8)} {w:ZT}
def Rn.next (h:Rn w0 B P D R0 n r gR k vO T O w) {w':ZT} (a:bW w w'):Rn w0 B P D R0 n r gR k vO T O w':=
 ⟨h.tab.below a,h.hold,h.len,h.outs.below a,h.vals,h.apart,h.below.trans (a.mono h.size),TU h.size a.size⟩
def Rn.tlen (h:Rn w0 B P D R0 n r gR k vO T O w):T.length=r:=by
 rcases h.tab.shape with ⟨e,_⟩|⟨g,cap,e,_⟩
 . simp at e
 . simp at e;omega
def Rn.reg (h:Rn w0 B P D R0 n r gR k vO T O w) (A:Nat) (C:A<r):∃ g,(∃ a:A<T.length,T[A]=(g,n,(bP P D R0 k).getD A []))/\w.cell? ⟨gR,A,ZX⟩=ZW (Z5 (ZW ⟨g,0,ZX⟩) n n)/\aM w g ((bP P D R0 k).getD A [])/\((bP P D R0 k).getD A []).length=n/\(∀ x∈(bP P D R0 k).getD A [],x<256)/\g≠gR/\B<=g/\g<w.heap.size/\gR<w.heap.size/\B<=gR:=by
 have:=h.tlen;have a:A<T.length:=ec
 have:=qF h.hold;have c:A<(bP P D R0 k).length:=ec
 have d:=h.hold.at a c;have o:(bP P D R0 k).getD A []=(bP P D R0 k)[A]:=Za
 have l:=h.len _ (T6 c);obtain ⟨m,b,y,z,i⟩:=h.tab.row _ (T6 a);rw [o];have p:T[A]=(T[A].1,n,(bP P D R0 k)[A]):=by rw [<- d]
 have j:T[A].2.2=(bP P D R0 k)[A]:=by rw [d]
 have q:T[A].2.1=n:=by rw [d]
 rcases h.tab.shape with ⟨e,_⟩|⟨g,cap,e,v,_,_,s,u,_,t⟩
 . simp at e
 . simp at e;obtain ⟨rfl,_⟩:=e;have f:=u A a;unfold fX at f;rw [j,q,l] at f;rw [j] at b i;exact ⟨T[A].1,⟨a,p⟩,f,b,l,i,t _ (T6 a),m,b.lt,s,v⟩
def Rn.write (h:Rn w0 B P D R0 n r gR k vO T O w) {w':ZT} {A g:Nat} {l0 src:a8} (s:∃ s:A<T.length,T[A]=(g,n,l0)) (z:l0.length=n) (b:w.grownBy w' (ZW g)) (v:aM w' g src) (hl:src.length=n) (y:∀ x∈src,x<256)
 (hr:bP P D R0 (k+1)=(bP P D R0 k).set A src) (ho:dA P D R0 (k+1)=dA P D R0 k):∃ T',Rn w0 B P D R0 n r gR (k+1) vO T' O w':=by
 obtain ⟨f,e⟩:=s;have d:=T6 f;obtain ⟨m,o,_⟩:=h.tab.row _ d;have a:T[A].1=g:=Wb
 have u:T[A].2.2=l0:=Wb
 rw [a] at m o;refine ⟨T.set A (T[A].1,T[A].2.1,src),?_,?_,?_,?_,?_,?_,?_,?_⟩
 . exact h.tab.wrote f (by rw [a];exact b) (by rw [a];exact v) (by rw [u];omega) y
 . rw [hr];exact Jf h.hold A f src
 . rw [hr];intro l i;rcases Ye i with i|rfl
   . exact h.len l i
   . exact hl
 . exact h.outs.aside o b (λq c t=>h.apart _ d q c (by rw [a,t]))
 . rw [ho];exact h.vals
 . intro p j q c;rcases Ye j with j|rfl
   . exact h.apart p j q c
   . exact h.apart _ d q c
 . exact gE h.below b h.size m
 . exact TU h.size b.size
def Rn.reg_ne (h:Rn w0 B P D R0 n r gR k vO T O w) {A X g d:Nat} {l p:a8} (c:∃ c:A<T.length,T[A]=(g,n,l)) (a:∃ c:X<T.length,T[X]=(d,n,p)) (o:A≠X):d≠g:=by
 obtain ⟨f,e⟩:=c;obtain ⟨a,m⟩:=a;have i:=V3.1 h.tab.nodup;intro q;have j:T[A].1=T[X].1:=by rw [e,m];exact q.symm
 rcases Yw o with b|b
 . exact i A X (oD f) (oD a) b (oD j)
 . exact i X A (oD a) (oD f) b (oD j.symm)
def uU {B':Nat} {xs ys:List ZS} {vO:ZS} (h:w.ownsRow B 40 1 (Z5 (ZW ⟨g,0,ZX⟩) c m) n xs) {n':Nat} (l:w.ownsRow B' 254 2 vO n' ys):vO.ownBlock≠ZW g:=by
 intro e;rcases h.2 with ⟨a,_⟩|⟨q,cap,cur,f,o,j,_⟩
 . simp at a
 . simp at f;obtain ⟨rfl,_⟩:=f;rcases l.2 with ⟨a,_⟩|⟨r,b,d,k,p,i,_⟩
   . rw [a] at e;simp [Value.ownBlock] at e
   . rw [k] at e;simp [Value.ownBlock] at e;subst e;rw [j] at i;simp at i
theorem yP (P:List St) (D R0:List a8):∀ k,(dA P D R0 k).length<=k
 | 0=>TV _
 | k+1=>by
  have:=yP P D R0 k;unfold dA ig;split<;>simp<;>omega
def Rn.olen (h:Rn w0 B P D R0 n r gR k vO T O w):O.length<=k:=by
 have:=Ux YK h.vals;rw [Ue] at this;rw [this];exact yP P D R0 k
def Rn.put (h:Rn w0 B P D R0 n r gR k vO T O w) {w1 w3:ZT} {o:Obj} {b m:Nat} {l:a8} {sh:Int} {vO':ZS} (E:bW w w1) (G:w.heap.size<=b) (A:aM w1 b (l++YI m 0)) (hl:l.length=n) (I:n<=100000) (H:n+m<=9223372036854775807) (F:∀ x∈l,x<256)
 (g:(w1.alloc o).grownBy w3 vO.ownBlock) (z:w3.ownsRow B 254 2 vO' (O.length+1) (qB O++[Z7 Z9 sh,Z5 (ZW ⟨b,0,ZX⟩) n (n+m)]))
 (hr:bP P D R0 (k+1)=bP P D R0 k) (ho:dA P D R0 (k+1)=dA P D R0 k++[(sh,l)]):Rn w0 B P D R0 n r gR (k+1) vO' T (O++[(sh,b,n,l++YI m 0)]) w3:=by
 have f:=(h.next E).next ((TW w1.heap.size w1).alloc lR o);have:=h.size;have hll:(l++YI m 0).length=n+m:=by simp [hl]
 have v:=A.alloc o;refine ⟨?_,by rw [hr];exact h.hold,by rw [hr];exact h.len,?_,?_,?_,?_,?_⟩
 . refine ⟨f.tab.own.kept g (.inr λe=>?_),λp s=>?_,f.tab.nodup⟩
   . exact uU f.tab.own f.outs.own (by rw [<- e];rfl)
   . obtain ⟨t,i,u⟩:=f.tab.row p s;exact ⟨t,i.grown g (λe=>AC f.outs.own i e.symm),u⟩
 . refine ⟨?_,λq d=>?_,?_⟩
   . rw [rB];simpa [qB,fX,hll,hl] using z
   . rcases Ui.1 d with d|d
     . obtain ⟨t,i,u⟩:=f.outs.row q d;exact ⟨t,i.grown g (λe=>AC f.outs.own i e.symm),u⟩
     . simp at d;subst d;refine ⟨by show B<=b;omega,v.grown g (λe=>AC f.outs.own v e.symm),by show n<=(l++YI m 0).length;omega,⟨Zo,by show (l++YI m 0).length<=9223372036854775807;omega⟩,?_⟩;intro x j;rcases Ui.1 j with j|j
       . exact F x j
       . have:=VF j;omega
   . rw [Uw,U9];refine ⟨h.outs.nodup,ek,?_⟩;intro a C c y;obtain ⟨q,d,rfl⟩:=T9.1 C;simp at y;subst y;have:=(h.outs.row q d).2.1.lt;omega
 . rw [ho,Uw,h.vals];simp [<- hl]
 . intro p s q d;rcases Ui.1 d with d|d
   . exact h.apart p s q d
   . simp at d;subst d;have:=(h.tab.row p s).2.1.lt;show p.1≠b;omega
 . exact f.below.grown g f.size (λq d=>(f.outs.own.lt q d).1)
 . exact TU f.size g.size
end
def eL (x:Nat):Nat:=x/2
def fQ (x:Nat):Bool:=decide (x%2=1)
theorem GU (D L G:Int) {x y:Nat} (h:x≠y) (w:ZT):(Op.equal 221 (bH D L G (eL x:Nat) (fQ x)) (bH D L G (eL y:Nat) (fQ y))).run ZN w=.ok ZU w:=by
 by_cases a:eL x=eL y
 . have b:fQ x≠fQ y:=λe=>h (by
    unfold eL at a;unfold fQ at e;have:(x%2=1)↔(y%2=1):=by
     constructor
     . intro q;exact WE (by rw [<- e];exact UZ q)
     . intro q;exact WE (by rw [e];exact UZ q)
    omega)
   have d:(fQ x==fQ y)=ZU:=acx;rw [a];unfold bH Op.equal Op.maxDepth;go_simp
 . have c:(((eL x:Nat):Int)==((eL y:Nat):Int))=ZU:=by
    rw [beq_eq_false_iff_ne];omega
   unfold bH Op.equal Op.maxDepth;go_simp
def dU (D L G:Int) (es:List (Nat×Nat×Nat)):List MapEntry:=es.map λe=>{ key:=bH D L G (eL e.1:Nat) (fQ e.1),val:=Z6 (ZW ⟨e.2.1,0,ZX⟩),born:=e.2.2 }
def cO (es:List (Nat×Nat×Nat)):a8:=es.map (·.1)
def Do (D L G:Int) (lost:Nat) (w:ZT):∀ (es:List (Nat×Nat×Nat)) (i:Nat),lost∉cO es->(Instr.findAsking 221 (bH D L G (eL lost:Nat) (fQ lost)) (dU D L G es) i).run ZN w=.ok ZX w
 | [],_,_=>by simp [dU,Instr.findAsking]
 | e::es,i,h=>by
  have b:lost≠e.1:=λq=>by
   subst q;exact h (U8 ..)
  have a:=Do D L G lost w es (i+1) (λq=>h (UJ _ q));have c:=GU D L G b w;unfold dU at a ⊢;simp only [U1,Instr.findAsking,UE,c,UT];simpa using a
def Mo (D L G:Int) (w:ZT):∀ (es:List (Nat×Nat×Nat)) (i k:Nat) (a:k<es.length),(cO es).Nodup->(Instr.findAsking 221 (bH D L G (eL es[k].1:Nat) (fQ es[k].1)) (dU D L G es) i).run ZN w=.ok (ZW (i+k,Z6 (ZW ⟨es[k].2.1,0,ZX⟩))) w
 | [],_,_,a,_=>absurd a ek
 | e::es,i,0,_,_=>by
  have b:=OT D L G (eL e.1:Nat) (fQ e.1) w;unfold dU;simp only [U1,Instr.findAsking,UE,ab4,b,UT];simp
 | e::es,i,k+1,a,f=>by
  have c:k<es.length:=oD a
  have g:es[k].1≠e.1:=λq=>(UO.1 f).1 (T9.2 ⟨es[k],T6 c,q⟩);have d:=Mo D L G w es (i+1) k c (UO.1 f).2;have b:=GU D L G g w;unfold dU at d ⊢;simp only [U1,Instr.findAsking,UE,X6,b,UT];rw [(ec:i+(k+1)=i+1+k)];simpa using d
def Dp (k:ZS) (x:MapEntry) (es:List MapEntry) (f:Array Field) (i:Nat):Instr.findNow (.struct f) k (x::es) i=ZX:=by
 simp [Instr.findNow,Instr.sameNow]
def yQ (D L G:Int) {lost:Nat} {es:List (Nat×Nat×Nat)} (h:lost∉cO es) (w:ZT):(Instr.findKey 221 (bH D L G (eL lost:Nat) (fQ lost)) (dU D L G es)).run ZN w=.ok ZX w:=by
 have a:=Do D L G lost w es 0 h;cases es with
 | nil=>simp [dU,Instr.findKey,Instr.findNow,UL ace]
 | cons e es=>
  unfold dU at a ⊢;simp only [U1] at a ⊢;simp only [Instr.findKey,UE,UL ace,UT,Dp];exact a
def GV (D L G:Int) {es:List (Nat×Nat×Nat)} {k:Nat} (b:k<es.length) (c:(cO es).Nodup) (w:ZT):(Instr.findKey 221 (bH D L G (eL es[k].1:Nat) (fQ es[k].1)) (dU D L G es)).run ZN w=.ok (ZW (k,Z6 (ZW ⟨es[k].2.1,0,ZX⟩))) w:=by
 have a:=Mo D L G w es 0 k b c;rw [Uj] at a;cases es with
 | nil=>exact absurd b ek
 | cons e es=>
  unfold dU at a ⊢;simp only [U1] at a ⊢;simp only [Instr.findKey,UE,UL ace,UT,Dp];exact a
def Mp {D L G:Int} (h:w.heap[m]?=ZW (.map (dU D L G es).toArray n)) {lost:Nat} (hl:lost∉cO es):(Instr.lookup 262 (.map (ZW m)) (bH D L G (eL lost:Nat) (fQ lost)) ZV).run ZN w=.ok (ZY #[.pointer ZX,Z1 ZU]) w:=by
 have a:=uR h;have b:=λe=>oT e D L G (eL lost:Nat) (fQ lost) w;have c:=yQ D L G hl w;simp [Instr.lookup,UL Yr,a,b,c]
def OW {D L G:Int} (h:w.heap[m]?=ZW (.map (dU D L G es).toArray n)) {k:Nat} (d:k<es.length) (f:(cO es).Nodup):(Instr.lookup 262 (.map (ZW m)) (bH D L G (eL es[k].1:Nat) (fQ es[k].1)) ZV).run ZN w=.ok (ZY #[Z6 (ZW ⟨es[k].2.1,0,ZX⟩),Z1 ZV]) w:=by
 have a:=uR h;have b:=λe=>oT e D L G (eL es[k].1:Nat) (fQ es[k].1) w;have c:=GV D L G d f w;simp [Instr.lookup,UL Yr,a,b,c]
def OX {D L G:Int} (h:w.heap[m]?=ZW (.map (dU D L G es).toArray n)) {lost:Nat} (hl:lost∉cO es) (nb:Nat):(Instr.mapUpdate 262 (.map (ZW m)) (bH D L G (eL lost:Nat) (fQ lost)) (Z6 (ZW ⟨nb,0,ZX⟩))).run ZN w=.ok () (w.putObj m (.map (dU D L G (es++[(lost,nb,n)])).toArray (n+1))):=by
 have a:=uR h;have b:=oT ZU D L G (eL lost:Nat) (fQ lost) w;have c:=yQ D L G hl w;have d:(dU D L G es).toArray.push { key:=bH D L G (eL lost:Nat) (fQ lost),val:=Z6 (ZW ⟨nb,0,ZX⟩),born:=n }=(dU D L G (es++[(lost,nb,n)])).toArray:=by simp [dU]
 simp [Instr.mapUpdate,UL Yr,a,b,c,Mm h,d]
def yR (D L G:Int):∀ (es:List (Nat×Nat×Nat)) (k:Nat),(dU D L G es).eraseIdx k=dU D L G (es.eraseIdx k)
 | [],_=>rfl
 | _::_,0=>rfl
 | e::es,k+1=>by
  have h:=yR D L G es k;unfold dU at h ⊢;simp only [U1,List.eraseIdx_cons_succ,h]
def Rq {D L G:Int} (h:w.heap[m]?=ZW (.map (dU D L G es).toArray n)) {k:Nat} (d:k<es.length) (f:(cO es).Nodup) (t:ZO):(Builtin.delete_ #[262,221] t #[.map (ZW m),bH D L G (eL es[k].1:Nat) (fQ es[k].1)]).run ZN w=.ok (ZY #[]) (w.putObj m (.map (dU D L G (es.eraseIdx k)).toArray n)):=by
 have a:=uR h;have b:=λe=>oT e D L G (eL es[k].1:Nat) (fQ es[k].1) w;have c:=GV D L G d f w;simp [Builtin.delete_,UL Yr,a,b,c,Mm h,yR]
def OY {D L G:Int} (h:w.heap[m]?=ZW (.map (dU D L G es).toArray n)) (t:ZO):(Builtin.len_ #[262] t #[.map (ZW m)]).run ZN w=.ok (Z7 Z9 (es.length:Nat)) w:=by
 have a:=uR h;simp [Builtin.len_,UL Yr,a,dU,goInt]
structure Fw where
 D:Int
 L:Int
 G:Int
 lost:Int
 rd:Bool
 regs:Int
 steps:ZS
def ph (w:ZT) (S:Nat->Prop) (cn:Nat->Fw) (nw ol:Nat->Nat):Prop:=∀ a,S a->jD w a (cn a).D (cn a).L (cn a).G (cn a).lost (cn a).rd (cn a).regs (cn a).steps (Z6 (ZW ⟨nw a,0,ZX⟩)) (Z6 (ZW ⟨ol a,0,ZX⟩))
def il (f:Nat->Nat) (a x:Nat):Nat->Nat:=λb=>if b=a then x else f b
def eE (f:Nat->Nat) (a x:Nat):il f a x a=x:=TT rfl
def eM {f:Nat->Nat} {a b:Nat} (x:Nat) (h:b≠a):il f a x b=f b:=TS h
def ph.SV {cn:Nat->Fw} (h:ph w S cn nw ol) (a x:Nat):ph (w.setCell ⟨a,7,ZX⟩ (Z6 (ZW ⟨x,0,ZX⟩))) S cn (il nw a x) ol:=λb c=>by
 by_cases e:b=a
 . subst e;rw [eE];exact (h b c).SV _
 . rw [eM x e];exact (h b c).keep (Ud _ _ _ _ e)
def ph.SL {cn:Nat->Fw} (h:ph w S cn nw ol) (a x:Nat):ph (w.setCell ⟨a,8,ZX⟩ (Z6 (ZW ⟨x,0,ZX⟩))) S cn nw (il ol a x):=λb c=>by
 by_cases e:b=a
 . subst e;rw [eE];exact (h b c).SL _
 . rw [eM x e];exact (h b c).keep (Ud _ _ _ _ e)
def ph.keep {cn:Nat->Fw} (h:ph w S cn nw ol) (d:aa T w w') (e:∀ a,S a->¬ T a):ph w' S cn nw ol:=λb c=>(h b c).keep (d.block b (h b c).lt (e b c))
theorem rH {cn:Nat->Fw} (h:ph w S cn nw ol) {n:Nat} (c:S n) (a:S (nw n)) (b:S (ol n)) :
 ZQ ZN 193 #[Z6 (ZW ⟨n,0,ZX⟩)] w λe w'=>e=Z3 (ZY #[])/\ph w' S cn (il nw (ol n) (nw n)) (il ol (nw n) (ol n))/\aa S w w':=by
 obtain ⟨d,f,_,_⟩:=(h n c).cells;obtain ⟨_,g,_,j⟩:=(h _ a).cells;obtain ⟨i,_,k,_⟩:=((h.SL (nw n) (ol n)) _ b).cells;have H:=aE ((h.SL (nw n) (ol n)).SV (ol n) (nw n)) a b;clear h a b c;generalize nw n=x at *;generalize ol n=y at *;generalize ol x=z at *;generalize nw y=l at *;go_enter func193,ntmps193;go_region;go_end0
 exact ⟨rfl,H.o.1,((aa.setCell _ _ _ H.o.2.1).trans (aa.setCell _ _ _ H.o.2.2)).trans (aa.drew _)⟩
theorem AE {cn:Nat->Fw} (hl:fP w sb room) (h:ph w S cn nw ol) {n:Nat} (a:S n) (c:S sb) (ho:S (ol sb)) :
 ZQ ZN 194 #[Z6 (ZW ⟨sb+1+1,0,ZX⟩),Z6 (ZW ⟨n,0,ZX⟩)] w λe w'=>e=Z3 (ZY #[])/\ph w' S cn (il (il nw n sb) (ol sb) n) (il (il ol n (ol sb)) sb n)/\aa S w w':=by
 have q:=(gx hl).2.2;obtain ⟨k,_,b7,_⟩:=(h n a).cells;obtain ⟨_,p,_,_⟩:=(h sb c).cells;have d:=h.SV n sb;obtain ⟨_,l,_,m⟩:=(d n a).cells;have i:=d.SL n (ol sb);obtain ⟨w2,g⟩:=nM (((w.setCell ⟨n,7,ZX⟩ (Z6 (ZW ⟨sb,0,ZX⟩))).setCell ⟨n,8,ZX⟩ (Z6 (ZW ⟨ol sb,0,ZX⟩))).drew);have b:ph w2 S cn (il nw n sb) (il ol n (ol sb)):=by rw [<- g];exact i
 have j:aa S w w2:=by rw [<- g];exact ((aa.setCell _ _ _ a).trans (aa.setCell _ _ _ a)).trans (aa.drew _)
 obtain ⟨r,s,_,_⟩:=(b n a).cells;rw [eE] at r s;have f:=b.SL sb n;obtain ⟨_,t,_,t8⟩:=(b sb c).cells;obtain ⟨u,_,v,_⟩:=(f (ol sb) ho).cells;have H:=a5 (f.SV (ol sb) n) j c ho;clear h d i b f hl a c ho j;generalize ol sb=y at *;generalize il ol n y sb=z at *;generalize il nw n sb y=x at *;generalize nw n=A at *;generalize ol n=B at *;go_enter func194,ntmps194;go_wp2;go_region;clear g k b7 p l m q;go_wp2;go_region;go_end0
 exact ⟨rfl,H.o.1,H.o.2.1.trans (((aa.setCell _ _ _ H.o.2.2.1).trans (aa.setCell _ _ _ H.o.2.2.2)).trans (aa.drew _))⟩
def vU (nw ol:Nat->Nat):Nat->a8->Nat->Prop
 | a,[],b=>ol a=b/\nw b=a
 | a,n::ns,b=>(ol a=n/\nw n=a)/\vU nw ol n ns b
theorem vU.congr {nw' ol':Nat->Nat}:∀ {ns:a8} {a b:Nat},vU nw ol a ns b->(∀ x∈a::ns,ol' x=ol x)->(∀ x∈ns++[b],nw' x=nw x)->vU nw' ol' a ns b
 | [],a,b,h,c,d=>⟨(c a (U8 ..)).trans h.1,(d b ek).trans h.2⟩
 | n::ns,a,b,h,c,d=>⟨⟨(c a (U8 ..)).trans h.1.1,(d n ek).trans h.1.2⟩,vU.congr h.2 (λx e=>c x (UJ _ e)) (λx e=>d x (by rw [US];exact UJ _ e))⟩
def vU.Sc {ns:a8} {a b:Nat} (h:vU nw ol a ns b):ol a=b/\ns=[]\/ol a∈ns:=by
 cases ns with
 | nil=>exact .inl ⟨h.1,rfl⟩
 | cons n ns=>exact .inr (by rw [h.1.1];exact U8 ..)
def vU.last:∀ {ns:a8} {a b:Nat},vU nw ol a ns b->(c:ns≠[])->nw b=ns.getLast c
 | [],_,_,_,c=>absurd rfl c
 | [_],_,_,h,_=>h.2.2
 | _::m::ns,_,_,h,_=>by rw [List.getLast_cons ek];exact vU.last h.2 ek
theorem vU.put {ns:a8} (h:vU nw ol sb ns sb) (d:(sb::ns).Nodup) (c:n∉sb::ns):vU (il (il nw n sb) (ol sb) n) (il (il ol n (ol sb)) sb n) sb (n::ns) sb:=by
 have b:n≠sb:=λe=>c (e▸U8 ..);have j:n≠ol sb:=λe=>by
  rcases h.Sc with q|q
  . exact b (e.trans q.1)
  . exact c (UJ _ (e▸q))
 refine ⟨⟨eE _ _ _,by rw [eM _ j,eE]⟩,?_⟩;cases ns with
 | nil=>exact ⟨by rw [eM _ b,eE];exact h.1,by rw [h.1,eE]⟩
 | cons m o=>
  have f:=h.1.1;refine ⟨⟨by rw [eM _ b,eE];exact f,by rw [f,eE]⟩,h.2.congr (λx a=>?_) (λx a=>?_)⟩
  . have g:x≠sb:=λe=>(UO.1 d).1 (e▸a);have i:x≠n:=λe=>c (UJ _ (e▸a));rw [eM _ g,eM _ i]
  . have k:x≠m:=λe=>by
     subst e;rcases Ui.1 a with q|q
     . exact (UO.1 (UO.1 d).2).1 q
     . rw [U6] at q;subst q;exact (UO.1 d).1 (U8 ..)
    have l:x≠n:=λe=>by
     subst e;rcases Ui.1 a with q|q
     . exact c (UJ _ (UJ _ q))
     . rw [U6] at q;exact b q
    rw [f,eM _ k,eM _ l]
theorem vU.take {r:a8}:∀ {l:a8} {a b:Nat},vU nw ol a (l++n::r) b->(a::(l++n::r)).Nodup->b∉l++n::r->vU (il nw (ol n) (nw n)) (il ol (nw n) (ol n)) a (l++r) b/\nw n∈a::l/\(ol n∈r\/ol n=b)
 | [],a,b,h,j,i=>by
  have d:(ol a=n/\nw n=a)/\vU nw ol n r b:=h;obtain ⟨⟨_,t⟩,g⟩:=d;rw [t];refine ⟨?_,U8 ..,g.Sc.elim (λq=>.inr q.1) .inl⟩;cases r with
  | nil=>exact ⟨by rw [eE];exact g.1,by rw [g.1,eE]⟩
  | cons m rs=>
   have k:=g.1.1;have f:=(UO.1 (UO.1 j).2).2;refine ⟨⟨by rw [eE];exact k,by rw [k,eE]⟩,g.2.congr (λx o=>?_) (λx o=>?_)⟩
   . exact eM _ λe=>(UO.1 j).1 (by rw [<- e];exact UJ _ o)
   . rw [k];refine eM _ λe=>?_;subst e;rcases Ui.1 o with q|q
     . exact (UO.1 f).1 q
     . rw [U6] at q;subst q;exact i ek
 | c::l,a,b,h,j,i=>by
  have d:(ol a=c/\nw c=a)/\vU nw ol c (l++n::r) b:=h;have f:=UO.1 j;obtain ⟨u,p,s⟩:=vU.take d.2 f.2 (λq=>i (UJ _ q));refine ⟨⟨⟨?_,?_⟩,u⟩,UJ _ p,s⟩
  . rw [eM _ λe=>f.1 (by
     rw [e];rcases Uv.1 p with q|q
     . rw [q];exact U8 ..
     . exact UJ _ (UG _ q))]
    exact d.1.1
  . rw [eM _ λe=>by
     rcases s with q|q
     . exact (UO.1 f.2).1 (by rw [e];exact VQ _ (UJ _ q))
     . exact i (by rw [<- q,<- e];exact U8 ..)]
    exact d.1.2
theorem Fx (hl:fP w sb room) {D L G:Int} {es:List (Nat×Nat×Nat)} (i:w.heap[sb+1]?=ZW (.map (dU D L G es).toArray n)) {x:Nat} (y:x∉cO es) :
 ZQ ZN 173 #[Z6 (ZW ⟨sb+1+1,0,ZX⟩),bH D L G (eL x:Nat) (fQ x)] w λe w'=>e=Z3 (ZY #[.agg #[Z7 Z9 0,Z5 ZX 0 0],Z1 ZU])/\bW w w':=by
 have l1:w.cell? ⟨sb+1+1,1,ZX⟩=ZW (.map (ZW (sb+1))):=by
  have u:w.heap[sb+1+1]?=_:=hl;simp [World.cell?,u]
 have k:∀ w',bW w w'->(Instr.lookup 262 (.map (ZW (sb+1))) (bH D L G (eL x:Nat) (fQ x)) ZV).run ZN w'=.ok (ZY #[.pointer ZX,Z1 ZU]) w':=λw' z=>Mp ((z.block _ (TX.1 i).1).trans i) y;obtain ⟨w2,f⟩:=nM ((w.alloc (Z4 #[Z7 Z9 D,Z7 Z9 L,Z7 Z9 G,Z7 Z8 (eL x:Nat),Z1 (fQ x)] 221)).alloc (Z4 #[Z7 Z9 0,Z5 ZX 0 0] 206));have a:bW w w2:=by rw [<- f];exact (bA w _).alloc ek _
 have d:w2.heap[w.heap.size]?=ZW (Z4 #[Z7 Z9 D,Z7 Z9 L,Z7 Z9 G,Z7 Z8 (eL x:Nat),Z1 (fQ x)] 221 (0,0)):=by rw [<- f];exact (UF _ _ _ ek).trans (Ug _ _)
 have c0:w2.cell? ⟨w.heap.size,0,ZX⟩=ZW (Z7 Z9 D):=K0
 have c1:w2.cell? ⟨w.heap.size,1,ZX⟩=ZW (Z7 Z9 L):=K0
 have r:w2.cell? ⟨w.heap.size,2,ZX⟩=ZW (Z7 Z9 G):=K0
 have s:w2.cell? ⟨w.heap.size,3,ZX⟩=ZW (Z7 Z8 (eL x:Nat)):=K0
 have t:w2.cell? ⟨w.heap.size,4,ZX⟩=ZW (Z1 (fQ x)):=K0
 have h:w2.heap[w.heap.size+1]?=ZW (Z4 #[Z7 Z9 0,Z5 ZX 0 0] 206 (0,0)):=by
  have:=Ug (w.alloc (Z4 #[Z7 Z9 D,Z7 Z9 L,Z7 Z9 G,Z7 Z8 (eL x:Nat),Z1 (fQ x)] 221)) (Z4 #[Z7 Z9 0,Z5 ZX 0 0] 206);rw [Ul] at this;rw [<- f];exact this
 have A:=(a.cell (p:=⟨sb+1+1,1,ZX⟩) (Uf l1)).trans l1;have j:=k w2.drew a.drew;unfold bH at j ⊢;have c:w2.heap.size=w.heap.size+2:=by rw [<- f];simp
 have H:=aE a h c;clear hl i k a d h c;go_enter func173,ntmps173;go_wp2;go_region;obtain ⟨a,h,c⟩:=H.o;have b:bW w2 (w2.drew.alloc (Z4 #[Z7 Z9 0,Z5 ZX 0 0] 206)):=((TW _ w2).drew).alloc lR _;obtain ⟨w3,m⟩:=nM (w2.drew.alloc (Z4 #[Z7 Z9 0,Z5 ZX 0 0] 206));rw [m] at b;have g:=(b.block (w.heap.size+1) ec).trans h;obtain ⟨F,I,E,C⟩:=ay g;have l:w3.heap[w2.heap.size]?=ZW (Z4 #[Z7 Z9 0,Z5 ZX 0 0] 206 (0,0)):=by rw [<- m];exact Ug w2.drew _
 obtain ⟨J,K,_,_⟩:=ay l;have q:=a5 g b a c;clear a h c b g l c0 c1 r s t l1 A j f;go_wp2;obtain ⟨g,b,a,c⟩:=q.o;obtain ⟨n0,B,_⟩:=ay (iV (y':=Z5 ZX 0 0) (iU (x':=Z7 Z9 0) g));refine Ut (v:=ZY #[.agg #[Z7 Z9 0,Z5 ZX 0 0],Z1 ZU]) (by simp [results,results173,go_sem,n0,B]) rfl ?_;exact ⟨rfl,((a.trans (b.mono a.size)).setCell (p:=⟨w.heap.size+1,0,ZX⟩) eP _).setCell (p:=⟨w.heap.size+1,1,ZX⟩) eP _⟩
theorem Jh {x:Nat} {D L G:Int} {cn:Nat->Fw} (hl:fP w sb room) (J:w.heap[sb+1]?=ZW (.map (dU D L G es).toArray n)) (I:k<es.length) (P:(cO es).Nodup) (Z:es[k].1=x) (Q:es[k].2.1=nb) (h:ph w S cn nw ol) (l:∀ a,S a->a≠sb+1/\a≠sb+1+1) (f:S nb) (N:S (nw nb)) (E:S (ol nb)) (r:S sb) (O:S (ol sb)) (p:cn nb=⟨D,L,G,(eL x:Nat),fQ x,regs,.slice ao m c⟩) :
 ZQ ZN 173 #[Z6 (ZW ⟨sb+1+1,0,ZX⟩),bH D L G (eL x:Nat) (fQ x)] w λe w'=>e=Z3 (ZY #[.agg #[Z7 Z9 regs,.slice ao m c],Z1 ZV])/\ph w' S cn (il (il (il nw (ol nb) (nw nb)) nb sb) (il ol (nw nb) (ol nb) sb) nb) (il (il (il ol (nw nb) (ol nb)) nb (il ol (nw nb) (ol nb) sb)) sb nb)/\aa S w w':=by
 obtain ⟨w2,A⟩:=nM ((w.alloc (Z4 #[Z7 Z9 D,Z7 Z9 L,Z7 Z9 G,Z7 Z8 (eL x:Nat),Z1 (fQ x)] 221)).alloc (Z4 #[Z7 Z9 0,Z5 ZX 0 0] 206));have b:bW w w2:=by rw [<- A];exact (bA w _).alloc ek _
 have i:w2.heap.size=w.heap.size+2:=by rw [<- A];simp
 have u:w2.heap[w.heap.size]?=ZW (Z4 #[Z7 Z9 D,Z7 Z9 L,Z7 Z9 G,Z7 Z8 (eL x:Nat),Z1 (fQ x)] 221 (0,0)):=by rw [<- A];exact (UF _ _ _ ek).trans (Ug _ _)
 have c0:w2.cell? ⟨w.heap.size,0,ZX⟩=ZW (Z7 Z9 D):=Y3
 have c1:w2.cell? ⟨w.heap.size,1,ZX⟩=ZW (Z7 Z9 L):=Y3
 have c2:w2.cell? ⟨w.heap.size,2,ZX⟩=ZW (Z7 Z9 G):=Y3
 have c3:w2.cell? ⟨w.heap.size,3,ZX⟩=ZW (Z7 Z8 (eL x:Nat)):=Y3
 have c4:w2.cell? ⟨w.heap.size,4,ZX⟩=ZW (Z1 (fQ x)):=Y3
 have s:w2.heap[w.heap.size+1]?=ZW (Z4 #[Z7 Z9 0,Z5 ZX 0 0] 206 (0,0)):=by
  have:=Ug (w.alloc (Z4 #[Z7 Z9 D,Z7 Z9 L,Z7 Z9 G,Z7 Z8 (eL x:Nat),Z1 (fQ x)] 221)) (Z4 #[Z7 Z9 0,Z5 ZX 0 0] 206);rw [Ul] at this;rw [<- A];exact this
 have hll:sb+1+1<w.heap.size:=(TX.1 hl).1;have g:fP w2 sb room:=(b.block _ hll).trans hl;have l1:=(gx g).2.1;have R:ph w2 S cn nw ol:=λa t=>(h a t).keep (b.block _ (h a t).lt);have d:∀ a,S a->a<w.heap.size:=λa t=>(h a t).lt;have K:=OW (w:=w2.drew) ((b.block _ (TX.1 J).1).trans J) I P;rw [Z,Q] at K;have X:=rH (w:=w2.drew) (show ph w2.drew S cn nw ol from R) f N E;have j:S (il ol (nw nb) (ol nb) sb):=by
  by_cases e:sb=nw nb
  . rw [e,eE];exact E
  . rw [eM _ e];exact O
 unfold bH at K ⊢;have H:=hide12 b s i g d l f r j p hll X;clear hl J h b u s i g R X l f N E r O j p d P I Z Q hll;go_enter func173,ntmps173;go_wp2;go_region;clear c0 c1 c2 c3 c4 l1 K A;go_wp2_with fail;refine H.o.2.2.2.2.2.2.2.2.2.2.2.mono ?_;rintro e w3 ⟨rfl,T,hr⟩;obtain ⟨b,s,i,g,d,l,f,r,j,p,hll,_⟩:=H.o;have F:aa S w2 w3:=(aa.drew w2).trans hr;have W:=AE (w:=w3) (n:=nb) (show fP w3 sb room from (F.block _ ec (λq=>(l _ q).2 rfl)).trans g) T f r j;have M:=al F W;clear b s i g d l f r j p T hr F W hll;go_wp2_with fail;refine M.o.2.mono ?_;rintro e C ⟨rfl,z,U⟩;obtain ⟨b,s,i,g,d,l,f,r,j,p,hll,_⟩:=H.o;have y:aa S w2 C:=M.o.1.trans U;have B:=(y.block (w.heap.size+1) ec (λq=>e9 (d _ q))).trans s;have Y:=(z nb f).value;rw [p] at Y;obtain ⟨v5,v6⟩:=Y;obtain ⟨r0,r1,g1,g0⟩:=ay B;have H4:=a7 z y B b i d;clear b s i g d l f r j p z U y B hll;go_wp2;obtain ⟨z,y,B,b,i,d⟩:=H4.o;obtain ⟨n0,n1,_⟩:=ay (iV (y':=.slice ao m c) (iU (x':=Z7 Z9 regs) B));refine Ut (v:=ZY #[.agg #[Z7 Z9 regs,.slice ao m c],Z1 ZV]) (by simp [results,results173,go_sem,n0,n1]) rfl ?_;have V:aa (λk=>k=w.heap.size+1) C ((C.setCell ⟨w.heap.size+1,0,ZX⟩ (Z7 Z9 regs)).setCell ⟨w.heap.size+1,1,ZX⟩ (.slice ao m c)):=fO C (w.heap.size+1) 0 1 _ _;exact ⟨rfl,z.keep V (λa t e=>e9 (d a t)),((aa.RL b _).trans y).later V (λk I q=>ec)⟩
theorem AF {cn:Nat->Fw} (hl:fP w sb room) {n:Nat} {ne0 k:ZS} (j:jD w n (cn n).D (cn n).L (cn n).G (cn n).lost (cn n).rd (cn n).regs (cn n).steps ne0 k) (h:ph w (λa=>S a/\a≠n) cn nw ol) (c:S n) (d:S sb) (p:sb≠n) (ho:S (ol sb)) :
 ZQ ZN 194 #[Z6 (ZW ⟨sb+1+1,0,ZX⟩),Z6 (ZW ⟨n,0,ZX⟩)] w λe w'=>e=Z3 (ZY #[])/\ph w' S cn (il (il nw n sb) (ol sb) n) (il (il ol n (ol sb)) sb n)/\aa S w w':=by
 have v:=(gx hl).2.2;obtain ⟨q,_,b7,_⟩:=j.cells;obtain ⟨_,t,_,_⟩:=(h sb ⟨d,p⟩).cells;have g:=j.SV (Z6 (ZW ⟨sb,0,ZX⟩));obtain ⟨_,r,_,s⟩:=g.cells;have l:ph ((w.setCell ⟨n,7,ZX⟩ (Z6 (ZW ⟨sb,0,ZX⟩))).setCell ⟨n,8,ZX⟩ (Z6 (ZW ⟨ol sb,0,ZX⟩))) S cn (il nw n sb) (il ol n (ol sb)):=λa u=>by
  by_cases e:a=n
  . subst e;rw [eE,eE];exact g.SL _
  . rw [eM _ e,eM _ e];exact ((h a ⟨u,e⟩).keep (Ud _ _ _ _ e)).keep (Ud _ _ _ _ e)
 obtain ⟨w2,i⟩:=nM (((w.setCell ⟨n,7,ZX⟩ (Z6 (ZW ⟨sb,0,ZX⟩))).setCell ⟨n,8,ZX⟩ (Z6 (ZW ⟨ol sb,0,ZX⟩))).drew);have b:ph w2 S cn (il nw n sb) (il ol n (ol sb)):=by rw [<- i];exact l
 have m:aa S w w2:=by rw [<- i];exact ((aa.setCell _ _ _ c).trans (aa.setCell _ _ _ c)).trans (aa.drew _)
 obtain ⟨x,A,_,_⟩:=(b n c).cells;rw [eE] at x A;have f:=b.SL sb n;obtain ⟨_,B,_,t8⟩:=(b sb d).cells;obtain ⟨C,_,E,_⟩:=(f (ol sb) ho).cells;have H:=a5 (f.SV (ol sb) n) m d ho;clear h g l b f hl j d ho m c p;generalize ol sb=y at *;generalize il ol n y sb=z at *;generalize il nw n sb y=F at *;go_enter func194,ntmps194;go_wp2;go_region;clear i q b7 t r s v;go_wp2;go_region;go_end0
 exact ⟨rfl,H.o.1,H.o.2.1.trans (((aa.setCell _ _ _ H.o.2.2.1).trans (aa.setCell _ _ _ H.o.2.2.2)).trans (aa.drew _))⟩
def cnN (cn:Nat->Fw) (N:Nat) (c:Fw):Nat->Fw:=λa=>if a=N then c else cn a
def jD.key {D L G:Int} {rd:Bool} {ol:ZS} (h:jD w n D L G lost rd regs steps ne ol):w.cell? ⟨n,0,ZX⟩=ZW (Z7 Z9 D)/\w.cell? ⟨n,1,ZX⟩=ZW (Z7 Z9 L)/\w.cell? ⟨n,2,ZX⟩=ZW (Z7 Z9 G)/\w.cell? ⟨n,3,ZX⟩=ZW (Z7 Z8 lost)/\w.cell? ⟨n,4,ZX⟩=ZW (Z1 rd):=by
 have a:w.heap[n]?=ZW (Z4 (mV D L G lost rd regs steps ne ol) 261 (0,0)):=h;simp [World.cell?,a,mV]
def PT (w':ZT) (sb:Nat) (room:Int) (D L G:Int) (es:List (Nat×Nat×Nat)) (S:Nat->Prop) (cn:Nat->Fw) (nw ol:Nat->Nat):Prop:=
 (((es.length:Nat):Int)<=room->(∃ n,w'.heap[sb+1]?=ZW (.map (dU D L G es).toArray n))/\ph w' S cn nw ol) /\
 (room<((es.length:Nat):Int)->∃ j,∃ hj:j<es.length,es[j].2.1=nw sb/\(∃ n,w'.heap[sb+1]?=ZW (.map (dU D L G (es.eraseIdx j)).toArray n))/\ph w' S cn (il nw (ol (nw sb)) (nw (nw sb))) (il ol (nw (nw sb)) (ol (nw sb))))
theorem Fy {x:Nat} {D L G:Int} {cn:Nat->Fw} (hl:fP w sb room) (hm:w.heap[sb+1]?=ZW (.map (dU D L G es).toArray n)) (q2:x∉cO es) (h:ph w S cn nw ol) (g:∀ a,S a->a≠sb+1/\a≠sb+1+1) (v:S sb) (E:S (ol sb)) {N:Nat} (hN:N=w.heap.size+1+1) {cn':Nat->Fw} (k5:cn'=cnN cn N ⟨D,L,G,(eL x:Nat),fQ x,regs,.slice ao m c⟩) {nw' l:Nat->Nat} (k8:nw'=il (il nw N sb) (ol sb) N) (k9:l=il (il ol N (ol sb)) sb N) {b:List (Nat×Nat×Nat)} (k6:b=es++[(x,N,n)])
 (hB:room<((b.length:Nat):Int)->(cO b).Nodup/\∃ j,∃ hj:j<b.length,b[j].2.1=nw' sb/\(∃ rg st,cn' (nw' sb)=⟨D,L,G,(eL b[j].1:Nat),fQ b[j].1,rg,st⟩)/\(nw' sb=N\/S (nw' sb))/\(nw' (nw' sb)=N\/S (nw' (nw' sb)))/\(l (nw' sb)=N\/S (l (nw' sb)))) :
 ZQ ZN 175 #[Z6 (ZW ⟨sb+1+1,0,ZX⟩),bH D L G (eL x:Nat) (fQ x),.agg #[Z7 Z9 regs,.slice ao m c]] w λe w'=>e=Z3 (ZY #[])/\PT w' sb room D L G b (λa=>a=N\/S a) cn' nw' l/\aa (λk=>S k\/k=sb+1) w w':=by
 subst hN;obtain ⟨w3,ki⟩:=nM (((w.alloc (Z4 #[Z7 Z9 D,Z7 Z9 L,Z7 Z9 G,Z7 Z8 (eL x:Nat),Z1 (fQ x)] 221)).alloc (Z4 #[Z7 Z9 regs,.slice ao m c] 206)).alloc (Z4 #[Z7 Z9 D,Z7 Z9 L,Z7 Z9 G,Z7 Z8 (eL x:Nat),Z1 (fQ x),Z7 Z9 regs,.slice ao m c,.pointer ZX,.pointer ZX] 261));have d:bW w w3:=by rw [<- ki];exact ((bA w _).alloc ek _).alloc en _
 obtain ⟨O,_,hn⟩:=mW w (Z4 #[Z7 Z9 D,Z7 Z9 L,Z7 Z9 G,Z7 Z8 (eL x:Nat),Z1 (fQ x)] 221) (Z4 #[Z7 Z9 regs,.slice ao m c] 206) (Z4 #[Z7 Z9 D,Z7 Z9 L,Z7 Z9 G,Z7 Z8 (eL x:Nat),Z1 (fQ x),Z7 Z9 regs,.slice ao m c,.pointer ZX,.pointer ZX] 261);rw [ki] at O hn;have J:jD w3 (w.heap.size+1+1) D L G (eL x:Nat) (fQ x) regs (.slice ao m c) (.pointer ZX) (.pointer ZX):=hn;have hll:sb+1+1<w.heap.size:=(TX.1 hl).1;have p:fP w3 sb room:=(d.block _ hll).trans hl;have kx:=(d.block _ ec).trans hm;have P:ph w3 S cn nw ol:=λa f=>(h a f).keep (d.block _ (h a f).lt);have s:∀ a,S a->a<w.heap.size:=λa f=>(h a f).lt;have c0:w3.cell? ⟨w.heap.size,0,ZX⟩=ZW (Z7 Z9 D):=Zf
 have c1:w3.cell? ⟨w.heap.size,1,ZX⟩=ZW (Z7 Z9 L):=Zf
 have c2:w3.cell? ⟨w.heap.size,2,ZX⟩=ZW (Z7 Z9 G):=Zf
 have Z:w3.cell? ⟨w.heap.size,3,ZX⟩=ZW (Z7 Z8 (eL x:Nat)):=Zf
 have c4:w3.cell? ⟨w.heap.size,4,ZX⟩=ZW (Z1 (fQ x)):=Zf
 obtain ⟨_,l1,_⟩:=gx p;have kg:=OX (w:=w3.drew) kx q2 (w.heap.size+1+1);have i:aa (λk=>k=sb+1) w3 (w3.drew.putObj (sb+1) (.map (dU D L G (es++[(x,w.heap.size+1+1,n)])).toArray (n+1))):=(aa.drew w3).trans (aa.putObj _ _ _ rfl);have u:(w3.drew.putObj (sb+1) (.map (dU D L G (es++[(x,w.heap.size+1+1,n)])).toArray (n+1))).heap[sb+1]?=ZW (.map (dU D L G (es++[(x,w.heap.size+1+1,n)])).toArray (n+1)):=by
  have hz:=d.size;unfold World.putObj;exact YZ (by show sb+1<w3.heap.size;omega)
 obtain ⟨w4,q1⟩:=nM (w3.drew.putObj (sb+1) (.map (dU D L G (es++[(x,w.heap.size+1+1,n)])).toArray (n+1)));rw [q1] at kg i u;unfold bH at kg ⊢;have HN:=a6 k5 k8 k9 k6 hB;clear k5 k8 k9 k6 hB;have H:=hide11 d J p P i u hll s g v E;clear hl hm h d J p kx P i u O hn q1 s g v E q2;go_enter func175,ntmps175;go_wp2;go_region;clear c0 c1 c2 Z c4 l1 kg ki;obtain ⟨d,J,p,P,i,u,hll,s,g,v,E⟩:=H.o;have kz:=J.lt;have kj:∀ a,S a->a≠w.heap.size+1+1:=λa f=>e9 (s a f)
 have ko:cn' (w.heap.size+1+1)=⟨D,L,G,(eL x:Nat),fQ x,regs,.slice ao m c⟩:=by rw [HN.o.1];exact TT rfl
 have kp:∀ a,S a->cn' a=cn a:=λa f=>by rw [HN.o.1];exact TS (kj a f)
 have q0:=AF (w:=w4) (S:=λa=>a=w.heap.size+1+1\/S a) (cn:=cn') (nw:=nw) (ol:=ol) (n:=w.heap.size+1+1) (show fP w4 sb room from (i.block _ ec ec).trans p) (by rw [ko];exact J.keep (i.block _ J.lt ec)) (λa f=>by
  have Y:=f.1.resolve_left f.2;rw [kp a Y];exact (P a Y).keep (i.block _ (P a Y).lt (g a Y).1)) (.inl rfl) (.inr v) (kj sb v) (.inr E)
 have H4:=hide7 u i p d kz hll q0;clear d J p P i u q0 ko kp;go_wp2_with fail;refine H4.o.2.2.2.2.2.2.mono ?_;rintro e C ⟨rfl,A,B⟩;obtain ⟨u,i,p,d,kz,hll,_⟩:=H4.o;obtain ⟨_,_,_,_,_,_,_,s,g,v,E⟩:=H.o;have W:aa (λk=>k=sb+1\/k=w.heap.size+1+1\/S k) w3 C:=(i.mono λ_ _ q=>.inl q).trans (B.mono λ_ _ q=>.inr q);have I:fP C sb room:=(W.block _ ec (λq=>by
  rcases q with q|q|q
  . omega
  . omega
  . exact (g _ q).2 rfl)).trans p
 have q5:=i.size;have r:=(B.block (sb+1) ec (λq=>by
  rcases q with q|q
  . omega
  . exact (g _ q).1 rfl)).trans u
 obtain ⟨l0,l1,l2⟩:=gx I;have kf:=λt=>OY (w:=C.drew) r t;have X:aa (λk=>S k\/k=sb+1) w C:=(aa.RL d _).later W (λk hk q=>by
  rcases q with q|q|q
  . exact .inr q
  . omega
  . exact .inl q)
 rw [<- HN.o.2.1,<- HN.o.2.2.1] at A;rw [<- HN.o.2.2.2.1] at r kf;obtain ⟨K,hK⟩:=nM (b.length);rw [hK] at kf;by_cases hr:(K:Int)<=room
 . have q3:¬ (room<(K:Int)):=ec;have T:decide (room<(K:Int))=ZU:=Vr q3;have V:=a5 A r X hK;clear u i p W I r A B X g v E s d hK;go_wp2;go_region;go_wp2;go_end0
   obtain ⟨A,r,hO,hK⟩:=V.o;exact ⟨rfl,⟨λ_=>⟨⟨_,r⟩,A⟩,λq=>by rw [hK] at q;omega⟩,hO.trans (aa.drew _)⟩
 . have q4:room<(K:Int):=ec;obtain ⟨T,j,hj,Q,⟨rg,st,R⟩,F,kc,ke⟩:=HN.o.2.2.2.2 (by rw [hK];exact q4);obtain ⟨e7,_,_,_⟩:=(A sb (.inr v)).cells;have kh:=rH (w:=C.drew) (show ph C.drew (λa=>a=w.heap.size+1+1\/S a) cn' nw' l from A) F kc ke;obtain ⟨q,M⟩:=nM (nw' sb);rw [M] at Q R F kc ke e7 kh;have V:=hide13 I r X hK T Q R F kh M g s d;clear u i p W I r A B X g v E s d hK T Q R F kc ke kh M;go_wp2;go_region;go_wp2_with fail;refine V.o.2.2.2.2.2.2.2.2.1.mono ?_;rintro e z ⟨rfl,kb,kk⟩;clear l0 l1 l2 e7 kf;obtain ⟨I,r,B,hK,T,Q,R,F,_,M,g,s,d⟩:=V.o;have U:aa (λa=>a=w.heap.size+1+1\/S a) C z:=(aa.drew C).trans kk;have q6:=B.size;have kv:fP z sb room:=(U.block _ ec (λe=>by
    rcases e with e|e
    . omega
    . exact (g _ e).2 rfl)).trans I
   have ky:=(U.block (sb+1) ec (λe=>by
    rcases e with e|e
    . omega
    . exact (g _ e).1 rfl)).trans r
   obtain ⟨_,l1,_⟩:=gx kv;have ks:=(kb q F).key;rw [R] at ks;obtain ⟨c0,c1,c2,Z,c4⟩:=ks;have kr:=λt=>Rq (w:=z.drew) ky hj T t;obtain ⟨y,hy⟩:=nM (b[j].1);rw [hy] at kr Z c4;unfold bH at kr;have k7:PT (z.drew.putObj (sb+1) (.map (dU D L G (b.eraseIdx j)).toArray (n+1))) sb room D L G b (λa=>a=w.heap.size+1+1\/S a) cn' nw' l/\aa (λk=>S k\/k=sb+1) w (z.drew.putObj (sb+1) (.map (dU D L G (b.eraseIdx j)).toArray (n+1))):=by
    have km:aa (λk=>k=sb+1) z (z.drew.putObj (sb+1) (.map (dU D L G (b.eraseIdx j)).toArray (n+1))):=(aa.drew z).trans (aa.putObj _ _ _ rfl);have q7:=U.size;refine ⟨⟨λe=>by rw [hK] at e;omega,λ_=>⟨j,hj,Q.trans M.symm,⟨n+1,?_⟩,?_⟩⟩,?_⟩
    . unfold World.putObj;exact YZ (by show sb+1<z.heap.size;omega)
    . rw [M];exact kb.keep km (λa f e=>by
       rcases f with f|f
       . omega
       . exact (g a f).1 e)
    . exact (B.later U (λk hk e=>by
       rcases e with e|e
       . omega
       . exact .inl e)).later km (λk hk e=>.inr e)
   have H6:=ak k7;clear k7 I r B hK T Q R F M g s d U kv ky kb kk hy;go_wp2;go_region;go_end0
   exact ⟨rfl,H6.o⟩
def AG (ao:Option Addr) (a:Nat) (w:ZT):(convert 40 9 (.slice ao 0 a)).run ZN w=.ok (ZZ YF) w:=by
 rw [run_convert_bytes_string w 40 9 5 ao 0 a Un Xr abE];cases ao<;>simp [Conv.bytesToString,loadCells,loadCellsFrom]
theorem Bs.sub {b off:Nat} (h:Bs w (Z5 (ZW ⟨b,off,ZX⟩) bl c) l) (i n d:Nat) (f:i+n<=l.length) (p:n<=d):Bs w (Z5 (ZW ⟨b,off+i,ZX⟩) n d) ((l.drop i).take n):=by
 obtain ⟨ao,c0,e,t,u,m,o⟩:=h;injection e with e1 e2 e3;have hl:((l.drop i).take n).length=n:=by rw [Uo,Um];omega
 refine ⟨ZW ⟨b,off+i,ZX⟩,d,by rw [hl],by rw [hl];exact p,by rw [hl];omega,λx r=>m x (U0 (UX r)),λv=>⟨b,off+i,rfl,λk g=>?_⟩⟩;rw [hl] at g;obtain ⟨s,y,a,j⟩:=o (λq=>by rw [q] at f;simp at f;omega);rw [<- e1] at a;injection a with a;injection a with e5 e6;subst e5 e6;have:=j (i+k) ec;rw [Vv,this];congr 3;rw [Ub,Ub,VM g,Wf]
def Dq (a b:a8) (n k:Nat) (h:a.length=n):(a++b).drop (n+k)=b.drop k:=by
 subst h;rw [<- VG,YS]
def Mq (ho:o.fit) (rest:a8):(bL o++rest).getD 0 0=o.name.size:=by
 unfold bL;have:be o.name.size 1=[o.name.size]:=by
  have:=ho.name.2;simp [be];omega
 rw [this];rfl
def Ji (o:Ob) (rest:a8):((bL o++rest).drop 1).take o.name.size=o.name.toList.map (λ(b:UInt8)=>b.toNat):=by
 have:(be o.name.size 1).length=1:=aD _ _;have:(o.name.toList.map (λ(b:UInt8)=>b.toNat)).length=o.name.size:=by
  rw [Ue,Yn,WB];rfl
 unfold bL fM;simp only [Uz];rw [Xe ec,WT ec,Uq,VW ec,UI ec]
def Jj (ho:o.fit) (rest:a8):((bL o++rest).drop 17).take 2=be o.size 2:=by
 have:(be o.name.size 1++fM o.name).length=17:=by rw [Ua,aD,mu ho.name.2]
 unfold bL;rw [Uz,Uz,Xe ec,WT ec,Uq,VW Bf,UI Bf]
def Mr (l:a8) (j:Nat) (a:j<l.length) (r:a8):((l.flatMap (λs=>be s 4)++r).drop (4*j)).take 4=be l[j] 4:=by
 induction l generalizing j with
 | nil=>cases a
 | cons x l ih=>
  cases j with
  | zero=>rw [VL,Nat.mul_zero,Xy,Uz,VW Bf,UI Bf];rfl
  | succ j=>
   rw [VL,(ec:4*(j+1)=4+4*j),Uz,Dq _ _ 4 (4*j) (aD _ _)];exact ih j (oD a)
def Mt (ho:o.fit):(be o.name.size 1++fM o.name++be o.size 2).length=19:=by rw [Ua,Ua,aD,aD,mu ho.name.2]
def Dr (ho:o.fit) (rest:a8) (j:Nat) (b:j<o.RK.length):((bL o++rest).drop (19+4*j)).take 4=be o.RK[j] 4:=by
 have a:=Mt ho;unfold bL;rw [Uz,Dq _ _ 19 (4*j) a,Mr _ _ b]
def Jk (ho:o.fit) (rest:a8):(bL o++rest).drop (19+4*o.RK.length)=rest:=by
 rw [<- cZ ho,Xe lR,WT lR,Uq]
def zOb:Array ZS:=#[.string ⟨#[]⟩,Z7 Z9 0,Z5 ZX 0 0]
def Mu {rest:List Oper} {o:Oper} {a:Act} (j:o.guard=ZX) (x y:Operand) (ho:o.op=.store 152 x y) {b:Nat} {cs cs':Array ZS}
 (k:a.eval x=Z6 (ZW ⟨b,0,ZX⟩)) (l:a.eval y=.agg cs') (g:w.heap[b]?=ZW (Z4 cs 152 (0,0))) (i:cs.size=3) (c:cs'.size=3) (e:cs'.all (·.oneCell')=ZV) (h:wpList ZN ops Q rest (a.put o.dst undef) (w.setRow b cs')):wpList ZN ops Q (o::rest) a w:=by
 have d:(ZN.info? 152).map (·.size)=ZW 3:=ei
 have f:(Instr.storeAt 152 (Z6 (ZW ⟨b,0,ZX⟩)) (.agg cs')).run ZN w=.ok () (w.setRow b cs'):=by
  simp only [Instr.storeAt,Instr.sureAddr,UE,VP,UT,X1 w b 152 152 cs cs' g (by rw [c];exact d) (by rw [i,c]) e]
 refine V0 j λK hK=>?_;unfold Oper.wp;simp [execOp,ho,k,l,f,Result.andThen];exact hK _ _ h
def Ds {P:Program} {fn:Func} {p t u:Tmp} {ty:ZO} (h:fn.results=#[.cell p ty,.tmp t,.tmp u]) (tmps:Array ZS) (w:ZT) (g:Nat) (b:ZO) (cs:Array ZS) (a:Nat×Nat) (d:TypeDesc) (x y:ZS)
 (l:tmps.getD p undef=Z6 (ZW ⟨g,0,ZX⟩)) (n:tmps.getD t undef=x) (o:tmps.getD u undef=y) (j:w.heap[g]?=ZW (Z4 cs b a)) (m:P.underlying ty=ZW d) (i:(match d with|.struct _|.array _ _=>ZV|_=>ZU)=ZV) (k:(P.info? ty).map (·.size)=ZW cs.size) :
 (results fn tmps).run P w=.ok (ZY #[.agg cs,x,y]) w:=by
 have c:tmps[p]?.getD undef=Z6 (ZW ⟨g,0,ZX⟩):=oD l
 have e:tmps[t]?.getD undef=x:=oD n
 have f:tmps[u]?.getD undef=y:=oD o
 simp [results,h,c,e,f,asAddr,Xf w g b ty cs a d j m i k]
def UoR (w:ZT) (nm:ByteArray) (sz:Nat) (st:a8) (i:ZS) (wr:ZT):Prop:=∃ (j:Nat) (sv:ZS),j<=st.length/\i=Z7 Z9 j/\wr.heap[w.heap.size]?=ZW (Z4 #[ZZ nm,Z7 Z9 (sz:Int),sv] 152 (0,0))/\wr.ownsRow w.heap.size 3 1 sv j (jZ (st.take j))/\bW w wr
structure Rs (w:ZT) (b off bl c:Nat) (o:Ob) (rest:a8) (e:ZP) (w':ZT):Prop where
 out:∃ sa sc bv,e=Z3 (ZY #[.agg #[ZZ o.name,Z7 Z9 (o.size:Nat),.slice sa o.RK.length sc],bv,Z1 ZV])/\bf (λk=>w.heap.size<=k) w' (.slice sa o.RK.length sc) o.RK/\∀ w0,Bs w0 (Z5 (ZW ⟨b,off,ZX⟩) bl c) (bL o++rest)->Bs w0 bv rest
 below:bW w w'
theorem rX {b off:Nat} {rest:a8} (ss:Nat) (p:Bs w (Z5 (ZW ⟨b,off,ZX⟩) bl c) (bL o++rest)) (g:bl=(bL o++rest).length) (ho:o.fit) (xa:1<=ss/\ss<=1000000) (l:o.RK.length=max 1 ((o.size+ss-1)/ss)) (hr:rest.length<=100000000) :
 ZQ ZN 185 #[Z5 (ZW ⟨b,off,ZX⟩) bl c,Z7 Z9 ss] w λe w'=>Rs w b off bl c o rest e w':=by
 have M:bl=19+4*o.RK.length+rest.length:=by rw [g,Ua,cZ ho]
 have Y:=ho.len;have x2:=ho.name;have kr:=ho.size;obtain ⟨ao,c0,e0,kx,_,hx,hn⟩:=id p;injection e0 with S e2 e3;subst e3;rw [<- g] at kx hn;obtain ⟨b',o',x,qh⟩:=hn (λq=>by rw [q] at g;simp at g;omega);rw [<- S] at x;injection x with x;injection x with e5 e6;subst e5 e6;clear S e2;have d0:=qh 0 ec;rw [VR,Mq ho] at d0;have kk:(w.alloc (Z4 zOb 152)).heap[w.heap.size]?=ZW (Z4 zOb 152 (0,0)):=Ug _ _;have O:bW w (w.alloc (Z4 zOb 152)):=bA w _;have km:(w.alloc (Z4 zOb 152)).heap.size=w.heap.size+1:=ek
 obtain ⟨w1,qd⟩:=nM (w.alloc (Z4 zOb 152));rw [qd] at kk O km;have xc:w.alloc (Z4 #[.string ⟨#[]⟩,Z7 Z9 0,Z5 ZX 0 0] 152)=w1:=qd;have x0:b<w.heap.size:=Uf d0;have c1:w1.cell? ⟨b,off,ZX⟩=ZW (Z7 .u8 (o.name.size:Nat)):=(Uk (O.block b x0)).trans d0;have X:=p.mono O;obtain ⟨m,A⟩:=nM (o.RK.length);obtain ⟨sz,t⟩:=nM (o.size);obtain ⟨J,r⟩:=nM (o.name.size);have q9:=zA (Z5 (ZW ⟨b,off+17,ZX⟩) 2 (c-17)) (be o.size 2) w1 (by rw [<- Jj ho rest];exact X.sub 17 2 _ ec ec);rw [lu o.size 2 ec ec,t] at q9;have q0:=m3 sz ss ec xa w1;rw [<- t,<- l,A] at q0;rw [t] at q0;rw [A] at M Y;rw [r] at c1 x2;have qa:=gv m ec w1;obtain ⟨lo,Z⟩:=nM (19+4*m);rw [Z] at M qa;have xd:¬ ((bl:Nat):Int)<19:=ec
 have qv:¬ c=17:=ec
 have xf:¬ ((J:Nat):Int)<1:=ec
 have xg:¬ ((J:Nat):Int)>16:=ec
 have xi:¬ ((sz:Nat):Int)>1500:=ec
 have hll:¬ ((bl:Nat):Int)<(lo:Int):=ec
 have xk:IntKind.i64.wrap (J:Int)=J:=l3
 have H:=hide13 q9 q0 qa X kk O km A t r p g l;have HL:=a6 M Z Y kr kx;have qy:19<=bl:=ec
 have qz:19<=c:=ec
 clear M Z Y kr kx;clear q9 q0 qa X kk O km A t r p g l hn qh qd d0 hx;go_enter func185,ntmps185;go_wp2_with fail;refine H.o.1.mono ?_;rintro e w2 ⟨rfl,I⟩;obtain rfl:w1=w2:=I.symm;clear I;have xj:IntKind.i64.wrap (sz:Int)=sz:=by have:=HL.o.2.2.2.1;have:=H.o.2.2.2.2.2.2.2.2.1;rw [Uy];omega
 go_wp2_with fail;refine H.o.2.1.mono ?_;rintro e w2 ⟨rfl,I⟩;obtain rfl:w1=w2:=I.symm;clear I;go_wp2_with fail;refine H.o.2.2.1.mono ?_;rintro e w2 ⟨rfl,I⟩;obtain rfl:w1=w2:=I.symm;clear I;obtain ⟨_,_,_,X,kk,O,km,A,t,r,p,g,l⟩:=H.o;have qi:(convert 40 9 (Z5 (ZW ⟨b,off+1,ZX⟩) J (c-1))).run ZN w1=.ok (ZZ o.name) w1:=by
  have qm:o.name.toList.length=J:=by rw [Yn,WB,<- r];rfl
  have kv:=X.sub 1 J (c-1) (by rw [<- g];omega) ec;rw [<- r,Ji o rest] at kv;obtain ⟨ao,cc,S,_,_,_,T⟩:=kv;injection S with S e2 e3;have ky:o.name.toList.map (λ(b:UInt8)=>b.toNat)≠[]:=λe=>by
   have:=Ux YK e;rw [Ue,qm] at this;simp at this;omega
  obtain ⟨b',o',x,x1⟩:=T ky;rw [<- S] at x;injection x with x;injection x with e5 e6;subst e5 e6;have:=run_convert_bytes_back (P:=ZN) w1 40 9 5 ⟨b,off+1,ZX⟩ (c-1) o.name.toList Un Xr abE (λj hj=>by
   have U:=x1 j (by rw [Ue];exact hj);have h8:(o.name.toList.map (λ(b:UInt8)=>b.toNat)).getD j 0=(o.name.toList[j]).toNat:=by
    rw [Ub,UD,Uc hj];rfl
   rw [h8] at U;unfold Addr.add;split
   . rename_i h0;subst h0;exact U
   . exact U)
  rw [qm] at this;rw [this];congr 2;rw [Yn]
 clear X p g l A t r O;have x7:¬ c=1:=ec
 have HQ:=al kk km;clear kk km;obtain ⟨nm,q8⟩:=nM (o.name);rw [q8] at qi;have xh:1+J<=c:=ec
 go_wp2_with (show wpList _ _ _ ({ dst:=ZX,op:=Op.store 152 (Z0 4) (Z0 50),type:=_,pos:=_,after:=_,guard:=_ }::_) _ _;refine Mu (b:=w.heap.size) (cs:=zOb) (cs':=#[ZZ nm,Z7 Z9 (sz:Int),Z5 ZX 0 0]) rfl (Z0 4) (Z0 50) rfl um um (by exact HQ.o.1) rfl rfl B9 ?_);have qn:(w1.setRow w.heap.size #[ZZ nm,Z7 Z9 (sz:Int),Z5 ZX 0 0]).heap[w.heap.size]?=ZW (Z4 #[ZZ nm,Z7 Z9 (sz:Int),Z5 ZX 0 0] 152 (0,0)):=Vt _ _ _ _ _ _ HQ.o.1;have qg:bW w (w1.setRow w.heap.size #[ZZ nm,Z7 Z9 (sz:Int),Z5 ZX 0 0]):=H.o.2.2.2.2.2.1.grown (aY _ _ _) H.o.2.2.2.2.2.1.size (λk e=>e9 (UM e));have H8:=al qn qg;have qs:=ak q8;clear qn qg qi q8;go_loopw [52] (λi wr=>UoR w nm sz o.RK i wr) (λi _=>m-(intOf i).toNat)
 case atStart=>exact ⟨0,_,T8 _,rfl,H8.o.1,UK _ _ _ _,H8.o.2⟩
 case round=>
  clear H8;obtain ⟨j,sv,hj,rfl,f,W,z⟩:=hrel;obtain ⟨_,_,_,_,_,_,_,A,t,r,p,g,l⟩:=H.o;obtain ⟨M,Z,Y,kr,kx⟩:=HL.o;have q1:=p.mono (w':=wr) z;have qe:=z.size;have kg:w.heap.size<wr.heap.size:=(TX.1 f).1;by_cases xe:j<m
  . have q6:j<o.RK.length:=ec;obtain ⟨ii,x5,q3,q4,q5⟩:=Uu Tryz.Sr;have x9:=ho.st _ (T6 q6);have Q:=q1.sub (19+4*j) 4 (c-(19+4*j)) (by rw [<- g];omega) ec;rw [Dr ho rest j q6] at Q;obtain ⟨s,hs⟩:=nM (o.RK[j]);rw [hs] at x9 Q;have qq:jZ (o.RK.take (j+1))=jZ (o.RK.take j)++[Z7 Z9 (s:Int)]:=by
     rw [Ve,Uc q6,hs];unfold jZ;rw [Uw];rfl
    obtain ⟨d,a,hq,D,ke,_,_⟩:=run_append_own_at (P:=ZN) (wr.drew.alloc (Z4 #[Z7 Z9 (s:Int)] 3)) w.heap.size 48 0 3 ii (Z7 Z9 0) 1 8 abB x5 q3 q4 q5 rfl ee sv j (jZ (o.RK.take j)) ((show wr.drew.ownsRow w.heap.size 3 1 sv j (jZ (o.RK.take j)) from W).alloc _) ⟨wr.heap.size,0,ZX⟩ 1 1 [Z7 Z9 (s:Int)] rfl (nT wr.drew _ _) (by intro u hu;simp at hu;subst hu;rfl) eD ec en;have qb:(wr.drew.alloc (Z4 #[Z7 Z9 (s:Int)] 3)).heap[w.heap.size]?=ZW (Z4 #[ZZ nm,Z7 Z9 (sz:Int),sv] 152 (0,0)):=(UF _ _ _ kg).trans f;have hp:(wr.drew.alloc (Z4 #[Z7 Z9 (s:Int)] 3)).ownsRow w.heap.size 3 1 sv j (jZ (o.RK.take j)):=(show wr.drew.ownsRow w.heap.size 3 1 sv j (jZ (o.RK.take j)) from W).alloc _;have E:=(ke.block w.heap.size en (λe=>bC hp qb ee e.symm)).trans qb;have hv:=bm D;have q2:bW w (wr.drew.alloc (Z4 #[Z7 Z9 (s:Int)] 3)):=z.drew.alloc qe _;have n:bW w a:=q2.grown ke q2.size (λk e=>dY hp e);rw [<- qq] at D;have qf:=hide7 f Q hq D E hv n;have x6:j<=100000:=ec;have x4:19+4*j+4<=bl:=ec;clear f W z A t r p g l M Z Y kr q1 Q hq D ke qb hp E hv q2 n qq hs qe kg;go_wp2_with fail;obtain ⟨f,Q,hq,D,E,⟨va,vc,hv⟩,n⟩:=qf.out;obtain ⟨B,ks⟩:=nM (19+4*j);obtain ⟨T,x3⟩:=nM (B+4);have R:=gv j ec wr.drew;have p2:=gv (j+1) ec wr.drew;have p3:=zA _ (be s 4) wr.drew Q;rw [ks] at R p3 x4;rw [(ec:19+4*(j+1)=T)] at p2;rw [lu s 4 ec ec] at p3;have L:wr.cell? ⟨w.heap.size,2,ZX⟩=ZW sv:=V2;have hd:(wr.drew.alloc (Z4 #[Z7 Z9 (s:Int)] 3)).cell? ⟨w.heap.size,2,ZX⟩=ZW sv:=(World.cell?_alloc_some wr.drew _ _ (by rw [show wr.drew.cell? ⟨w.heap.size,2,ZX⟩=ZW sv from L];rfl)).trans L;have qr:a.cell? ⟨w.heap.size,2,ZX⟩=ZW sv:=(by simp [World.cell?,E]);have xm:a.frozen? ⟨w.heap.size,2,ZX⟩=ZU:=Zi;have k1:B<=T:=ec;have k3:T<=c:=ec;have k4:T-B=4:=ec;have k5:¬ c=B:=ec;have k6:IntKind.i64.wrap (s:Int)=s:=l3;have k7:IntKind.i64.wrap ((j:Int)+1)=(j:Int)+1:=l3;have qo:∀ ty,(Builtin.append_ #[48,48] ty #[sv,Z5 (ZW ⟨wr.heap.size,0,ZX⟩) 1 1]).run ZN (wr.drew.alloc (Z4 #[Z7 Z9 (s:Int)] 3))=.ok d a:=λ_=>hq;refine dr 14 [(0,ZV),(1,ZV),(2,ZV),(3,ZV),(5,ZV),(6,ZV),(4,ZU),(7,ZU),(8,ZV),(9,ZU),(10,ZV),(11,ZU),(12,ZU),(13,ZV),(14,ZU)] (λw'=>w'.cell? ⟨w.heap.size,2,ZX⟩=ZW sv) ei ei L ?_;iterate 6 (refine aF rfl rfl ?_;apply YG;refine ⟨λw' F=>?_,?_⟩;(first|(go_simp;done)|(go_simp;exact rfl));simp only [Act.put,TZ,TY,T5])
    refine fG R rfl rfl ua ?_;rintro e w3 ⟨rfl,rfl⟩;refine ⟨_,rfl,λ_=>L,?_⟩;simp only [Act.put,TZ,TY,T5];refine fG p2 rfl rfl ua ?_;rintro e w3 ⟨rfl,rfl⟩;refine ⟨_,rfl,λ_=>L,?_⟩;simp only [Act.put,TZ,TY,T5];refine aF rfl rfl ?_;apply YG;refine ⟨λw' F=>?_,?_⟩;(first|(go_simp;done)|(go_simp;exact rfl));simp only [Act.put,TZ,TY,T5];refine fG p3 rfl rfl ua ?_;rintro e w3 ⟨rfl,rfl⟩;refine ⟨_,rfl,λ_=>L,?_⟩;simp only [Act.put,TZ,TY,T5];refine aF rfl rfl ?_;apply YG;refine ⟨λw' F=>?_,?_⟩;(first|(go_simp;done)|(go_simp;exact rfl));simp only [Act.put,TZ,TY,T5];refine eJ (v:=Z5 (ZW ⟨wr.heap.size,0,ZX⟩) 1 1) (w1:=wr.drew.alloc (Z4 #[Z7 Z9 (s:Int)] 3)) rfl rfl ua (λ_=>hd) ?_;simp only [Act.put,TZ,TY,T5];refine eJ (v:=d) (w1:=a) rfl rfl (by simp [execOp,Act.eval,resolve,invoke,builtin,qo]) (λ_=>qr) ?_;simp only [Act.put,TZ,TY,T5];refine aF rfl rfl ?_;apply YG;refine ⟨λw' F=>?_,?_⟩;(first|(go_simp;done)|(go_simp;exact rfl));simp only [Act.put,TZ,TY,T5];refine ku (w1:=a.setCell ⟨w.heap.size,2,ZX⟩ d) rfl rfl (by subst hv;go_simp) (absurd rfl) (cH ?_);obtain ⟨w3,G⟩:∃ w3,w3=a.setCell ⟨w.heap.size,2,ZX⟩ d:=⟨_,rfl⟩;rw [<- G];clear R p2 p3 L hd qr xm k1 k3 k4 k5 k6 k7 qo ks x3;have kz:w3.heap[w.heap.size]?=ZW (Z4 #[ZZ nm,Z7 Z9 (sz:Int),d] 152 (0,0)):=(by rw [G];exact abx a w.heap.size 2 _ _ d E);have N:aa (λk=>k=w.heap.size) a w3:=(by rw [G];exact aa.setCell _ _ _ rfl);have k0:w3.ownsRow w.heap.size 3 1 d (j+1) (jZ (o.RK.take (j+1))):=bR D N (λk hk e=>bC D E ee (by rw [hk,e]));have kp:bW w w3:=⟨N.os.trans n.os,N.tape.trans n.tape,N.output.trans n.output,TU n.size N.size,λk hk=>(N.block k (e9 n.size) ec).trans (n.block k hk)⟩;have H3:=aE kz k0 kp;clear f Q hq D E hv n kz N k0 kp G qf;rename_i ko
    refine ko _ _ ?_;clear ko;simp only [Act.put];go_wp2;go_roundw
    case rel=>exact ⟨j+1,d,e9 H.o.2.2.2.2.2.2.2.1,eT,H3.o.1,H3.o.2.1,H3.o.2.2⟩
    case measure=>simp [intOf];omega
  . have q7:j=m:=ec;subst q7;obtain ⟨C,sc,xb⟩:=bm W;subst xb;have ky:o.RK≠[]:=λe=>by
     have y:=Ux YK e;have h2:1<=o.RK.length:=(by rw [l];exact YX _ _);rw [y] at h2;simp at h2
    have V:=C3 (K:=λk=>w.heap.size<=k) (show wr.ownsRow w.heap.size 3 1 (.slice C j sc) j (jZ o.RK) by have y:=W;rw [UI ec] at y;exact y) ky ec (λk hk=>hk);have V:=V.choose_spec.choose_spec.2;obtain ⟨ra,qp⟩:∃ ra:Option Addr,(c=lo/\ra=ZW ⟨b,off,ZX⟩)\/(c≠lo/\ra=ZW ⟨b,off+lo,ZX⟩):=by
     by_cases U:c=lo
     . exact ⟨_,.inl ⟨U,rfl⟩⟩
     . exact ⟨_,.inr ⟨U,rfl⟩⟩
    have hf:∀ w0,Bs w0 (Z5 (ZW ⟨b,off,ZX⟩) bl c) (bL o++rest)->Bs w0 (.slice ra (bl-lo) (c-lo)) rest:=by
     intro w0 qx;have y:=qx.sub lo (bl-lo) (c-lo) (by rw [<- g];omega) ec;have h2:((bL o++rest).drop lo).take (bl-lo)=rest:=by
      rw [(ec:lo=19+4*o.RK.length),Jk ho,UI ec]
     rw [h2] at y;rcases qp with ⟨h3,rfl⟩|⟨h3,rfl⟩
     . have x8:rest=[]:=Xl.1 ec;subst x8;refine ⟨ZW ⟨b,off,ZX⟩,c-lo,?_,ek,ee,λ_ h=>vE,λh=>absurd rfl h⟩;simp only [UV];congr 1;omega
     . exact y
    have Hr:=a5 f V hf z;have x6:j<=100000:=ec;clear f W z A t r p g l M Y kr q1 V hf qe kg ky;go_wp2_with fail;have f:=Hr.o.1;have kf:(ZN.info? 152).map (·.size)=ZW 3:=ei;have qj:(Instr.loadAt 152 (Z6 (ZW ⟨w.heap.size,0,ZX⟩))).run ZN wr.drew=.ok (.agg #[ZZ nm,Z7 Z9 (sz:Int),.slice C j sc]) wr.drew:=(by simp only [Instr.loadAt,Instr.sureAddr,UE,VP,UT,Xf wr.drew w.heap.size 152 152 #[ZZ nm,Z7 Z9 (sz:Int),.slice C j sc] (0,0) _ f underlying152 rfl kf]);have l:(Instr.storeAt 152 (Z6 (ZW ⟨w.heap.size,0,ZX⟩)) (.agg #[ZZ nm,Z7 Z9 (sz:Int),.slice C j sc])).run ZN wr.drew=.ok () wr.drew:=by
     simp only [Instr.storeAt,Instr.sureAddr,UE,VP,UT,X1 wr.drew w.heap.size 152 152 #[ZZ nm,Z7 Z9 (sz:Int),.slice C j sc] #[ZZ nm,Z7 Z9 (sz:Int),.slice C j sc] f kf rfl B9];rw [setRow_self wr.drew w.heap.size _ 152 (0,0) f]
    have R:=gv j ec wr.drew;rw [Z] at R;refine dr 99 [(0,ZV),(1,ZV),(2,ZV),(3,ZU),(4,ZV),(5,ZU),(6,ZV),(7,ZV)] (λw'=>w'=wr.drew) ei ei rfl ?_;refine aF rfl rfl ⟨_,λw' F=>by subst F;simp [execOp,Act.eval,qj];rfl,?_⟩;simp only [Act.put,TZ,TY,T5];iterate 2 (refine aF rfl rfl ?_;apply YG;refine ⟨λw' F=>?_,?_⟩;(first|(go_simp;done)|(go_simp;exact rfl));simp only [Act.put,TZ,TY,T5])
    refine fG R rfl rfl ua ?_;rintro e w3 ⟨rfl,rfl⟩;refine ⟨_,rfl,λ_=>rfl,?_⟩;simp only [Act.put,TZ,TY,T5];refine aF rfl rfl ⟨.slice ra (bl-lo) (c-lo),λw' F=>by rcases qp with ⟨y,rfl⟩|⟨y,rfl⟩<;>go_simp,?_⟩;simp only [Act.put,TZ,TY,T5];refine ku (w1:=wr.drew) rfl rfl (by simp [execOp,Act.eval,l]) (λ_=>rfl) ?_;simp only [Act.put,TZ,TY,T5];iterate 2 (refine aF rfl rfl ?_;apply YG;refine ⟨λw' F=>?_,?_⟩;(first|(go_simp;done)|(go_simp;exact rfl));simp only [Act.put,TZ,TY,T5])
    refine cH ?_;clear qj l R f kf;obtain ⟨w3,G⟩:∃ w3,w3=wr.drew:=⟨_,rfl⟩;rw [<- G];rename_i ko
    refine ko _ _ ?_;clear ko;go_wp2;obtain ⟨f,V,hf,z⟩:=Hr.o;have kz:w3.heap[w.heap.size]?=ZW (Z4 #[ZZ nm,Z7 Z9 (sz:Int),.slice C j sc] 152 (0,0)):=(by rw [G];exact f);refine Ut (v:=ZY #[.agg #[ZZ nm,Z7 Z9 (sz:Int),.slice C j sc],.slice ra (bl-lo) (c-lo),Z1 ZV]) (Ds results185 _ w3 w.heap.size 152 _ (0,0) _ _ _ rfl rfl rfl kz underlying152 rfl ei) rfl ?_;have qk:=H.o.2.2.2.2.2.2.2.1;have qc:=H.o.2.2.2.2.2.2.2.2.1;have kp:bW wr w3:=(by rw [G];exact (TW _ wr).drew);refine ⟨⟨C,sc,_,by rw [qs.out,qc,qk],?_,hf⟩,z.trans (kp.mono z.size)⟩;rw [qk];exact V.keep (ef.RM kp)
def aaN (l:a8):ByteArray:=⟨(l.map YR).toArray⟩
theorem uV (h:Bs w v l):(convert 40 9 v).run ZN w=.ok (ZZ (aaN l)) w:=by
 obtain ⟨ao,c,rfl,_,_,k,f⟩:=h;by_cases hl:l=[]
 . subst hl;exact AG ao c w
 . obtain ⟨b,off,rfl,i⟩:=f hl;have:=run_convert_bytes_back (P:=ZN) w 40 9 5 ⟨b,off,ZX⟩ c (l.map YR) Un Xr abE (λj a=>by
    rw [Ue] at a;have d:=i j a;have g:((l.map YR)[j]'(by rw [Ue];exact a)).toNat=l.getD j 0:=by
     rw [UN,Ub,Uc a];have:=k _ (T6 a);simp;omega
    rw [g];unfold Addr.add;split
    . rename_i e;subst e;exact d
    . exact d)
   rw [Ue] at this;exact this
theorem Fz {v':ZS} (h:Bs w v l) (b:Bs w v' l):ZQ ZN 186 #[v,v'] w λe w'=>e=Z3 (Z1 ZV)/\w'=w:=by
 have g:=uV h;have i:=uV b;obtain ⟨ao,c,rfl,_⟩:=h;obtain ⟨j,d,rfl,_⟩:=b;obtain ⟨S,f⟩:=nM (aaN l);obtain ⟨N,a⟩:=nM (l.length);rw [f,a] at g i;rw [a];clear f a;go_enter func186,ntmps186;go_wp2;go_ret;exact ⟨rfl,rfl⟩
def Du (D:Nat) (l:a8) (os:List Ob):Prop:=∀ (w:ZT) (v:ZS),Bs w v l->ZQ ZN 155 #[v,Z7 Z9 ((D*44:Nat):Int)] w λe w'=>∃ o,e=Z3 (ZY #[o,Z1 ZV])/\eN (λk=>w.heap.size<=k) w' o os/\bW w w'
def Bs.TL (h:w.ownsRow base 5 1 v n (aJ l)) (c:∀ x∈l,x<256) (hl:l.length<=1000000000):Bs w v l:=by
 have i:l.length=n:=by have:=h.1;rw [aX] at this;omega
 rcases h.2 with ⟨rfl,q⟩|⟨g,cap,cur,rfl,j,d,m,o,p,e⟩
 . have:l=[]:=Xl.1 ec;subst this;exact ⟨ZX,0,rfl,TV _,ee,c,λh=>absurd rfl h⟩
 . refine ⟨ZW ⟨g,0,ZX⟩,cap,by rw [i],ec,ec,c,λ_=>⟨g,0,rfl,λk b=>?_⟩⟩;have a:=Ux (λl=>l[k]?) e;simp only [Wg,aJ] at a;rw [VM ec,aby,UD,Uc b] at a;have f:l.getD k 0=l[k]:=(by simp [Ub,b]);rw [f];simp only [Uj,World.cell?,d];exact a
def AH (os:List Ob) (sv:Nat->ZS) (k:Nat):List ZS:=(YE k).flatMap λi=>[ZZ (os.getD i GK).name,Z7 Z9 ((os.getD i GK).size:Nat),sv i]
def GW (os:List Ob) (sv:Nat->ZS):∀ k,(AH os sv k).length=k*3
 | 0=>rfl
 | k+1=>by
  unfold AH;rw [Vw,WN,Ua];have:=GW os sv k;unfold AH at this;rw [this];simp;omega
def oU (os:List Ob) (sv:Nat->ZS) (k:Nat):AH os sv (k+1)=AH os sv k++[ZZ (os.getD k GK).name,Z7 Z9 ((os.getD k GK).size:Nat),sv k]:=by
 unfold AH;rw [Vw,WN];simp
def Jl {os:List Ob} {sv':Nat->ZS} (h:∀ i,i<k->sv i=sv' i):AH os sv k=AH os sv' k:=by
 induction k with
 | zero=>rfl
 | succ k ih=>rw [oU,oU,ih (λi a=>h i ec),h k ec]
def FA (os:List Ob) (sv:Nat->ZS):∀ (k i:Nat),i<k->(AH os sv k)[i*3]?=ZW (ZZ (os.getD i GK).name)/\(AH os sv k)[i*3+1]?=ZW (Z7 Z9 ((os.getD i GK).size:Nat))/\(AH os sv k)[i*3+2]?=ZW (sv i)
 | k+1,i,hi=>by
  have hl:=GW os sv k;rw [oU];by_cases h:i<k
  . obtain ⟨a,b,c⟩:=FA os sv k i h;rw [VC ec,VC ec,VC ec];exact ⟨a,b,c⟩
  . have e:i=k:=ec;subst e;rw [U7 ec,U7 ec,U7 ec,hl,(ec:i*3-i*3=0),(ec:i*3+1-i*3=1),(ec:i*3+2-i*3=2)];exact ⟨rfl,rfl,rfl⟩
def FB {os:List Ob} (h:w.ownsRow base 152 3 v os.length (AH os sv os.length)) (hl:os.length<=1000000) (hK:∀ k,base<=k->K k) (q:∀ i (a:i<os.length),bf K w (sv i) os[i].RK):eN K w v os:=by
 rcases h.2 with ⟨o,p⟩|⟨g,cap,cur,f,m,n,_⟩
 . have:os=[]:=Xl.1 p;subst this;rw [o];exact eN.nil _ _
 . refine ⟨ZW ⟨g,0,ZX⟩,cap,f,hl,λ_=>⟨g,0,rfl,hK g m,⟨_,_,_,n,ee⟩,λi a=>?_⟩⟩;obtain ⟨c,d,l⟩:=FA os sv os.length i a;have e:os.getD i GK=os[i]:=(by simp [Ub,a]);rw [e] at c d;have b:∀ j u,(AH os sv os.length)[j]?=ZW u->w.cell? ⟨g,j,ZX⟩=ZW u:=λj u r=>by
    have:=h.cells (g:=g) (by rw [f];rfl) j u r;rwa [jG] at this
   refine ⟨sv i,?_,?_,?_,q i a⟩
   . rw [Uj];exact b _ _ c
   . rw [Uj];exact b _ _ d
   . rw [Uj];exact b _ _ l
def packL_le:∀ {l:List Ob},(∀ o∈l,o.fit)->(an l).length<=l.length*5000
 | [],_=>by simp [an]
 | o::l,h=>by
  have:=packL_le (l:=l) (λx b=>h x (UJ _ b));have a:=h o (U8 ..);have:=a.len;have e:an (o::l)=bL o++an l:=rfl;rw [e,Ua,cZ a,UA];omega
structure UpI (w:ZT) (os:List Ob) (k:Nat) (cv rv:ZS) (sv:Nat->ZS) (wr:ZT):Prop where
 rest:Bs w rv (an (os.drop k))
 own:wr.ownsRow w.heap.size 152 3 cv k (AH os sv k)
 ints:∀ i (hi:i<os.length),i<k->bf (λb=>w.heap.size<=b/\cv.ownBlock≠ZW b) wr (sv i) os[i].RK
 below:bW w wr
def GX {wr w4 w5:ZT} {os:List Ob} {sz sc:Nat} {cv v5 bv:ZS} {rv:ZS} {nm:ByteArray} {sa:Option Addr} (I:k<os.length) (g:UpI w os k cv rv sv wr) (y:bW wr w2) (H:bf (λb=>wr.heap.size<=b) w2 (.slice sa m sc) os[k].RK) (G:Bs w bv (an (os.drop (k+1))))
 (z:bW w2 w4) (J:os[k].name=nm) (L:os[k].size=sz) (K:w5.ownsRow w.heap.size 152 3 v5 (k+1) (AH os sv k++[ZZ nm,Z7 Z9 (sz:Int),.slice sa m sc])) (f:(w4.alloc (Z4 #[ZZ nm,Z7 Z9 (sz:Int),.slice sa m sc] 152)).grownBy w5 cv.ownBlock)
 (u:v5.ownBlock=cv.ownBlock\/v5.ownBlock=ZW (w4.alloc (Z4 #[ZZ nm,Z7 Z9 (sz:Int),.slice sa m sc] 152)).heap.size):UpI w os (k+1) v5 bv (λi=>if i=k then .slice sa m sc else sv i) w5:=by
 have E:bW w4 (w4.alloc (Z4 #[ZZ nm,Z7 Z9 (sz:Int),.slice sa m sc] 152)):=bA w4 _;have:(w4.alloc (Z4 #[ZZ nm,Z7 Z9 (sz:Int),.slice sa m sc] 152)).heap.size=w4.heap.size+1:=ek
 have M:=y.size;have N:=z.size;have O:=g.below.size;have v:bW w2 (w4.alloc (Z4 #[ZZ nm,Z7 Z9 (sz:Int),.slice sa m sc] 152)):=z.trans (E.mono N);have x:bW wr (w4.alloc (Z4 #[ZZ nm,Z7 Z9 (sz:Int),.slice sa m sc] 152)):=y.trans (v.mono M);have A:∀ b,cv.ownBlock=ZW b->b<wr.heap.size:=λb a=>by
  obtain ⟨cur,F⟩:=bw g.own a;exact (TX.1 F).1
 have e:os.getD k GK=os[k]:=by simp [Ub,I]
 refine ⟨G,?_,λi C hr=>?_,?_⟩
 . rw [oU,e,J,L,TT rfl];rw [Jl (sv':=sv) (λi C=>TS ec)];exact K
 . by_cases B:i=k
   . subst B;rw [TT rfl];have l:bf (λb=>wr.heap.size<=b/\b<w2.heap.size) w2 (.slice sa m sc) os[i].RK:=by
      obtain ⟨ao,c,n,o,p⟩:=H;refine ⟨ao,c,n,o,λhl=>?_⟩;obtain ⟨b,off,r,s,j,t⟩:=p hl;exact ⟨b,off,r,⟨s,j.lt⟩,j,t⟩
     refine (l.keep (w':=w5) ⟨e9 f.size,λb a d=>?_⟩).weaken λb d=>⟨ec,λq=>?_⟩
     . exact (f.block b ec (λq=>e9 (A b q.symm))).trans (v.block b a)
     . rcases u with h|h
       . rw [h] at q;have:=A b q;omega
       . rw [h] at q;have:=UM q;omega
   . rw [TS B];have l:=g.ints i C ec;have D:bf (λb=>(w.heap.size<=b/\cv.ownBlock≠ZW b)/\b<wr.heap.size) wr (sv i) os[i].RK:=by
      obtain ⟨ao,c,n,o,p⟩:=l;refine ⟨ao,c,n,o,λhl=>?_⟩;obtain ⟨b,off,r,s,j,t⟩:=p hl;exact ⟨b,off,r,⟨s,j.lt⟩,j,t⟩
     refine (D.keep (w':=w5) ⟨e9 f.size,λb a d=>?_⟩).weaken λb d=>⟨d.1.1,λq=>?_⟩
     . exact (f.block b ec (λq=>d.1.2 q.symm)).trans (x.block b a)
     . rcases u with h|h
       . rw [h] at q;exact d.1.2 q
       . rw [h] at q;have:=UM q;omega
 . exact (g.below.trans (x.mono O)).grown f ec (λb a=>dY g.own a)
def UpR (w:ZT) (os:List Ob) (cv rv:ZS) (wr:ZT):Prop:=∃ (k:Nat) (sv:Nat->ZS),k<=os.length/\UpI w os k cv rv sv wr
def uW (w:ZT) (x y z:ZS) (t:ZO):∀ j u,[x,y,z][j]?=ZW u->(w.alloc (Z4 #[x,y,z] t)).cell? ((⟨w.heap.size,0,ZX⟩:Addr).add j)=ZW u:=by
 intro j u h;rw [jG];match j,h with
 | 0,h=>simp at h;subst h;simp only [World.cell?,Ug w (Z4 #[x,y,z] t)];rfl
 | 1,h=>simp at h;subst h;simp only [World.cell?,Ug w (Z4 #[x,y,z] t)];rfl
 | 2,h=>simp at h;subst h;simp only [World.cell?,Ug w (Z4 #[x,y,z] t)];rfl
 | j+3,h=>simp at h
def Ru (w:ZT) (os:List Ob) (e:ZP) (w':ZT):Prop:=∃ o,e=Z3 (ZY #[o,Z1 ZV])/\eN (λk=>w.heap.size<=k) w' o os/\bW w w'
def Rv:ZS->Nat
 | .slice _ n _=>n
 | _=>0
theorem FC {os:List Ob} (P:Nat) (qq:1<=P/\P<=1000000) (r:Bs w v (an os)) (n:∀ o∈os,o.fit) (C:∀ o∈os,o.RK.length=max 1 ((o.size+P-1)/P)) (hr:Aq os) (qo:os.length<=10000) :
 ZQ ZN 155 #[v,Z7 Z9 P] w λe w'=>Ru w os e w':=by
 obtain ⟨ao,c,hv,_⟩:=id r;obtain ⟨M,s⟩:=nM ((an os).length);rw [s] at hv;subst hv;have X:=a6 r n C hr s;clear r n C hr s;go_enter func155,ntmps155;go_wp2_with fail;go_loopw [6,7] (λcv rv wr=>UpR w os cv rv wr) (λ_ rv _=>Rv rv)
 case atStart=>exact ⟨0,λ_=>Z5 ZX 0 0,T8 _,by rw [Xy];exact X.o.1,UK _ _ _ _,λi _ h=>absurd h (XK _),TW _ _⟩
 case round=>
  obtain ⟨k,sv,hk,j⟩:=hrel;by_cases E:k<os.length
  . obtain ⟨r,n,C,hr,s⟩:=X.o;have he:os.drop k=os[k]::os.drop (k+1):=X5 E;have kf:an (os.drop k)=bL os[k]++an (os.drop (k+1)):=(by rw [he];rfl);have L:=n _ (T6 E);have h7:=j.rest;rw [kf] at h7;have D:Bs wr _ (an (os.drop k)):=j.rest.mono j.below;rw [kf] at D;obtain ⟨W,rc,O,q2,q3,_,ka⟩:=id D;have qb:bL os[k]++an (os.drop (k+1))≠[]:=λe=>by
     have:=Ux YK e;rw [Ua,cZ L] at this;simp at this
    obtain ⟨rb,ro,rfl,_⟩:=ka qb;have qp:(an (os.drop (k+1))).length<=100000000:=by
     have G:=packL_le (l:=os.drop (k+1)) (λo ho=>n o (U0 ho));rw [Um] at G;omega
    obtain ⟨bl,K⟩:=nM ((bL os[k]++an (os.drop (k+1))).length);have qf:0<bl:=(by rw [<- K,Ua,cZ L];omega);rw [K] at O;rw [O] at D;have qd:=rX P D K.symm L qq (C _ (T6 E)) qp;obtain ⟨F,cc,Z⟩:=bm j.own;have HR:=ak hr;have kk:(an (os.drop (k+1))).length<bl:=(by rw [<- K,Ua,cZ L];omega);clear hr;have t:=a7 j qd L K kf h7;clear j r n C s he kf L D h7 q2 q3 ka qb qd K;subst O Z;go_wp2_with fail;refine t.o.2.1.mono ?_;rintro e w2 ⟨⟨y,sc,bv,rfl,kv,hz⟩,U⟩;have km:=hz w t.o.2.2.2.2.2;clear hz;obtain ⟨o,ho⟩:=nM (os[k]);rw [ho] at kv ⊢;have a:=a5 kv km U ho;obtain ⟨hd,bc,q9,_⟩:=id km;obtain ⟨bn,q8⟩:=nM ((an (os.drop (k+1))).length);rw [q8] at q9 kk;subst q9;clear kv km U ho q8;have ki:bW w2 (w2.alloc (Z4 #[ZZ o.name,Z7 Z9 (o.size:Nat),.slice y o.RK.length sc] 152)):=bA w2 _;have kg:(w2.alloc (Z4 #[ZZ o.name,Z7 Z9 (o.size:Nat),.slice y o.RK.length sc] 152)).heap[w2.heap.size]?=ZW (Z4 #[ZZ o.name,Z7 Z9 (o.size:Nat),.slice y o.RK.length sc] 152 (0,0)):=Ug _ _;obtain ⟨w3,kh⟩:=nM (w2.alloc (Z4 #[ZZ o.name,Z7 Z9 (o.size:Nat),.slice y o.RK.length sc] 152));rw [kh] at ki kg;have q0:w3.cell? ⟨w2.heap.size,0,ZX⟩=ZW (ZZ o.name):=(by simp [World.cell?,kg]);have z:=al ki kg;clear ki kg;obtain ⟨nm,ky⟩:=nM (o.name);obtain ⟨sz,q5⟩:=nM (o.size);obtain ⟨m,hm⟩:=nM (o.RK.length);rw [ky] at q0 kh ⊢;rw [q5] at kh ⊢;rw [hm] at kh ⊢;have f:=aE ky q5 hm;clear ky q5 hm;go_wp2_with fail;obtain ⟨io,qa,k5,k6,k7⟩:=Uu Tryz.RV;by_cases qi:k=0
    . subst qi;go_quiet (fail);have B:bW w3 (w3.drewN nq):=⟨rfl,rfl,rfl,TV _,λ_ _=>rfl⟩;obtain ⟨d,V⟩:=nM (w3.drewN nq);rw [V] at B ⊢;have q:=(B.block _ (TX.1 z.o.2).1).trans z.o.2;rw [f.o.1,f.o.2.1,f.o.2.2] at q;have r0:d.cell? ⟨w2.heap.size,0,ZX⟩=ZW (ZZ nm):=Wa;have r1:d.cell? ⟨w2.heap.size,1,ZX⟩=ZW (Z7 Z9 (sz:Int)):=Wa;have r2:d.cell? ⟨w2.heap.size,2,ZX⟩=ZW (.slice y m sc):=Wa;have A:bW w2 d:=z.o.1.trans (B.mono z.o.1.size);have I:bW wr (d.alloc (Z4 #[ZZ nm,Z7 Z9 (sz:Int),.slice y m sc] 152)):=(a.o.2.2.1.trans (A.mono a.o.2.2.1.size)).alloc (TU a.o.2.2.1.size A.size) _;have R:=bR t.o.1.own (aa.RL I (λ_=>False)) (λ_ _ h=>h);have q6:w.heap.size<=(d.alloc (Z4 #[ZZ nm,Z7 Z9 (sz:Int),.slice y m sc] 152)).heap.size:=TU t.o.1.below.size I.size;have Q:=al R A;clear R B V q q0 A I;go_wp2_with (show wpList _ _ _ ({ dst:=ZW 44,op:=_,type:=_,pos:=_,after:=_,guard:=_ }::_) _ _;refine Yu _ rfl (Z0 41) (Z0 43) 144 rfl w.heap.size 152 io (.agg #[ZZ YF,Z7 Z9 0,Z5 ZX 0 0]) 3 48 Vs qa k5 k6 k7 rfl ee (.slice F 0 cc) 0 (AH os sv 0) rfl (by exact Q.o.1) ⟨d.heap.size,0,ZX⟩ 1 1 _ rfl rfl (uW d _ _ _ _) (by intro u T;simp at T;rcases T with rfl|rfl|rfl<;>rfl) eD ec (by exact q6) ?_;intro v5 w5 kz ks qh hj);refine ⟨⟨0+1,_,E,GX E t.o.1 a.o.2.2.1 (by have S:=a.o.1;rw [f.o.2.2,<- a.o.2.2.2] at S;exact S) a.o.2.1 Q.o.2 (by rw [a.o.2.2.2];exact f.o.1) (by rw [a.o.2.2.2];exact f.o.2.1) kz ks hj⟩,?_⟩;show bn<bl;omega
    . have qs:0<k:=ec;obtain ⟨pv,q1⟩:=nM ((os.getD (k-1) GK).name);obtain ⟨J,qg,kp⟩:∃ J,F=ZW ⟨J,0,ZX⟩/\wr.cell? ⟨J,(k-1)*3,ZX⟩=ZW (ZZ pv):=by
       rcases t.o.1.own.2 with ⟨_,h0⟩|⟨g,cap,cur,Y,_⟩
       . omega
       . injection Y with Y _ _;refine ⟨g,Y,?_⟩;have G:=(FA os sv k (k-1) ec).1;have h2:=t.o.1.own.cells (g:=g) (by rw [Y];rfl) _ _ G;rw [jG,q1] at h2;exact h2
      subst qg;have k0:w3.cell? ⟨J,(k-1)*3,ZX⟩=ZW (ZZ pv):=((a.o.2.2.1.trans (z.o.1.mono a.o.2.2.1.size)).cell (p:=⟨J,(k-1)*3,ZX⟩) (Uf kp)).trans kp;have ke:PQ nm pv=ZU:=by
       have G:=HR.o (k-1) ec;rw [(ec:k-1+1=k),q1] at G;have e:os.getD k GK=os[k]:=(by simp [Ub,E]);rw [e,a.o.2.2.2,f.o.1] at G;exact G
      have kx:∀ w':ZT,(binOp .leq 9 (ZZ nm) (ZZ pv)).run ZN w'=.ok (Z1 ZU) w':=λw'=>by
       unfold PQ at ke;simp [binOp,Op.stringOp,ke]
      have k9:=ke;unfold PQ at k9;have qm:((k:Nat):Int)-1=((k-1:Nat):Int):=ec;have qn:(((k-1:Nat)):Int).toNat=k-1:=ec;obtain ⟨k1,k8⟩:=nM (k-1);rw [k8] at k0 qm qn;have qj:k1<k:=ec;clear kp ke q1 k8;go_quiet (fail);clear k0 kx k9;have B:bW w3 (w3.drewN nq):=⟨rfl,rfl,rfl,TV _,λ_ _=>rfl⟩;obtain ⟨d,V⟩:=nM (w3.drewN nq);rw [V] at B ⊢;have q:=(B.block _ (TX.1 z.o.2).1).trans z.o.2;rw [f.o.1,f.o.2.1,f.o.2.2] at q;have r0:d.cell? ⟨w2.heap.size,0,ZX⟩=ZW (ZZ nm):=Wa;have r1:d.cell? ⟨w2.heap.size,1,ZX⟩=ZW (Z7 Z9 (sz:Int)):=Wa;have r2:d.cell? ⟨w2.heap.size,2,ZX⟩=ZW (.slice y m sc):=Wa;have A:bW w2 d:=z.o.1.trans (B.mono z.o.1.size);have I:bW wr (d.alloc (Z4 #[ZZ nm,Z7 Z9 (sz:Int),.slice y m sc] 152)):=(a.o.2.2.1.trans (A.mono a.o.2.2.1.size)).alloc (TU a.o.2.2.1.size A.size) _;have R:=bR t.o.1.own (aa.RL I (λ_=>False)) (λ_ _ h=>h);have q6:w.heap.size<=(d.alloc (Z4 #[ZZ nm,Z7 Z9 (sz:Int),.slice y m sc] 152)).heap.size:=TU t.o.1.below.size I.size;have Q:=al R A;clear R B V q q0 A I;go_wp2_with (show wpList _ _ _ ({ dst:=ZW 44,op:=_,type:=_,pos:=_,after:=_,guard:=_ }::_) _ _;refine Yu _ rfl (Z0 41) (Z0 43) 144 rfl w.heap.size 152 io (.agg #[ZZ YF,Z7 Z9 0,Z5 ZX 0 0]) 3 48 Vs qa k5 k6 k7 rfl ee (Z5 (ZW ⟨J,0,ZX⟩) k cc) k (AH os sv k) rfl (by exact Q.o.1) ⟨d.heap.size,0,ZX⟩ 1 1 _ rfl rfl (uW d _ _ _ _) (by intro u T;simp at T;rcases T with rfl|rfl|rfl<;>rfl) eD ec (by exact q6) ?_;intro v5 w5 kz ks qh hj);refine ⟨⟨k+1,_,E,GX E t.o.1 a.o.2.2.1 (by have S:=a.o.1;rw [f.o.2.2,<- a.o.2.2.2] at S;exact S) a.o.2.1 Q.o.2 (by rw [a.o.2.2.2];exact f.o.1) (by rw [a.o.2.2.2];exact f.o.2.1) kz ks hj⟩,?_⟩;show bn<bl;omega
  . have qk:k=os.length:=ec;subst qk;obtain ⟨r,n,C,hr,s⟩:=X.o;have D:=j.rest;rw [WT lR] at D;obtain ⟨W,rc,O,_⟩:=D;have q4:u7=.slice W 0 rc:=O;have hn:eN (λk=>w.heap.size<=k) wr u6 os:=FB j.own ec (λk hk=>hk) (λi hi=>(j.ints i hi hi).weaken λb hb=>hb.1);have qc:=yE hn n qo;obtain ⟨F,cc,Z⟩:=bm j.own;obtain ⟨N,hN⟩:=nM (os.length);rw [hN] at Z;have H:=a5 hn j.below qc hN;clear hn qc j r n C hr s O hN;subst q4 Z;go_wp2_with fail;refine H.o.2.2.1.mono ?_;rintro e w5 ⟨g,cap,rfl,hh,kj⟩;obtain ⟨r,n,C,hr,s⟩:=X.o;have hx:∀ x∈an os,x<256:=(by obtain ⟨_,_,_,_,_,h,_⟩:=r;exact h);have hl:(an os).length<=1000000000:=(e9 (packL_le n));have q7:=Bs.TL hh hx hl;have ko:bW w w5:=H.o.2.1.trans (kj.mono H.o.2.1.size);have U:=r.mono ko;have kr:=Fz q7 U;rw [s] at kr;have H5:=aE kr kj ko;rw [s];clear r n C hr s q7 U kr hh kj ko hx hl;go_wp2_with fail;refine H5.o.1.mono ?_;rintro e w6 ⟨rfl,qe⟩;obtain rfl:w5=w6:=qe.symm;clear qe;go_wp2;go_ret2;exact ⟨_,rfl,H.o.1.keep (ef.RM H5.o.2.1),H5.o.2.2⟩
def AI (D:Nat) (hD:1<=D/\D<=1000) {os:List Ob} (c:∀ o∈os,o.fit) (b:∀ o∈os,o.RK.length=max 1 ((o.size+D*44-1)/(D*44))) (hr:Aq os) (a:os.length<=10000):Du D (an os) os:=λw v d=>FC (D*44) ⟨ec,ec⟩ d c b hr a
def uX (d:Nat) (tx:ZO) (a b:ZS) (i:TypeInfo) (e:ZN.info? tx=ZW i) (c:i.comparable=ZV) (w:ZT):(Op.equalIn (d+1) 215 (.iface tx a) (.iface tx b)).run ZN w=(Op.equalIn d tx a b).run ZN w:=by
 simp [Op.equalIn,UL acf,typeInfo,e,c]
theorem Mw (D L G a c b:Int) (w:ZT):(Op.equalIn 10000 27 (.agg #[Z7 Z9 D,Z7 Z9 L,Z7 Z9 G]) (.agg #[Z7 Z9 a,Z7 Z9 c,Z7 Z9 b])).run ZN w=.ok (decide (D=a/\L=c/\G=b)) w:=by
 by_cases d:D=a
 . by_cases e:L=c
   . by_cases f:G=b
     . subst d e f;go_simp
     . have:(G==b)=ZU:=by simp [f]
       subst d e;go_simp
   . have:(L==c)=ZU:=by simp [e]
     subst d;go_simp
 . have:(D==a)=ZU:=by simp [d]
   go_simp
def Mx:∃ i:TypeInfo,ZN.info? 142=ZW i/\i.comparable=ZV:=by
 have:(ZN.info? 142).map (λi=>i.comparable)=ZW ZV:=ei
 rw [Wk] at this;exact this
section
variable {X:ZT} {p:Nat} {A:eQ} {F:aK}
def gQ (f:Nat->a8) (nb:Nat):List ZS:=(YE (64*nb)).map λk=>Z7 .u8 (((f (k/64)).getD (k%64) 0:Nat):Int)
def gS (g:Nat->Bool) (nb:Nat):List ZS:=(YE nb).map λk=>Z1 (g k)
def uY (f:Nat->a8) (nb:Nat):(gQ f nb).length=64*nb:=by unfold gQ;rw [Ue,Vp]
def uZ (g:Nat->Bool) (nb:Nat):(gS g nb).length=nb:=by unfold gS;rw [Ue,Vp]
theorem ah.setBlks (h:ah X p A F) (i:Nat) (a:i<A.n) (f:Nat->a8) (hl:∀ j,(f j).length=64/\∀ x∈f j,x<256):ah (X.setCells (F.bb i) 0 (gQ f A.nb)) p (A.RT i f) F:=by
 refine h.RT a ((fE (gQ f A.nb) 0 X _ (h.blk i a)).congr λm c=>?_) (λk b=>aQ _ _ _ _ _ b) hl;rw [TT ⟨T8 _,by rw [uY];omega⟩,Yt,Ub];unfold gQ;rw [UD,Ww c];rfl
theorem ah.setBads (h:ah X p A F) (i:Nat) (a:i<A.n) (g:Nat->Bool):ah (X.setCells (F.bd i) 0 (gS g A.nb)) p (A.RZ i g) F:=by
 refine h.RZ a ((fE (gS g A.nb) 0 X _ (h.bad i a)).congr λm c=>?_) (λk b=>aQ _ _ _ _ _ b);rw [TT ⟨T8 _,by rw [uZ];omega⟩,Yt,Ub];unfold gS;rw [UD,Ww c];rfl
def jY (A:eQ) (k:Nat):eQ:=⟨A.n,A.nb,λi=>if i<k then A.lost i else ZU,λi=>if i<k then A.bad i else λ_=>ZU,λi=>if i<k then A.blk i else λ_=>zb⟩
theorem My (k:Nat) (f:Nat->α) (z:α):(λi=>if i=k then f k else if i<k then f i else z)=λi=>if i<k+1 then f i else z:=by
 funext i;by_cases e:i=k
 . subst e;simp
 . rw [TS e];by_cases q:i<k
   . rw [TT q,TT ec]
   . rw [TS q,TS ec]
def Jm (A:eQ):jY A 0=pN A.n A.nb:=by unfold jY pN;simp
def Jn (A:eQ) (k:Nat):(({ jY A k with lost:=λi=>if i=k then A.lost k else (jY A k).lost i }:eQ).RT k (A.blk k)).RZ k (A.bad k)=jY A (k+1):=by
 unfold jY eQ.RT eQ.RZ;simp only [eQ.mk.injEq,true_and];exact ⟨My k A.lost ZU,My k A.bad _,My k A.blk _⟩
def Tryz.Tu:(ZN.info? 114).map (·.size)=ZW 64:=ei
def Tryz.Td:(ZN.info? 4).map (·.size)=ZW 1:=ei
def u9 {b:Nat} (h:w.rowIs b t n f):∃ cur:List ZS,ai w b t cur/\cur.length=n:=by
 obtain ⟨c,a,d,_⟩:=h;refine ⟨c.toList,?_,oD d⟩;unfold ai;rw [a,Array.toArray_toList]
def Mz {B:eQ} {E:aK} (h:ah w p A F) (k:ah w q B E) (i:Nat) (o:i<A.n) (r:i<B.n) (l:B.nb=A.nb) (f:ZO) :
 (Builtin.copy_ #[76,76] f #[Z5 (ZW ⟨E.bb i,0,ZX⟩) A.nb A.nb,Z5 (ZW ⟨F.bb i,0,ZX⟩) A.nb A.nb]).run ZN w=.ok (goInt A.nb) (w.setCells (E.bb i) 0 (gQ (A.blk i) A.nb)):=by
 obtain ⟨cur,m,g⟩:=u9 (k.blk i r);have b:=uY (A.blk i) A.nb;have d:YH A.nb A.nb=A.nb:=YQ _;have:=dX (P:=ZN) w 76 76 f 114 64 (E.bb i) 0 A.nb A.nb (F.bb i) 0 A.nb A.nb 114 cur (gQ (A.blk i) A.nb) underlying76 Tryz.Tu (by rw [b,d];omega) (λj v a=>by
  unfold gQ at a;rw [UD] at a;by_cases c:j<64*A.nb
  . rw [Ww c] at a;rw [Uj,(h.blk i o).cell c];exact a
  . rw [Vm (by rw [Vp];omega)] at a;cases a) m (by rw [b,g,l];omega) (λv e=>by
  unfold gQ at e;obtain ⟨x,_,rfl⟩:=T9.1 e;rfl)
 rw [d] at this;exact this
def MA {B:eQ} {E:aK} (h:ah w p A F) (k:ah w q B E) (i:Nat) (o:i<A.n) (r:i<B.n) (l:B.nb=A.nb) (f:ZO) :
 (Builtin.copy_ #[77,77] f #[Z5 (ZW ⟨E.bd i,0,ZX⟩) A.nb A.nb,Z5 (ZW ⟨F.bd i,0,ZX⟩) A.nb A.nb]).run ZN w=.ok (goInt A.nb) (w.setCells (E.bd i) 0 (gS (A.bad i) A.nb)):=by
 obtain ⟨cur,m,g⟩:=u9 (k.bad i r);have b:=uZ (A.bad i) A.nb;have d:YH A.nb A.nb=A.nb:=YQ _;have:=dX (P:=ZN) w 77 77 f 4 1 (E.bd i) 0 A.nb A.nb (F.bd i) 0 A.nb A.nb 4 cur (gS (A.bad i) A.nb) underlying77 Tryz.Td (by rw [b,d];omega) (λj v a=>by
  unfold gS at a;rw [UD] at a;by_cases c:j<A.nb
  . rw [Ww c] at a;rw [Uj,(h.bad i o).cell c];exact a
  . rw [Vm (by rw [Vp];omega)] at a;cases a) m (by rw [b,g,l];omega) (λv e=>by
  unfold gS at e;obtain ⟨x,_,rfl⟩:=T9.1 e;rfl)
 rw [d] at this;exact this
structure MC (w:ZT) (p c:Nat) (A B:eQ) (F E:aK):Prop where
 a:ah w p A F
 b:ah w c B E
 n:B.n=A.n
 nb:B.nb=A.nb
 ap:∀ k,F.S k->¬ E.S k
def MC.facts {A B:eQ} {F E:aK} (h:MC w p c A B F E) (i:Nat) (o:i<A.n) :
 (w.cell? ⟨p,0,ZX⟩=ZW (Z5 (ZW ⟨F.g,0,ZX⟩) A.n F.cap)/\w.cell? ⟨c,0,ZX⟩=ZW (Z5 (ZW ⟨E.g,0,ZX⟩) A.n E.cap))/\(p≠E.g/\c≠E.g/\F.g≠E.g)/\(p≠E.bb i/\c≠E.bb i/\F.g≠E.bb i/\E.g≠E.bb i)/\(p≠E.bd i/\c≠E.bd i/\F.g≠E.bd i/\E.g≠E.bd i):=by
 obtain ⟨c0,_⟩:=h.a.RQ;obtain ⟨c1,_⟩:=h.b.RQ;rw [h.n] at c1;have d:i<B.n:=by rw [h.n];exact o
 have a:=(h.b.apart.2.1 i d);have j:=h.a.sp;have f:=h.a.sg;have k:=h.b.sb d;have l:=h.b.sd d;have m:=h.b.sg;exact ⟨⟨c0,c1⟩,⟨λe=>h.ap _ j (e▸m),h.b.apart.1,λe=>h.ap _ f (e▸m)⟩,⟨λe=>h.ap _ j (e▸k),Vn a.1,λe=>h.ap _ f (e▸k),Vn a.2.1⟩,⟨λe=>h.ap _ j (e▸l),Vn a.2.2.1,λe=>h.ap _ f (e▸l),Vn a.2.2.2⟩⟩
def CpR (w:ZT) (c:Nat) (A:eQ) (E:aK) (i:ZS) (wr:ZT):Prop:=∃ k:Nat,k<=A.n/\i=Z7 Z9 (k:Nat)/\bW w wr/\ah wr c (jY A k) E
def aaO (w:ZT) (A:eQ) (e:ZP) (w':ZT):Prop:=∃ E:aK,e=Z3 (Z6 (ZW ⟨w.heap.size,0,ZX⟩))/\bW w w'/\ah w' w.heap.size (jY A A.n) E/\∀ k,E.S k->w.heap.size<=k
theorem Dv {A:eQ} {F:aK} (h:ah w p A F) (W:0<A.n) :
 ZQ ZN 36 #[Z6 (ZW ⟨p,0,ZX⟩)] w (aaO w A):=by
 have U:=h.n;have ka:=h.nb;have l:=aE h U ka;clear h;go_enter func36,ntmps36;have r:=l.o.1.RQ.1;have k7:=iN (l.o.1.keep (Y:=w.drew) λ_ _=>rfl) W;have kb:=kL A.n A.nb w.drew W U ka;go_upto_region 1 with fail;go_cut [3] from 5 to 72 (λv3 wx=>v3=Z6 (ZW ⟨w.heap.size,0,ZX⟩)/\Lo A.n A.nb w.drew (Z3 (Z6 (ZW ⟨w.heap.size,0,ZX⟩))) wx)
 case first=>
  go_region_with (first|(go_at_call 38;refine k7.mono ?_;rintro e wz ⟨rfl,rfl⟩)|(go_at_call 8;refine kb.mono ?_;rintro e wz R;obtain ⟨rfl,_⟩:=id R;have HZ:=ak R;clear R));all_goals (go_wp2_with fail;go_meet;case rel=>exact ⟨rfl,HZ.o⟩)
 case rest=>
 obtain ⟨rfl,ki,k5,E,y,D⟩:=hcut;clear ki k7 kb r;change ah _ w.heap.size (pN A.n A.nb) E at y;change ∀ k,E.S k->w.heap.size<=k at D;have J:bW w wc:=((TW _ w).drew).trans k5;have X:ah wc p A F:=l.o.1.below J lR;have q0:=X.RQ.1;have Z:∀ k,F.S k->k<w.heap.size:=λk V=>l.o.1.RN V;obtain ⟨c,C⟩:=nM (w.heap.size);rw [<- Jm] at y;rw [C] at y D;have f:=a6 y D J Z C;rw [C];clear y D k5 J X Z C;go_wp2_with fail;go_loopw [18] (λi wr=>CpR w c A E i wr) (λi _=>A.n-(intOf i).toNat)
 case atStart=>exact ⟨0,T8 _,rfl,f.o.2.2.1,f.o.1⟩
 case round=>
  obtain ⟨k,V,rfl,z,G⟩:=hrel;by_cases d:k<A.n
  . have kj:(k:Int)<(A.n:Int):=ec;have u:MC wr p c A (jY A k) F E:=⟨l.o.1.below z lR,G,rfl,rfl,λj h1 h2=>by have:=f.o.2.2.2.1 j h1;have:=f.o.2.1 j h2;have:=f.o.2.2.2.2;omega⟩;obtain ⟨⟨r,B⟩,_,_,_⟩:=u.facts k d;have l0:=(u.a.R3 k d).1;have m0:=(u.b.R3 k d).1;have f0:=u.b.Sa (k*4);have x:=al u z;clear z G u;go_wp2_with fail;go_region;clear r B l0 m0 f0;have t:ah (wr.setCell ⟨E.g,k*4,ZX⟩ (Z1 (A.lost k))).drew c ({ jY A k with lost:=λi=>if i=k then A.lost k else (jY A k).lost i }:eQ) E:=(x.o.1.b.S5 k (A.lost k)).keep λ_ _=>rfl;have N:aa (λj=>j=E.g) wr (wr.setCell ⟨E.g,k*4,ZX⟩ (Z1 (A.lost k))).drew:=(aa.setCell (S:=λj=>j=E.g) wr ⟨E.g,k*4,ZX⟩ _ rfl).trans (aa.drew _);obtain ⟨w2,kc⟩:=nM ((wr.setCell ⟨E.g,k*4,ZX⟩ (Z1 (A.lost k))).drew);rw [kc] at t N ⊢;have H:∀ j,E.S j->w.heap.size<=j:=λj s=>by have:=f.o.2.1 j s;have:=f.o.2.2.2.2;omega
    have kg:=H _ t.sg;have k8:=H _ (t.sb d);have k9:=H _ (t.sd d);have P:bW w w2:=x.o.2.trans (N.below λj s=>⟨T7 s x.o.2.size,λe=>ec⟩);have m:MC w2 p c A ({ jY A k with lost:=λi=>if i=k then A.lost k else (jY A k).lost i }:eQ) F E:=⟨l.o.1.below P lR,t,rfl,rfl,x.o.1.ap⟩;have K:=Mz (m.a.keep (Y:=w2.drew) λ_ _=>rfl) (m.b.keep (Y:=w2.drew) λ_ _=>rfl) k d d rfl;obtain ⟨⟨r,B⟩,_,_,_⟩:=m.facts k d;have l1:=(m.a.R3 k d).2.1;have m1:w2.cell? ⟨E.g,k*4+1,ZX⟩=ZW (Z5 (ZW ⟨E.bb k,0,ZX⟩) A.nb A.nb):=(m.b.R3 k d).2.1;have v:=a5 m P k8 k9;clear t N kc H kg k8 k9 P m;go_wp2_with fail;go_region;clear r B l1 m1 K;have L:ah (w2.drew.setCells (E.bb k) 0 (gQ (A.blk k) A.nb)) c (({ jY A k with lost:=λi=>if i=k then A.lost k else (jY A k).lost i }:eQ).RT k (A.blk k)) E:=(v.o.1.b.keep (Y:=w2.drew) λ_ _=>rfl).setBlks k d (A.blk k) (l.o.1.len k);have hr:aa (λj=>j=E.bb k) w2 (w2.drew.setCells (E.bb k) 0 (gQ (A.blk k) A.nb)):=(aa.drew w2).trans (aa.setCells _ _ _ _ rfl);obtain ⟨w3,ke⟩:=nM (w2.drew.setCells (E.bb k) 0 (gQ (A.blk k) A.nb));rw [ke] at L hr ⊢;have Q:bW w w3:=v.o.2.1.trans (hr.below λj s=>⟨T7 s v.o.2.1.size,λe=>e9 v.o.2.2.1⟩);have q:MC w3 p c A (({ jY A k with lost:=λi=>if i=k then A.lost k else (jY A k).lost i }:eQ).RT k (A.blk k)) F E:=⟨l.o.1.below Q lR,L,rfl,rfl,x.o.1.ap⟩;have K:=MA (q.a.keep (Y:=w3.drew) λ_ _=>rfl) (q.b.keep (Y:=w3.drew) λ_ _=>rfl) k d d rfl;obtain ⟨⟨r,B⟩,_,_,_⟩:=q.facts k d;have l2:=(q.a.R3 k d).2.2.1;have m2:w3.cell? ⟨E.g,k*4+2,ZX⟩=ZW (Z5 (ZW ⟨E.bd k,0,ZX⟩) A.nb A.nb):=(q.b.R3 k d).2.2.1;have I:=al q Q;clear L hr ke Q q;go_wp2_with fail;go_region;clear r B l2 m2 K;have M:ah (w3.drew.setCells (E.bd k) 0 (gS (A.bad k) A.nb)) c (jY A (k+1)) E:=by
     have:=(I.o.1.b.keep (Y:=w3.drew) λ_ _=>rfl).setBads k d (A.bad k);rw [Jn] at this;exact this
    have O:aa (λj=>j=E.bd k) w3 (w3.drew.setCells (E.bd k) 0 (gS (A.bad k) A.nb)):=(aa.drew w3).trans (aa.setCells _ _ _ _ rfl);obtain ⟨w4,kf⟩:=nM (w3.drew.setCells (E.bd k) 0 (gS (A.bad k) A.nb));rw [kf] at M O ⊢;have k6:bW w w4:=I.o.2.trans (O.below λj s=>⟨T7 s I.o.2.size,λe=>e9 v.o.2.2.2⟩);have T:CpR w c A E (Z7 Z9 ((k:Int)+1)) w4:=⟨k+1,ec,rfl,k6,M⟩;have H4:=ak T;clear M O kf k6 T;go_wp2;exact ⟨H4.o,l7⟩
  . have kh:k=A.n:=ec;subst kh;have HK:=al z G;clear z G;go_wp2;go_ret;have e:=f.o.2.2.2.2;subst e;exact ⟨E,rfl,HK.o.1,HK.o.2,f.o.2.1⟩
def aa9 (w:ZT) (A:az) (e:ZP) (w':ZT):Prop:=∃ E:aK,e=Z3 (Z6 (ZW ⟨w.heap.size,0,ZX⟩))/\bW w w'/\aA w' w.heap.size A E/\∀ k,E.S k->w.heap.size<=k
def Dw {A:az} {F:aK} (h:aA w p A F) (g:0<A.n) :
 ZQ ZN 36 #[Z6 (ZW ⟨p,0,ZX⟩)] w (aa9 w A):=by
 obtain ⟨R,f,a⟩:=h;refine (Dv f (by rw [a.n];exact g)).mono ?_;rintro e w' ⟨E,j,k,l,m⟩;refine ⟨E,j,k,⟨_,l,a.n,a.nb,λi c=>?_,λi b c d=>?_,λi b c d=>?_⟩,m⟩
 . show (if i<R.n then R.lost i else ZU)=A.lost i;rw [a.n,TT c,a.lost i c]
 . rw [<- a.rd i b c d];unfold eQ.rd jY;rw [a.n];simp only [TT c]
 . have q:=a.tn i b c d;unfold jY;rw [a.n];simpa only [TT c] using q
end
def aK.renew (F F1:aK) (n d p:Nat):aK:=⟨F.g,F.cap,λi=>if i=d then F1.bb 0 else F.bb i,λi=>if i=d then F1.bd 0 else F.bd i,λk=>k=p\/k=F.g\/∃ i,i<n/\(k=(if i=d then F1.bb 0 else F.bb i)\/k=(if i=d then F1.bd 0 else F.bd i))⟩
def eQ.renew (R:eQ) (d:Nat):eQ:={ R with lost:=λi=>if i=d then ZU else R.lost i,bad:=λi=>if i=d then λ_=>ZU else R.bad i,blk:=λi=>if i=d then λ_=>zb else R.blk i }
def AJ (F1:aK) (nb:Nat) (r:Int):List ZS:=[Z1 ZU,Z5 (ZW ⟨F1.bb 0,0,ZX⟩) nb nb,Z5 (ZW ⟨F1.bd 0,0,ZX⟩) nb nb,Z7 Z9 r]
def mx {b:Nat} {cs:Array ZS} {T:ZO} {z:Nat×Nat} (h:X.heap[b]?=ZW (Z4 cs T z)) (v:ZS):(X.setCell ⟨b,k,ZX⟩ v).heap[b]?=ZW (Z4 (cs.setIfInBounds k v) T z):=by simp [World.setCell,Vy,h]
theorem ah.renew {R:eQ} {F F1:aK} {r:Int} (h:ah X p R F) (f:ah X q (pN 1 R.nb) F1) (o:∀ k,F1.S k->¬ F.S k) (K:d<R.n):ah (X.setCells F.g (d*4) (AJ F1 R.nb r)) p (R.renew d) (F.renew F1 R.n d p):=by
 obtain ⟨B,y,J⟩:=h.apart;have m:∀ j,j≠F.g->(X.setCells F.g (d*4) (AJ F1 R.nb r)).heap[j]?=X.heap[j]?:=λj l=>aQ _ _ _ _ _ l;obtain ⟨cs,c1,C⟩:=h.drv;have z:F1.S (F1.bb 0):=f.sb (ee:0<1);have A:F1.S (F1.bd 0):=f.sd (ee:0<1);have s:∀ i,i<R.n->F1.bb 0≠F.bb i/\F1.bd 0≠F.bd i:=λi a=>⟨λe=>o _ z (e▸h.sb a),λe=>o _ A (e▸h.sd a)⟩;refine ⟨(m _ B).trans h.top,⟨_,mx (mx (mx (mx c1 _) _) _) _,λi a=>?_⟩,λi a=>?_,λi a=>?_,λi j a l=>?_,λk=>Yl,h.n,h.nb,λi j=>?_⟩
 . obtain ⟨D,E,G,I,H⟩:=C i a;have t:=bE (bE (bE (bE D (Z1 ZU) (k:=d*4)) (Z5 (ZW ⟨F1.bb 0,0,ZX⟩) R.nb R.nb) (k:=d*4+1)) (Z5 (ZW ⟨F1.bd 0,0,ZX⟩) R.nb R.nb) (k:=d*4+1+1)) (Z7 Z9 r) (k:=d*4+1+1+1);have u:=bE (bE (bE (bE E (Z1 ZU) (k:=d*4)) (Z5 (ZW ⟨F1.bb 0,0,ZX⟩) R.nb R.nb) (k:=d*4+1)) (Z5 (ZW ⟨F1.bd 0,0,ZX⟩) R.nb R.nb) (k:=d*4+1+1)) (Z7 Z9 r) (k:=d*4+1+1+1);have v:=bE (bE (bE (bE G (Z1 ZU) (k:=d*4)) (Z5 (ZW ⟨F1.bb 0,0,ZX⟩) R.nb R.nb) (k:=d*4+1)) (Z5 (ZW ⟨F1.bd 0,0,ZX⟩) R.nb R.nb) (k:=d*4+1+1)) (Z7 Z9 r) (k:=d*4+1+1+1);have w:=bE (bE (bE (bE H (Z1 ZU) (k:=d*4)) (Z5 (ZW ⟨F1.bb 0,0,ZX⟩) R.nb R.nb) (k:=d*4+1)) (Z5 (ZW ⟨F1.bd 0,0,ZX⟩) R.nb R.nb) (k:=d*4+1+1)) (Z7 Z9 r) (k:=d*4+1+1+1);by_cases e:i=d
   . subst e;rw [TS ec,TS ec,TS ec,TT rfl] at t;rw [TS ec,TS ec,TT rfl] at u;rw [TS ec,TT ec] at v;rw [TT ec] at w;exact ⟨t.trans (by simp [eQ.renew]),u.trans (by simp [eQ.renew,aK.renew]),v.trans (by simp [eQ.renew,aK.renew]),r,w⟩
   . rw [TS ec,TS ec,TS ec,TS ec] at t;rw [TS ec,TS ec,TS ec,TS ec] at u;rw [TS ec,TS ec,TS ec,TS ec] at v;rw [TS ec,TS ec,TS ec,TS ec] at w;exact ⟨t.trans (by simp [eQ.renew,e]),u.trans (by simp [eQ.renew,aK.renew,e]),v.trans (by simp [eQ.renew,aK.renew,e]),I,w⟩
 . show World.rowIs _ (if i=d then F1.bb 0 else F.bb i) _ _ (NU (if i=d then λ_=>zb else R.blk i));by_cases e:i=d
   . rw [TT e,TT e];exact (f.blk 0 (ee:0<1)).of_block (m _ λq=>o _ z (q▸h.sg))
   . rw [TS e,TS e];exact (h.blk i a).of_block (m _ (y i a).2.1)
 . show World.rowIs _ (if i=d then F1.bd 0 else F.bd i) _ _ (λj=>Z1 ((if i=d then λ_=>ZU else R.bad i) j));by_cases e:i=d
   . rw [TT e,TT e];exact (f.bad 0 (ee:0<1)).of_block (m _ λq=>o _ A (q▸h.sg))
   . rw [TS e,TS e];exact (h.bad i a).of_block (m _ (y i a).2.2.2)
 . show ((if i=d then F1.bb 0 else F.bb i)=(if j=d then F1.bb 0 else F.bb j)->i=j)/\((if i=d then F1.bd 0 else F.bd i)=(if j=d then F1.bd 0 else F.bd j)->i=j);by_cases c:i=d
   . by_cases b:j=d
     . exact ⟨λ_=>c.trans b.symm,λ_=>c.trans b.symm⟩
     . rw [TT c,TS b,TT c,TS b];exact ⟨λq=>absurd q (s j l).1,λq=>absurd q (s j l).2⟩
   . by_cases b:j=d
     . rw [TS c,TT b,TS c,TT b];exact ⟨λq=>absurd q.symm (s i a).1,λq=>absurd q.symm (s i a).2⟩
     . rw [TS c,TS b,TS c,TS b];exact h.inj i j a l
 . show ((if i=d then λ_=>zb else R.blk i) j).length=64/\∀ x∈(if i=d then λ_=>zb else R.blk i) j,x<256;split
   . exact f.len 0 0
   . exact h.len i j
def jc.renew {R:eQ} {A:az} (h:jc R A) (d:Nat):jc (R.renew d) (A.renew d):=by
 refine ⟨h.n,h.nb,λi c=>?_,λi b c hl=>?_,λi b c hl=>?_⟩
 . show (if i=d then ZU else R.lost i)=if i=d then ZU else A.lost i;rw [h.lost i c]
 . have a:(if i=d then ZU else A.lost i)=ZU:=hl;show (if (if i=d then λ_=>ZU else R.bad i) b=ZV then ZX else JW ((if i=d then λ_=>zb else R.blk i) b))=if (if i=d then ZU else A.bad i b)=ZV then ZX else ZW (if (if i=d then ZV else A.bl i b)=ZV then .blank else A.rc i b);by_cases e:i=d
   . simp only [TT e];exact zx (r:=.blank) trivial
   . simp only [TS e] at a ⊢;exact h.rd i b c a
 . have a:(if i=d then ZU else A.lost i)=ZU:=hl;show (if i=d then ZU else A.bad i b)=ZV->A.tn i b=ZU->(if i=d then λ_=>ZU else R.bad i) b=ZV;by_cases e:i=d
   . simp only [TT e];exact λq=>absurd q ee
   . simp only [TS e] at a ⊢;exact h.tn i b c a
def infoDrive:(ZN.info? 79).map (·.size)=ZW 4:=ei
theorem yS {A:az} {F:aK} {M:List (Nat×Nat)} (hR:pP w p A F M) (d:Nat) (z:d<A.n):ZQ ZN 18 #[Z6 (ZW ⟨p,0,ZX⟩),Z7 Z9 d] w λe w'=>e=Z3 (ZY #[])/\aa F.S w w'/\∃ B,pP w' p (A.renew d) B M/\∀ k,B.S k->F.S k\/w.heap.size<=k:=by
 obtain ⟨⟨R,h,s⟩,t⟩:=hR;rw [<- s.n] at z;obtain ⟨c0,c1⟩:=h.RQ;have hn:=h.n;have e2:(0:Int)<=(d:Int):=ec
 have e3:(d:Int)<(R.n:Int):=ec
 have N:=kL 1 R.nb w.drew ee ee h.nb;have I:=iN (h.keep (Y:=w.drew) λ_ _=>rfl) ec;have H:=a6 h s t N I;clear h s t N I;go_enter func18,ntmps18;go_wp2_with fail;refine dr 14 [(0,ZV),(1,ZV),(2,ZV),(3,ZV),(4,ZV),(5,ZV),(6,ZU),(7,ZU),(8,ZV),(9,ZV),(10,ZU),(11,ZV),(12,ZU),(13,ZV),(14,ZU)] (λw'=>w'.cell? ⟨p,0,ZX⟩=ZW (Z5 (ZW ⟨F.g,0,ZX⟩) R.n F.cap)) ei ei c0 ?_;iterate 6 (refine aF rfl rfl ?_;apply YG;refine ⟨λw' y=>?_,?_⟩;(first|(go_simp;done)|(go_simp;exact rfl));simp only [Act.put,TZ,TY,T5])
 refine fG H.o.2.2.2.2 rfl rfl ua ?_;rintro e w1 ⟨rfl,rfl⟩;refine ⟨_,rfl,λ_=>c0,?_⟩;simp only [Act.put,TZ,TY,T5];refine fG H.o.2.2.2.1 rfl rfl ua ?_;rintro e w1 ⟨rfl,m,b,f,u⟩;have hj:p<w.drew.heap.size:=H.o.1.RN H.o.1.sp;have j:w1.cell? ⟨p,0,ZX⟩=ZW (Z5 (ZW ⟨F.g,0,ZX⟩) R.n F.cap):=(m.cell (p:=⟨p,0,ZX⟩) hj).trans c0;refine ⟨_,rfl,λ_=>j,?_⟩;simp only [Act.put,TZ,TY,T5];obtain ⟨n0,_⟩:=f.RQ;obtain ⟨C,d1,D,r,E⟩:=f.R3 0 (ee:0<1);have O:w1.rangeAt b.g 0 (AJ b R.nb r):=by
  intro k v a;unfold AJ at a;match k,a with
  | 0,a=>simp at a;subst a;exact C
  | 1,a=>simp at a;subst a;exact d1
  | 2,a=>simp at a;subst a;exact D
  | 3,a=>simp at a;subst a;exact E
  | k+4,a=>simp at a
 have l:ah w1 p R F:=H.o.1.keep λk c=>m.block k (H.o.1.RN c);have T:w1.there F.g (d*4) 4:=λk c=>by
  obtain ⟨X,Z,g2,r',g3⟩:=l.R3 d z;refine ⟨?_,l.Sa _⟩;match k,c with
  | 0,_=>exact X▸rfl
  | 1,_=>exact Z▸rfl
  | 2,_=>exact g2▸rfl
  | 3,_=>exact g3▸rfl
 have G:(AJ b R.nb r).toArray.size=4:=rfl;have Q:=ab0 (P:=ZN) w1 F.g (d*4) 79 (AJ b R.nb r).toArray (by rw [G];exact T) infoDrive (by unfold AJ;simp [Value.oneCell']);have L:=abv (P:=ZN) w1 b.g 0 79 (AJ b R.nb r) _ O underlying79 rfl infoDrive;have V:=a5 f l u m;have hb:w1.cell? ⟨w.heap.size,0,ZX⟩=ZW (Z5 (ZW ⟨b.g,0,ZX⟩) 1 b.cap):=n0;obtain ⟨W,J⟩:=nM ((AJ b R.nb r).toArray);rw [J] at Q L G;clear f l u m C d1 D E n0 T O;iterate 2 (refine aF rfl rfl ?_;apply YG;refine ⟨λw' y=>?_,?_⟩;(first|(go_simp;done)|(go_simp;exact rfl));simp only [Act.put,TZ,TY,T5])
 refine eJ (w1:=w1) (v:=Z5 (ZW ⟨b.g,0,ZX⟩) 1 b.cap) rfl rfl ua (λ_=>j) ?_;simp only [Act.put,TZ,TY,T5];iterate 1 (refine aF rfl rfl ?_;apply YG;refine ⟨λw' y=>?_,?_⟩;(first|(go_simp;done)|(go_simp;exact rfl));simp only [Act.put,TZ,TY,T5])
 refine eJ (w1:=w1) (v:=.agg W) rfl rfl (by simp [execOp,Act.eval,L]) (λ_=>j) ?_;simp only [Act.put,TZ,TY,T5];iterate 1 (refine aF rfl rfl ?_;apply YG;refine ⟨λw' y=>?_,?_⟩;(first|(go_simp;done)|(go_simp;exact rfl));simp only [Act.put,TZ,TY,T5])
 refine te rfl rfl λK hK=>?_;simp [Oper.wp,execOp,Act.eval,Q];refine hK _ _ (absurd rfl) (cH ?_);clear hK;go_end0
 obtain ⟨f,l,u,m⟩:=V.o;obtain ⟨h,s,t,_,_⟩:=H.o;have hh:∀ k,F.S k->k<w.heap.size:=λk c=>h.RN c;have x:∀ k,b.S k->w.heap.size<=k:=u;rw [<- J];refine ⟨rfl,((aa.drew w).trans (aa.RL m _)).trans (aa.setCells _ _ _ _ h.sg),F.renew b R.n d p,⟨⟨_,l.renew (r:=r) f (λk c q=>by have:=hh k q;have:=x k c;omega) z,s.renew d⟩,t⟩,λk c=>?_⟩;rcases c with q|q|⟨i,U,q|q⟩
 . exact .inl (q▸h.sp)
 . exact .inl (q▸h.sg)
 . by_cases e:i=d
   . rw [TT e] at q;exact .inr (q▸x _ (f.sb (ee:0<1)))
   . rw [TS e] at q;exact .inl (q▸h.sb U)
 . by_cases e:i=d
   . rw [TT e] at q;exact .inr (q▸x _ (f.sd (ee:0<1)))
   . rw [TS e] at q;exact .inl (q▸h.sd U)
