import Derived.Test.YthibhmemkhmocaaGreatDoorM05
import Derived.Lib.UnsafeStr
import Derived.RangeFuncRecord
import Derived.Laws.CopyRow
import Derived.Laws.IdiomStrings
set_option maxRecDepth 100000
set_option linter.all false
set_option maxHeartbeats 8000000
open Go.IntKind renaming i64 -> Z9, u64 -> Z8
open Go.Value renaming int -> Z7, pointer -> Z6, slice -> Z5, bool -> Z2, string -> Z0, tuple -> ZZ
open Go.Obj renaming cells -> Z4
open Go.Ending renaming returned -> Z3
open Go.Operand renaming tmp -> Z1
open Option renaming none -> ZY, some -> ZX
open Bool renaming true -> ZW, false -> ZV
open Go renaming World -> ZU, Value -> ZT, Calls -> ZS, Ending -> ZR, TypeId -> ZQ, Boxed -> ZP
open ByteArray renaming empty -> YF
open Exists renaming intro -> YG
open Go.Proofs.YthibhmemkhmocaaGreatDoor renaming pgs -> YH
open List renaming range -> YI, length -> YJ, replicate -> YR, mem_eraseIdx_iff_getElem -> YT
open Int.ofNat renaming inj -> YK
open List.Nodup renaming sublist -> YL
open UInt8 renaming ofNat -> YM
open Nat renaming le_of_lt_succ -> YN, le_max_left -> YQ
open List.Sublist renaming append -> YO, refl -> YP
open Array renaming getElem?_setIfInBounds_self_of_lt -> YS
open Go.Proofs.Tryz renaming prog -> ZO
open Go.Proofs.Tryz
namespace Go.Proofs.YthibhmemkhmocaaGreatDoor
def XQ:=@Nat.div_le_div_right
def Yq:=@Go.Lib.size_eq
def abK:=@Nat.div_le_div_left
def acf:=@Nat.le_max_right
def acg:=@Nat.le_div_iff_mul_le
def ach:=@Go.Proofs.Tryz.underlying221
def Yr:=@Go.Proofs.Tryz.underlying262
def aci:=@Go.Proofs.Tryz.underlying215
end Go.Proofs.YthibhmemkhmocaaGreatDoor
namespace Go.Proofs.YthibhmemkhmocaaGreatDoor
open Go.RowKit Go.Deep Gf Go.Shelf
variable {a:Act} {ops:Array Oper} {C:Ck} {Q:Exit->Act->ZU->Prop} {E F:aH} {lost regs room:Int} {O:List (Int×Nat×Nat×a8)} {Dl:List a8} {es:List (Nat×Nat×Nat)} {l P P' ns:a8} {rest:List Oper} {k D L G c B b x t m n base g cap N ar p ps ho c1 sb gone sp s l1 bl q:Nat} {ol nw:Nat->Nat} {S K K' T:Nat->Prop} {f sv:Nat->ZT} {o:Ob} {ao:Option Addr} {A:eB} {r:bz} {α:Type} {v u pg ob vp ne:ZT} {w w' w2 w3 wx w1:ZU}
theorem Df (k:FuncId) (first cap:Array ZT) (p:∀ (args:Array ZT) (w:ZU),(callFunc k args).run ZO w=.ok (.enter k args) w) (w:ZU) (R:ZU->ZT->ZU->Prop)
 (h:∀ w1,bW w w1->w1.heap.size=w.heap.size+1->w1.heap[w.heap.size]?=ZX (Z4 #[.nilIface] 64 (0,0))->ZS ZO k (first++cap) w1 λe w2=>∃ v,e=Z3 v/\isErr v/\R w1 v w2/\w2.heap[w.heap.size]?=w1.heap[w.heap.size]?) :
 ZS ZO 75 #[.func (.func k) first cap] w λe w'=>∃ v w1 w2,e=Z3 v/\isErr v/\bW w w1/\w1.heap.size=w.heap.size+1/\R w1 v w2/\w'=w2.setCell ⟨w.heap.size,0,ZY⟩ v:=by
 have j:=h (w.alloc (Z4 #[.nilIface] 64)) (bA w _) (by simp) (UN w _);have d:(w.alloc (Z4 #[.nilIface] 64)).heap[w.heap.size]?=ZX (Z4 #[.nilIface] 64 (0,0)):=Uk _ _;go_enter_defers func75,ntmps75
 go_wp2_with fail;refine j.mono ?_;clear j;rintro e w2 ⟨v,rfl,l,i,g⟩;have a:w2.heap[w.heap.size]?=ZX (Z4 #[.nilIface] 64 (0,0)):=g.trans d;have m:w2.cell? ⟨w.heap.size,0,ZY⟩=ZX .nilIface:=by simp [World.cell?,a]
 have n:w2.frozen? ⟨w.heap.size,0,ZY⟩=ZV:=by simp [World.frozen?,a]
 have c:(w2.setCell ⟨w.heap.size,0,ZY⟩ v).cell? ⟨w.heap.size,0,ZY⟩=ZX v:=by simp [World.cell?,World.setCell,Vw,a]
 have H:=al i l;clear i g a d h;rcases l with rfl|⟨t,u,rfl⟩
 . go_wp2;refine leaves_cons (f:=106) (args:=#[Z6 (ZX ⟨w.heap.size,0,ZY⟩)]) (by simp) (by simp [go_sem]) ?_;refine (tS ⟨w.heap.size,0,ZY⟩ _).mono ?_;rintro e u' b ⟨rfl,rfl,rfl⟩;refine ⟨.nilIface,by simp [results,results75,go_sem,c],_,_,w2,rfl,.inl rfl,(T6 _ w).alloc lR (Z4 #[.nilIface] 64),by simp,H.o.1,rfl⟩
 . go_wp2;refine leaves_cons (f:=106) (args:=#[Z6 (ZX ⟨w.heap.size,0,ZY⟩)]) (by simp) (by simp [go_sem]) ?_;refine (tS ⟨w.heap.size,0,ZY⟩ _).mono ?_;rintro e u' b ⟨rfl,rfl,rfl⟩;refine ⟨.iface t u,by simp [results,results75,go_sem,c],_,_,w2,rfl,.inr ⟨t,u,rfl⟩,(T6 _ w).alloc lR (Z4 #[.nilIface] 64),by simp,H.o.1,rfl⟩
theorem lY (k:FuncId) (first cap:Array ZT) (E:∀ (args:Array ZT) (w:ZU),(callFunc k args).run ZO w=.ok (.enter k args) w) (w:ZU) (a:Nat) (cs:Array ZT) (q:w.heap[a]?=ZX (Z4 cs 146 (0,0))) (D:cs[9]?=ZX (Z2 ZV)) (R:ZU->ZT->ZU->Prop)
 (t:∀ w1,bW w w1->w1.heap.size=w.heap.size+1->w1.heap[w.heap.size]?=ZX (Z4 #[.nilIface] 64 (0,0))->ZS ZO k (first++cap) w1 λe w2=>∃ v,e=Z3 v/\m3 v/\R w1 v w2/\w2.heap[w.heap.size]?=w1.heap[w.heap.size]?/\∃ cs',w2.heap[a]?=ZX (Z4 cs' 146 (0,0))/\cs'[9]?=ZX (Z2 ZV)) :
 ZS ZO 52 #[Z6 (ZX ⟨a,0,ZY⟩),.func (.func k) first cap] w λe w'=>∃ v w1 w2,e=Z3 v/\m3 v/\bW w w1/\w1.heap.size=w.heap.size+1/\R w1 v w2/\w'=(w2.setCell ⟨w.heap.size,0,ZY⟩ v).setCell ⟨a,9,ZY⟩ (Z2 ZV):=by
 have K:a<w.heap.size:=(T5.1 q).1;have G:w.cell? ⟨a,9,ZY⟩=ZX (Z2 ZV):=by simp [World.cell?,q,D]
 have m:=Df k first cap E w (λw1 v w2=>m3 v/\R w1 v w2/\∃ cs',w2.heap[a]?=ZX (Z4 cs' 146 (0,0))/\cs'[9]?=ZX (Z2 ZV)) (λw1 y z c=>(t w1 y z c).mono (by
  rintro e w2 ⟨v,rfl,c,A,B,C⟩;exact ⟨v,rfl,c.isErr,⟨c,A,C⟩,B⟩))
 go_enter func52,ntmps52;go_wp2_with fail;refine m.mono ?_;rintro e w3 ⟨v,w1,w2,rfl,_,s,x,⟨u,p,cs',r,l⟩,rfl⟩;have b:(w2.setCell ⟨w.heap.size,0,ZY⟩ v).heap[a]?=ZX (Z4 cs' 146 (0,0)):=(Uj _ _ _ _ (by show a≠w.heap.size;omega)).trans r;obtain ⟨w3,d⟩:=nM (w2.setCell ⟨w.heap.size,0,ZY⟩ v);rw [d] at b ⊢;have I:w3.cell? ⟨a,9,ZY⟩=ZX (Z2 ZV):=by simp [World.cell?,b,l]
 have J:w3.frozen? ⟨a,9,ZY⟩=ZV:=by simp [World.frozen?,b]
 have H:=a6 s x p u d;clear s x p m t b l r d;rcases u with rfl|⟨n,F,rfl⟩
 . go_wp2_with fail;refine (zO 13 w3).mono ?_;rintro e w' ⟨rfl,rfl⟩;go_wp2;go_ret;obtain ⟨f,g,h,i,j⟩:=H.o;exact ⟨.nilIface,w1,w2,rfl,i,f,g,h,by rw [j]⟩
 . go_wp2_with fail;refine (Lj n F w3).mono ?_;rintro e w' ⟨rfl,rfl⟩;go_wp2;go_ret;obtain ⟨f,g,h,i,j⟩:=H.o;exact ⟨.iface 66 (Z7 Z9 n),w1,w2,rfl,i,f,g,h,by rw [j]⟩
def dL (D:Nat) (d:a8) (k:Nat):a8:=(d.drop (k*(D*44))).take (D*44)
def oP (h:k<l.length):l.getD k 0=l[k]:=by rw [Ub,Ue h];rfl
def lZ (h:k<l.length):l.getD k 0∈l:=by rw [oP h];exact T8 h
def aC.at (A:aC) (b:Nat) (f:Nat->bz):Prop:=∀ i,i<A.n->A.rc i b=f i
def aC.holds (A:aC) (D L G:Nat) (S:a8) (c:Nat->a8):Prop:=∀ k,k<S.length->A.at (S.getD k 0) (shF D L G (c k))
def jQ (A:aC) (ds:a8) {b m:Nat} (f:Nat->bz) (i:Nat) (h:m≠b):(A.putAt ds b f).rc i m=A.rc i m:=TW λq=>h q.1
def uJ (A:aC) (b:Nat) (f:Nat->bz) {i n:Nat} (h:i<n):(A.putAt (YI n) b f).rc i b=f i:=TX ⟨rfl,UA.2 h⟩
def oQ {A:aC} {S:a8} {c:Nat->a8} (i:Nat) {m:Nat} (h:m∉S):∀ k,k<=S.length->(A.wrTo D L G S c k).rc i m=A.rc i m
 | 0,_=>rfl
 | k+1,hk=>(jQ _ _ (b:=S.getD k 0) _ _ (λe:m=S.getD k 0=>h (e▸lZ hk))).trans (oQ i h k (by omega))
def GW {A:aC} {S:a8} {c:Nat->a8} (b:S.Nodup) {i:Nat} (a:i<A.n):∀ k j,j<k->k<=S.length->(A.wrTo D L G S c k).rc i (S.getD j 0)=shF D L G (c j) i
 | 0,_,hj,_=>by omega
 | k+1,j,hj,hk=>by
  rcases XP (YN hj) with rfl|d
  . exact uJ _ _ _ (by rw [(jy A D L G S c j).1];exact a)
  . refine (jQ _ _ _ _ (λe=>?_)).trans (GW b a k j d (by omega));rw [oP (by omega),oP (by omega)] at e;have:=(List.getElem_inj b).1 e;omega
def uK {A:aC} {S:a8} (c:Nat->a8) (d:S.Nodup):(A.wrTo D L G S c S.length).holds D L G S c:=λk b i a=>GW d (by rw [(jy A D L G S c _).1] at a;exact a) _ k b lR
def aC.at.off {A B:aC} {f:Nat->bz} (h:A.at b f) (c:B.n=A.n) (d:∀ i,B.rc i b=A.rc i b):B.at b f:=λi a=>(d i).trans (h i (c▸a))
def aC.holds.off {A B:aC} {S:a8} {c:Nat->a8} (h:A.holds D L G S c) (d:B.n=A.n) (e:∀ b∈S,∀ i,B.rc i b=A.rc i b):B.holds D L G S c:=λk a=>(h k a).off d (e _ (lZ a))
abbrev aX:=List (Ob×a8)
def aX.os (xs:aX):List Ob:=xs.map (·.1)
def aX.names (xs:aX):List ByteArray:=aS xs.os
structure jR (D:Nat) (x:Ob×a8):Prop where
 fit:x.1.fit
 st:x.1.RR.length=max 1 ((x.1.size+D*44-1)/(D*44))
 len:x.2.length=x.1.size
 byt:∀ b∈x.2,b<256
def AM {xs:aX} {x:Ob×a8} (a:x∈xs) {b:Nat} (h:b∈x.1.RR):b∈ah xs.os:=Yo.2 ⟨x.1,List.mem_map_of_mem a,h⟩
structure du (A:aC) (D L G t:Nat) (P:a8) (xs:aX):Prop where
 turn:0<t
 root:A.at 0 (λ_=>.root D L G t (P.getD 0 0) (aj xs.os).length)
 fill:A.at 1 (λ_=>.filled)
 pl:P.length=pgs D (aj xs.os).length
 page:A.holds D L G P (cG D P (aj xs.os))
 nod:(P++ah xs.os).Nodup
 TM:∀ x∈P++ah xs.os,2<=x/\x<A.nb
 fits:∀ x∈xs,jR D x
 up:Up xs.names
 held:∀ x∈xs,A.holds D L G x.1.RR (dL D x.2)
 room:(ah xs.os).length+2*P.length+2<=A.nb
def du.off {A B:aC} {xs:aX} (h:du A D L G t P xs) (a:B.n=A.n) (e:B.nb=A.nb) (c:∀ b,(b<2\/b∈P++ah xs.os)->∀ i,B.rc i b=A.rc i b):du B D L G t P xs:=
 ⟨h.turn,h.root.off a (c 0 (.inl (by decide))),h.fill.off a (c 1 (.inl (by decide))),h.pl,h.page.off a λb d=>c b (.inr (UO _ d)),h.nod,e▸h.TM,h.fits,h.up,λx f=>(h.held x f).off a λb d=>c b (.inr (VY _ (AM f d))),e▸h.room⟩
def PU (A:aC) (D L G t:Nat) (P l:a8):(A.TK D L G t P l).n=A.n/\(A.TK D L G t P l).nb=A.nb/\fj A (A.TK D L G t P l):=have h:=jy A D L G P (cG D P l) P.length;⟨h.1,h.2.1,h.2.2.trans (fj.put _ _ _ _)⟩
def qw {B:aC} {xs':aX} (n:B.at 1 (λ_=>.filled))
 (o:P'.length=pgs D (aj xs'.os).length) (f:(P'++ah xs'.os).Nodup) (d:∀ x∈P'++ah xs'.os,2<=x/\x<B.nb) (m:∀ x∈xs',jR D x) (r:Up xs'.names) (k:∀ x∈xs',B.holds D L G x.1.RR (dL D x.2)) (l:(ah xs'.os).length+2*P'.length+2<=B.nb) {t':Nat} (t:0<t') :
 du (B.TK D L G t' P' (aj xs'.os)) D L G t' P' xs':=by
 have a:=PU B D L G t' P' (aj xs'.os);have p:=jy B D L G P' (cG D P' (aj xs'.os)) P'.length;have g:∀ b∈P'++ah xs'.os,b≠0:=λb c e=>by have:=(d b c).1;omega
 refine ⟨t,λi s=>uJ _ _ _ (a.1▸s),n.off a.1 λi=>(jQ _ _ _ _ (by decide)).trans (oQ i (λq=>by have:=(d 1 (UO _ q)).1;omega) _ lR),o,
  (uK (A:=B) (cG D P' (aj xs'.os)) (Vb.1 f).1).off (a.1.trans p.1.symm) λb c i=>jQ _ _ _ _ (g b (UO _ c)),f,by rw [a.2.1];exact d,m,r,λx j=>(k x j).off a.1 λb c i=>?_,by rw [a.2.1];exact l⟩
 have h:=AM j c;exact (jQ _ _ _ _ (g b (VY _ h))).trans (oQ i (λq=>(Vb.1 f).2.2 b q b h rfl) _ lR)
def aX.ins (xs:aX) (x:Ob×a8):aX:=xs.take (aL xs.names x.1.name)++x::xs.drop (aL xs.names x.1.name)
def aX.del (xs:aX) (k:Nat):aX:=xs.take k++xs.drop (k+1)
def jS (xs:aX) (x:Ob×a8):(xs.ins x).Perm (x::xs):=by
 unfold aX.ins;refine List.perm_middle.trans ?_;rw [Wl]
def MA (xs:aX) (x:Ob×a8):(xs.ins x).os=xs.os.take (aL xs.names x.1.name)++x.1::xs.os.drop (aL xs.names x.1.name):=by
 unfold aX.ins aX.os;rw [UD,UI,WC,WD]
def Jp (xs:aX) (x:Ob×a8):(xs.ins x).names=xs.names.take (aL xs.names x.1.name)++x.1.name::xs.names.drop (aL xs.names x.1.name):=by
 unfold aX.names;rw [MA];unfold aS aX.names aS;rw [UD,UI,WC,WD]
def MC (xs:aX) (k:Nat):(xs.del k).os=xs.os.take k++xs.os.drop (k+1):=by
 unfold aX.del aX.os;rw [UD,WC,WD]
def Jq (xs:aX) (k:Nat):(xs.del k).names=xs.names.take k++xs.names.drop (k+1):=by
 unfold aX.names;rw [MC];unfold aS;rw [UD,WC,WD]
def kW (xs:aX) (k:Nat):(xs.del k).Sublist xs:=by
 have a:(xs.take k++xs.drop (k+1)).Sublist (xs.take k++xs.drop k):=YO (YP _) (by rw [<- VN];exact List.drop_sublist _ _);rwa [Wl] at a
def Ft (o:Ob) (os:List Ob):ah (o::os)=o.RR++ah os:=by unfold ah;rw [VQ]
def qA (xs:aX) (x:Ob×a8):(ah (xs.ins x).os).Perm (x.1.RR++ah xs.os):=by
 have h:=(jS xs x).map (·.1);have:=h.flatMap_right (·.RR);rw [UI,VQ] at this;exact this
def Jr (xs:aX) (x:Ob×a8):(aj (xs.ins x).os).length=(aj xs.os).length+(bP x.1).length:=by
 have h:=((jS xs x).map (·.1)).flatMap_right bP;rw [UI,VQ] at h;have:=h.length_eq;rw [Uc] at this;unfold aj aX.os;omega
def oR {β:Type} (f:α->List β):∀ {l m:List α},l.Sublist m->(l.flatMap f).Sublist (m.flatMap f)
 | _,_,.slnil=>by simp
 | _,_,.cons a h=>by rw [VQ];exact (oR f h).trans (acq _ _)
 | _,_,.cons_cons a h=>by rw [VQ,VQ];exact YO (YP _) (oR f h)
def Js (xs:aX) (k:Nat):(ah (xs.del k).os).Sublist (ah xs.os):=oR _ ((kW xs k).map _)
def qB (xs:aX) (k:Nat):(aj (xs.del k).os).length<=(aj xs.os).length:=(oR bP ((kW xs k).map (Prod.fst:Ob×a8->Ob))).length_le
def uL (h:m<=n):pgs D m<=pgs D n:=by
 unfold pgs;have:(m+(D*44-4)-1)/(D*44-4)<=(n+(D*44-4)-1)/(D*44-4):=XQ (by omega);omega
def MD {A:aC} {xs:aX} (h:du A D L G t P xs) (x:Ob×a8) (u:jR D x) (p:x.1.name∉xs.names) (r:P'.length=pgs D (aj (xs.ins x).os).length)
 (m:((x.1.RR++P')++(P++ah xs.os)).Nodup) (j:∀ b∈(x.1.RR++P')++(P++ah xs.os),2<=b/\b<A.nb) (E:(ah xs.os).length+x.1.RR.length+2*P'.length+2<=A.nb) :
 du ((A.wrTo D L G x.1.RR (dL D x.2) x.1.RR.length).TK D L G (t+1) P' (aj (xs.ins x).os)) D L G (t+1) P' (xs.ins x):=by
 obtain ⟨k,l,_⟩:=jy A D L G x.1.RR (dL D x.2) x.1.RR.length;rw [Vb] at m;obtain ⟨v,w,g⟩:=m;obtain ⟨o,z,B⟩:=Vb.1 v;obtain ⟨F,C,H⟩:=Vb.1 w;have n:∀ b,b∉x.1.RR->∀ i,(A.wrTo D L G x.1.RR (dL D x.2) x.1.RR.length).rc i b=A.rc i b:=λb c i=>oQ i c _ lR;refine qw (h.fill.off k (n 1 λe=>by have:=(j 1 (by simp [e])).1;omega)) r ?_ ?_ ?_ ?_ ?_ ?_ (by omega)
 . have s:(P'++ah (xs.ins x).os).Perm (P'++(x.1.RR++ah xs.os)):=(qA xs x).append_left P';rw [s.nodup_iff,Vb];refine ⟨z,?_,?_⟩
   . rw [Vb];exact ⟨o,C,λa f b c=>g a (by simp [f]) b (by simp [c])⟩
   . intro a f b c;rcases Un.1 c with c|c
     . exact λe=>B b c a f e.symm
     . exact g a (by simp [f]) b (by simp [c])
 . intro b c;rw [l];refine j b ?_;rcases Un.1 c with c|c
   . simp [c]
   . have:=(qA xs x).mem_iff.1 c;rcases Un.1 this with q|q<;>simp [q]
 . intro y d;rcases Uz.1 ((jS xs x).mem_iff.1 d) with rfl|d
   . exact u
   . exact h.fits y d
 . rw [Jp];exact I4 h.up p
 . intro y d;rcases Uz.1 ((jS xs x).mem_iff.1 d) with rfl|d
   . exact uK _ o
   . exact (h.held y d).off k λb c=>n b λe=>g _ (UO _ e) _ (VY _ (AM d c)) rfl
 . rw [(qA xs x).length_eq,Uc,l];omega
def ME {A:aC} {xs:aX} (h:du A D L G t P xs) (k:Nat) (f:P'.length=pgs D (aj (xs.del k).os).length)
 (j:(P'++(P++ah xs.os)).Nodup) (i:∀ b∈P'++(P++ah xs.os),2<=b/\b<A.nb) :
 du (A.TK D L G (t+1) P' (aj (xs.del k).os)) D L G (t+1) P' (xs.del k):=by
 have d:=Js xs k;obtain ⟨m,n,o⟩:=Vb.1 j;obtain ⟨s,p,u⟩:=Vb.1 n;refine qw h.fill f ?_ ?_ (λx e=>h.fits x ((kW xs k).subset e)) ?_ (λx e=>h.held x ((kW xs k).subset e)) ?_ (by omega)
 . rw [Vb];exact ⟨m,p.sublist d,λa l b c=>o a l b (VY _ (d.subset c))⟩
 . intro b c;refine i b ?_;rcases Un.1 c with c|c
   . simp [c]
   . simp [d.subset c]
 . rw [Jq];exact L3 h.up k
 . have:=d.length_le;have:=h.room;have g:=uL (D:=D) (qB xs k);rw [<- f,<- h.pl] at g;omega
theorem GX (q s:Nat) (d:1<=q):max 1 ((s+q-1)/q)<=s/q+1:=by
 have c:(s+q-1)/q<=(s+q)/q:=XQ (by omega);rw [Nat.add_div_right _ (by omega)] at c;generalize s/q=a at c ⊢;generalize (s+q-1)/q=b at c ⊢;omega
def qZ (D:Nat) (xs:aX):Nat:=(xs.map λx=>x.2.length/(D*44)+1).sum
def GY (c:1<=D):∀ {xs:aX},(∀ x∈xs,jR D x)->(ah xs.os).length<=qZ D xs
 | [],_=>by simp [qZ,ah,aX.os]
 | x::xs,h=>by
  have ih:=GY c (xs:=xs) (λy d=>h y (by simp [d]));have a:=h x (by simp);have b:=GX (D*44) x.1.size (by omega);rw [<- a.st] at b;have e:ah (aX.os (x::xs))=x.1.RR++ah (aX.os xs):=by unfold aX.os;rw [UI,Ft]
  rw [e,Uc];unfold qZ at ih ⊢;rw [UI,XD,a.len];omega
def ji (c:1<=D):∀ {xs:aX},(∀ x∈xs,jR D x)->(aj xs.os).length<=xs.length*(19+4*(1500/(D*44)+1))
 | [],_=>by simp [aj,aX.os]
 | x::xs,h=>by
  have:=ji c (xs:=xs) (λy d=>h y (by simp [d]));have a:=h x (by simp);have b:=GX (D*44) x.1.size (by omega);rw [<- a.st] at b;have:x.1.size/(D*44)<=1500/(D*44):=XQ a.fit.size;have e:aj (aX.os (x::xs))=bP x.1++aj (aX.os xs):=by unfold aX.os aj;rw [UI,VQ]
  rw [e,Uc,di a.fit,UG,XL];omega
def Fu (b:1<=D) (o:D<=6) {xs:aX} (h:∀ x∈xs,jR D x) {n nb count pages:Nat} (j:n<=1500) (c:count=max 1 ((n+D*44-1)/(D*44))) (d:pages=pgs D ((aj xs.os).length+(19+4*count)))
 (e:nb<(ah xs.os).length+count+2*pages+2):nb<qZ D xs+(n/(D*44)+1)+2*((xs.length+1)*200/(D*44)+1)+8:=by
 have f:=GY b h;have g:=ji b h;have i:=GX (D*44) n (by omega);rw [<- c] at i;have k:n/(D*44)<=1500/(D*44):=XQ j;suffices hs:pages<=(xs.length+1)*200/(D*44)+4 by omega
 obtain ⟨m,a⟩:=nM (xs.length);obtain ⟨l,hl⟩:=nM ((aj xs.os).length);rw [a,hl] at g;rw [hl] at d;rw [a];clear f c a hl e h;subst d;unfold pgs;have:D=1\/D=2\/D=3\/D=4\/D=5\/D=6:=by omega
 rcases this with rfl|rfl|rfl|rfl|rfl|rfl<;>omega
def Fv {A:aC} {xs:aX} (h:du A D L G t P xs) {count pages l:Nat} (c:pages=pgs D ((aj xs.os).length+l)) (d:(ah xs.os).length+count+2*pages+2<=A.nb) :
 count+pages<=(aY (tk A.nb (P++ah xs.os)).1 A.nb).length:=by
 have a:=lT h.nod h.TM;have b:=uL (D:=D) (show (aj xs.os).length<=(aj xs.os).length+l by omega);rw [<- c,<- h.pl] at b;rw [Uc] at a;omega
def Fw {A:aC} {xs:aX} (h:du A D L G t P xs) (k:Nat):pgs D (aj (xs.del k).os).length<=(aY (tk A.nb (P++ah xs.os)).1 A.nb).length:=by
 have a:=lT h.nod h.TM;have b:=uL (D:=D) (qB xs k);rw [<- h.pl] at b;rw [Uc] at a;have:=h.room;omega
theorem mL (x:ByteArray) (w:ZU):ZS ZO 167 #[Z0 x] w λe w'=>e=Z3 (Z2 ZV)/\w'=w:=by
 go_enter func167,ntmps167;go_wp2;go_ret;exact ⟨by simp,rfl⟩
def rJ (a b:ByteArray):Int:=if jA a b then -1 else if jA b a then 1 else 0
def GZ {a b:ByteArray}:rJ a b<0↔jA a b=ZW:=by
 unfold rJ;cases h1:jA a b<;>cases h2:jA b a<;>simp
theorem G0 {a b:ByteArray}:rJ a b=0↔a=b:=by
 unfold rJ;constructor
 . intro h;cases h1:jA a b
   . cases h2:jA b a
     . exact sr h1 h2
     . simp [h1,h2] at h
   . simp [h1] at h
 . rintro rfl;simp [iV]
theorem Dg (x y:ByteArray) (w:ZU):ZS ZO 133 #[Z0 x,Z0 y] w λe w'=>e=Z3 (Z7 Z9 (rJ x y))/\w'=w:=by
 by_cases a:x=y
 . subst a;have hl:Op.bytesLess x.toList x.toList=ZV:=iV x;have c:rJ x x=0:=G0.2 rfl;rw [c];go_enter func133,ntmps133;go_wp2_with fail;refine (mL x w).mono ?_;rintro e w1 ⟨rfl,rfl⟩;go_wp2_with fail;refine (mL x w1).mono ?_;rintro e w2 ⟨rfl,rfl⟩;go_wp2;go_ret;exact ⟨rfl,rfl⟩
 . have d:¬ x.toList=y.toList:=λe=>a (toList_inj e);have f:(!x.toList==y.toList)=ZW:=(by simp [d]);obtain ⟨lt,b⟩:=nM (jA x y);have hl:Op.bytesLess x.toList y.toList=lt:=b;have c:rJ x y=if lt then -1 else 1:=by
    unfold rJ;rw [b];cases lt
    . cases hg:jA y x
      . exact absurd (sr b hg) a
      . rfl
    . rfl
   rw [c];clear c b;go_enter func133,ntmps133;go_wp2_with fail;refine (mL x w).mono ?_;rintro e w1 ⟨rfl,rfl⟩;go_wp2_with fail;refine (mL y w1).mono ?_;rintro e w2 ⟨rfl,rfl⟩;cases lt
   . go_wp2;go_ret;exact ⟨rfl,rfl⟩
   . go_wp2;go_ret;exact ⟨rfl,rfl⟩
theorem yI (nm x:ByteArray) (sz:Int) (sv:ZT) (w:ZU):ZS ZO 132 #[.agg #[Z0 nm,Z7 Z9 sz,sv],Z0 x] w λe w'=>e=Z3 (Z7 Z9 (rJ nm x))/\bW w w':=by
 have a:bW w (w.alloc (Z4 #[Z0 nm,Z7 Z9 sz,sv] 152)):=bA w _;go_enter func132,ntmps132;go_wp2_with fail;refine (Dg nm x _).mono ?_;rintro e w1 ⟨rfl,rfl⟩;go_wp2;go_ret;exact ⟨rfl,a⟩
def mS (os:List Ob) (x:ByteArray):Bool:=match (aS os)[aL (aS os) x]? with
 | some n=>decide (n=x)
 | none=>ZV
theorem Dh {os:List Ob} (d:Up (aS os)) (x:ByteArray):mS os x=ZW↔x∈aS os:=by
 unfold mS;constructor
 . intro h;split at h
   . rename_i n c
     have:=Wx h;rw [<- this];exact List.mem_of_getElem? c
   . cases h
 . intro h;obtain ⟨a,b⟩:=ux d h;rw [Ue a,b];simp
def FdR (w:ZU) (os:List Ob) (x:ByteArray) (i j:ZT) (wr:ZU):Prop:=∃ a b:Nat,a<=b/\b<=os.length/\i=Z7 Z9 a/\j=Z7 Z9 b/\(∀ k (hk:k<os.length),k<a->jA os[k].name x=ZW)/\(∀ k (hk:k<os.length),b<=k->jA os[k].name x=ZV)/\bW w wr
def PV {os:List Ob} (a:Up (aS os)) {i j:Nat} (b:i<os.length) (c:j<os.length) (h:i<j):jA os[i].name os[j].name=ZW:=by
 unfold Up at a;rw [V6] at a;have:=a i j (by rw [bw];exact b) (by rw [bw];exact c) h;unfold aS at this;rwa [UU,UU] at this
def fa.at' {os:List Ob} (h:fa K w (.slice ao n c) os) {k:Nat} (a:k<os.length):∃ b off sv,ao=ZX ⟨b,off,ZY⟩/\b<w.heap.size/\K b/\w.cell? ⟨b,off+k*3,ZY⟩=ZX (Z0 os[k].name)/\w.cell? ⟨b,off+k*3+1,ZY⟩=ZX (Z7 Z9 (os[k].size:Nat))/\w.cell? ⟨b,off+k*3+2,ZY⟩=ZX sv/\bg K w sv os[k].RR:=by
 obtain ⟨d,r,e,_,f⟩:=h;obtain ⟨b,off,g,i,j,l⟩:=f (λe=>by rw [e] at a;simp at a);simp only [VA] at e;obtain ⟨rfl,_,_⟩:=e;obtain ⟨sv,m,o,p,q⟩:=l k a;exact ⟨b,off,sv,g,j.lt,i,m,o,p,q⟩
theorem Fx {os:List Ob} (K:fa (λk=>k<w.heap.size) w v os) (kb:os.length<=10000) (R:Up (aS os)) (x:ByteArray) :
 ZS ZO 131 #[v,Z0 x,.func (.func 132) #[] #[]] w λe w'=>e=Z3 (ZZ #[Z7 Z9 (aL (aS os) x:Nat),Z2 (mS os x)])/\bW w w':=by
 obtain ⟨ao,c,rfl,k0,_⟩:=id K;obtain ⟨N,M⟩:=nM (os.length);have H:=al K R;clear K R;rw [M];go_enter func131,ntmps131;go_wp2;go_loopw [9,10] (λi j wr=>FdR w os x i j wr) (λi j _=>(intOf j).toNat-(intOf i).toNat)
 case atStart=>exact ⟨0,N,T7 _,by omega,rfl,rfl,λk _ h=>by omega,λk r h=>by omega,T6 _ w⟩
 case round=>
  obtain ⟨a,b,k8,T,rfl,rfl,p,n,f⟩:=hrel;by_cases k9:a<b
  . obtain ⟨m,D⟩:∃ m:Nat,m=(a+b)/2:=⟨_,rfl⟩;have Q:((a:Int)+(b:Int))/2=(m:Int):=(by omega);have L:m<os.length:=(by omega);obtain ⟨b0,off,sv,rfl,hv,_,z,A,E,_⟩:=(H.o.1.keep (eN.RU f)).at' (k:=m) L;obtain ⟨nm,d⟩:=nM (os[m].name);obtain ⟨sz,C⟩:∃ sz:Int,((os[m].size:Nat):Int)=sz:=⟨_,rfl⟩;rw [d] at z;rw [C] at A;have k5:m<N:=(by omega);have k6:(m:Int)<(N:Int):=(by omega);have s:=a6 p n f d D;clear p n f d D C;go_wp2_with fail;refine (yI nm x sz sv wr).mono ?_;rintro e w1 ⟨rfl,u⟩;obtain ⟨I,l⟩:=nM (rJ nm x);rw [l];obtain ⟨p,n,f,d,D⟩:=s.o;have g:bW w w1:=f.trans (u.mono f.size);by_cases O:I<0
    . have q:jA nm x=ZW:=GZ.1 (by rw [l];exact O);have F:cJ (FdR w os x (Z7 Z9 ((m+1:Nat):Int)) (Z7 Z9 (b:Nat)) w1):=ak ⟨m+1,b,by omega,T,rfl,rfl,(λk r h=>by
       rcases XP (YN h) with e|J
       . subst e;rw [d];exact q
       . have:=PV H.o.2 r L J;rw [d] at this;exact jM this q),(λk r h=>n k r h),g⟩
      clear p n f d u g q l s z A E;dsimp only;have ka:m<=10000:=(by omega);have k7:a<=m:=(by omega);have X:m<b:=(by omega);clear D Q;go_wp2;refine ⟨by simpa using F.o,?_⟩;show ((b:Int)).toNat-((m:Int)+1).toNat<((b:Int)).toNat-((a:Int)).toNat;omega
    . have q:jA nm x=ZV:=by
       cases h:jA nm x
       . rfl
       . exact absurd (GZ.2 h) (by rw [l];exact O)
      have F:cJ (FdR w os x (Z7 Z9 (a:Nat)) (Z7 Z9 (m:Nat)) w1):=ak ⟨a,m,by omega,by omega,rfl,rfl,(λk r h=>p k r h),(λk r h=>by
       rcases XP h with e|J
       . subst e;rw [d];exact q
       . have:=PV H.o.2 L r J;rw [d] at this;cases hx:jA os[k].name x
         . rfl
         . rw [jM this hx] at q;cases q),g⟩
      clear p n f d u g q l s z A E;dsimp only;have k7:a<=m:=(by omega);have X:m<b:=(by omega);clear D Q;go_wp2;refine ⟨F.o,?_⟩;show ((m:Int)).toNat-((a:Int)).toNat<((b:Int)).toNat-((a:Int)).toNat;omega
  . have S:a=b:=(by omega);subst S;have y:aL (aS os) x=a:=gN _ _ _ (by rw [bw];omega) (λj W h=>by
     have hz:j<os.length:=(by rwa [bw] at W);simpa [aS] using p j hz h) (λV=>by
     have hy:a<os.length:=(by rwa [bw] at V);simpa [aS] using n a hy lR)
    by_cases Y:a<N
    . have Z:a<os.length:=M.symm▸Y;obtain ⟨b0,off,sv,rfl,hv,_,z,A,E,_⟩:=(H.o.1.keep (eN.RU f)).at' (k:=a) Z;obtain ⟨nm,d⟩:=nM (os[a].name);obtain ⟨sz,C⟩:∃ sz:Int,((os[a].size:Nat):Int)=sz:=⟨_,rfl⟩;have B:mS os x=decide (rJ nm x=0):=by
       unfold mS;rw [y,Ue (by rw [bw];omega)];simp only [aS,UU,d];exact decide_eq_decide.2 G0.symm
      rw [d] at z;rw [C] at A;have U:(a:Int)<(N:Int):=(by omega);have s:=ak f;have G:=al y B;clear p n f d y B C;go_wp2_with fail;refine (yI nm x sz sv wr).mono ?_;rintro e w1 ⟨rfl,u⟩;obtain ⟨I,l⟩:=nM (rJ nm x);have t:=al G.o.1 (G.o.2.trans (by rw [l]));rw [l];have g:cJ (bW w w1):=ak (s.o.trans (u.mono s.o.size));clear u s G z A E l;by_cases P:I=0
      . subst P;go_wp2;go_ret2;refine ⟨?_,g.out⟩;rw [t.out.1,t.out.2];rfl
      . go_wp2;go_ret2;refine ⟨?_,g.out⟩;rw [t.out.1,t.out.2];simp [P]
    . have B:mS os x=ZV:=by
       unfold mS;rw [y,Vm (by rw [bw];omega)]
      have U:¬ (a:Int)<(N:Int):=(by omega);have g:cJ (bW w wr):=ak f;have t:=al y B;clear p n f y B;go_wp2;go_ret2;refine ⟨?_,g.out⟩;rw [t.out.1,t.out.2];rfl
theorem MF {os:List Ob} (c:fa (λk=>k<w.heap.size) w v os) (g:os.length<=10000) (h:Up (aS os)) (x:ByteArray) :
 ZS ZO 97 #[v,Z0 x] w λe w'=>e=Z3 (ZZ #[Z7 Z9 (aL (aS os) x:Nat),Z2 (mS os x)])/\bW w w':=by
 have a:=Fx c g h x;obtain ⟨n,f⟩:=nM (aL (aS os) x);obtain ⟨i,d⟩:=nM (mS os x);rw [f,d] at a ⊢;clear f d;go_enter func97,ntmps97;go_wp2_with fail;refine a.mono ?_;rintro e w1 ⟨rfl,b⟩;have H:=ak b;clear b a c;go_wp2;go_ret2;exact ⟨rfl,H.o⟩
def cj (x:ByteArray):Bool:=decide (1<=x.size/\x.size<=16)
theorem jT (x:ByteArray) (w:ZU):ZS ZO 98 #[Z0 x] w λe w'=>e=Z3 (Z2 (cj x))/\w'=w:=by
 have g:cj x=(decide (1<=x.size)&&decide (x.size<=16)):=by unfold cj;simp
 rw [g];obtain ⟨n,f⟩:=nM (x.size);rw [f];by_cases b:1<=n
 . have a:(1:Int)<=(n:Int):=(by omega);by_cases c:n<=16
   . have d:(n:Int)<=16:=(by omega);go_enter func98,ntmps98;go_wp2;go_ret;exact ⟨by simp [b,c],rfl⟩
   . have d:¬ (n:Int)<=16:=(by omega);go_enter func98,ntmps98;go_wp2;go_ret;exact ⟨by simp,rfl⟩
 . have a:¬ (1:Int)<=(n:Int):=(by omega);go_enter func98,ntmps98;go_wp2;go_ret;exact ⟨by simp,rfl⟩
theorem uM (s:ByteArray) (w:ZU) (l:¬ s.size=0) (A:s.size<=1000000):ZS ZO 164 #[Z0 s] w λe w'=>e=Z3 (Z0 s)/\bW w w':=by
 obtain ⟨i,d,v,a,y⟩:=Uu Tryz.Sb;have m:(ZO.info? 5).map (·.size)=ZX 1:=by rw [d];simp [a]
 have r:ZO.cellsOf 5=1:=by simp [Program.cellsOf,d,a]
 obtain ⟨M,b⟩:∃ M,M=madeCells (Value.int .u8 0).cells (((s.size:Nat):Int).toNat*i.size):=⟨_,rfl⟩;have B:M.size=s.size:=by rw [b,size_madeCells,a];simp
 have D:∀ W:ZU,(Instr.makeSlice 40 (Z7 Z9 (s.size:Int)) (Z7 Z9 (s.size:Int))).run ZO W=.ok (Z5 (ZX ⟨W.heap.size,0,ZY⟩) s.size s.size) (W.alloc (Z4 M 5)):=λW=>by
  have h:=run_make (P:=ZO) W 40 5 i (Z7 .u8 0) Uq d v .i64 .i64 (s.size:Int) (s.size:Int) (by omega) (by omega) (by rw [y];omega) (by omega);rw [<- b] at h;simpa using h
 clear b;have t:=Lib.run_copy_row_string (P:=ZO) (w.alloc (Z4 M 5)) 40 9 3 5 w.heap.size 0 s.size s.size s M 5 Uq m (abD w _) lR (by omega);obtain ⟨Y,c⟩:∃ Y,Y=(M.toList.take 0++Lib.byteCells s.data.toList++M.toList.drop (0+s.size)).toArray:=⟨_,rfl⟩;rw [<- c] at t;have f:Y.toList=Lib.byteCells s.data.toList:=by
  rw [c,List.toList_toArray,Wn,Ut,WN (by rw [Wv];omega),Wk]
 have C:Y.size=s.size:=by rw [<- Wv,f,Lib.byteCells_length,<- Yq]
 have g:((w.alloc (Z4 M 5)).setRow w.heap.size Y).heap[w.heap.size]?=ZX (Z4 Y 5 (0,0)):=Vy _ _ M _ 5 (0,0) (abD w _);have u:s.data.toList≠[]:=λe=>l (by rw [Yq,e];rfl);have n:=Lib.run_unsafeString_row (P:=ZO) ((w.alloc (Z4 M 5)).setRow w.heap.size Y) 310 3 9 5 underlying310 r w.heap.size Y.size (by unfold World.shape?;rw [g]) s.data.toList u (by rw [<- Yq];omega) (by rw [<- Yq];omega)
  (λj x z=>Lib.cells_of_row g Y.size j _ (by rw [UJ (by rw [Wv];exact TY _),f];simp [Lib.byteCells,z]))
 rw [<- Yq] at n;clear c;go_enter func164,ntmps164;go_wp2;go_ret;have o:bW w (w.alloc (Z4 M 5)):=bA w _;have q:Below w.heap.size (w.alloc (Z4 M 5)) ((w.alloc (Z4 M 5)).setRow w.heap.size Y):=⟨rfl,rfl,rfl,by simp,λk E=>setRow_other _ _ _ _ (by omega)⟩;exact ⟨rfl,Lib.below_freeze (o.trans q) (p:=⟨w.heap.size,0,ZY⟩) lR _⟩
theorem uN (s:ByteArray) (w:ZU) (c:¬ s.size=0) (d:s.size<=1000000):ZS ZO 128 #[Z0 s] w λe w'=>e=Z3 (Z0 s)/\bW w w':=by
 have b:=uM s w c d;go_enter func128,ntmps128;go_wp2_with fail;refine b.mono ?_;rintro e w1 ⟨rfl,a⟩;have H:=ak a;clear a b;go_wp2;go_ret;exact ⟨rfl,H.o⟩
def AN {xs:List ZT} (ho:w.ownsRow base 152 3 u n xs) (d:g<base):u.ownBlock≠ZX g:=λe=>by
 rcases ho.2 with ⟨rfl,_⟩|⟨a,cap,cur,rfl,c,_⟩
 . cases e
 . have:a=g:=(by simpa [Value.ownBlock] using e);omega
def AO {xs:List ZT} (ho:w.ownsRow base 152 3 u n xs) (d:w.heap.size<=g):u.ownBlock≠ZX g:=λe=>by
 rcases ho.2 with ⟨rfl,_⟩|⟨a,cap,cur,rfl,c,h,_⟩
 . cases e
 . have:a=g:=(by simpa [Value.ownBlock] using e);have:=(T5.1 h).1;omega
def Jt {xs:List ZT} (ho:w.ownsRow base 152 3 u n xs) (o:Obj):(w.alloc o).ownsRow base 152 3 u n xs:=by
 refine ⟨ho.1,?_⟩;rcases ho.2 with h|⟨g,cap,cur,rfl,a,h,b⟩
 . exact .inl h
 . exact .inr ⟨g,cap,cur,rfl,a,(We w o g (T5.1 h).1).trans h,b⟩
def uO (K:Nat->Prop) (w:ZU) (os:List Ob) (e:ZR) (w':ZU):Prop:=∃ u,e=Z3 u/\fa K w' u os/\bW w w'
theorem Di {os:List Ob} (P:fa K w v os) (k8:os.length<=9999) (hK:∀ k,w.heap.size<=k->K k) {i:Nat} (hi:i<=os.length) (o:Ob) (sv:ZT) (C:bg K w sv o.RR) :
 ZS ZO 130 #[v,Z7 Z9 (i:Nat),.agg #[Z0 o.name,Z7 Z9 (o.size:Nat),sv]] w (uO K w (os.take i++o::os.drop i)):=by
 obtain ⟨nm,T⟩:=nM (o.name);obtain ⟨sz,V⟩:∃ sz:Int,((o.size:Nat):Int)=sz:=⟨_,rfl⟩;have X:∀ u∈jz (o,sv),u.oneCell'=ZW:=by
  obtain ⟨ao,c,e,_⟩:=C;exact GK ⟨ao,_,c,e⟩
 have Y:(jz (o,sv)).toArray=#[Z0 nm,Z7 Z9 sz,sv]:=by rw [<- T,<- V];rfl
 have R:∀ W,bW w W->ZS ZO 138 #[v] W λe w'=>∃ u L,e=Z3 u/\L.map (·.1)=os/\Oz K W L/\w'.ownsRow W.heap.size 152 3 u L.length (bV L)/\bW W w':=λW t=>oI (P.keep (eN.RU t)) (by omega);have S:∀ (W l:ZU) (u:ZT) (L:List (Ob×ZT)) (base vb:Nat),bW w W->bW W l->L.map (·.1)=os->Oz K W L->l.ownsRow base 152 3 u L.length (bV L)->w.heap.size<=base->W.heap.size<=base->base<=l.heap.size->l.heap[vb]?=ZX (Z4 #[Z0 nm,Z7 Z9 sz,sv] 152 (0,0))->u.ownBlock≠ZX vb ->
  ZS ZO 166 #[u,Z7 Z9 (i:Nat),Z5 (ZX ⟨vb,0,ZY⟩) 1 1] l (uO K w (os.take i++o::os.drop i)):=λW l u L base vb t k0 d b ho k9 hv k5 hx k6=>by
  have k7:L.length=os.length:=by rw [<- d,Ud]
  refine (E7 ho k5 b.one X (by omega) (by rw [Y];exact hx) k6 (by omega)).mono ?_;rintro e w' ⟨u',rfl,U,hz⟩;have z:bW W w':=k0.trans (hz.mono hv);have M:bW w w':=t.trans (z.mono t.size);have N:L.length+1=(L.take i++(o,sv)::L.drop i).length:=by simp;omega
  rw [N] at U;refine ⟨u',rfl,?_,M⟩;have f:=uw (K:=K) (L:=L.take i++(o,sv)::L.drop i) U (by rw [<- N];omega) (λk hk=>hK k (by omega)) (λy Z=>by
   rw [Un,Uz] at Z;rcases Z with h|h|h
   . exact (b y (U2 h)).keep (eN.RU z)
   . subst h;exact C.keep (eN.RU M)
   . exact (b y (U8 h)).keep (eN.RU z))
  have e:(L.take i++(o,sv)::L.drop i).map (·.1)=os.take i++o::os.drop i:=by rw [UD,UI,WC,WD,d]
  rwa [e] at f
 rw [T,V];have D:=ak R;have E:=ak S;clear R S P C X Y hK;go_enter func130,ntmps130;have s:bW w (w.alloc (Z4 #[Z0 nm,Z7 Z9 sz,sv] 152)).drew:=(bA w _).drew;have Q:bW w ((w.alloc (Z4 #[Z0 nm,Z7 Z9 sz,sv] 152)).drew.alloc (Z4 #[Z0 nm,Z7 Z9 sz,sv] 152)):=s.alloc s.size _;have g:=al s Q;have J:=UN w (Z4 #[Z0 nm,Z7 Z9 sz,sv] 152);have q:ai (w.alloc (Z4 #[Z0 nm,Z7 Z9 sz,sv] 152)).drew w.heap.size 152 [Z0 nm,Z7 Z9 sz,sv]:=J;have F:=q.cell (j:=0) (u:=Z0 nm) rfl;have G:=q.cell (j:=1) (u:=Z7 Z9 sz) rfl;have H:=q.cell (j:=2) (u:=sv) rfl;have I:=q.lt;have O:(w.alloc (Z4 #[Z0 nm,Z7 Z9 sz,sv] 152)).drew.heap.size=w.heap.size+1:=by show (w.alloc _).heap.size=_;exact Ul _ _
 have B:((w.alloc (Z4 #[Z0 nm,Z7 Z9 sz,sv] 152)).drew.alloc (Z4 #[Z0 nm,Z7 Z9 sz,sv] 152)).heap[w.heap.size+1]?=ZX (Z4 #[Z0 nm,Z7 Z9 sz,sv] 152):=by rw [<- O];exact UN _ _
 have A:=al B (show w.heap.size+1<((w.alloc (Z4 #[Z0 nm,Z7 Z9 sz,sv] 152)).drew.alloc (Z4 #[Z0 nm,Z7 Z9 sz,sv] 152)).heap.size from (T5.1 B).1);have r:=a5 I F G H;clear s Q I F G H J q B O;go_wp2_with fail;go_region_with (first
  | (go_at_call 138;first
   | (refine (D.o (w.alloc (Z4 #[Z0 nm,Z7 Z9 sz,sv] 152)).drew g.o.1).mono ?_;rintro e w1 ⟨u,L,rfl,d,b,ho,m⟩;have b0:=λj=>m.cell (p:=⟨w.heap.size,j,ZY⟩) (r.out.1);have c0:w1.cell? ⟨w.heap.size,0,ZY⟩=ZX (Z0 nm):=(b0 0).trans r.out.2.1;have c1:w1.cell? ⟨w.heap.size,1,ZY⟩=ZX (Z7 Z9 sz):=(b0 1).trans r.out.2.2.1;have c2:w1.cell? ⟨w.heap.size,2,ZY⟩=ZX sv:=(b0 2).trans r.out.2.2.2;clear b0;have a:=a5 d b ho m;clear d b ho m)
   | (refine (D.o ((w.alloc (Z4 #[Z0 nm,Z7 Z9 sz,sv] 152)).drew.alloc (Z4 #[Z0 nm,Z7 Z9 sz,sv] 152)) g.o.2).mono ?_;rintro e w1 ⟨u,L,rfl,d,b,ho,m⟩;have a:=a5 d b ho m;clear d b ho m))
  | (go_at_call 166;first
   | (refine (E.o (w.alloc (Z4 #[Z0 nm,Z7 Z9 sz,sv] 152)).drew (w1.alloc (Z4 #[Z0 nm,Z7 Z9 sz,sv] 152)) u L (w.alloc (Z4 #[Z0 nm,Z7 Z9 sz,sv] 152)).drew.heap.size w1.heap.size g.o.1 (a.o.2.2.2.alloc a.o.2.2.2.size _) a.o.1 a.o.2.1 (Jt a.o.2.2.1 _) g.o.1.size lR (a.o.2.2.2.alloc a.o.2.2.2.size _).size (UN w1 _) (AO a.o.2.2.1 lR)).mono ?_;rintro e w2 ⟨u2,rfl,f,n⟩;have x:=al f n;clear f n)
   | (refine (E.o ((w.alloc (Z4 #[Z0 nm,Z7 Z9 sz,sv] 152)).drew.alloc (Z4 #[Z0 nm,Z7 Z9 sz,sv] 152)) w1 u L ((w.alloc (Z4 #[Z0 nm,Z7 Z9 sz,sv] 152)).drew.alloc (Z4 #[Z0 nm,Z7 Z9 sz,sv] 152)).heap.size (w.heap.size+1) g.o.2 a.o.2.2.2 a.o.1 a.o.2.1 a.o.2.2.1 g.o.2.size lR a.o.2.2.2.size ((a.o.2.2.2.block _ A.out.2).trans A.out.1) (AN a.o.2.2.1 A.out.2)).mono ?_;rintro e w2 ⟨u2,rfl,f,n⟩;have x:=al f n;clear f n)))
 all_goals (go_wp2;go_ret;exact ⟨_,rfl,x.o.1,x.o.2⟩)
def l8 {o:Oper} {K:Act->ZU->Prop} {E:Prop} (f:o.guard=ZY) (d x:Operand) (b c:ZQ) (e:o.op=Op.call { callee:=Callee.builtin Builtin.append,args:=#[d,x],argTypes:=#[b,c] })
 (v u:ZT) (hd:a.eval d=v) (hx:a.eval x=u) {v':ZT} {w':ZU} (hr:(Builtin.append_ #[b,c] o.type #[v,u]).run ZO w=.ok v' w') (hK:K (a.put o.dst v') w'):if Region.wanted o (yielded ops a.tmps)=ZW then Oper.wp ZO o a w K Q else E:=by
 rw [TX (by simp [Region.wanted,f])];unfold Oper.wp;simp [execOp,e,resolve,invoke,builtin,hd,hx,hr,Result.andThen];exact hK
theorem MG (cur:List ZT) (L:List (Ob×ZT)) (i N:Nat) (c:L.length=N+1) (j:i<=N) (e:cur.take (L.length*3)=bV L) (hl:(N+1)*3<=cur.length) (a:List ZT) (h:a.length=3) :
 ((cur.take (i*3)++(bV L).drop ((i+1)*3)++cur.drop (i*3+((bV L).drop ((i+1)*3)).length)).take (N*3)++a++(cur.take (i*3)++(bV L).drop ((i+1)*3)++cur.drop (i*3+((bV L).drop ((i+1)*3)).length)).drop (N*3+a.length)).take (N*3)=bV (L.take i++L.drop (i+1)) /\
 ((cur.take (i*3)++(bV L).drop ((i+1)*3)++cur.drop (i*3+((bV L).drop ((i+1)*3)).length)).take (N*3)++a++(cur.take (i*3)++(bV L).drop ((i+1)*3)++cur.drop (i*3+((bV L).drop ((i+1)*3)).length)).drop (N*3+a.length)).length=cur.length:=by
 have g:((bV L).drop ((i+1)*3)).length=(N-i)*3:=by rw [Ur,b8,c];omega
 have d:cur.take (i*3)=bV (L.take i):=by
  rw [<- CJ,<- e,List.take_take,Wm (by omega)]
 have f:(cur.take (i*3)++(bV L).drop ((i+1)*3)).length=N*3:=by rw [Uc,Us,g];omega
 have b:(cur.take (i*3)++(bV L).drop ((i+1)*3)++cur.drop (i*3+((bV L).drop ((i+1)*3)).length)).take (N*3)=cur.take (i*3)++(bV L).drop ((i+1)*3):=by
  conv=>lhs;rw [<- f]
  exact Yg
 constructor
 . rw [b,UC,V2 (by omega),UJ (by omega),d,uv,iU]
 . rw [b];simp only [Uc,Ur,Us,b8,h,c];omega
theorem Fy {i:Nat} {cur:Array ZT} {L:List (Ob×ZT)} (U:w.heap[g]?=ZX (Z4 cur 152 (0,0))) (Y:base<=g) (Z:cur.size=cap*3) (D:cur.toList.take (L.length*3)=bV L) (S:∀ u∈bV L,u.oneCell'=ZW) (G:L.length=N+1) (V:i<=N) (k0:L.length<=cap) (kb:cap<=9223372036854775807) (hl:L.length<=10000) :
 ZS ZO 137 #[Z5 (ZX ⟨g,0,ZY⟩) L.length cap,Z7 Z9 (i:Nat),Z7 Z9 ((i:Int)+1)] w λe w'=>e=Z3 (Z5 (ZX ⟨g,0,ZY⟩) N cap)/\Below base w w'/\∃ a,ai w' g 152 a/\a.length=cap*3/\a.take (N*3)=bV (L.take i++L.drop (i+1)):=by
 obtain ⟨io,M,R,v,hr⟩:=Uu Tryz.R3;have l:ai w g 152 cur.toList:=by unfold ai;exact U
 have n:cur.toList.length=cap*3:=by simpa using Z
 have t:((bV L).drop ((i+1)*3)).length=(N-i)*3:=by rw [Ur,b8,G];omega
 have Q:∀ u∈(bV L).drop ((i+1)*3),u.oneCell'=ZW:=λu B=>S u (U8 B);have O:∀ j u,(bV L)[j]?=ZX u->w.drew.cell? ⟨g,j,ZY⟩=ZX u:=λj u b=>by
  have h2:w.cell? ⟨g,j,ZY⟩=ZX u:=by
   refine l.cell ?_;have ka:j<L.length*3:=(by obtain ⟨q,_⟩:=Vc.1 b;rwa [b8] at q);rw [<- D,VR ka] at b;exact b
  exact h2
 have T:∀ d,Src ZO 3 144 (Z5 (ZX ⟨g,if cap=i+1 then 0 else (i+1)*3,ZY⟩) (N-i) d) (N-i) ((bV L).drop ((i+1)*3)) w.drew:=λd=>by
  refine Vk w.drew VD _ (N-i) d _ t (λj u b=>?_) Q;rw [Vp];split
  . rename_i x
    have:N-i=0:=by omega
    rw [this] at t;have:=UY (by omega:((bV L).drop ((i+1)*3)).length=0);rw [this] at b;simp at b
  . rw [Wg] at b;exact O _ _ b
 have E:∀ m d,(Builtin.append_ #[144,144] m #[Z5 (ZX ⟨g,0,ZY⟩) i cap,Z5 (ZX ⟨g,if cap=i+1 then 0 else (i+1)*3,ZY⟩) (N-i) d]).run ZO w.drew=.ok (Z5 (ZX ⟨g,0,ZY⟩) N cap) (w.drew.setCells g (i*3) ((bV L).drop ((i+1)*3))):=λm d=>by
  have hs:Src ZO io.size 144 (Z5 (ZX ⟨g,if cap=i+1 then 0 else (i+1)*3,ZY⟩) (N-i) d) (N-i) ((bV L).drop ((i+1)*3)) w.drew:=by rw [v];exact T d
  have h:=run_append_room_src (P:=ZO) (w:=w.drew) 144 144 m 152 io VD M g 0 i cap _ (N-i) _ hs (by omega) (λj b=>by
   rw [v];have:=l.cell (Ue (by rw [n];rw [t] at b;omega:0+i*3+j<cur.toList.length));show (w.cell? _).isSome=ZW;rw [this];rfl) (λj b=>l.Sa _)
  rw [v,Um,show i+(N-i)=N by omega] at h;exact h
 have s:ai (w.drew.setCells g (i*3) ((bV L).drop ((i+1)*3))) g 152 _:=ai.set (w:=w.drew) l (i*3) ((bV L).drop ((i+1)*3)) (by rw [t,n];omega);obtain ⟨r,I⟩:=nM (w.drew.setCells g (i*3) ((bV L).drop ((i+1)*3)));have J:Below base w r:=by rw [<- I];exact (T6 base w).drew.grown (cD _ _ _ _) (by show base<=w.heap.size;have:=l.lt;omega) (λk e=>by cases e;exact Y)
 rw [I] at E s;obtain ⟨c1,K⟩:=nM (cur.toList.take (i*3)++(bV L).drop ((i+1)*3)++cur.toList.drop (i*3+((bV L).drop ((i+1)*3)).length));obtain ⟨f,A,y,k8⟩:∃ f,(Builtin.zeroCells (Value.agg #[Z0 YF,Z7 Z9 0,Z5 ZY 0 0]).cells 1).toList=f/\f.length=3/\∀ u∈f,u.oneCell'=ZW:=by
  refine ⟨[Z0 YF,Z7 Z9 0,Z5 ZY 0 0],by kernel_rfl,rfl,?_⟩;intro u B;simp only [Uz,W4,or_false] at B;rcases B with rfl|rfl|rfl<;>rfl
 have C:=MG cur.toList L i N G V D (by rw [n];omega) f y;rw [K] at s C;have F:c1.length=cap*3:=by rw [<- K];simp only [Uc,Ur,Us,b8,n];omega
 have k9:∀ m c,(Builtin.clear_ #[144] m #[Z5 (ZX ⟨g,N*3,ZY⟩) 1 c]).run ZO r=.ok (ZZ #[]) (r.setCells g (N*3) f):=λm c=>by
  have h:=ur (P:=ZO) r 144 152 m g (N*3) 1 c 152 c1 VD (z:=.agg #[Z0 YF,Z7 Z9 0,Z5 ZY 0 0]) (λw=>by simp [zeroValue,typeInfo,M,R]) (by omega) s (by rw [A,y,F];omega) (by rw [A];exact k8);rw [A] at h;exact h
 have W:=s.set (N*3) f (by rw [y,F];omega);have X:Below base w (r.setCells g (N*3) f):=J.grown (cD _ _ _ _) (TZ (by have:=l.lt;omega) J.size) (λk e=>by cases e;exact Y);have H:=a5 W X C n;have p:=ak E;rw [G] at k0 hl ⊢;have k1:(0:Int)<=(i:Int)+1:=by omega
 have k2:((i:Int)+1).toNat=i+1:=by omega
 have k3:¬ cap=N:=by omega
 have k4:i<=N+1:=by omega
 have k5:(i:Int)<=(N:Int)+1:=by omega
 clear l n t Q O T E s I J K A y k8 C F W X U Z D S M R v hr;by_cases x:cap=i+1
 . rw [TX x] at p;obtain rfl:i=N:=(by omega);subst x;rw [WL] at p;clear k0 V k3;go_enter func137,ntmps137;go_wp2;go_region_law (refine l8 rfl _ _ 144 144 rfl _ _ (by simp [Act.eval,Act.put]) (by simp [Act.eval,Act.put]) (p.o _ 0) ?_)
   go_wp2;go_ret;exact ⟨rfl,H.o.2.1,_,H.o.1,H.o.2.2.1.2.trans H.o.2.2.2,H.o.2.2.1.1⟩
 . rw [TW x] at p;have k6:i<=cap:=(by omega);have k7:(i:Int)<=(cap:Int):=(by omega);go_enter func137,ntmps137;go_wp2;go_region_law (refine l8 rfl _ _ 144 144 rfl _ _ (by simp [Act.eval,Act.put]) (by simp [Act.eval,Act.put]) (p.o _ (cap-(i+1))) ?_)
   go_wp2;go_ret;exact ⟨rfl,H.o.2.1,_,H.o.1,H.o.2.2.1.2.trans H.o.2.2.2,H.o.2.2.1.1⟩
theorem uP {os:List Ob} (p:fa K w v os) (T:os.length<=9999) (hK:∀ k,w.heap.size<=k->K k) {i:Nat} (R:i<os.length) :
 ZS ZO 101 #[v,Z7 Z9 (i:Nat)] w (uO K w (os.take i++os.drop (i+1))):=by
 have t:=oI p (by omega);have x:∀ (W:ZU) (u:ZT) (L:List (Ob×ZT)),L.map (·.1)=os->Oz K w L->W.ownsRow w.heap.size 152 3 u L.length (bV L)->bW w W->ZS ZO 137 #[u,Z7 Z9 (i:Nat),Z7 Z9 ((i:Int)+1)] W (uO K w (os.take i++os.drop (i+1))):=λW u L b a ho c=>by
  have S:L.length=os.length:=by rw [<- b,Ud]
  rcases ho.2 with ⟨rfl,Q⟩|⟨g,cap,cur,rfl,r,I,P,M,O,G⟩
  . omega
  . have n:cap<=9223372036854775807:=(by unfold maxLen at M;omega);obtain ⟨N,H⟩:∃ N,L.length=N+1:=⟨L.length-1,by omega⟩;refine (Fy I r O G a.one H (by omega) P n (by omega)).mono ?_;rintro e w' ⟨rfl,J,l,D,E,F⟩;have d:bW w w':=c.trans J;have f:N=(L.take i++L.drop (i+1)).length:=(by simp;omega);refine ⟨_,rfl,?_,d⟩;have z:=Ap D r f (by omega) n E F;have C:(L.take i++L.drop (i+1)).map (·.1)=os.take i++os.drop (i+1):=(by rw [UD,WC,WD,b]);rw [<- C,f];rw [f] at z;refine uw z (by omega) hK (λy A=>?_);rw [Un] at A;rcases A with h|h
    . exact (a y (U2 h)).keep (eN.RU d)
    . exact (a y (U8 h)).keep (eN.RU d)
 have B:=ak x;clear x p hK;go_enter func101,ntmps101;go_wp2_with fail;refine t.mono ?_;rintro e w1 ⟨u,L,rfl,b,a,ho,c⟩;have s:=B.o w1 u L b a ho c;clear t b a ho c;go_wp2_with fail;refine s.mono ?_;rintro e w2 ⟨u2,rfl,m,q⟩;have j:=al m q;clear m q s;go_wp2;go_ret;exact ⟨_,rfl,j.o.1,j.o.2⟩
section
def rM (T:ZQ):Prop:=T=223\/T=264\/T=261\/T=299
structure bf where
 ps:Nat
 ho:Nat
 bl:Nat->Prop
 S:ZU->Prop
 keep:∀ w w',S w->(∀ k,bl k->w'.heap[k]?=w.heap[k]?)->S w'
 kd:∀ w,S w->∀ k,bl k->∀ cs T z,w.heap[k]?=ZX (Z4 cs T z)->rM T
 lt:∀ w,S w->∀ k,bl k->k<w.heap.size
 cl:∀ w,S w->∀ k,bl k->k+2=ps\/∃ cs T z,w.heap[k]?=ZX (Z4 cs T z)
structure a9 (w:ZU) (ar v p:Nat) (ps:bf) (D L G t:Nat) (pg ob:ZT) (P:a8) (xs:aX) (A:aC) (F:aH):Prop where
 arc:bC w ar v D L G t (P.getD 0 0) (aj xs.os).length pg ob ZV
 vol:pH w v p D L G ps.ps ps.ho A F
 nar:¬ F.S ar
 vlt:3<=v/\v<ar
 disk:du A D L G t P xs
 pgs:bg (λk=>ar<k/\¬ F.S k/\¬ ps.bl k) w pg P
 cat:fa (λk=>ar<k/\¬ F.S k/\¬ ps.bl k) w ob xs.os
 nb:A.nb<=1000
 turn:t<=1000000
 kit:ps.S w
 apt:∀ k,ps.bl k->3<=k/\k≠ar/\k≠v/\¬ F.S k
 hl:ps.ho<2^(D+L+G)
 fine:A.fine D L G
def bg.any (h:bg K w v l):bg (λk=>k<w.heap.size) w v l:=by
 obtain ⟨ao,c,d,e,f⟩:=h;refine ⟨ao,c,d,e,λhl=>?_⟩;obtain ⟨b,off,g,j,a,i⟩:=f hl;exact ⟨b,off,g,a.lt,a,i⟩
def fa.any {os:List Ob} (h:fa K w v os):fa (λk=>k<w.heap.size) w v os:=by
 obtain ⟨ao,c,d,e,f⟩:=h;refine ⟨ao,c,d,e,λhl=>?_⟩;obtain ⟨b,off,j,q,a,l⟩:=f hl;refine ⟨b,off,j,a.lt,a,λi g=>?_⟩;obtain ⟨sv,m,n,o,p⟩:=l i g;exact ⟨sv,m,n,o,p.any⟩
def uQ:∀ {xs:aX},(∀ x∈xs,jR D x)->xs.os.length<=(ah xs.os).length
 | [],_=>TY _
 | x::xs,h=>by
  have:=uQ (xs:=xs) (λy c=>h y (by simp [c]));have b:=(h x (by simp)).st;have:1<=x.1.RR.length:=by rw [b];exact YQ _ _
  have e:ah (aX.os (x::xs))=x.1.RR++ah (aX.os xs):=by simp [ah,aX.os]
  have a:(aX.os (x::xs)).length=(aX.os xs).length+1:=by simp [aX.os]
  rw [e,a,Uc];omega
section
variable {w:ZU} {ar v p D L G t:Nat} {ps:bf} {pg ob:ZT} {P:a8} {xs:aX} {A:aC} {F:aH}
def a9.vne (h:a9 w ar v p ps D L G t pg ob P xs A F):v≠ar:=by have:=h.vlt;omega
def a9.n0 (h:a9 w ar v p ps D L G t pg ob P xs A F):0<A.n:=by have:=h.vol.n;have:=h.vol.par.d1;omega
def a9.Sq (h:a9 w ar v p ps D L G t pg ob P xs A F):xs.os.length<=1000/\(ah xs.os).length<=1000/\P.length<=1000:=by
 have:=uQ h.disk.fits;have:=h.disk.room;have:=h.nb;omega
def a9.packL_le (h:a9 w ar v p ps D L G t pg ob P xs A F):(aj xs.os).length<=1000000:=by
 have:=ji h.vol.par.d1 h.disk.fits;have:=h.Sq.1;have:xs.os.length=xs.length:=by simp [aX.os]
 have:1500/(D*44)<=34:=by
  have:=h.vol.par.d1;have:1500/(D*44)<=1500/44:=abK (by omega) (by decide);omega
 have:xs.length*(19+4*(1500/(D*44)+1))<=1000*(19+4*(34+1)):=Xm (by omega) (by omega);omega
def a9.below (h:a9 w ar v p ps D L G t pg ob P xs A F) {w':ZU} (a:bW w w'):a9 w' ar v p ps D L G t pg ob P xs A F:=
 { h with arc:=h.arc.keep (a.block _ h.arc.lt),vol:=h.vol.below a lR,pgs:=h.pgs.keep (eN.RU a),cat:=h.cat.keep (eN.RU a),kit:=ps.keep _ _ h.kit λk b=>a.block k (ps.lt _ h.kit k b) }
def eJ (xs:aX):aS xs.os=xs.names:=by simp [aS,aX.os,aX.names]
def a9.find (h:a9 w ar v p ps D L G t pg ob P xs A F) (x:ByteArray) :
 ZS ZO 97 #[ob,Z0 x] w λe w'=>e=Z3 (ZZ #[Z7 Z9 (aL xs.names x:Nat),Z2 (mS xs.os x)])/\bW w w':=by
 have a:Up (aS xs.os):=by rw [eJ];exact h.disk.up
 have:=MF h.cat.any (by have:=h.Sq.1;omega) a x;rwa [eJ] at this
def a9.there (h:a9 w ar v p ps D L G t pg ob P xs A F) {x:ByteArray} (b:x∈xs.names):mS xs.os x=ZW:=by
 have a:Up (aS xs.os):=by rw [eJ];exact h.disk.up
 exact (Dh a x).2 (by rw [eJ];exact b)
def a9.Sx (h:a9 w ar v p ps D L G t pg ob P xs A F) {x:ByteArray} (b:x∉xs.names):mS xs.os x=ZV:=by
 have a:Up (aS xs.os):=by rw [eJ];exact h.disk.up
 cases hi:mS xs.os x
 . rfl
 . exact absurd ((Dh a x).1 hi) (by rw [eJ];exact b)
end
def bg.wk (h:bg K w v l) (g:∀ k,K k->k<w.heap.size->K' k):bg K' w v l:=by
 obtain ⟨ao,c,d,e,f⟩:=h;refine ⟨ao,c,d,e,λhl=>?_⟩;obtain ⟨b,off,i,j,a,m⟩:=f hl;exact ⟨b,off,i,g _ j a.lt,a,m⟩
def fa.wk {os:List Ob} (h:fa K w v os) (a:∀ k,K k->k<w.heap.size->K' k):fa K' w v os:=by
 obtain ⟨ao,c,e,f,g⟩:=h;refine ⟨ao,c,e,f,λhl=>?_⟩;obtain ⟨b,off,l,m,d,n⟩:=g hl;refine ⟨b,off,l,a _ m d.lt,d,λi j=>?_⟩;obtain ⟨sv,o,p,q,r⟩:=n i j;exact ⟨sv,o,p,q,r.wk a⟩
end
theorem m7 (n m:Nat) (h:n<=1000000) (f:1<=m/\m<=1000000) (w:ZU):ZS ZO 125 #[Z7 Z9 n,Z7 Z9 m] w λe w'=>e=Z3 (Z7 Z9 ((max 1 ((n+m-1)/m):Nat):Int))/\w'=w:=by
 have a:=tW n m (by omega) f w;obtain ⟨q,b⟩:=nM ((n+m-1)/m);rw [b] at a;rw [b];have g:∀ (d:ZQ) (w:ZU),(Builtin.max_ #[3,3] d #[Z7 Z9 1,Z7 Z9 (q:Int)]).run ZO w=.ok (Z7 Z9 ((max 1 q:Nat):Int)) w:=λd w=>by
  rw [lE];congr 2;split<;>omega
 clear b;go_enter func125,ntmps125;go_wp2_with fail;refine a.mono ?_;rintro e w' ⟨rfl,c⟩;obtain rfl:w=w':=c.symm;clear a c;go_wp2;go_ret;exact ⟨rfl,rfl⟩
def AP (n:Int):ZT:=.iface 66 (Z7 Z9 n)
def lq (D n:Nat):Nat:=max 1 ((n+D*44-1)/(D*44))
def AQ (D m n:Nat):Nat:=YH D (m+(19+4*lq D n))
def AR (g:1<=D) (d:n<=1500):lq D n<=36:=by
 unfold lq;have e:(n+D*44-1)/(D*44)<=n/(D*44)+1:=by
  have:=GX (D*44) n (by omega);exact TZ (acf _ _) this
 have f:n/(D*44)<=1500/44:=by
  have a:=XQ (c:=D*44) d;have b:1500/(D*44)<=1500/44:=abK (by omega) (by decide);omega
 omega
def Rx (c:1<=D) (d:m<=2000000):YH D m<=1000000:=by
 unfold YH;have:(m+(D*44-4)-1)/(D*44-4)<=(m+(D*44-4)-1)/40:=abK (by omega) (by decide);have:(m+(D*44-4)-1)/(D*44-4)<=m/40+1:=by
  refine TZ ((Nat.div_le_iff_le_mul_add_pred (by omega)).2 ?_) lR;have:40*(m/40+1)<=(D*44-4)*(m/40+1):=WV _ (by omega);omega
 omega
theorem Ju (ao:Option Addr) (n c a bb:Nat) (i:a<=bb) (j:bb<=c):∃ d,(∀ w,(Instr.sliceAt 40 (.slice ao n c) (ZX (Z7 Z9 (a:Nat))) (ZX (Z7 Z9 (bb:Nat))) ZY).run ZO w=.ok (.slice d (bb-a) (c-a)) w)/\∀ b off,ao=ZX ⟨b,off,ZY⟩->c≠a->d=ZX ⟨b,off+a,ZY⟩:=by
 match ao with
 | none=>exact ⟨ZY,λw=>by go_simp,λ_ _ h=>by cases h⟩
 | some ⟨b,off,x⟩=>exact ⟨if c=a then ZX ⟨b,off,x⟩ else ZX (Addr.add ⟨b,off,x⟩ a),λw=>by go_simp,λg e h f=>by rw [TW f];cases h;rw [Vp]⟩
def Ry {a':Option Addr} {d:a8} (h:Bs w (.slice ao n c) d) (A:n=d.length) {ks m a:Nat} (q:∀ b off,ao=ZX ⟨b,off,ZY⟩->c≠ks->a'=ZX ⟨b,off+ks,ZY⟩) (f:((d.drop ks).take m).length=a) (z:ks+a<=n):Bs w (.slice a' a (c-ks)) ((d.drop ks).take m):=by
 obtain ⟨g,t,e,u,v,l,o⟩:=h;simp only [VA] at e;obtain ⟨rfl,_,rfl⟩:=e;refine ⟨_,_,by rw [f],by omega,by omega,λx s=>l x (U8 (U2 s)),λhl=>?_⟩;obtain ⟨b,off,i,r⟩:=o (λe=>by rw [e] at hl;simp at hl);have:0<a:=by rw [<- f];exact Yk.2 hl
 refine ⟨b,off+ks,q b off i (by omega),λk j=>?_⟩;have p:k<m:=by rw [Us] at j;omega
 rw [Vx,r (ks+k) (by omega)];simp only [Ub,VR p,Wg]
theorem rN {v D' L' G' f nn:Nat} {ofb:Bool} {A:aC} (r:bC w ar v D' L' G' t f nn pg ob ofb) (b:pH w v p D L G ps ho A F) (kc:A.fine D L G) (k6:¬ F.S ar)
 (nm:ByteArray) (sv:ZT) (S:a8) (B:bg (λk=>¬ F.S k) w sv S) (k5:∀ x∈S,x<A.nb) (ao:Option Addr) (c:Nat) (d:a8) (K:∀ w',aa F.S w w'->Bs w' (.slice ao d.length c) d) (kb:d.length<=1500) (ka:d.length<=c) (hm:∀ k,k<S.length->k*(D*44)<=d.length) :
 ZS ZO 129 #[Z6 (ZX ⟨ar,0,ZY⟩),.agg #[Z0 nm,Z7 Z9 (d.length:Nat),sv],.slice ao d.length c] w (ER w p D L G S (dL D d) A F):=by
 have kr:=b.par.d1;have hD:=b.par.d;obtain ⟨M,N,rfl,hn,_⟩:=id B;obtain ⟨c0,_⟩:=r.cells;have hz:=λW (hW:bW w W)=>dJ (b.vol.keep (hW.block _ b.vol.lt)) (by omega);obtain ⟨sz,J⟩:=nM (D*44);have km:44<=sz/\sz<=528:=by omega
 have l:bW w (w.alloc (Z4 #[Z0 nm,Z7 Z9 (d.length:Nat),.slice M S.length N] 152)):=bA w _;have g:ai (w.alloc (Z4 #[Z0 nm,Z7 Z9 (d.length:Nat),.slice M S.length N] 152)) w.heap.size 152 [Z0 nm,Z7 Z9 (d.length:Nat),.slice M S.length N]:=UN w _;obtain ⟨n,q⟩:=nM (d.length);rw [q] at l g ka kb ⊢;have g2:=g.cell (j:=2) (u:=.slice M S.length N) rfl;have H:=(l.cell (p:=⟨ar,0,ZY⟩) r.lt).trans c0;have R:=hz _ l;obtain ⟨w1,ko⟩:=nM (w.alloc (Z4 #[Z0 nm,Z7 Z9 (n:Nat),.slice M S.length N] 152));rw [ko] at R g2 H l g;rw [J] at R hm;have P:=hide8 r b B K l g q J;clear r b B K hz l g q c0;go_enter func129,ntmps129;go_wp2_with fail;refine R.mono ?_;rintro e O ⟨rfl,rfl⟩;clear R;go_wp2;go_loopw [19] (λi wr=>∃ k:Nat,i=Z7 Z9 (k:Nat)/\k<=S.length/\az wr p (A.wrTo D L G S (dL D d) k) F/\aa (F.S) O wr) (λi _=>S.length-(intOf i).toNat)
 case atStart=>exact ⟨0,rfl,T7 _,P.o.2.1.arr.below P.o.2.2.2.2.1 lR,aa.refl _ _⟩
 case round=>
  clear g2 H;obtain ⟨k,rfl,hk,T,z⟩:=hrel;by_cases s:k<S.length
  . obtain ⟨r,b,B,K,l,g,q,J⟩:=P.o;have I:aa (F.S) w wr:=(aa.RT l _).trans z;obtain ⟨sb,so,hb,e1,hq⟩:=sq (B.keep (eN.Sf I)) (λe=>by rw [e] at s;simp at s);simp only [VA] at e1;obtain ⟨rfl,_,rfl⟩:=e1;have g1:=hq k s;obtain ⟨y,V⟩:=nM (S[k]);rw [V] at g1;have kp:y<A.nb:=(by rw [<- V];exact k5 _ (T8 s));have Z:=r.keep (I.block _ r.lt k6);obtain ⟨ca,_⟩:=Z.cells;have kk:¬ F.S w.heap.size:=λh=>by have:=b.arr.RS h;omega
    have hg:ai wr w.heap.size 152 _:=g.keep (z.block _ g.lt kk);have cz:=hg.cell (j:=1) (u:=Z7 Z9 (n:Nat)) rfl;have hv:=hm k s;obtain ⟨m,hx⟩:=nM (k*sz);obtain ⟨a,hh⟩:=nM ((k+1)*sz);have Y:(k+1)*sz=k*sz+sz:=WY k sz;have kh:(k:Int)*(sz:Int)=((k*sz:Nat):Int):=(by rw [XG]);have ki:((k:Int)+1)*(sz:Int)=(((k+1)*sz:Nat):Int):=(by rw [XG];rfl);rw [hx] at kh Y hv;rw [hh] at ki Y;rw [q] at hv;obtain ⟨bb,k9⟩:=nM (min a n);have k7:m<=bb:=(by omega);have k8:bb<=c:=(by omega);have hs:dL D d k=(d.drop m).take sz:=(by unfold dL;rw [J,hx]);have X:((d.drop m).take sz).length=bb-m:=(by rw [Us,Ur];omega);have kj:∀ E ty w,(Builtin.min_ E ty #[Z7 Z9 (a:Nat),Z7 Z9 (n:Nat)]).run ZO w=.ok (Z7 Z9 (bb:Nat)) w:=λE ty w=>by
     rw [gJ];by_cases Q:((n:Nat):Int)<((a:Nat):Int)
     . rw [TX Q,show bb=n by omega]
     . rw [TW Q,show bb=a by omega]
    obtain ⟨a',kx,hp⟩:=Ju ao n c m bb k7 k8;have U:=jy A D L G S (dL D d) k;have k0:ZS ZO 165 #[Z6 (ZX ⟨v,0,ZY⟩),Z7 Z9 y,.slice a' (bb-m) (c-m)] wr.drew λe w'=>e=Z3 .nilIface/\az w' p (A.wrTo D L G S (dL D d) (k+1)) F/\aa F.S O w':=by
     have hr:=K wr.drew (I.trans (aa.drew _));rw [q] at hr;refine (lg (b.turn (I.trans (aa.drew _)) (T.keep λ_ _=>rfl) U.1) (U.2.2.fine kc) y (by rw [U.2.1];exact kp) _ _ (Ry hr q.symm hp X (by omega)) (by rw [X];omega)).mono ?_;rintro e w' ⟨rfl,Q,h2⟩;refine ⟨rfl,?_,z.trans ((aa.drew _).trans h2)⟩;rw [aC.wrTo,hs,oP s,V];exact Q
    have HW:=aE k0 Z hg;have kv:IntKind.i64.wrap ((k:Int)+1)=(k:Int)+1:=(by rw [UF];omega);have kf:IntKind.i64.wrap (m:Int)=(m:Int):=(by rw [UF];omega);have kg:IntKind.i64.wrap (a:Int)=(a:Int):=(by rw [UF];omega);clear hp k0 Z hg z I T U hs X hq V r b B K l g q J k9 Y;go_wp2;go_region_with (go_at_call 165;refine HW.o.1.mono ?_;rintro e w2 ⟨rfl,hi,hj⟩;have C:=al hi hj;clear hi hj);all_goals (
     go_wp2;go_roundw
     case rel=>exact ⟨k+1,by go_num,by omega,C.o.1,C.o.2⟩
     case measure=>simp only [intOf];omega)
  . have ke:k=S.length:=(by omega);subst ke;have C:=al T z;clear T z;go_wp2;go_ret;exact ⟨rfl,C.o.1,(aa.RT P.o.2.2.2.2.1 _).trans C.o.2⟩
def Rz (A:aC) (D L G:Nat) (S:a8) (c:Nat->a8) (k:Nat):fj A (A.wrTo D L G S c k):=(jy A D L G S c k).2.2
def AS (A:aC) (D L G t:Nat) (P l:a8):fj A (A.TK D L G t P l):=(PU A D L G t P l).2.2
def qC {v t':Nat} {ps:bf} {vo:ZT} {xs xs':aX} {A B:aC} (h:a9 w ar v p ps D L G t pg ob P xs A F) (i:bC w' ar v D L G t' (P'.getD 0 0) (aj xs'.os).length vp vo ZV) (c:az w' p B F) (b:aa (λk=>k=ar\/F.S k) w w') (a:fj A B) (l:t'<=1000000)
 (j:du B D L G t' P' xs') (f:bg (λk=>ar<k/\¬ F.S k/\¬ ps.bl k) w' vp P') (d:fa (λk=>ar<k/\¬ F.S k/\¬ ps.bl k) w' vo xs'.os):a9 w' ar v p ps D L G t' vp vo P' xs' B F:=by
 have:=h.vlt;exact ⟨i,{ h.vol with vol:=h.vol.vol.keep (b.block _ h.vol.vol.lt (λe=>e.elim h.vne h.vol.v)),arr:=c,laid:=h.vol.laid.keep (b.block _ h.vol.laid.lt (λe=>e.elim (λq=>by omega) h.vol.g)),tab:=h.vol.tab.keep (b.block _ h.vol.tab.lt (λe=>e.elim (λq=>by omega) h.vol.t)),room:=TZ h.vol.room b.size,n:=a.n.trans h.vol.n },h.nar,h.vlt,j,f,d,by rw [a.nb];exact h.nb,l,ps.keep _ _ h.kit λk a=>b.block k (ps.lt _ h.kit k a) (λq=>q.elim (h.apt k a).2.1 (h.apt k a).2.2.2),h.apt,h.hl,a.fine h.fine⟩
def Jv {v:Nat} {ps:bf} {xs:aX} {A B:aC} (h:a9 w ar v p ps D L G t pg ob P xs A F) (d:bC w' ar v D L G t (P.getD 0 0) (aj xs.os).length pg ob ZV) (c:az w' p B F) (a:aa (λk=>k=ar\/F.S k) w w') (b:fj A B) (f:du B D L G t P xs):a9 w' ar v p ps D L G t pg ob P xs B F:=
 have hK:eN (λk=>ar<k/\¬ F.S k/\¬ ps.bl k) w w':=⟨a.size,λk b hK=>a.block k b (λe=>e.elim (λq=>by have:=hK.1;omega) hK.2.1)⟩;qC h d c a b h.turn f (h.pgs.keep hK) (h.cat.keep hK)
def Dj (c:1<=D) (h:k<YH D m):k*(D*44-4)<=m:=by
 unfold YH at h;rcases WU k with rfl|d
 . simp
 . have a:k<(m+(D*44-4)-1)/(D*44-4):=(by omega);have b:(k+1)*(D*44-4)<=m+(D*44-4)-1:=(acg (by omega)).1 a;rw [WY] at b;omega
def Dk (c:1<=D) (h:k<lq D n):k*(D*44)<=n:=by
 unfold lq at h;rcases WU k with rfl|d
 . simp
 . have a:k<(n+D*44-1)/(D*44):=(by omega);have b:(k+1)*(D*44)<=n+D*44-1:=(acg (by omega)).1 a;rw [WY] at b;omega
def yJ {a:Nat} (ho:w.ownsRow base 3 1 (Z5 (ZX ⟨g,0,ZY⟩) (a+b) cap) (a+b) (jV l)) (hl:l.length=a+b) (hK:K g) (q:a+b<=100000):bg K w (Z5 (ZX ⟨g,0,ZY⟩) a c1) (l.take a):=by
 rcases ho.2 with ⟨e,_⟩|⟨j,c,cur,e,m,h,p,n,o,k⟩
 . cases e
 . simp only [VA,US,abF] at e;obtain ⟨⟨rfl,_,_⟩,_,rfl⟩:=e;have f:(l.take a).length=a:=(by rw [Us];omega);refine ⟨_,c1,by rw [f],by omega,λ_=>⟨g,0,rfl,hK,⟨_,_,_,h,by decide⟩,λi r=>?_⟩⟩;have d:=ho.cells (g:=g) rfl i (Z7 Z9 ((l[i]'(by omega):Nat):Int)) (by unfold jV;rw [UE,Ue (by omega)];rfl);rw [jm] at d;rw [Um,abI];exact d
def Jw {a:Nat} (ho:w.ownsRow base 3 1 (Z5 (ZX ⟨g,0,ZY⟩) (a+b) cap) (a+b) (jV l)) (hl:l.length=a+b) (hK:K g) (q:a+b<=100000):bg K w (Z5 (ZX ⟨g,a,ZY⟩) b c1) (l.drop a):=by
 rcases ho.2 with ⟨e,_⟩|⟨j,c,cur,e,m,h,p,n,o,k⟩
 . cases e
 . simp only [VA,US,abF] at e;obtain ⟨⟨rfl,_,_⟩,_,rfl⟩:=e;have f:(l.drop a).length=b:=(by rw [Ur];omega);refine ⟨_,c1,by rw [f],by omega,λ_=>⟨g,a,rfl,hK,⟨_,_,_,h,by decide⟩,λi r=>?_⟩⟩;have d:=ho.cells (g:=g) rfl (a+i) (Z7 Z9 ((l[a+i]'(by omega):Nat):Int)) (by unfold jV;rw [UE,Ue (by omega)];rfl);rw [jm] at d;rw [Yp];exact d
def uR (w:ZU) (b:Nat):Prop:=∀ off u,w.cell? ⟨b,off,ZY⟩=ZX u->(∀ x,u≠Z7 Z9 x)/\∀ s,u≠Z0 s
def yK (a:w.heap[b]?=ZX (Z4 #[.nilIface] 64 (0,0))):uR w b:=λoff u h=>by
 cases off with
 | zero=>simp [World.cell?,a] at h;subst h;exact ⟨λ_=>nofun,λ_=>nofun⟩
 | succ n=>simp [World.cell?,a] at h
def bg.aside (h:bg K w v l) (p:uR w b) (t:w.heap.size<=w'.heap.size) (g:∀ k,k≠b->k<w.heap.size->w'.heap[k]?=w.heap[k]?):bg K w' v l:=by
 obtain ⟨ao,c,m,n,o⟩:=h;refine ⟨ao,c,m,n,λhl=>?_⟩;obtain ⟨a,off,r,s,d,j⟩:=o hl;have f:a≠b:=λe=>by
  subst e;exact (p _ _ (j 0 (Yk.2 hl))).1 _ rfl
 exact ⟨a,off,r,s,d.keep (g a f d.lt),λi q=>(Uo (g a f d.lt)).trans (j i q)⟩
def fa.aside {os:List Ob} (h:fa K w v os) (m:uR w b) (s:w.heap.size<=w'.heap.size) (f:∀ k,k≠b->k<w.heap.size->w'.heap[k]?=w.heap[k]?):fa K w' v os:=by
 obtain ⟨ao,c,o,p,q⟩:=h;refine ⟨ao,c,o,p,λhl=>?_⟩;obtain ⟨a,off,t,u,g,n⟩:=q hl;have l:a≠b:=λe=>by
  subst e;obtain ⟨sv,j,_⟩:=n 0 (Yk.2 hl);exact (m _ _ j).2 _ rfl
 refine ⟨a,off,t,u,g.keep (f a l g.lt),λi r=>?_⟩;obtain ⟨sv,j,x,y,z⟩:=n i r;have d:=f a l g.lt;exact ⟨sv,(Uo d).trans j,(Uo d).trans x,(Uo d).trans y,z.aside m s f⟩
def a9.aside {v:Nat} {ps:bf} {xs:aX} {A:aC} (h:a9 w ar v p ps D L G t pg ob P xs A F) (f:uR w b) (i:¬ ps.bl b) (c:w.heap.size<=w'.heap.size) (a:∀ k,k≠b->k<w.heap.size->w'.heap[k]?=w.heap[k]?) (m:B<=b) (l:∀ k,F.S k->k<B) (o:v<B) (n:ar<B) (hK:3<=B):a9 w' ar v p ps D L G t pg ob P xs A F:=by
 exact { h with arc:=h.arc.keep (a _ (by omega) h.arc.lt),vol:={ h.vol with vol:=h.vol.vol.keep (a _ (by omega) h.vol.vol.lt),arr:=h.vol.arr.keep λj g=>a j (by have:=l j g;omega) (h.vol.arr.RS g),laid:=h.vol.laid.keep (a _ (by omega) h.vol.laid.lt),tab:=h.vol.tab.keep (a _ (by omega) h.vol.tab.lt),room:=TZ h.vol.room c },pgs:=h.pgs.aside f c a,cat:=h.cat.aside f c a,kit:=ps.keep _ _ h.kit λk d=>a k (λe=>i (e▸d)) (ps.lt _ h.kit k d) }
def a9.Tt {v:Nat} {ps:bf} {xs:aX} {A:aC} {cs:Array ZT} (h:a9 w ar v p ps D L G t pg ob P xs A F) (a:w.heap[b]?=ZX (Z4 cs 64 (0,0))):¬ ps.bl b:=λq=>by
 exact absurd (ps.kd _ h.kit b q _ _ _ a) (by unfold rM;decide)
def MH (b:Nat) (w w':ZU):Prop:=w.heap[b]?=ZX (Z4 #[.nilIface] 64 (0,0))/\w'.heap.size=w.heap.size/\∀ j,j≠b->w'.heap[j]?=w.heap[j]?
def Fz {v:Nat} {ps:bf} {xs:aX} {A:aC} (h:a9 w ar v p ps D L G t pg ob P xs A F) (k:FuncId) (first cap:Array ZT) (M:∀ (args:Array ZT) (w:ZU),(callFunc k args).run ZO w=.ok (.enter k args) w) (Q:ZT->Nat->aX->aC->bf->ZU->Prop) (T:Nat->Prop) (J:∀ j,T j->j≠w.heap.size)
 (V:∀ x f xs' B a w2 w',MH w.heap.size w2 w'->Q x f xs' B a w2->Q x f xs' B a w')
 (N:∀ w1,bW w w1->w1.heap.size=w.heap.size+1->ZS ZO k (first++cap) w1 λe w2=>∃ x f d c P' xs' B a,e=Z3 x/\m3 x/\a9 w2 ar v p a D L G f d c P' xs' B F/\fj A B/\aa (λj=>j=ar\/F.S j\/T j) w1 w2/\Q x f xs' B a w2) :
 ZS ZO 52 #[Z6 (ZX ⟨ar,0,ZY⟩),.func (.func k) first cap] w λe w'=>∃ x f d c P' xs' B a,e=Z3 x/\m3 x/\a9 w' ar v p a D L G f d c P' xs' B F/\fj A B/\aa (λj=>j=ar\/F.S j\/T j) w w'/\Q x f xs' B a w':=by
 have E:=h.arc.lt;have W:=h.vol.vol.lt;have u:∀ j,F.S j->j<w.heap.size:=λj g=>h.vol.arr.RS g;have C:=h.vol.room;have U:=lY k first cap M w ar _ h.arc rfl (λw1 x w2=>bW w w1/\w1.heap.size=w.heap.size+1/\w2.heap[w.heap.size]?=ZX (Z4 #[.nilIface] 64 (0,0))/\∃ f d c P' xs' B a,a9 w2 ar v p a D L G f d c P' xs' B F/\fj A B/\aa (λj=>j=ar\/F.S j\/T j) w1 w2/\Q x f xs' B a w2)
  (λw1 l n O=>(N w1 l n).mono (by
   rintro e w2 ⟨x,f,d,c,P',xs',B,a,rfl,s,hl,r,o,q⟩;have y:=o;have z:w2.heap[w.heap.size]?=w1.heap[w.heap.size]?:=y.block _ (by omega) (λe=>by
    rcases e with e|e|e
    . omega
    . have:=u _ e;omega
    . exact J _ e rfl)
   exact ⟨x,rfl,s,⟨l,n,z.trans O,f,d,c,P',xs',B,a,hl,r,y,q⟩,z,_,hl.arc,rfl⟩))
 refine U.mono ?_;rintro e w' ⟨x,w1,w2,rfl,s,_,_,⟨l,n,m,f,d,c,P',xs',B,a,hl,r,o,q⟩,rfl⟩;have H:(w2.setCell ⟨w.heap.size,0,ZY⟩ x).heap[ar]?=ZX (Z4 (nv v D L G f (P'.getD 0 0) (aj xs'.os).length d c ZV) 146 (0,0)):=(Uj _ _ _ _ (by show ar≠w.heap.size;omega)).trans hl.arc;have I:=af (j:=9) H (Z2 ZV);have i:MH w.heap.size w2 ((w2.setCell ⟨w.heap.size,0,ZY⟩ x).setCell ⟨ar,9,ZY⟩ (Z2 ZV)):=by
  refine ⟨m,by simp [World.setCell],λj g=>?_⟩;by_cases e:j=ar
  . subst e;exact I.trans hl.arc.symm
  . exact (Uj _ _ _ _ e).trans (Uj _ _ _ _ g)
 have R:=hl.aside (w':=(w2.setCell ⟨w.heap.size,0,ZY⟩ x).setCell ⟨ar,9,ZY⟩ (Z2 ZV)) (b:=w.heap.size) (B:=w.heap.size) (yK m) (hl.Tt m) (by rw [i.2.1];exact TY _) (λj g _=>i.2.2 j g) lR u W E C;refine ⟨x,f,d,c,P',xs',B,a,rfl,s,R,r,?_,V _ _ _ _ _ _ _ i q⟩;have K:aa (λj=>j=ar\/F.S j\/T j) w w2:=(aa.RT l _).trans o;exact K.later (T:=λj=>w.heap.size<=j) ⟨rfl,rfl,rfl,by rw [i.2.1];exact TY _,λj _ g=>i.2.2 j (by omega)⟩ (λj X Y=>by omega)
def aaM {v:Nat} {ps:bf} {xs:aX} {A:aC} (h:a9 w ar v p ps D L G t pg ob P xs A F) (k:FuncId) (first cap:Array ZT) (u:∀ (args:Array ZT) (w:ZU),(callFunc k args).run ZO w=.ok (.enter k args) w) (Q:ZT->Nat->aX->aC->ZU->Prop)
 (z:∀ x a xs' B w2 w',MH w.heap.size w2 w'->Q x a xs' B w2->Q x a xs' B w')
 (y:∀ w1,bW w w1->w1.heap.size=w.heap.size+1->ZS ZO k (first++cap) w1 λe w2=>∃ x a c b P' xs' B,e=Z3 x/\m3 x/\a9 w2 ar v p ps D L G a c b P' xs' B F/\fj A B/\aa (λj=>j=ar\/F.S j) w1 w2/\Q x a xs' B w2) :
 ZS ZO 52 #[Z6 (ZX ⟨ar,0,ZY⟩),.func (.func k) first cap] w λe w'=>∃ x a c b P' xs' B,e=Z3 x/\m3 x/\a9 w' ar v p ps D L G a c b P' xs' B F/\fj A B/\aa (λj=>j=ar\/F.S j) w w'/\Q x a xs' B w':=by
 refine (Fz h k first cap u (λx a xs' B d w2=>d=ps/\Q x a xs' B w2) (λ_=>False) (λ_ e=>e.elim) (λx a xs' B d w2 w' C r=>⟨r.1,z x a xs' B w2 w' C r.2⟩) λw1 s E=>(y w1 s E).mono ?_).mono ?_
 . rintro e w2 ⟨x,a,c,b,P',xs',B,f,g,i,l,m,n⟩;exact ⟨x,a,c,b,P',xs',B,ps,f,g,i,l,m.mono λj _ o=>o.elim .inl (λq=>.inr (.inl q)),rfl,n⟩
 . rintro e w2 ⟨x,a,c,b,P',xs',B,d,f,g,i,l,m,rfl,n⟩;exact ⟨x,a,c,b,P',xs',B,f,g,i,l,m.mono λj _ o=>o.elim .inl (λq=>q.elim .inr (λq=>q.elim)),n⟩
def bL (D L G lost:Int) (rd:Bool):ZT:=.agg #[Z7 Z9 D,Z7 Z9 L,Z7 Z9 G,Z7 Z8 lost,Z2 rd]
def oS (e:Bool) (D L G lost:Int) (rd:Bool) (w:ZU):(Instr.checkKey e 10000 221 (bL D L G lost rd)).run ZO w=.ok () w:=by kernel_rfl
theorem OZ (D L G lost:Int) (rd:Bool) (w:ZU):(Op.equal 221 (bL D L G lost rd) (bL D L G lost rd)).run ZO w=.ok ZW w:=by
 unfold bL Op.equal Op.maxDepth;go_simp
def uS {es:Array MapEntry} (h:w.heap[m]?=ZX (.map es n)):(getObj m).run ZO w=.ok (.map es n) w:=by simp [getObj,Sem.run,h]
def MI {es:Array MapEntry} (h:w.heap[m]?=ZX (.map es n)) (o:Obj):(setObj m o).run ZO w=.ok () (w.putObj m o):=by simp [setObj,Sem.run,h,World.putObj]
def jB (w:ZU) (n:Nat) (D L G lost:Int) (rd:Bool) (regs:Int) (steps:ZT) (ne ol:ZT):Prop:=w.heap[n]?=ZX (Z4 (mY D L G lost rd regs steps ne ol) 261 (0,0))
def jB.lt {D L G:Int} {rd:Bool} {steps ol:ZT} (h:jB w n D L G lost rd regs steps ne ol):n<w.heap.size:=(T5.1 h).1
def jB.cells {D L G:Int} {rd:Bool} {steps ol:ZT} (h:jB w n D L G lost rd regs steps ne ol):w.cell? ⟨n,7,ZY⟩=ZX ne/\w.cell? ⟨n,8,ZY⟩=ZX ol/\w.frozen? ⟨n,7,ZY⟩=ZV/\w.frozen? ⟨n,8,ZY⟩=ZV:=by
 have a:w.heap[n]?=ZX (Z4 (mY D L G lost rd regs steps ne ol) 261 (0,0)):=h;simp [World.cell?,World.frozen?,a,mY]
def jB.S2 {D L G:Int} {rd:Bool} {steps ol:ZT} (h:jB w n D L G lost rd regs steps ne ol) (x:ZT):jB (w.setCell ⟨n,7,ZY⟩ x) n D L G lost rd regs steps x ol:=af (j:=7) h x
def jB.SM {D L G:Int} {rd:Bool} {steps ol:ZT} (h:jB w n D L G lost rd regs steps ne ol) (x:ZT):jB (w.setCell ⟨n,8,ZY⟩ x) n D L G lost rd regs steps ne x:=af (j:=8) h x
def jB.keep {D L G:Int} {rd:Bool} {steps ol:ZT} (h:jB w n D L G lost rd regs steps ne ol) (e:w'.heap[n]?=w.heap[n]?):jB w' n D L G lost rd regs steps ne ol:=e.trans h
def ix (w:ZU) (b i j:Nat) (x y:ZT):aa (λk=>k=b) w ((w.setCell ⟨b,i,ZY⟩ x).setCell ⟨b,j,ZY⟩ y):=by
 have a:aa (λk=>k=b) w (w.setCell ⟨b,i,ZY⟩ x):=aa.setCell _ _ _ rfl;have c:aa (λk=>k=b) (w.setCell ⟨b,i,ZY⟩ x) ((w.setCell ⟨b,i,ZY⟩ x).setCell ⟨b,j,ZY⟩ y):=aa.setCell _ _ _ rfl;exact a.trans c
def aaN (w:ZU) (sb n:Nat):Prop:=jB w sb 0 0 0 0 ZV 0 (Z5 ZY 0 0) (Z6 (ZX ⟨n,0,ZY⟩)) (Z6 (ZX ⟨n,0,ZY⟩))
def fP (w:ZU) (sb:Nat) (room:Int):Prop:=w.heap[sb+1+1]?=ZX (Z4 #[Z7 Z9 room,.map (ZX (sb+1)),Z6 (ZX ⟨sb,0,ZY⟩)] 264 (0,0))
def jB.value {D L G:Int} {rd:Bool} {steps ol:ZT} (h:jB w n D L G lost rd regs steps ne ol):w.cell? ⟨n,5,ZY⟩=ZX (Z7 Z9 regs)/\w.cell? ⟨n,6,ZY⟩=ZX steps:=by
 have a:w.heap[n]?=ZX (Z4 (mY D L G lost rd regs steps ne ol) 261 (0,0)):=h;simp [World.cell?,a,mY]
def gy (hl:fP w sb room):w.cell? ⟨sb+1+1,0,ZY⟩=ZX (Z7 Z9 room)/\w.cell? ⟨sb+1+1,1,ZY⟩=ZX (.map (ZX (sb+1)))/\w.cell? ⟨sb+1+1,2,ZY⟩=ZX (Z6 (ZX ⟨sb,0,ZY⟩)):=by
 have a:w.heap[sb+1+1]?=_:=hl;simp [World.cell?,a]
def aa.putObj (w:ZU) (m:Nat) (o:Obj) (h:S m):aa S w (w.putObj m o):=⟨rfl,rfl,rfl,by simp [World.putObj],λk _ a=>U6 (λe=>a (e▸h))⟩
structure wt (w w2:ZU) (D L G lost:Int) (rd:Bool):Prop where
 par:w2.heap[w.heap.size]?=ZX (Z4 #[Z7 Z9 D,Z7 Z9 L,Z7 Z9 G,Z7 Z8 lost,Z2 rd] 221 (0,0))
 res:w2.heap[w.heap.size+1]?=ZX (Z4 #[Z7 Z9 0,Z5 ZY 0 0] 206 (0,0))
 below:bW w w2
 size:w.heap.size+2<=w2.heap.size
def wt.new (w:ZU) (D L G lost:Int) (rd:Bool):wt w ((w.alloc (Z4 #[Z7 Z9 D,Z7 Z9 L,Z7 Z9 G,Z7 Z8 lost,Z2 rd] 221)).alloc (Z4 #[Z7 Z9 0,Z5 ZY 0 0] 206)) D L G lost rd:=by
 refine ⟨(Uy _ _ _ (by simp)).trans (Uk _ _),?_,(bA w _).alloc (by simp) _,by simp⟩;have:=Uk (w.alloc (Z4 #[Z7 Z9 D,Z7 Z9 L,Z7 Z9 G,Z7 Z8 lost,Z2 rd] 221)) (Z4 #[Z7 Z9 0,Z5 ZY 0 0] 206);rwa [Uw] at this
def wt.mono {D L G:Int} {rd:Bool} (h:wt w w2 D L G lost rd) (a:bW w2 w3):wt w w3 D L G lost rd:=by
 have:=h.size;exact ⟨(a.block _ (by omega)).trans h.par,(a.block _ (by omega)).trans h.res,h.below.trans (a.mono h.below.size),TZ h.size a.size⟩
def wt.cells {D L G:Int} {rd:Bool} (h:wt w w2 D L G lost rd):w2.cell? ⟨w.heap.size,0,ZY⟩=ZX (Z7 Z9 D)/\w2.cell? ⟨w.heap.size,1,ZY⟩=ZX (Z7 Z9 L)/\w2.cell? ⟨w.heap.size,2,ZY⟩=ZX (Z7 Z9 G)/\w2.cell? ⟨w.heap.size,3,ZY⟩=ZX (Z7 Z8 lost)/\w2.cell? ⟨w.heap.size,4,ZY⟩=ZX (Z2 rd):=by
 have a:=h.par;simp [World.cell?,a]
def aa.after (a:bW w w2) (b:aa T w2 w3):aa T w w3:=⟨b.os.trans a.os,b.tape.trans a.tape,b.output.trans a.output,TZ a.size b.size,λk c d=>(b.block k (T9 c a.size) d).trans (a.block k c)⟩
def nD (D L G s:Nat) (ao:Option Addr) (m c:Nat) (e:ZR):Prop:=e=Z3 (ZZ #[.agg #[Z7 Z9 (1+((ab (aw (D+L+G) s)).length:Int)),.slice ao m c],.nilIface])
def pM.parts (h:pM w sb room):fP w sb room/\(∃ n,w.heap[sb+1]?=ZX (.map #[] n))/\aaN w sb sb/\w.cell? ⟨sb+1+1+1,0,ZY⟩=ZX (Z6 (ZX ⟨sb+1+1,0,ZY⟩)):=by
 refine ⟨h.list,h.map,h.ends,?_⟩;have a:=h.R7;simp [World.cell?,a]
def MJ (P:List St) (D c:List a8) (k:Nat) (h:(bK P k).k=0):bU P D c (k+1)=(bU P D c k).set (bK P k).a.toNat (D.getD (bK P k).b.toNat [])/\dE P D c (k+1)=dE P D c k:=by
 simp [bU,dE,dR,ir,h]
def O0 (P:List St) (D d:List a8) (k:Nat) (h:(bK P k).k=1):bU P D d (k+1)=(bU P D d k).set (bK P k).a.toNat (iP ((bU P D d k).getD (bK P k).a.toNat []) ((bU P D d k).getD (bK P k).b.toNat []) (bK P k).c)/\dE P D d (k+1)=dE P D d k:=by
 simp [bU,dE,dR,ir,h]
def O1 (P:List St) (D c:List a8) (k:Nat) (h:(bK P k).k=2):bU P D c (k+1)=bU P D c k/\dE P D c (k+1)=dE P D c k++[((bK P k).b,(bU P D c k).getD (bK P k).a.toNat [])]:=by
 simp [bU,dE,dR,ir,h]
def RnR (w0:ZU) (B:Nat) (P:List St) (D R0:List a8) (n r gR:Nat) (vO iv:ZT) (wr:ZU):Prop:=
 ∃ k T O,k<=P.length/\iv=Z7 Z9 (k:Nat)/\Rn w0 B P D R0 n r gR k vO T O wr
def RA (regs:Int) (P:List St) (D:List a8) (gone:Nat) (w:ZU) (e:ZR) (w':ZU):Prop:=
 (iO regs P D.length->gL P D gone->∃ v O,e=Z3 (ZZ #[v,.nilIface])/\mR 254 w' w.heap.size v O/\O.map (λq=>(q.1,q.2.2.2.take q.2.2.1))=dE P D (eW regs.toNat (eH P D)) P.length) /\
 (iO regs P D.length->¬ gL P D gone->e=Z3 (ZZ #[Z5 ZY 0 0,.iface 66 (Z7 Z9 2)]))/\(¬ iO regs P D.length->e=Z3 (ZZ #[Z5 ZY 0 0,.iface 66 (Z7 Z9 4)]))/\bW w w'
def mR.weaken {t:ZQ} {base':Nat} (h:mR t w base v O) (c:base'<=base):mR t w base' v O:=
 ⟨de h.own c,λq d=>by obtain ⟨a,b⟩:=h.row q d;exact ⟨by omega,b⟩,h.nodup⟩
def Tryz.SZ:(ZO.info? 254).map (λi=>(i.zero,i.size,i.bytes))=ZX (ZX (.agg #[Z7 Z9 0,Z5 ZY 0 0]),2,32):=by kernel_rfl
def O2 (w:ZU) (n:Nat) (b:n=w.heap.size) (x y:ZT) (t:ZQ):∀ j v,[x,y][j]?=ZX v->(w.alloc (Z4 #[x,y] t)).cell? ((⟨n,0,ZY⟩:Addr).add j)=ZX v:=by
 subst b;intro j v a;rw [jm];rcases j with _|_|j;all_goals simp at a
 all_goals subst a;simp
def abi (w:ZU) (k a b c:ZT) (t:ZQ):∃ wb,w.alloc (Z4 #[k,a,b,c] t)=wb/\bW w wb/\wb.heap.size=w.heap.size+1/\wb.cell? ⟨w.heap.size,1,ZY⟩=ZX a/\wb.cell? ⟨w.heap.size,2,ZY⟩=ZX b/\wb.cell? ⟨w.heap.size,3,ZY⟩=ZX c:=
 ⟨_,rfl,bA _ _,Ul _ _,by simp,by simp,by simp⟩
theorem O3 (regs:Int) (v:ZT) (P:List St) (S ci:Nat) (D:List a8) (gone:Nat) (w:ZU) (h:Ps .u8 w v P) (hP:∀ s∈P,zH s) (V:In w S D gone) (xd:S<w.heap.size) (q2:∀ l∈D,l.length<=100000) (hl:P.length<=5000) :
 ZS ZO 146 #[.agg #[Z7 Z9 regs,v],Z5 (ZX ⟨S,0,ZY⟩) D.length ci] w λe w'=>RA regs P D gone w e w':=by
 obtain ⟨i0,x2,x9,xa,xb⟩:=Uu Tryz.SZ;have kf:bW w (w.alloc (Z4 #[Z7 Z9 regs,v] 206)):=bA _ _;have h0:=h.mono kf;obtain ⟨ao,c,rfl⟩:=h.slice;go_enter func146,ntmps146;go_wp2_with fail;refine (Im regs D.length _ P _ h0).mono ?_;rintro e w1 ⟨kr,ks,K⟩;try change Below _ _ _ at K
 rw [Ul] at K;obtain ⟨p0,p1⟩:=aaz K rfl;have x7:=K.size;try change Below _ _ _ at x7
 rw [Ul] at x7;have h5:=kf.trans (K.mono (by omega));by_cases J:iO regs P D.length
 . have G:=kr J;subst G;obtain ⟨⟨g0,g1,g2⟩,hy⟩:=id J;obtain ⟨r,rfl⟩:∃ r:Nat,regs=(r:Int):=⟨regs.toNat,by omega⟩;have q8:=ak J;have qp:=ak hy;have hr:∀ i,i<P.length->(bK P i).k=0->0<=(bK P i).b/\(bK P i).b<(D.length:Int):=by
    intro i hi hk;rw [dW P i hi] at *;rcases hy i hi with h|h
    . exact ⟨h.2.2.2.1,h.2.2.2.2⟩
    . omega
   have q4:r<=32:=(by omega);have h1:=h.mono h5;have qc:=V.mono h5;clear J hy kr ks h0 K kf g0 g1;go_wp2_with fail;refine (pG _ P S ci D gone w1 h1 qc q2 hr hl).mono ?_;rintro e w2 ⟨kx,ky,k6⟩;have q0:=(k6.cell (Ui p0)).trans p0;have q1:=(k6.cell (Ui p1)).trans p1;have k7:=h5.trans (k6.mono (by omega));have xf:=k6.size;clear hr h1 qc p0 p1 h5 k6;by_cases C:gL P D gone
   . have G:=kx C;subst G;have qi:=Io C;have ka:=ak C;have q6:=ak (QD C);clear C kx ky;obtain ⟨n,E⟩:=nM (eH P D);have HN:=ak E;rw [E] at qi q6;rw [E];clear E;go_wp2_with fail;refine (AI r n w2 q4 qi).mono ?_;rintro e w3 ⟨y,T0,rfl,qe,qb,ko⟩;have x8:=ko.size;have hd:=(ko.cell (Ui q1)).trans q1;have qd:Rn w2 w2.heap.size P D (eW r n) n r y 0 (Z5 ZY 0 0) T0 [] w3:=⟨qe,qb,λl hl=>by
      have:=VM (show l∈YR r (YR n 0) from hl);rw [this];simp,mR.nil _ _ _,rfl,λp _ q hq=>by simp at hq,ko,x8⟩
     have qa:=ak qd;clear qd qe qb q0 q1;go_wp2;clear hd;go_loopw [10,37] (λvO iv wr=>RnR w2 w2.heap.size P D (eW r n) n r y vO iv wr) (λ_ iv _=>P.length-(intOf iv).toNat)
     case atStart=>exact ⟨0,T0,[],T7 _,rfl,qa.out⟩
     case round=>
      clear qa;rename ZU=>wo;obtain ⟨k,T,O,hk,rfl,W⟩:=hrel;have xh:=W.size;have kp:=k7.trans (W.below.mono (by omega));by_cases I:k<P.length
      . rcases (h.mono kp).cases with ⟨rfl,_⟩|⟨b,off,cc,e,_,hc⟩
        . simp at I
        simp at e;obtain ⟨rfl,rfl⟩:=e;obtain ⟨d0,d1,d2,d3⟩:=hc k I;have hy:=qp.out k I;unfold iN at hy;have qh:=hP _ (T8 I);have k9:=dW P k I;have B:=ak (MJ P D (eW r n) k);have Y:=ak (O0 P D (eW r n) k);have Z:=ak (O1 P D (eW r n) k);have kb:=ak (ka.out k I);have k0:=ak (q6.out k I);have h4:cJ (Oa P D gone k↔((bK P k).k=0->¬ og gone (bK P k).b.toNat/\fl P D (k+1)=ZX (D.getD (bK P k).b.toNat []).length/\(D.getD (bK P k).b.toNat []).length<=4096)):=Ya;rw [k9] at B Y Z k0 h4;have qn:=ak (V.mono kp);have HC:=ak hc;have t:=ak W;have HI:=ak V;have HH:=ak h;have xc:=ak hP;clear hc W V h hP k9;have qj:=qh.2.2.2.2.2;clear qh;generalize P[k].k=sk at *;generalize P[k].a=sa at *;generalize P[k].b=sb at *;generalize P[k].c=L at *;obtain ⟨wb,hz,z,xg,b1,b2,b3⟩:=abi wo (Z7 .u8 (sk:Int)) (Z7 Z9 sa) (Z7 Z9 sb) (Z7 .u8 (L:Int)) 299;have ki:=ak (t.o.next z);rcases hy with ⟨kz,a0,a1,x0,x1⟩|⟨x3,a0,a1,x0,x1,xe⟩
        . obtain ⟨A,rfl⟩:∃ A:Nat,sa=(A:Int):=⟨sa.toNat,by omega⟩;obtain ⟨X,rfl⟩:∃ X:Nat,sb=(X:Int):=⟨sb.toNat,by omega⟩;have hA:A<r:=(by omega);have hX:X<D.length:=(by omega);obtain ⟨g,H,t1,u,f,F,t5,t6,t7,t8,t9⟩:=t.o.reg A hA;replace t1:=(z.cell (Ui t1)).trans t1
          replace u:=u.below z
          rw [VL,VL] at B;rw [VL] at Z;rcases kz with rfl|rfl
          . have h6:cJ (wo.alloc (Z4 #[Z7 .u8 0,Z7 Z9 (A:Int),Z7 Z9 (X:Int),Z7 .u8 (L:Int)] 299)=wb):=hz;have qg:D.getD X []=D[X]:=(by simp [hX]);have q3:=h4.out.1 kb.out rfl;have kg:=k0.out rfl;rw [VL,qg] at q3 kg;rw [qg] at B;obtain ⟨ax,cx,u1,u2⟩:=(qn.out X hX).2 q3.1;have M:=(z.cell (Ui u1)).trans u1;have hb:=u2.mono z;have qk:∀ x∈D[X],x<256:=by
             obtain ⟨_,_,_,_,_,h,_⟩:=u2;exact h
            obtain ⟨wc,hh,ke,d⟩:=Mz wb.drew 3 g n n _ D[X] (ZX ax) cx u hb kg f;have HW:=ak ((ki.out.next (show bW wb wb.drew from ⟨rfl,rfl,rfl,TY _,λ_ _=>rfl⟩)).write H f d ke kg qk (B.out rfl).1 (B.out rfl).2);rw [kg] at M hh;have kj:=ak hh;have z1:=d.cell (show wb.drew.cell? ⟨wo.heap.size,1,ZY⟩=_ from b1) (by simp;omega);have z2:=d.cell (show wb.drew.cell? ⟨wo.heap.size,2,ZY⟩=_ from b2) (by simp;omega);have z3:=d.cell (show wb.drew.cell? ⟨y,A,ZY⟩=_ from t1) (by simp;omega);have z4:=d.cell (show wb.drew.cell? ⟨S,X,ZY⟩=_ from M) (by simp;omega);clear hh ke d u1 u2 hb H u f F B Y Z kb k0 h4 q3 qk hz;go_wp2;rw [h6.out];go_region_held3 (λw'=>w'.cell? ⟨wo.heap.size,1,ZY⟩=ZX (Z7 Z9 (A:Int))/\w'.cell? ⟨wo.heap.size,2,ZY⟩=ZX (Z7 Z9 (X:Int))/\w'.cell? ⟨y,A,ZY⟩=ZX (Z5 (ZX ⟨g,0,ZY⟩) n n)/\w'.cell? ⟨S,X,ZY⟩=ZX (Z5 (ZX ax) n cx)) (first|exact ⟨b1,b2,t1,M⟩|exact ⟨z1,z2,z3,z4⟩) (refine Jm rfl (Z1 49) (Z1 54) rfl _ _ _ rfl rfl kj.out ?_);go_wp2;go_roundw
            case rel=>
             obtain ⟨T',km⟩:=HW.o;exact ⟨k+1,T',O,by omega,by go_num,km⟩
            case measure=>simp [intOf];omega
          . have h6:cJ (wo.alloc (Z4 #[Z7 .u8 2,Z7 Z9 (A:Int),Z7 Z9 (X:Int),Z7 .u8 (L:Int)] 299)=wb):=hz;have hv:=ki.out.next (show bW wb wb.drew from ⟨rfl,rfl,rfl,TY _,λ_ _=>rfl⟩);have hol:=hv.olen;have kv:=Es ⟨g,0,ZY⟩ n _ wb.drew (by have:=Bs.Su (n:=n) (show aM wb.drew g _ from u) (by omega) (by omega) F;rw [UJ (by omega),f] at this;rw [f];exact this) (by omega);rw [f] at kv;have qm:=ak kv;have k5:=ak hv;have q9:=ak (Z.out rfl);have kc:=ak f;have kk:=ak F;have q7:=ak (λj hj=>(t.o.outs.own.lt j hj).2);have qo:=ak (uI t.o.tab.own t.o.outs.own);have z1:wb.drew.cell? ⟨wo.heap.size,1,ZY⟩=ZX (Z7 Z9 (A:Int)):=b1;have z2:wb.drew.cell? ⟨wo.heap.size,2,ZY⟩=ZX (Z7 Z9 (X:Int)):=b2;have z3:wb.drew.cell? ⟨y,A,ZY⟩=ZX (Z5 (ZX ⟨g,0,ZY⟩) n n):=t1;clear kv hv H u f F B Y Z kb k0 h4 hz;go_wp2;rw [h6.out];go_region_held3 (λw'=>w'.cell? ⟨wo.heap.size,1,ZY⟩=ZX (Z7 Z9 (A:Int))/\w'.cell? ⟨wo.heap.size,2,ZY⟩=ZX (Z7 Z9 (X:Int))/\w'.cell? ⟨y,A,ZY⟩=ZX (Z5 (ZX ⟨g,0,ZY⟩) n n)) (first|exact ⟨b1,b2,t1⟩|exact ⟨N,Q,R⟩|exact ⟨((bA _ _).cell (Ui N)).trans N,((bA _ _).cell (Ui Q)).trans Q,((bA _ _).cell (Ui R)).trans R⟩|exact ⟨qr,xi,xj⟩)
             (first
              | (go_at_call 180;refine qm.out.mono ?_;rintro e wd ⟨bd,m,rfl,qy,qv,x6,U⟩
                 have N:=(U.cell (Ui z1)).trans z1;have Q:=(U.cell (Ui z2)).trans z2;have R:=(U.cell (Ui z3)).trans z3)
              | (refine step_append_lies _ rfl (Z1 73) (Z1 83) 250 rfl w2.heap.size 254 i0 (.agg #[Z7 Z9 0,Z5 ZY 0 0]) 2 32 underlying250 x2 x9 xa xb rfl (by decide) u10 O.length (pF O) rfl ((k5.out.next U).next (bA _ _)).outs.own ⟨wd.heap.size,0,ZY⟩ 1 1 [Z7 Z9 (X:Int),Z5 (ZX ⟨bd,0,ZY⟩) n (n+m)] rfl rfl (O2 _ _ rfl _ _ _) (by intro q hq;simp at hq;rcases hq with rfl|rfl<;>rfl) (by omega) (by unfold maxLen;omega) (by omega) (by have:=((k5.out.next U).next ((T6 _ _).alloc lR (Z4 #[Z7 Z9 (X:Int),Z5 (ZX ⟨bd,0,ZY⟩) n (n+m)] 254))).size;exact this) _ rfl ?_;intro g5 xk w5 k8 h8 qx x5
                 have qr:=h8.cell (((bA _ _).cell (Ui N)).trans N) (λe=>by have:=q7.out _ e.symm;simp at this);have xi:=h8.cell (((bA _ _).cell (Ui Q)).trans Q) (λe=>by have:=q7.out _ e.symm;simp at this);have xj:=h8.cell (((bA _ _).cell (Ui R)).trans R) (λe=>qo.out e.symm)))
            go_wp2;go_roundw
            case rel=>exact ⟨k+1,T,_,by omega,by go_num,k5.out.put U qy qv kc.out (by omega) x6 kk.out h8 k8 q9.out.1 q9.out.2⟩
            case measure=>simp [intOf];omega
        . obtain ⟨A,rfl⟩:∃ A:Nat,sa=(A:Int):=⟨sa.toNat,by omega⟩;obtain ⟨X,rfl⟩:∃ X:Nat,sb=(X:Int):=⟨sb.toNat,by omega⟩;have hA:A<r:=(by omega);have hX:X<r:=(by omega);have qs:A≠X:=(by omega);obtain ⟨g,H,t1,u,f,F,t5,t6,t7,t8,t9⟩:=t.o.reg A hA;obtain ⟨g',qf,s1,s2,s3,s4,s5,s6,s7,s8,s9⟩:=t.o.reg X hX;have qz:=t.o.reg_ne H qf qs;replace t1:=(z.cell (Ui t1)).trans t1
          replace u:=u.below z
          replace s1:=(z.cell (Ui s1)).trans s1
          replace s2:=s2.below z
          rw [VL,VL] at Y;subst x3;have h6:cJ (wo.alloc (Z4 #[Z7 .u8 1,Z7 Z9 (A:Int),Z7 Z9 (X:Int),Z7 .u8 (L:Int)] 299)=wb):=hz;have hv:=ki.out.next (show bW wb wb.drew from ⟨rfl,rfl,rfl,TY _,λ_ _=>rfl⟩);have kh:=ak (AK g g' n L _ _ wb.drew qj u s2 f s3 qz F s4 (by omega));have k5:=ak hv;have q5:=ak (Y.out rfl);have qq:=ak H;have kc:=ak f;have kk:=ak F;have z1:wb.drew.cell? ⟨wo.heap.size,1,ZY⟩=ZX (Z7 Z9 (A:Int)):=b1;have z2:wb.drew.cell? ⟨wo.heap.size,2,ZY⟩=ZX (Z7 Z9 (X:Int)):=b2;have z3:wb.drew.cell? ⟨wo.heap.size,3,ZY⟩=ZX (Z7 .u8 (L:Int)):=b3;have z4:wb.drew.cell? ⟨y,A,ZY⟩=ZX (Z5 (ZX ⟨g,0,ZY⟩) n n):=t1;have z5:wb.drew.cell? ⟨y,X,ZY⟩=ZX (Z5 (ZX ⟨g',0,ZY⟩) n n):=s1;clear hv H qf u f F s2 s3 s4 B Y Z kb k0 h4 hz;go_wp2;rw [h6.out];go_region_held3 (λw'=>w'.cell? ⟨wo.heap.size,1,ZY⟩=ZX (Z7 Z9 (A:Int))/\w'.cell? ⟨wo.heap.size,2,ZY⟩=ZX (Z7 Z9 (X:Int))/\w'.cell? ⟨wo.heap.size,3,ZY⟩=ZX (Z7 .u8 (L:Int))/\w'.cell? ⟨y,A,ZY⟩=ZX (Z5 (ZX ⟨g,0,ZY⟩) n n)/\w'.cell? ⟨y,X,ZY⟩=ZX (Z5 (ZX ⟨g',0,ZY⟩) n n)) (first|exact ⟨b1,b2,b3,t1,s1⟩|exact ⟨N,Q,R,y4,y5⟩)
           (first
            | (go_at_call 179;refine kh.out.mono ?_;rintro e wc ⟨rfl,ke,d⟩
               have N:=d.cell z1 (by simp;omega);have Q:=d.cell z2 (by simp;omega);have R:=d.cell z3 (by simp;omega);have y4:=d.cell z4 (by simp;omega);have y5:=d.cell z5 (by simp;omega)))
          go_wp2;go_roundw
          case rel=>
           obtain ⟨T',km⟩:=k5.out.write qq.out kc.out d ke (by rw [uH];exact kc.out) (Jo kk.out qj) q5.out.1 q5.out.2;exact ⟨k+1,T',O,by omega,by go_num,km⟩
          case measure=>simp [intOf];omega
      . have x4:k=P.length:=(by omega);subst x4;have t:=ak W;clear W h hP V;go_wp2;go_ret2;refine ⟨λ_ _=>⟨_,O,rfl,t.o.outs.weaken (by omega),?_⟩,λ_ hl=>absurd ka.out hl,λE=>absurd q8.out E,kp⟩;rw [HN.o,VL];exact t.o.vals
   . have G:=ky C;subst G;have ka:=ak C;clear C kx ky;go_wp2;go_ret2;exact ⟨λ_ hl=>absurd hl ka.out,λ_ _=>rfl,λE=>absurd q8.out E,k7⟩
 . have G:=ks J;subst G;have HN:=ak J;clear J kr ks h0 h hP V K kf;go_wp2;go_ret2;exact ⟨λhp=>absurd hp HN.o,λhp=>absurd hp HN.o,λ_=>rfl,h5⟩
structure PW (w wx:ZU) (O:List (Int×Nat×Nat×a8)) (gg:Nat):Prop where
 ge:w.heap.size<=gg
 lt:gg<wx.heap.size
 cells:∀ i (hi:i<O.length),wx.cell? ⟨gg,i*2,ZY⟩=ZX (Z7 Z9 O[i].1)/\wx.cell? ⟨gg,i*2+1,ZY⟩=ZX (fY O[i].2)
 row:∀ q∈O,w.heap.size<=q.2.1/\aM wx q.2.1 q.2.2.2/\q.2.2.1<=q.2.2.2.length/\∀ x∈q.2.2.2,x<256
 below:bW w wx
def MK {P:List St} {lost:Nat} {Ms:List (Int×a8)} (C:Ps .u8 w vp P) (z:∀ s∈P,zH s) (x:In w g Dl lost) (B:g<w.heap.size) (y:Dl.length=N) (o:∀ l∈Dl,l.length<=100000) (hl:P.length<=5000) (u:iO regs P N) (r:gL P Dl lost) (ho:dE P Dl (eW regs.toNat (eH P Dl)) P.length=Ms) (i:Ms≠[]) :
 ZS ZO 146 #[.agg #[Z7 Z9 regs,vp],Z5 (ZX ⟨g,0,ZY⟩) N N] w λe w'=>∃ O b cap,e=Z3 (ZZ #[Z5 (ZX ⟨b,0,ZY⟩) O.length cap,.nilIface])/\O.map (λq=>(q.1,q.2.2.2.take q.2.2.1))=Ms/\PW w w' O b:=by
 subst y;refine (O3 regs vp P g Dl.length Dl lost w C z x B o hl).mono ?_;rintro e w' ⟨n,_,_,A⟩;obtain ⟨v,O,rfl,f,c⟩:=n u r;rw [ho] at c;rcases f.cases with ⟨d,_⟩|⟨b,cap,rfl,j⟩
 . rw [d] at c;exact absurd c.symm i
 . have p:O≠[]:=λq=>i (by rw [<- c,q];rfl);have t:b<w'.heap.size:=Ui (j 0 (Yk.2 p)).1;refine ⟨O,b,cap,rfl,c,?_,t,j,λq D=>?_,A⟩
   . rcases f.own.2 with ⟨d,_⟩|⟨F,E,cur,a,h,_⟩
     . cases d
     . injection a with a;injection a with a;injection a with a;omega
   . obtain ⟨a,h,k,_,m⟩:=f.row q D;exact ⟨a,h,k,m⟩
def Fd (f0 f:Nat->ZT) (O:List (Int×Nat×Nat×a8)) (k:Nat):Prop:=(∀ i:Nat,(∀ q∈O.take k,q.1≠(i:Int))->f i=f0 i)/\∀ i:Nat,(∃ q∈O.take k,q.1=(i:Int))->∃ q∈O,q.1=(i:Int)/\f i=fY q.2
def abj (w2:ZU) (r v b g N gone sp:Nat) (f0:Nat->ZT) (O:List (Int×Nat×Nat×a8)) (iv:ZT) (wr:ZU):Prop:=∃ k:Nat,k<=O.length/\iv=Z7 Z9 k/\∃ f,wr.rowIs g 40 N f/\Fd f0 f O k/\eY wr r v b g N gone sp/\aa (λk=>k=g) w2 wr
theorem Fd.step {f0:Nat->ZT} {d:Nat} (h:Fd f0 f O k) (g:k<O.length) (c:O[k].1=(d:Int)):Fd f0 (λi=>if i=d then fY O[k].2 else f i) O (k+1):=by
 have j:O.take (k+1)=O.take k++[O[k]]:=by rw [Vg,Ue g];rfl
 constructor
 . intro i b;rw [j] at b;have l:i≠d:=λe=>b O[k] (VY _ (Vn.2 rfl)) (by rw [c,e]);show (if i=d then _ else f i)=f0 i;rw [TW l];exact h.1 i λq a=>b q (UO _ a)
 . rintro i ⟨q,a,e⟩;show ∃ q∈O,q.1=(i:Int)/\(if i=d then fY O[k].2 else f i)=fY q.2;by_cases b:i=d
   . rw [TX b];exact ⟨O[k],T8 g,by rw [c,b],rfl⟩
   . rw [TW b];rw [j] at a;rcases Un.1 a with a|a
     . exact h.2 i ⟨q,a,e⟩
     . rw [Vn] at a;rw [a,c] at e;exact absurd (YK e).symm b
structure ML (w:ZU) (r v b g N gone sp:Nat) (f:Nat->ZT) (M:a8) (R:Nat->a8) (w':ZU):Prop where
 rd:eY w' r v b g N gone sp
 row:∃ f',w'.rowIs g 40 N f'/\(∀ i,i∉M->f' i=f i)/\∀ i,i∈M->∃ bl m l,f' i=Z5 (ZX ⟨bl,0,ZY⟩) m l.length/\w.heap.size<=bl/\m<=l.length/\aM w' bl l/\l.take m=R i/\∀ x∈l,x<256
 out:aa (λk=>k=g) w w'
theorem MM {P:List St} {pm pc:Nat} {r v lost:Nat} {M:a8} {R:Nat->a8} (hr:eY w r v b g N gone sp) (L:w.rowIs g 40 N f) (kz:r≠g) (hp:Ps .u8 w (.slice ao pm pc) P) (hP:∀ s∈P,zH s) (hI:In w g Dl lost) (hN:Dl.length=N) (k6:∀ l∈Dl,l.length<=100000) (hl:P.length<=5000) (K:iO regs P N) (kj:gL P Dl lost) (ho:dE P Dl (eW regs.toNat (eH P Dl)) P.length=M.map (λd:Nat=>((d:Int),R d))) (hM:M≠[]) (km:∀ d∈M,d<N) (q4:M.length<=16) :
 ZS ZO 114 #[Z6 (ZX ⟨r,0,ZY⟩),.agg #[Z7 Z9 regs,.slice ao pm pc]] w λe w'=>e=Z3 .nilIface/\ML w r v b g N gone sp f M R w':=by
 obtain ⟨w1,ke⟩:=nM (w.alloc (Z4 #[Z7 Z9 regs,.slice ao pm pc] 206));have a:bW w w1:=by rw [<- ke];exact bA w _
 have kf:w1.heap[w.heap.size]?=ZX (Z4 #[Z7 Z9 regs,.slice ao pm pc] 206 (0,0)):=by rw [<- ke];exact Uk _ _
 have k0:w1.cell? ⟨w.heap.size,0,ZY⟩=ZX (Z7 Z9 regs):=by simp [World.cell?,kf]
 have k1:w1.cell? ⟨w.heap.size,1,ZY⟩=ZX (.slice ao pm pc):=by simp [World.cell?,kf]
 have F:=hr.keep (a.block _ hr.lt);have J:=L.of_block (a.block _ L.lt);have cs:=F.cells.2.2.1;have k7:=MK (w:=w1.drew) (hp.mono a.drew) hP (hI.mono a.drew) (T9 L.lt a.size) hN k6 hl K kj ho (λq=>hM (List.map_eq_nil_iff.1 q));have HG:=ak (show g<w1.heap.size from T9 L.lt a.size);have H:=a5 a F J k7;clear hr L hp hI a kf F J k7 K kj ho k6 hP hM;go_enter func114,ntmps114;go_upto_region 1 with fail;go_cut [5,6] from 9 to 17 (λv5 v6 wx=>∃ O n cap,v5=Z5 (ZX ⟨n,0,ZY⟩) O.length cap/\v6=.nilIface/\O.map (λq=>(q.1,q.2.2.2.take q.2.2.1))=M.map (λd:Nat=>((d:Int),R d))/\PW w1.drew wx O n)
 case first=>
  go_region_with (go_at_call 146;refine H.o.2.2.2.mono ?_;rintro e w2 ⟨O,n,cap,rfl,x,z⟩;have c:=al x z;clear x z);all_goals (go_wp2_with fail;go_meet;case rel=>exact ⟨O,n,cap,rfl,rfl,c.o.1,c.o.2⟩)
 case rest=>
  rename ZU=>w2;clear k0 k1 cs ke;obtain ⟨O,n,cap,rfl,rfl,x,z⟩:=hcut;obtain ⟨a,F,J,_⟩:=H.o;have V:bW w1 w2:=((T6 _ w1).drew).trans z.below;have kk:=F.keep (V.block _ F.lt);have hf:=J.of_block (V.block _ J.lt);have kg:O.length=M.length:=by have:=UB YJ x;simpa using this
  have S:∀ k (Z:k<O.length),∃ d,d∈M/\O[k].1=(d:Int)/\O[k].2.2.2.take O[k].2.2.1=R d:=λk Z=>by
   have e:=UB (λl=>l[k]?) x;simp only [UE,Ue Z,Ue (show k<M.length by omega),WR,US,Xe] at e;exact ⟨M[k],T8 _,e.1,e.2⟩
  have c:=hide7 z kk hf (a.trans (V.mono a.size)) x kg S;clear z a F J V kk hf x S;go_wp2;go_loopw [20] (λiv wr=>abj w2 r v b g N gone sp f O iv wr) (λiv _=>O.length-(intOf iv).toNat)
  case atStart=>exact ⟨0,T7 _,rfl,f,c.o.2.2.1,⟨λ_ _=>rfl,λi ⟨q,Q,_⟩=>by cases Q⟩,c.o.2.1,aa.refl _ _⟩
  case round=>
   rename ZU=>wo;obtain ⟨k,Z,rfl,fk,D,p,G,B⟩:=hrel;by_cases kc:k<O.length
   . obtain ⟨d,ka,E,_⟩:=c.o.2.2.2.2.2.2 k kc;have kp:=km d ka;obtain ⟨q0,q1⟩:=c.o.1.cells k kc;have kh:=HG.o;have kr:n≠g:=(by have:=c.o.1.ge;have:w1.drew.heap.size=w1.heap.size:=rfl;omega);have k5:=c.o.1.lt;have K:=B.block n k5 kr;have d0:wo.cell? ⟨n,k*2,ZY⟩=ZX (Z7 Z9 (d:Int)):=(Uo K).trans (by rw [q0,E]);have d1:wo.cell? ⟨n,k*2+1,ZY⟩=ZX (fY O[k].2):=(Uo K).trans q1;have C:=p.step kc E;obtain ⟨hv,kb⟩:=nM (fY O[k].2);rw [kb] at d1 C;obtain ⟨t,y,u,q2⟩:∃ t y u,hv=.slice t y u:=⟨_,_,_,kb.symm⟩;subst q2;have W:bW wo (wo.alloc (Z4 #[Z7 Z9 (d:Int),.slice t y u] 254)):=bA wo _;have I:(wo.alloc (Z4 #[Z7 Z9 (d:Int),.slice t y u] 254)).heap[wo.heap.size]?=ZX (Z4 #[Z7 Z9 (d:Int),.slice t y u] 254 (0,0)):=Uk _ _;have m:=G.keep (W.block _ G.lt);have h:=D.of_block (W.block _ D.lt);have A:aa (λk=>k=g) w2 (wo.alloc (Z4 #[Z7 Z9 (d:Int),.slice t y u] 254)):=B.trans (aa.RT W _);obtain ⟨w3,T⟩:=nM (wo.alloc (Z4 #[Z7 Z9 (d:Int),.slice t y u] 254));have U:=a7 m h A I C T;clear p C q0 q1 K kb W I m h A G D B E kh k5 T;go_wp2;obtain ⟨m,h,A,I,C,T⟩:=U.o;rw [T] at m h A I ⊢;have k0:w3.cell? ⟨wo.heap.size,0,ZY⟩=ZX (Z7 Z9 d):=(by simp [World.cell?,I]);have k1:w3.cell? ⟨wo.heap.size,1,ZY⟩=ZX (.slice t y u):=(by simp [World.cell?,I]);have cs:=m.cells.2.2.1;have cg:=h.cell (i:=d) kp;have fg:=h.frozen d;have H4:=a5 m h A C;clear m h A I C T U d0 d1;go_region;go_wp2;go_roundw
     case rel=>
      obtain ⟨m,h,A,C⟩:=H4.o;have hO:aa (λk=>k=g) w3 (w3.setCell ⟨g,d,ZY⟩ (.slice t y u)):=aa.setCell _ _ _ rfl;exact ⟨k+1,by omega,by go_num,_,h.set d _,C,m.keep (hO.block _ m.lt kz),A.trans (hO.trans (aa.drew _))⟩
     case measure=>simp [intOf]<;>omega
   . have kv:k=O.length:=(by omega);subst kv;have U:=a5 D p G B;clear D p G B;go_wp2;go_ret;obtain ⟨D,p,G,B⟩:=U.o;obtain ⟨z,_,_,ko,x,kg,S⟩:=c.o;unfold Fd at p;rw [VK] at p;have q3:=H.o.1.size;refine ⟨rfl,G,⟨fk,D,λi X=>p.1 i λq Q e=>?_,λi X=>?_⟩,(aa.RT ko _).trans B⟩
     . obtain ⟨j,Y,rfl⟩:=UZ Q;obtain ⟨d,ka,E,_⟩:=S j Y;rw [E] at e;exact X (YK e▸ka)
     . obtain ⟨j,Y,rfl⟩:=UZ X;have ks:j<O.length:=(by omega);have kx:O[j].1=((M[j]:Nat):Int):=by
        have e:=UB (λl=>l[j]?) x;simp only [UE,Ue ks,Ue Y,WR,US,Xe] at e;exact e.1
       obtain ⟨q,Q,e1,e2⟩:=p.2 M[j] ⟨O[j],T8 _,kx⟩;obtain ⟨j2,ki,rfl⟩:=UZ Q;obtain ⟨d,_,E,ky⟩:=S j2 ki;rw [E] at e1;obtain ⟨r1,r2,r3,r4⟩:=z.row _ (T8 ki);have kh:=HG.o;have q5:w1.drew.heap.size=w1.heap.size:=rfl;exact ⟨_,_,_,e2,by omega,r3,VH r2 (B.block _ (aM.lt r2) (by omega)),by rw [ky,YK e1],r4⟩
def cP {ps:bf} (a:ps.S w) {k:Nat} {cs:Array ZT} {T:ZQ} {z:Nat×Nat} (h:w.heap[k]?=ZX (Z4 cs T z)) (b:¬ rM T):¬ ps.bl k:=λc=>b (ps.kd w a k c cs T z h)
def yL:¬ rM 200:=by unfold rM;decide
def uT:¬ rM 40:=by unfold rM;decide
def G2 (h:w.ownsRow 0 299 4 v (bZ D L G s C).length (eG .u8 (bZ D L G s C))) (hl:(bZ D L G s C).length<=4398046511104):Ps .u8 w v (bZ D L G s C):=N9 h hl
def aaO (a b:Nat) (c:a<65536) (d:b<65536):bits .or .u64 (a:Int) (b:Int)=((a|||b:Nat):Int):=abT a b (by omega) (by omega)
def Jy {S l:Nat} (h:S &&& l=0) {i:Nat} (a:S.testBit i=ZW):l.testBit i=ZV:=by
 have:=UB (λx=>x.testBit i) h;simp only [XC,a,Bool.true_and,ab9] at this;exact this
structure DT (D L G:Nat) (Kind:bf->Prop) (ps ps':bf) (lost s:Nat) (C:Ck) (ao:Option Addr) (m c B:Nat) (wx:ZU):Prop where
 kind:Kind ps'
 psE:ps'.ps=ps.ps
 hoE:ps'.ho=ps.ho
 kit:ps'.S wx
 bl:∀ k,ps'.bl k->ps.bl k\/B<=k
 ob:∀ k,(Value.slice ao m c).ownBlock=ZX k->ps.bl k\/B<=k
 own:wx.ownsRow 0 299 4 (.slice ao m c) (bZ D L G s C).length (eG .u8 (bZ D L G s C))
 TL:∀ i,lost.testBit i=ZW->s.testBit i=ZW
 told:tells (jO D L G) (ab (aw (D+L+G) s))=ZX C
def DT.keep {Kind:bf->Prop} {ps ps':bf} {lost:Nat} {wy:ZU} (h:DT D L G Kind ps ps' lost s C ao m c B wx) {T:Nat->Prop} (d:aa T wx wy) (f:∀ k,T k->k<B/\¬ ps.bl k):DT D L G Kind ps ps' lost s C ao m c B wy:=
 ⟨h.kind,h.psE,h.hoE,ps'.keep _ _ h.kit λk a=>d.block k (ps'.lt _ h.kit k a) (λq=>by
  have b:=f k q;rcases h.bl k a with e|e
  . exact b.2 e
  . omega),h.bl,h.ob,bR h.own d (λk a q=>by
  have b:=f k q;rcases h.ob k a with e|e
  . exact b.2 e
  . omega),h.TL,h.told⟩
def DT.mono {Kind:bf->Prop} {ps ps':bf} {lost:Nat} {B':Nat} (h:DT D L G Kind ps ps' lost s C ao m c B wx) (b:B'<=B):DT D L G Kind ps ps' lost s C ao m c B' wx:=
 ⟨h.kind,h.psE,h.hoE,h.kit,λk a=>(h.bl k a).imp id λq=>TZ b q,λk a=>(h.ob k a).imp id λq=>TZ b q,h.own,h.TL,h.told⟩
def C5 (r v ps D L G:Nat) (w:ZU):Prop:=w.cell? ⟨r,0,ZY⟩=ZX (Z6 (ZX ⟨v,0,ZY⟩))/\w.cell? ⟨v,1,ZY⟩=ZX (Z7 Z9 (D:Int))/\w.cell? ⟨v,2,ZY⟩=ZX (Z7 Z9 (L:Int))/\w.cell? ⟨v,3,ZY⟩=ZX (Z7 Z9 (G:Int))/\w.cell? ⟨v,4,ZY⟩=ZX (Z6 (ZX ⟨ps,0,ZY⟩))
def MN {r v:Nat} (a:eY w r v b g N gone sp) (c:bt w v p D L G ps ho):C5 r v ps D L G w:=by
 obtain ⟨_,d,e,f,h,_⟩:=c.cells;exact ⟨a.cells.1,d,e,f,h⟩
def eQ (x:Nat):Nat:=x/2
def fQ (x:Nat):Bool:=decide (x%2=1)
theorem G3 (D L G:Int) {x y:Nat} (h:x≠y) (w:ZU):(Op.equal 221 (bL D L G (eQ x:Nat) (fQ x)) (bL D L G (eQ y:Nat) (fQ y))).run ZO w=.ok ZV w:=by
 by_cases a:eQ x=eQ y
 . have b:fQ x≠fQ y:=λe=>h (by
    unfold eQ at a;unfold fQ at e;have:(x%2=1)↔(y%2=1):=by
     constructor
     . intro q;exact Wx (by rw [<- e];exact U1 q)
     . intro q;exact Wx (by rw [e];exact U1 q)
    omega)
   have d:(fQ x==fQ y)=ZV:=(by simp [b]);rw [a];unfold bL Op.equal Op.maxDepth;go_simp
 . have c:(((eQ x:Nat):Int)==((eQ y:Nat):Int))=ZV:=by
    rw [beq_eq_false_iff_ne];omega
   unfold bL Op.equal Op.maxDepth;go_simp
def ea (D L G:Int) (es:List (Nat×Nat×Nat)):List MapEntry:=es.map λe=>{ key:=bL D L G (eQ e.1:Nat) (fQ e.1),val:=Z6 (ZX ⟨e.2.1,0,ZY⟩),born:=e.2.2 }
def cT (es:List (Nat×Nat×Nat)):a8:=es.map (·.1)
def Dm (D L G:Int) (lost:Nat) (w:ZU):∀ (es:List (Nat×Nat×Nat)) (i:Nat),lost∉cT es->(Instr.findAsking 221 (bL D L G (eQ lost:Nat) (fQ lost)) (ea D L G es) i).run ZO w=.ok ZY w
 | [],_,_=>by simp [ea,Instr.findAsking]
 | e::es,i,h=>by
  have b:lost≠e.1:=λq=>by
   subst q;exact h (Va ..)
  have a:=Dm D L G lost w es (i+1) (λq=>h (UT _ q));have c:=G3 D L G b w;unfold ea at a ⊢;simp only [UI,Instr.findAsking,Ux,c,UK];simpa using a
def MO (D L G:Int) (w:ZU):∀ (es:List (Nat×Nat×Nat)) (i k:Nat) (a:k<es.length),(cT es).Nodup->(Instr.findAsking 221 (bL D L G (eQ es[k].1:Nat) (fQ es[k].1)) (ea D L G es) i).run ZO w=.ok (ZX (i+k,Z6 (ZX ⟨es[k].2.1,0,ZY⟩))) w
 | [],_,_,a,_=>absurd a (by simp)
 | e::es,i,0,_,_=>by
  have b:=OZ D L G (eQ e.1:Nat) (fQ e.1) w;unfold ea;simp only [UI,Instr.findAsking,Ux,ab2,b,UK];simp
 | e::es,i,k+1,a,f=>by
  have c:k<es.length:=by simpa using a
  have g:es[k].1≠e.1:=λq=>(UV.1 f).1 (Ua.2 ⟨es[k],T8 c,q⟩);have d:=MO D L G w es (i+1) k c (UV.1 f).2;have b:=G3 D L G g w;unfold ea at d ⊢;simp only [UI,Instr.findAsking,Ux,X9,b,UK];rw [show i+(k+1)=i+1+k by omega];simpa using d
def Do (k:ZT) (x:MapEntry) (es:List MapEntry) (f:Array Field) (i:Nat):Instr.findNow (.struct f) k (x::es) i=ZY:=by
 simp [Instr.findNow,Instr.sameNow]
def yM (D L G:Int) {lost:Nat} {es:List (Nat×Nat×Nat)} (h:lost∉cT es) (w:ZU):(Instr.findKey 221 (bL D L G (eQ lost:Nat) (fQ lost)) (ea D L G es)).run ZO w=.ok ZY w:=by
 have a:=Dm D L G lost w es 0 h;cases es with
 | nil=>simp [ea,Instr.findKey,Instr.findNow,UR ach]
 | cons e es=>
  unfold ea at a ⊢;simp only [UI] at a ⊢;simp only [Instr.findKey,Ux,UR ach,UK,Do];exact a
def G4 (D L G:Int) {es:List (Nat×Nat×Nat)} {k:Nat} (b:k<es.length) (c:(cT es).Nodup) (w:ZU):(Instr.findKey 221 (bL D L G (eQ es[k].1:Nat) (fQ es[k].1)) (ea D L G es)).run ZO w=.ok (ZX (k,Z6 (ZX ⟨es[k].2.1,0,ZY⟩))) w:=by
 have a:=MO D L G w es 0 k b c;rw [Um] at a;cases es with
 | nil=>exact absurd b (by simp)
 | cons e es=>
  unfold ea at a ⊢;simp only [UI] at a ⊢;simp only [Instr.findKey,Ux,UR ach,UK,Do];exact a
def MP {D L G:Int} (h:w.heap[m]?=ZX (.map (ea D L G es).toArray n)) {lost:Nat} (hl:lost∉cT es):(Instr.lookup 262 (.map (ZX m)) (bL D L G (eQ lost:Nat) (fQ lost)) ZW).run ZO w=.ok (ZZ #[.pointer ZY,Z2 ZV]) w:=by
 have a:=uS h;have b:=λe=>oS e D L G (eQ lost:Nat) (fQ lost) w;have c:=yM D L G hl w;simp [Instr.lookup,UR Yr,a,b,c]
def O4 {D L G:Int} (h:w.heap[m]?=ZX (.map (ea D L G es).toArray n)) {k:Nat} (d:k<es.length) (f:(cT es).Nodup):(Instr.lookup 262 (.map (ZX m)) (bL D L G (eQ es[k].1:Nat) (fQ es[k].1)) ZW).run ZO w=.ok (ZZ #[Z6 (ZX ⟨es[k].2.1,0,ZY⟩),Z2 ZW]) w:=by
 have a:=uS h;have b:=λe=>oS e D L G (eQ es[k].1:Nat) (fQ es[k].1) w;have c:=G4 D L G d f w;simp [Instr.lookup,UR Yr,a,b,c]
def O5 {D L G:Int} (h:w.heap[m]?=ZX (.map (ea D L G es).toArray n)) {lost:Nat} (hl:lost∉cT es) (nb:Nat):(Instr.mapUpdate 262 (.map (ZX m)) (bL D L G (eQ lost:Nat) (fQ lost)) (Z6 (ZX ⟨nb,0,ZY⟩))).run ZO w=.ok () (w.putObj m (.map (ea D L G (es++[(lost,nb,n)])).toArray (n+1))):=by
 have a:=uS h;have b:=oS ZV D L G (eQ lost:Nat) (fQ lost) w;have c:=yM D L G hl w;have d:(ea D L G es).toArray.push { key:=bL D L G (eQ lost:Nat) (fQ lost),val:=Z6 (ZX ⟨nb,0,ZY⟩),born:=n }=(ea D L G (es++[(lost,nb,n)])).toArray:=by simp [ea]
 simp [Instr.mapUpdate,UR Yr,a,b,c,MI h,d]
def yN (D L G:Int):∀ (es:List (Nat×Nat×Nat)) (k:Nat),(ea D L G es).eraseIdx k=ea D L G (es.eraseIdx k)
 | [],_=>rfl
 | _::_,0=>rfl
 | e::es,k+1=>by
  have h:=yN D L G es k;unfold ea at h ⊢;simp only [UI,List.eraseIdx_cons_succ,h]
def RB {D L G:Int} (h:w.heap[m]?=ZX (.map (ea D L G es).toArray n)) {k:Nat} (d:k<es.length) (f:(cT es).Nodup) (t:ZQ):(Builtin.delete_ #[262,221] t #[.map (ZX m),bL D L G (eQ es[k].1:Nat) (fQ es[k].1)]).run ZO w=.ok (ZZ #[]) (w.putObj m (.map (ea D L G (es.eraseIdx k)).toArray n)):=by
 have a:=uS h;have b:=λe=>oS e D L G (eQ es[k].1:Nat) (fQ es[k].1) w;have c:=G4 D L G d f w;simp [Builtin.delete_,UR Yr,a,b,c,MI h,yN]
def O6 {D L G:Int} (h:w.heap[m]?=ZX (.map (ea D L G es).toArray n)) (t:ZQ):(Builtin.len_ #[262] t #[.map (ZX m)]).run ZO w=.ok (Z7 Z9 (es.length:Nat)) w:=by
 have a:=uS h;simp [Builtin.len_,UR Yr,a,ea,goInt]
structure FA where
 D:Int
 L:Int
 G:Int
 lost:Int
 rd:Bool
 regs:Int
 steps:ZT
def pe (w:ZU) (S:Nat->Prop) (cn:Nat->FA) (nw ol:Nat->Nat):Prop:=∀ a,S a->jB w a (cn a).D (cn a).L (cn a).G (cn a).lost (cn a).rd (cn a).regs (cn a).steps (Z6 (ZX ⟨nw a,0,ZY⟩)) (Z6 (ZX ⟨ol a,0,ZY⟩))
def iy (f:Nat->Nat) (a x:Nat):Nat->Nat:=λb=>if b=a then x else f b
def eK (f:Nat->Nat) (a x:Nat):iy f a x a=x:=TX rfl
def eR {f:Nat->Nat} {a:Nat} (x:Nat) (h:b≠a):iy f a x b=f b:=TW h
def pe.S2 {cn:Nat->FA} (h:pe w S cn nw ol) (a x:Nat):pe (w.setCell ⟨a,7,ZY⟩ (Z6 (ZX ⟨x,0,ZY⟩))) S cn (iy nw a x) ol:=λb c=>by
 by_cases e:b=a
 . subst e;rw [eK];exact (h b c).S2 _
 . rw [eR x e];exact (h b c).keep (Uj _ _ _ _ e)
def pe.SM {cn:Nat->FA} (h:pe w S cn nw ol) (a x:Nat):pe (w.setCell ⟨a,8,ZY⟩ (Z6 (ZX ⟨x,0,ZY⟩))) S cn nw (iy ol a x):=λb c=>by
 by_cases e:b=a
 . subst e;rw [eK];exact (h b c).SM _
 . rw [eR x e];exact (h b c).keep (Uj _ _ _ _ e)
def pe.keep {cn:Nat->FA} (h:pe w S cn nw ol) (d:aa T w w') (e:∀ a,S a->¬ T a):pe w' S cn nw ol:=λb c=>(h b c).keep (d.block b (h b c).lt (e b c))
theorem rh {cn:Nat->FA} (h:pe w S cn nw ol) {n:Nat} (c:S n) (a:S (nw n)) (b:S (ol n)) :
 ZS ZO 193 #[Z6 (ZX ⟨n,0,ZY⟩)] w λe w'=>e=Z3 (ZZ #[])/\pe w' S cn (iy nw (ol n) (nw n)) (iy ol (nw n) (ol n))/\aa S w w':=by
 obtain ⟨d,f,_,_⟩:=(h n c).cells;obtain ⟨_,g,_,j⟩:=(h _ a).cells;obtain ⟨i,_,k,_⟩:=((h.SM (nw n) (ol n)) _ b).cells;have H:=aE ((h.SM (nw n) (ol n)).S2 (ol n) (nw n)) a b;clear h a b c;generalize nw n=x at *;generalize ol n=y at *;generalize ol x=z at *;generalize nw y=l at *;go_enter func193,ntmps193;go_region;go_end0
 exact ⟨rfl,H.o.1,((aa.setCell _ _ _ H.o.2.1).trans (aa.setCell _ _ _ H.o.2.2)).trans (aa.drew _)⟩
theorem AT {cn:Nat->FA} (hl:fP w sb room) (h:pe w S cn nw ol) {n:Nat} (a:S n) (c:S sb) (ho:S (ol sb)) :
 ZS ZO 194 #[Z6 (ZX ⟨sb+1+1,0,ZY⟩),Z6 (ZX ⟨n,0,ZY⟩)] w λe w'=>e=Z3 (ZZ #[])/\pe w' S cn (iy (iy nw n sb) (ol sb) n) (iy (iy ol n (ol sb)) sb n)/\aa S w w':=by
 have r:=(gy hl).2.2;obtain ⟨k,_,l,_⟩:=(h n a).cells;obtain ⟨_,q,_,_⟩:=(h sb c).cells;have d:=h.S2 n sb;obtain ⟨_,m,_,p⟩:=(d n a).cells;have i:=d.SM n (ol sb);obtain ⟨w2,g⟩:=nM (((w.setCell ⟨n,7,ZY⟩ (Z6 (ZX ⟨sb,0,ZY⟩))).setCell ⟨n,8,ZY⟩ (Z6 (ZX ⟨ol sb,0,ZY⟩))).drew);have b:pe w2 S cn (iy nw n sb) (iy ol n (ol sb)):=by rw [<- g];exact i
 have j:aa S w w2:=by rw [<- g];exact ((aa.setCell _ _ _ a).trans (aa.setCell _ _ _ a)).trans (aa.drew _)
 obtain ⟨s,t,_,_⟩:=(b n a).cells;rw [eK] at s t;have f:=b.SM sb n;obtain ⟨_,u,_,t8⟩:=(b sb c).cells;obtain ⟨v,_,x,_⟩:=(f (ol sb) ho).cells;have H:=a5 (f.S2 (ol sb) n) j c ho;clear h d i b f hl a c ho j;generalize ol sb=y at *;generalize iy ol n y sb=z at *;generalize iy nw n sb y=A at *;generalize nw n=B at *;generalize ol n=C at *;go_enter func194,ntmps194;go_wp2;go_region;clear g k l q m p r;go_wp2;go_region;go_end0
 exact ⟨rfl,H.o.1,H.o.2.1.trans (((aa.setCell _ _ _ H.o.2.2.1).trans (aa.setCell _ _ _ H.o.2.2.2)).trans (aa.drew _))⟩
def vL (nw ol:Nat->Nat):Nat->a8->Nat->Prop
 | a,[],b=>ol a=b/\nw b=a
 | a,n::ns,b=>(ol a=n/\nw n=a)/\vL nw ol n ns b
theorem vL.congr {nw' ol':Nat->Nat}:∀ {ns:a8} {a b:Nat},vL nw ol a ns b->(∀ x∈a::ns,ol' x=ol x)->(∀ x∈ns++[b],nw' x=nw x)->vL nw' ol' a ns b
 | [],a,b,h,c,d=>⟨(c a (Va ..)).trans h.1,(d b (by simp)).trans h.2⟩
 | n::ns,a,b,h,c,d=>⟨⟨(c a (Va ..)).trans h.1.1,(d n (by simp)).trans h.1.2⟩,vL.congr h.2 (λx e=>c x (UT _ e)) (λx e=>d x (by rw [UX];exact UT _ e))⟩
def vL.Si {a:Nat} (h:vL nw ol a ns b):ol a=b/\ns=[]\/ol a∈ns:=by
 cases ns with
 | nil=>exact .inl ⟨h.1,rfl⟩
 | cons n ns=>exact .inr (by rw [h.1.1];exact Va ..)
def vL.last:∀ {ns:a8} {a b:Nat},vL nw ol a ns b->(c:ns≠[])->nw b=ns.getLast c
 | [],_,_,_,c=>absurd rfl c
 | [_],_,_,h,_=>h.2.2
 | _::m::ns,_,_,h,_=>by rw [List.getLast_cons (by simp)];exact vL.last h.2 (by simp)
theorem vL.put (h:vL nw ol sb ns sb) (d:(sb::ns).Nodup) (c:n∉sb::ns):vL (iy (iy nw n sb) (ol sb) n) (iy (iy ol n (ol sb)) sb n) sb (n::ns) sb:=by
 have b:n≠sb:=λe=>c (e▸Va ..);have j:n≠ol sb:=λe=>by
  rcases h.Si with q|q
  . exact b (e.trans q.1)
  . exact c (UT _ (e▸q))
 refine ⟨⟨eK _ _ _,by rw [eR _ j,eK]⟩,?_⟩;cases ns with
 | nil=>exact ⟨by rw [eR _ b,eK];exact h.1,by rw [h.1,eK]⟩
 | cons m o=>
  have f:=h.1.1;refine ⟨⟨by rw [eR _ b,eK];exact f,by rw [f,eK]⟩,h.2.congr (λx a=>?_) (λx a=>?_)⟩
  . have g:x≠sb:=λe=>(UV.1 d).1 (e▸a);have i:x≠n:=λe=>c (UT _ (e▸a));rw [eR _ g,eR _ i]
  . have k:x≠m:=λe=>by
     subst e;rcases Un.1 a with q|q
     . exact (UV.1 (UV.1 d).2).1 q
     . rw [Vn] at q;subst q;exact (UV.1 d).1 (Va ..)
    have l:x≠n:=λe=>by
     subst e;rcases Un.1 a with q|q
     . exact c (UT _ (UT _ q))
     . rw [Vn] at q;exact b q
    rw [f,eR _ k,eR _ l]
theorem vL.take {r:a8}:∀ {l:a8} {a b:Nat},vL nw ol a (l++n::r) b->(a::(l++n::r)).Nodup->b∉l++n::r->vL (iy nw (ol n) (nw n)) (iy ol (nw n) (ol n)) a (l++r) b/\nw n∈a::l/\(ol n∈r\/ol n=b)
 | [],a,b,h,j,i=>by
  have d:(ol a=n/\nw n=a)/\vL nw ol n r b:=h;obtain ⟨⟨_,t⟩,g⟩:=d;rw [t];refine ⟨?_,Va ..,g.Si.elim (λq=>.inr q.1) .inl⟩;cases r with
  | nil=>exact ⟨by rw [eK];exact g.1,by rw [g.1,eK]⟩
  | cons m rs=>
   have k:=g.1.1;have f:=(UV.1 (UV.1 j).2).2;refine ⟨⟨by rw [eK];exact k,by rw [k,eK]⟩,g.2.congr (λx o=>?_) (λx o=>?_)⟩
   . exact eR _ λe=>(UV.1 j).1 (by rw [<- e];exact UT _ o)
   . rw [k];refine eR _ λe=>?_;subst e;rcases Un.1 o with q|q
     . exact (UV.1 f).1 q
     . rw [Vn] at q;subst q;exact i (by simp)
 | c::l,a,b,h,j,i=>by
  have d:(ol a=c/\nw c=a)/\vL nw ol c (l++n::r) b:=h;have f:=UV.1 j;obtain ⟨u,p,s⟩:=vL.take d.2 f.2 (λq=>i (UT _ q));refine ⟨⟨⟨?_,?_⟩,u⟩,UT _ p,s⟩
  . rw [eR _ λe=>f.1 (by
     rw [e];rcases Uz.1 p with q|q
     . rw [q];exact Va ..
     . exact UT _ (UO _ q))]
    exact d.1.1
  . rw [eR _ λe=>by
     rcases s with q|q
     . exact (UV.1 f.2).1 (by rw [e];exact VY _ (UT _ q))
     . exact i (by rw [<- q,<- e];exact Va ..)]
    exact d.1.2
theorem FB (hl:fP w sb room) {D L G:Int} {es:List (Nat×Nat×Nat)} (i:w.heap[sb+1]?=ZX (.map (ea D L G es).toArray n)) {x:Nat} (y:x∉cT es) :
 ZS ZO 173 #[Z6 (ZX ⟨sb+1+1,0,ZY⟩),bL D L G (eQ x:Nat) (fQ x)] w λe w'=>e=Z3 (ZZ #[.agg #[Z7 Z9 0,Z5 ZY 0 0],Z2 ZV])/\bW w w':=by
 have l1:w.cell? ⟨sb+1+1,1,ZY⟩=ZX (.map (ZX (sb+1))):=by
  have u:w.heap[sb+1+1]?=_:=hl;simp [World.cell?,u]
 have k:∀ w',bW w w'->(Instr.lookup 262 (.map (ZX (sb+1))) (bL D L G (eQ x:Nat) (fQ x)) ZW).run ZO w'=.ok (ZZ #[.pointer ZY,Z2 ZV]) w':=λw' z=>MP ((z.block _ (T5.1 i).1).trans i) y;obtain ⟨w2,f⟩:=nM ((w.alloc (Z4 #[Z7 Z9 D,Z7 Z9 L,Z7 Z9 G,Z7 Z8 (eQ x:Nat),Z2 (fQ x)] 221)).alloc (Z4 #[Z7 Z9 0,Z5 ZY 0 0] 206));have a:bW w w2:=by rw [<- f];exact (bA w _).alloc (by simp) _
 have d:w2.heap[w.heap.size]?=ZX (Z4 #[Z7 Z9 D,Z7 Z9 L,Z7 Z9 G,Z7 Z8 (eQ x:Nat),Z2 (fQ x)] 221 (0,0)):=by rw [<- f];exact (Uy _ _ _ (by simp)).trans (Uk _ _)
 have c0:w2.cell? ⟨w.heap.size,0,ZY⟩=ZX (Z7 Z9 D):=by simp [World.cell?,d]
 have c1:w2.cell? ⟨w.heap.size,1,ZY⟩=ZX (Z7 Z9 L):=by simp [World.cell?,d]
 have r:w2.cell? ⟨w.heap.size,2,ZY⟩=ZX (Z7 Z9 G):=by simp [World.cell?,d]
 have s:w2.cell? ⟨w.heap.size,3,ZY⟩=ZX (Z7 Z8 (eQ x:Nat)):=by simp [World.cell?,d]
 have t:w2.cell? ⟨w.heap.size,4,ZY⟩=ZX (Z2 (fQ x)):=by simp [World.cell?,d]
 have h:w2.heap[w.heap.size+1]?=ZX (Z4 #[Z7 Z9 0,Z5 ZY 0 0] 206 (0,0)):=by
  have:=Uk (w.alloc (Z4 #[Z7 Z9 D,Z7 Z9 L,Z7 Z9 G,Z7 Z8 (eQ x:Nat),Z2 (fQ x)] 221)) (Z4 #[Z7 Z9 0,Z5 ZY 0 0] 206);rw [Uw] at this;rw [<- f];exact this
 have A:=(a.cell (p:=⟨sb+1+1,1,ZY⟩) (Ui l1)).trans l1;have j:=k w2.drew a.drew;unfold bL at j ⊢;have c:w2.heap.size=w.heap.size+2:=by rw [<- f];simp
 have H:=aE a h c;clear hl i k a d h c;go_enter func173,ntmps173;go_wp2;go_region;obtain ⟨a,h,c⟩:=H.o;have b:bW w2 (w2.drew.alloc (Z4 #[Z7 Z9 0,Z5 ZY 0 0] 206)):=((T6 _ w2).drew).alloc lR _;obtain ⟨w3,m⟩:=nM (w2.drew.alloc (Z4 #[Z7 Z9 0,Z5 ZY 0 0] 206));rw [m] at b;have g:=(b.block (w.heap.size+1) (by omega)).trans h;obtain ⟨F,I,E,C⟩:=ay g;have l:w3.heap[w2.heap.size]?=ZX (Z4 #[Z7 Z9 0,Z5 ZY 0 0] 206 (0,0)):=by rw [<- m];exact Uk w2.drew _
 obtain ⟨J,K,_,_⟩:=ay l;have q:=a5 g b a c;clear a h c b g l c0 c1 r s t l1 A j f;go_wp2;obtain ⟨g,b,a,c⟩:=q.o;obtain ⟨n0,B,_⟩:=ay (iX (y':=Z5 ZY 0 0) (iW (x':=Z7 Z9 0) g));refine Uv (v:=ZZ #[.agg #[Z7 Z9 0,Z5 ZY 0 0],Z2 ZV]) (by simp [results,results173,go_sem,n0,B]) rfl ?_;exact ⟨rfl,((a.trans (b.mono a.size)).setCell (p:=⟨w.heap.size+1,0,ZY⟩) (by show w.heap.size<=w.heap.size+1;omega) _).setCell (p:=⟨w.heap.size+1,1,ZY⟩) (by show w.heap.size<=w.heap.size+1;omega) _⟩
theorem Jz {nb:Nat} {D L G:Int} {cn:Nat->FA} (hl:fP w sb room) (J:w.heap[sb+1]?=ZX (.map (ea D L G es).toArray n)) (I:k<es.length) (P:(cT es).Nodup) (k6:es[k].1=x) (Q:es[k].2.1=nb) (h:pe w S cn nw ol) (l:∀ a,S a->a≠sb+1/\a≠sb+1+1) (f:S nb) (N:S (nw nb)) (E:S (ol nb)) (r:S sb) (O:S (ol sb)) (p:cn nb=⟨D,L,G,(eQ x:Nat),fQ x,regs,.slice ao m c⟩) :
 ZS ZO 173 #[Z6 (ZX ⟨sb+1+1,0,ZY⟩),bL D L G (eQ x:Nat) (fQ x)] w λe w'=>e=Z3 (ZZ #[.agg #[Z7 Z9 regs,.slice ao m c],Z2 ZW])/\pe w' S cn (iy (iy (iy nw (ol nb) (nw nb)) nb sb) (iy ol (nw nb) (ol nb) sb) nb) (iy (iy (iy ol (nw nb) (ol nb)) nb (iy ol (nw nb) (ol nb) sb)) sb nb)/\aa S w w':=by
 obtain ⟨w2,A⟩:=nM ((w.alloc (Z4 #[Z7 Z9 D,Z7 Z9 L,Z7 Z9 G,Z7 Z8 (eQ x:Nat),Z2 (fQ x)] 221)).alloc (Z4 #[Z7 Z9 0,Z5 ZY 0 0] 206));have b:bW w w2:=by rw [<- A];exact (bA w _).alloc (by simp) _
 have i:w2.heap.size=w.heap.size+2:=by rw [<- A];simp
 have u:w2.heap[w.heap.size]?=ZX (Z4 #[Z7 Z9 D,Z7 Z9 L,Z7 Z9 G,Z7 Z8 (eQ x:Nat),Z2 (fQ x)] 221 (0,0)):=by rw [<- A];exact (Uy _ _ _ (by simp)).trans (Uk _ _)
 have c0:w2.cell? ⟨w.heap.size,0,ZY⟩=ZX (Z7 Z9 D):=by simp [World.cell?,u]
 have c1:w2.cell? ⟨w.heap.size,1,ZY⟩=ZX (Z7 Z9 L):=by simp [World.cell?,u]
 have c2:w2.cell? ⟨w.heap.size,2,ZY⟩=ZX (Z7 Z9 G):=by simp [World.cell?,u]
 have c3:w2.cell? ⟨w.heap.size,3,ZY⟩=ZX (Z7 Z8 (eQ x:Nat)):=by simp [World.cell?,u]
 have c4:w2.cell? ⟨w.heap.size,4,ZY⟩=ZX (Z2 (fQ x)):=by simp [World.cell?,u]
 have s:w2.heap[w.heap.size+1]?=ZX (Z4 #[Z7 Z9 0,Z5 ZY 0 0] 206 (0,0)):=by
  have:=Uk (w.alloc (Z4 #[Z7 Z9 D,Z7 Z9 L,Z7 Z9 G,Z7 Z8 (eQ x:Nat),Z2 (fQ x)] 221)) (Z4 #[Z7 Z9 0,Z5 ZY 0 0] 206);rw [Uw] at this;rw [<- A];exact this
 have hll:sb+1+1<w.heap.size:=(T5.1 hl).1;have g:fP w2 sb room:=(b.block _ hll).trans hl;have l1:=(gy g).2.1;have R:pe w2 S cn nw ol:=λa t=>(h a t).keep (b.block _ (h a t).lt);have d:∀ a,S a->a<w.heap.size:=λa t=>(h a t).lt;have K:=O4 (w:=w2.drew) ((b.block _ (T5.1 J).1).trans J) I P;rw [k6,Q] at K;have Y:=rh (w:=w2.drew) (show pe w2.drew S cn nw ol from R) f N E;have j:S (iy ol (nw nb) (ol nb) sb):=by
  by_cases e:sb=nw nb
  . rw [e,eK];exact E
  . rw [eR _ e];exact O
 unfold bL at K ⊢;have H:=hide12 b s i g d l f r j p hll Y;clear hl J h b u s i g R Y l f N E r O j p d P I k6 Q hll;go_enter func173,ntmps173;go_wp2;go_region;clear c0 c1 c2 c3 c4 l1 K A;go_wp2_with fail;refine H.o.2.2.2.2.2.2.2.2.2.2.2.mono ?_;rintro e w3 ⟨rfl,T,U⟩;obtain ⟨b,s,i,g,d,l,f,r,j,p,hll,_⟩:=H.o;have F:aa S w2 w3:=(aa.drew w2).trans U;have X:=AT (w:=w3) (n:=nb) (show fP w3 sb room from (F.block _ (by omega) (λq=>(l _ q).2 rfl)).trans g) T f r j;have M:=al F X;clear b s i g d l f r j p T U F X hll;go_wp2_with fail;refine M.o.2.mono ?_;rintro e C ⟨rfl,z,V⟩;obtain ⟨b,s,i,g,d,l,f,r,j,p,hll,_⟩:=H.o;have y:aa S w2 C:=M.o.1.trans V;have B:=(y.block (w.heap.size+1) (by omega) (λq=>by have:=d _ q;omega)).trans s;have Z:=(z nb f).value;rw [p] at Z;obtain ⟨v5,v6⟩:=Z;obtain ⟨r0,r1,g1,g0⟩:=ay B;have H4:=a7 z y B b i d;clear b s i g d l f r j p z V y B hll;go_wp2;obtain ⟨z,y,B,b,i,d⟩:=H4.o;obtain ⟨n0,n1,_⟩:=ay (iX (y':=.slice ao m c) (iW (x':=Z7 Z9 regs) B));refine Uv (v:=ZZ #[.agg #[Z7 Z9 regs,.slice ao m c],Z2 ZW]) (by simp [results,results173,go_sem,n0,n1]) rfl ?_;have W:aa (λk=>k=w.heap.size+1) C ((C.setCell ⟨w.heap.size+1,0,ZY⟩ (Z7 Z9 regs)).setCell ⟨w.heap.size+1,1,ZY⟩ (.slice ao m c)):=ix C (w.heap.size+1) 0 1 _ _;exact ⟨rfl,z.keep W (λa t e=>by have:=d a t;omega),((aa.RT b _).trans y).later W (λk I q=>by omega)⟩
theorem AU {cn:Nat->FA} (hl:fP w sb room) {n:Nat} {ne0 k:ZT} (j:jB w n (cn n).D (cn n).L (cn n).G (cn n).lost (cn n).rd (cn n).regs (cn n).steps ne0 k) (h:pe w (λa=>S a/\a≠n) cn nw ol) (c:S n) (d:S sb) (p:sb≠n) (ho:S (ol sb)) :
 ZS ZO 194 #[Z6 (ZX ⟨sb+1+1,0,ZY⟩),Z6 (ZX ⟨n,0,ZY⟩)] w λe w'=>e=Z3 (ZZ #[])/\pe w' S cn (iy (iy nw n sb) (ol sb) n) (iy (iy ol n (ol sb)) sb n)/\aa S w w':=by
 have x:=(gy hl).2.2;obtain ⟨q,_,r,_⟩:=j.cells;obtain ⟨_,u,_,_⟩:=(h sb ⟨d,p⟩).cells;have g:=j.S2 (Z6 (ZX ⟨sb,0,ZY⟩));obtain ⟨_,s,_,t⟩:=g.cells;have l:pe ((w.setCell ⟨n,7,ZY⟩ (Z6 (ZX ⟨sb,0,ZY⟩))).setCell ⟨n,8,ZY⟩ (Z6 (ZX ⟨ol sb,0,ZY⟩))) S cn (iy nw n sb) (iy ol n (ol sb)):=λa v=>by
  by_cases e:a=n
  . subst e;rw [eK,eK];exact g.SM _
  . rw [eR _ e,eR _ e];exact ((h a ⟨v,e⟩).keep (Uj _ _ _ _ e)).keep (Uj _ _ _ _ e)
 obtain ⟨w2,i⟩:=nM (((w.setCell ⟨n,7,ZY⟩ (Z6 (ZX ⟨sb,0,ZY⟩))).setCell ⟨n,8,ZY⟩ (Z6 (ZX ⟨ol sb,0,ZY⟩))).drew);have b:pe w2 S cn (iy nw n sb) (iy ol n (ol sb)):=by rw [<- i];exact l
 have m:aa S w w2:=by rw [<- i];exact ((aa.setCell _ _ _ c).trans (aa.setCell _ _ _ c)).trans (aa.drew _)
 obtain ⟨A,B,_,_⟩:=(b n c).cells;rw [eK] at A B;have f:=b.SM sb n;obtain ⟨_,C,_,t8⟩:=(b sb d).cells;obtain ⟨E,_,F,_⟩:=(f (ol sb) ho).cells;have H:=a5 (f.S2 (ol sb) n) m d ho;clear h g l b f hl j d ho m c p;generalize ol sb=y at *;generalize iy ol n y sb=z at *;generalize iy nw n sb y=I at *;go_enter func194,ntmps194;go_wp2;go_region;clear i q r u s t x;go_wp2;go_region;go_end0
 exact ⟨rfl,H.o.1,H.o.2.1.trans (((aa.setCell _ _ _ H.o.2.2.1).trans (aa.setCell _ _ _ H.o.2.2.2)).trans (aa.drew _))⟩
def cnN (cn:Nat->FA) (N:Nat) (c:FA):Nat->FA:=λa=>if a=N then c else cn a
def jB.key {D L G:Int} {rd:Bool} {steps ol:ZT} (h:jB w n D L G lost rd regs steps ne ol):w.cell? ⟨n,0,ZY⟩=ZX (Z7 Z9 D)/\w.cell? ⟨n,1,ZY⟩=ZX (Z7 Z9 L)/\w.cell? ⟨n,2,ZY⟩=ZX (Z7 Z9 G)/\w.cell? ⟨n,3,ZY⟩=ZX (Z7 Z8 lost)/\w.cell? ⟨n,4,ZY⟩=ZX (Z2 rd):=by
 have a:w.heap[n]?=ZX (Z4 (mY D L G lost rd regs steps ne ol) 261 (0,0)):=h;simp [World.cell?,a,mY]
def PX (w':ZU) (sb:Nat) (room:Int) (D L G:Int) (es:List (Nat×Nat×Nat)) (S:Nat->Prop) (cn:Nat->FA) (nw ol:Nat->Nat):Prop:=
 (((es.length:Nat):Int)<=room->(∃ n,w'.heap[sb+1]?=ZX (.map (ea D L G es).toArray n))/\pe w' S cn nw ol) /\
 (room<((es.length:Nat):Int)->∃ j,∃ hj:j<es.length,es[j].2.1=nw sb/\(∃ n,w'.heap[sb+1]?=ZX (.map (ea D L G (es.eraseIdx j)).toArray n))/\pe w' S cn (iy nw (ol (nw sb)) (nw (nw sb))) (iy ol (nw (nw sb)) (ol (nw sb))))
theorem FC {D L G:Int} {cn:Nat->FA} (hl:fP w sb room) (hm:w.heap[sb+1]?=ZX (.map (ea D L G es).toArray n)) (q2:x∉cT es) (h:pe w S cn nw ol) (g:∀ a,S a->a≠sb+1/\a≠sb+1+1) (v:S sb) (E:S (ol sb)) {N:Nat} (hN:N=w.heap.size+1+1) {cn':Nat->FA} (k5:cn'=cnN cn N ⟨D,L,G,(eQ x:Nat),fQ x,regs,.slice ao m c⟩) {nw' l:Nat->Nat} (k8:nw'=iy (iy nw N sb) (ol sb) N) (k9:l=iy (iy ol N (ol sb)) sb N) {b:List (Nat×Nat×Nat)} (k6:b=es++[(x,N,n)])
 (hB:room<((b.length:Nat):Int)->(cT b).Nodup/\∃ j,∃ hj:j<b.length,b[j].2.1=nw' sb/\(∃ rg st,cn' (nw' sb)=⟨D,L,G,(eQ b[j].1:Nat),fQ b[j].1,rg,st⟩)/\(nw' sb=N\/S (nw' sb))/\(nw' (nw' sb)=N\/S (nw' (nw' sb)))/\(l (nw' sb)=N\/S (l (nw' sb)))) :
 ZS ZO 175 #[Z6 (ZX ⟨sb+1+1,0,ZY⟩),bL D L G (eQ x:Nat) (fQ x),.agg #[Z7 Z9 regs,.slice ao m c]] w λe w'=>e=Z3 (ZZ #[])/\PX w' sb room D L G b (λa=>a=N\/S a) cn' nw' l/\aa (λk=>S k\/k=sb+1) w w':=by
 subst hN;obtain ⟨w3,ki⟩:=nM (((w.alloc (Z4 #[Z7 Z9 D,Z7 Z9 L,Z7 Z9 G,Z7 Z8 (eQ x:Nat),Z2 (fQ x)] 221)).alloc (Z4 #[Z7 Z9 regs,.slice ao m c] 206)).alloc (Z4 #[Z7 Z9 D,Z7 Z9 L,Z7 Z9 G,Z7 Z8 (eQ x:Nat),Z2 (fQ x),Z7 Z9 regs,.slice ao m c,.pointer ZY,.pointer ZY] 261));have d:bW w w3:=by rw [<- ki];exact ((bA w _).alloc (by simp) _).alloc (by simp;omega) _
 obtain ⟨O,_,hn⟩:=mZ w (Z4 #[Z7 Z9 D,Z7 Z9 L,Z7 Z9 G,Z7 Z8 (eQ x:Nat),Z2 (fQ x)] 221) (Z4 #[Z7 Z9 regs,.slice ao m c] 206) (Z4 #[Z7 Z9 D,Z7 Z9 L,Z7 Z9 G,Z7 Z8 (eQ x:Nat),Z2 (fQ x),Z7 Z9 regs,.slice ao m c,.pointer ZY,.pointer ZY] 261);rw [ki] at O hn;have J:jB w3 (w.heap.size+1+1) D L G (eQ x:Nat) (fQ x) regs (.slice ao m c) (.pointer ZY) (.pointer ZY):=hn;have hll:sb+1+1<w.heap.size:=(T5.1 hl).1;have p:fP w3 sb room:=(d.block _ hll).trans hl;have kx:=(d.block _ (by omega)).trans hm;have Q:pe w3 S cn nw ol:=λa f=>(h a f).keep (d.block _ (h a f).lt);have s:∀ a,S a->a<w.heap.size:=λa f=>(h a f).lt;have c0:w3.cell? ⟨w.heap.size,0,ZY⟩=ZX (Z7 Z9 D):=by simp [World.cell?,O]
 have c1:w3.cell? ⟨w.heap.size,1,ZY⟩=ZX (Z7 Z9 L):=by simp [World.cell?,O]
 have c2:w3.cell? ⟨w.heap.size,2,ZY⟩=ZX (Z7 Z9 G):=by simp [World.cell?,O]
 have c3:w3.cell? ⟨w.heap.size,3,ZY⟩=ZX (Z7 Z8 (eQ x:Nat)):=by simp [World.cell?,O]
 have c4:w3.cell? ⟨w.heap.size,4,ZY⟩=ZX (Z2 (fQ x)):=by simp [World.cell?,O]
 obtain ⟨_,l1,_⟩:=gy p;have kg:=O5 (w:=w3.drew) kx q2 (w.heap.size+1+1);have i:aa (λk=>k=sb+1) w3 (w3.drew.putObj (sb+1) (.map (ea D L G (es++[(x,w.heap.size+1+1,n)])).toArray (n+1))):=(aa.drew w3).trans (aa.putObj _ _ _ rfl);have u:(w3.drew.putObj (sb+1) (.map (ea D L G (es++[(x,w.heap.size+1+1,n)])).toArray (n+1))).heap[sb+1]?=ZX (.map (ea D L G (es++[(x,w.heap.size+1+1,n)])).toArray (n+1)):=by
  have hz:=d.size;unfold World.putObj;exact YS (by show sb+1<w3.heap.size;omega)
 obtain ⟨w4,q1⟩:=nM (w3.drew.putObj (sb+1) (.map (ea D L G (es++[(x,w.heap.size+1+1,n)])).toArray (n+1)));rw [q1] at kg i u;unfold bL at kg ⊢;have P:=a6 k5 k8 k9 k6 hB;clear k5 k8 k9 k6 hB;have H:=hide11 d J p Q i u hll s g v E;clear hl hm h d J p kx Q i u O hn q1 s g v E q2;go_enter func175,ntmps175;go_wp2;go_region;clear c0 c1 c2 c3 c4 l1 kg ki;obtain ⟨d,J,p,Q,i,u,hll,s,g,v,E⟩:=H.o;have kz:=J.lt;have kj:∀ a,S a->a≠w.heap.size+1+1:=λa f=>by have:=s a f;omega
 have ko:cn' (w.heap.size+1+1)=⟨D,L,G,(eQ x:Nat),fQ x,regs,.slice ao m c⟩:=by rw [P.o.1];exact TX rfl
 have kp:∀ a,S a->cn' a=cn a:=λa f=>by rw [P.o.1];exact TW (kj a f)
 have q0:=AU (w:=w4) (S:=λa=>a=w.heap.size+1+1\/S a) (cn:=cn') (nw:=nw) (ol:=ol) (n:=w.heap.size+1+1) (show fP w4 sb room from (i.block _ (by omega) (by omega)).trans p) (by rw [ko];exact J.keep (i.block _ J.lt (by omega))) (λa f=>by
  have Z:=f.1.resolve_left f.2;rw [kp a Z];exact (Q a Z).keep (i.block _ (Q a Z).lt (g a Z).1)) (.inl rfl) (.inr v) (kj sb v) (.inr E)
 have H4:=hide7 u i p d kz hll q0;clear d J p Q i u q0 ko kp;go_wp2_with fail;refine H4.o.2.2.2.2.2.2.mono ?_;rintro e C ⟨rfl,A,B⟩;obtain ⟨u,i,p,d,kz,hll,_⟩:=H4.o;obtain ⟨_,_,_,_,_,_,_,s,g,v,E⟩:=H.o;have X:aa (λk=>k=sb+1\/k=w.heap.size+1+1\/S k) w3 C:=(i.mono λ_ _ q=>.inl q).trans (B.mono λ_ _ q=>.inr q);have I:fP C sb room:=(X.block _ (by omega) (λq=>by
  rcases q with q|q|q
  . omega
  . omega
  . exact (g _ q).2 rfl)).trans p
 have q5:=i.size;have r:=(B.block (sb+1) (by omega) (λq=>by
  rcases q with q|q
  . omega
  . exact (g _ q).1 rfl)).trans u
 obtain ⟨l0,l1,l2⟩:=gy I;have kf:=λt=>O6 (w:=C.drew) r t;have Y:aa (λk=>S k\/k=sb+1) w C:=(aa.RT d _).later X (λk hk q=>by
  rcases q with q|q|q
  . exact .inr q
  . omega
  . exact .inl q)
 rw [<- P.o.2.1,<- P.o.2.2.1] at A;rw [<- P.o.2.2.2.1] at r kf;obtain ⟨K,hK⟩:=nM (b.length);rw [hK] at kf;by_cases hr:(K:Int)<=room
 . have q3:¬ (room<(K:Int)):=(by omega);have U:decide (room<(K:Int))=ZV:=Vz q3;have W:=a5 A r Y hK;clear u i p X I r A B Y g v E s d hK;go_wp2;go_region;go_wp2;go_end0
   obtain ⟨A,r,hO,hK⟩:=W.o;exact ⟨rfl,⟨λ_=>⟨⟨_,r⟩,A⟩,λq=>by rw [hK] at q;omega⟩,hO.trans (aa.drew _)⟩
 . have q4:room<(K:Int):=(by omega);obtain ⟨U,j,hj,R,⟨rg,st,T⟩,F,kc,ke⟩:=P.o.2.2.2.2 (by rw [hK];exact q4);obtain ⟨e7,_,_,_⟩:=(A sb (.inr v)).cells;have kh:=rh (w:=C.drew) (show pe C.drew (λa=>a=w.heap.size+1+1\/S a) cn' nw' l from A) F kc ke;obtain ⟨q,M⟩:=nM (nw' sb);rw [M] at R T F kc ke e7 kh;have W:=hide13 I r Y hK U R T F kh M g s d;clear u i p X I r A B Y g v E s d hK U R T F kc ke kh M;go_wp2;go_region;go_wp2_with fail;refine W.o.2.2.2.2.2.2.2.2.1.mono ?_;rintro e z ⟨rfl,kb,kk⟩;clear l0 l1 l2 e7 kf;obtain ⟨I,r,B,hK,U,R,T,F,_,M,g,s,d⟩:=W.o;have V:aa (λa=>a=w.heap.size+1+1\/S a) C z:=(aa.drew C).trans kk;have q6:=B.size;have kv:fP z sb room:=(V.block _ (by omega) (λe=>by
    rcases e with e|e
    . omega
    . exact (g _ e).2 rfl)).trans I
   have ky:=(V.block (sb+1) (by omega) (λe=>by
    rcases e with e|e
    . omega
    . exact (g _ e).1 rfl)).trans r
   obtain ⟨_,l1,_⟩:=gy kv;have ks:=(kb q F).key;rw [T] at ks;obtain ⟨c0,c1,c2,c3,c4⟩:=ks;have kr:=λt=>RB (w:=z.drew) ky hj U t;obtain ⟨y,hy⟩:=nM (b[j].1);rw [hy] at kr c3 c4;unfold bL at kr;have k7:PX (z.drew.putObj (sb+1) (.map (ea D L G (b.eraseIdx j)).toArray (n+1))) sb room D L G b (λa=>a=w.heap.size+1+1\/S a) cn' nw' l/\aa (λk=>S k\/k=sb+1) w (z.drew.putObj (sb+1) (.map (ea D L G (b.eraseIdx j)).toArray (n+1))):=by
    have km:aa (λk=>k=sb+1) z (z.drew.putObj (sb+1) (.map (ea D L G (b.eraseIdx j)).toArray (n+1))):=(aa.drew z).trans (aa.putObj _ _ _ rfl);have q7:=V.size;refine ⟨⟨λe=>by rw [hK] at e;omega,λ_=>⟨j,hj,R.trans M.symm,⟨n+1,?_⟩,?_⟩⟩,?_⟩
    . unfold World.putObj;exact YS (by show sb+1<z.heap.size;omega)
    . rw [M];exact kb.keep km (λa f e=>by
       rcases f with f|f
       . omega
       . exact (g a f).1 e)
    . exact (B.later V (λk hk e=>by
       rcases e with e|e
       . omega
       . exact .inl e)).later km (λk hk e=>.inr e)
   have H6:=ak k7;clear k7 I r B hK U R T F M g s d V kv ky kb kk hy;go_wp2;go_region;go_end0
   exact ⟨rfl,H6.o⟩
section
structure Pq where
 lost:Nat
 nb:Nat
 s:Nat
 C:Ck
 ao:Option Addr
 m:Nat
 c:Nat
def Pq.cn (D L G:Nat) (q:Pq):FA:=⟨D,L,G,(eQ q.lost:Nat),fQ q.lost,1+((ab (aw (D+L+G) q.s)).length:Int),.slice q.ao q.m q.c⟩
def jW (qs:List Pq):a8:=qs.map (·.nb)
def oT (sb:Nat) (qs:List Pq) (a:Nat):Prop:=a=sb\/a∈jW qs
structure gP (w:ZU) (sb:Nat) (room:Int) (D L G:Nat) (es:List (Nat×Nat×Nat)) (qs:List Pq):Prop where
 list:fP w sb room
 R7:w.heap[sb+1+1+1]?=ZX (Z4 #[Z6 (ZX ⟨sb+1+1,0,ZY⟩)] 223 (0,0))
 map:∃ n,w.heap[sb+1]?=ZX (.map (ea D L G es).toArray n)
 ring:∃ cn nw ol,pe w (oT sb qs) cn nw ol/\vL nw ol sb (jW qs) sb/\∀ q∈qs,cn q.nb=q.cn D L G
 nd:(sb::jW qs).Nodup
 lo:(cT es).Nodup
 Tu:∀ e∈es,∃ q∈qs,q.lost=e.1/\q.nb=e.2.1
 qs_es:∀ q∈qs,∃ e∈es,e.1=q.lost/\e.2.1=q.nb
 len:es.length=qs.length
 SR:∀ q∈qs,sb+1+1+1<q.nb
 own:∀ q∈qs,w.ownsRow 0 299 4 (.slice q.ao q.m q.c) (bZ D L G q.s q.C).length (eG .u8 (bZ D L G q.s q.C))
 TL:∀ q∈qs,∀ i,(eQ q.lost).testBit i=ZW->q.s.testBit i=ZW
 told:∀ q∈qs,tells (jO D L G) (ab (aw (D+L+G) q.s))=ZX q.C
section
variable {w w':ZU} {sb:Nat} {room:Int} {D L G:Nat} {es:List (Nat×Nat×Nat)} {qs:List Pq}
def gP.apart (h:gP w sb room D L G es qs) (a:Nat) (b:oT sb qs a):a≠sb+1/\a≠sb+1+1/\a≠sb+1+1+1/\a<w.heap.size/\∃ cs,w.heap[a]?=ZX (Z4 cs 261 (0,0)):=by
 obtain ⟨cn,nw,ol,d,_,_⟩:=h.ring;have c:=d a b;refine ⟨?_,?_,?_,c.lt,_,c⟩;all_goals
  rcases b with rfl|b
  . omega
  . obtain ⟨q,e,rfl⟩:=Ua.1 b;have:=h.SR q e;omega
def gP.steps (h:gP w sb room D L G es qs) {q:Pq} (f:q∈qs) {k:Nat} (d:(Value.slice q.ao q.m q.c).ownBlock=ZX k):¬ oT sb qs k:=λe=>by
 obtain ⟨_,_,_,_,cs,b⟩:=h.apart k e;obtain ⟨cur,a⟩:=bu (h.own q f) d;rw [b] at a;simp only [US,Vl] at a;exact absurd a.2.1 (by decide)
def MQ (qs l r:List Pq) (q:Pq) (h:qs=l++q::r):jW qs=jW l++q.nb::jW r:=by rw [h];simp [jW]
theorem RD (h:gP w sb room D L G es qs) {x:Nat} (hx:x∈cT es) :
 ∃ q t,q∈qs/\q.lost=x/\(∀ p,p∈t↔p∈qs)/\∀ W,gP W sb room D L G es qs->ZS ZO 173 #[Z6 (ZX ⟨sb+1+1,0,ZY⟩),bL D L G (eQ x:Nat) (fQ x)] W λe w'=>e=Z3 (ZZ #[.agg #[Z7 Z9 (1+((ab (aw (D+L+G) q.s)).length:Int)),.slice q.ao q.m q.c],Z2 ZW])/\gP w' sb room D L G es t/\aa (oT sb qs) W w':=by
 obtain ⟨e,u,f⟩:=Ua.1 hx;obtain ⟨k,I,N⟩:=UZ u;obtain ⟨q,v,P,hy⟩:=h.Tu e u;obtain ⟨l,r,B⟩:=List.append_of_mem v;have d:∀ p,p∈q::(l++r)↔p∈qs:=λp=>by rw [B];simp only [Uz,Un];constructor<;>(intro h;rcases h with h|h|h<;>simp [h])
 refine ⟨q,q::(l++r),v,P.trans f,d,λW h=>?_⟩;obtain ⟨cn,nw,ol,T,E,M⟩:=h.ring;obtain ⟨n,Q⟩:=h.map;have O:=MQ qs l r q B;have i:=h.nd;rw [O] at E i;have H:sb∉jW l++q.nb::jW r:=(UV.1 i).1;obtain ⟨V,Y,Z⟩:=vL.take E i H;have hv:∀ a,oT sb (q::(l++r)) a↔oT sb qs a:=λa=>by
  unfold oT jW;simp only [Ua];constructor
  . rintro (e|⟨p,b,e⟩)
    . exact .inl e
    . exact .inr ⟨p,(d p).1 b,e⟩
  . rintro (e|⟨p,b,e⟩)
    . exact .inl e
    . exact .inr ⟨p,(d p).2 b,e⟩
 have F:∀ a,a∈sb::(jW l++q.nb::jW r)->oT sb qs a:=λa g=>by
  rcases Uz.1 g with e|e
  . exact .inl e
  . exact .inr (by rw [O];exact e)
 have J:oT sb qs (nw q.nb):=F _ (by
  rcases Uz.1 Y with e|e
  . rw [e];exact Va ..
  . exact UT _ (UO _ e))
 have K:oT sb qs (ol q.nb):=by
  rcases Z with e|e
  . exact F _ (UT _ (VY _ (UT _ e)))
  . exact .inl e
 have S:oT sb qs (ol sb):=by
  rcases E.Si with e|e
  . exact .inl e.1
  . exact F _ (UT _ e)
 have C:q.nb∉sb::(jW l++jW r):=by
  intro o;have A:=(UV.1 i).2;rcases Uz.1 o with e|e
  . exact H (by rw [<- e];simp)
  . rw [Vb] at A;rcases Un.1 e with e|e
    . exact A.2.2 _ e _ (Va ..) rfl
    . exact (UV.1 A.2.1).1 e
 have z:(sb::(jW l++jW r)).Nodup:=by
  refine UV.2 ⟨λe=>H ?_,?_⟩
  . rcases Un.1 e with e|e
    . exact UO _ e
    . exact VY _ (UT _ e)
  . exact YL (List.Sublist.append_left (List.sublist_cons_self _ _) _) (UV.1 i).2
 have U:=V.put z C;refine (Jz h.list Q I h.lo (by rw [N];exact f) (by rw [N];exact hy.symm) T (λa g=>⟨(h.apart a g).1,(h.apart a g).2.1⟩) (.inr (Ua.2 ⟨q,v,rfl⟩)) J K (.inl rfl) S (by rw [M q v,Pq.cn,P.trans f])).mono ?_;rintro e w' ⟨rfl,X,j⟩;have y:∀ a,sb<a->a<=sb+1+1+1->¬ oT sb qs a:=λa J K q=>by
  obtain ⟨q1,q2,q3,_⟩:=h.apart a q;rcases q with q|q
  . omega
  . obtain ⟨p,b,rfl⟩:=Ua.1 q;have:=h.SR p b;omega
 have hll:sb+1+1+1<W.heap.size:=(T5.1 h.R7).1;refine ⟨rfl,⟨(j.block _ (by omega) (y _ (by omega) (by omega))).trans h.list,(j.block _ hll (y _ (by omega) (by omega))).trans h.R7,⟨n,(j.block _ (by omega) (y _ (by omega) (by omega))).trans Q⟩,⟨cn,_,_,λa g=>X a ((hv a).1 g),?_,λp b=>M p ((d p).1 b)⟩,?_,h.lo,λe u=>?_,λp b=>h.qs_es p ((d p).1 b),?_,λp b=>h.SR p ((d p).1 b),λp b=>bR (h.own p ((d p).1 b)) j (λk I q=>h.steps ((d p).1 b) I q),λp b=>h.TL p ((d p).1 b),λp b=>h.told p ((d p).1 b)⟩,j⟩
 . have e:jW (q::(l++r))=q.nb::(jW l++jW r):=(by simp [jW]);rw [e];exact U
 . have e:jW (q::(l++r))=q.nb::(jW l++jW r):=(by simp [jW]);rw [e,UV];refine ⟨λo=>?_,UV.2 ⟨λo=>C (UT _ o),(UV.1 z).2⟩⟩;rcases Uz.1 o with e|e
   . exact C (by rw [<- e];exact Va ..)
   . exact (UV.1 z).1 e
 . obtain ⟨p,b,R⟩:=h.Tu e u;exact ⟨p,(d p).2 b,R⟩
 . rw [h.len,B];simp;omega
end
end
section
section
variable {w w':ZU} {sb:Nat} {room:Int} {D L G:Nat} {es:List (Nat×Nat×Nat)} {qs:List Pq}
def uU:∀ (es:List (Nat×Nat×Nat)) (j:Nat),cT (es.eraseIdx j)=(cT es).eraseIdx j
 | [],_=>rfl
 | _::_,0=>rfl
 | e::es,j+1=>UB (e.1::·) (uU es j)
def FD (h:l.Nodup) {i j:Nat} (a:i<l.length) (b:j<l.length) (e:l[i]=l[j]):i=j:=by
 rcases Nat.lt_trichotomy i j with q|q|q
 . exact absurd e (V6.1 h i j a b q)
 . exact q
 . exact absurd e.symm (V6.1 h j i b a q)
def AV (q:Pq) (qs:List Pq):jW (q::qs)=q.nb::jW qs:=rfl
theorem RE (h:gP w sb room D L G es qs) {x:Nat} (hx:x∉cT es) {s m c:Nat} {C:Ck} {ao:Option Addr} (ho:w.ownsRow 0 299 4 (.slice ao m c) (bZ D L G s C).length (eG .u8 (bZ D L G s C))) (hr:∀ i,(eQ x).testBit i=ZW->s.testBit i=ZW) (ht:tells (jO D L G) (ab (aw (D+L+G) s))=ZX C) :
 ZS ZO 175 #[Z6 (ZX ⟨sb+1+1,0,ZY⟩),bL D L G (eQ x:Nat) (fQ x),.agg #[Z7 Z9 (1+((ab (aw (D+L+G) s)).length:Int)),.slice ao m c]] w λe w'=>e=Z3 (ZZ #[])/\(∃ f S,gP w' sb room D L G f S/\∀ q∈S,q∈qs\/q=⟨x,w.heap.size+1+1,s,C,ao,m,c⟩)/\aa (λk=>oT sb qs k\/k=sb+1) w w':=by
 obtain ⟨cn,nw,ol,hN,hL,q8⟩:=h.ring;obtain ⟨n,hm⟩:=h.map;have hll:sb+1+1+1<w.heap.size:=(T5.1 h.R7).1;obtain ⟨N,kx⟩:∃ N,N=w.heap.size+1+1:=⟨_,rfl⟩;obtain ⟨g,z⟩:∃ g:Pq,g=⟨x,N,s,C,ao,m,c⟩:=⟨_,rfl⟩;have q5:∀ a,oT sb qs a->a<w.heap.size:=λa r=>(h.apart a r).2.2.2.1;have Z:N∉sb::jW qs:=λe=>by
  have:=q5 N (by rcases Uz.1 e with e|e;exact .inl e;exact .inr e);omega
 have W:=hL.put h.nd Z;obtain ⟨A,ka⟩:∃ A,A=iy (iy nw N sb) (ol sb) N:=⟨_,rfl⟩;obtain ⟨F,kb⟩:∃ F,F=iy (iy ol N (ol sb)) sb N:=⟨_,rfl⟩;obtain ⟨cn',k0⟩:∃ cn',cn'=cnN cn N (g.cn D L G):=⟨_,rfl⟩;obtain ⟨f,I⟩:∃ f,f=es++[(x,N,n)]:=⟨_,rfl⟩;rw [<- ka,<- kb] at W;have h3:oT sb qs (ol sb):=by
  rcases hL.Si with e|e
  . exact .inl e.1
  . exact .inr e
 have J:g.nb=N:=by rw [z]
 have kp:∀ q∈g::qs,cn' q.nb=q.cn D L G:=λq d=>by
  rw [k0];unfold cnN;rcases Uz.1 d with e|e
  . rw [e,J,TX rfl]
  . rw [TW (show ¬ q.nb=N from λt=>Z (UT _ (by rw [<- t];exact Ua.2 ⟨q,e,rfl⟩))),q8 q e]
 have km:(cT f).Nodup:=by
  have e:cT f=cT es++[x]:=by rw [I];simp [cT]
  rw [e,Vb];exact ⟨h.lo,by simp,λa r b hb e=>hx (by rw [Vn] at hb;rw [<- hb,<- e];exact r)⟩
 have kv:∀ q∈g::qs,∃ e∈f,e.1=q.lost/\e.2.1=q.nb:=λq d=>by
  rcases Uz.1 d with e|e
  . exact ⟨(x,N,n),by rw [I];simp,by rw [e,z],by rw [e,z]⟩
  . obtain ⟨y,hy,o⟩:=h.qs_es q e;exact ⟨y,by rw [I];exact UO _ hy,o⟩
 have kr:∀ e∈f,∃ q∈g::qs,q.lost=e.1/\q.nb=e.2.1:=λe B=>by
  rw [I] at B;rcases Un.1 B with o|o
  . obtain ⟨q,d,t⟩:=h.Tu e o;exact ⟨q,UT _ d,t⟩
  . rw [Vn] at o;exact ⟨g,Va ..,by rw [o,z],by rw [o,z]⟩
 have k7:f.length=qs.length+1:=by rw [I,Uc,h.len];rfl
 have U:(sb::jW (g::qs)).Nodup:=by
  rw [AV,J];refine UV.2 ⟨λe=>?_,UV.2 ⟨λe=>Z (UT _ e),(UV.1 h.nd).2⟩⟩;rcases Uz.1 e with e|e
  . exact Z (by rw [<- e];exact Va ..)
  . exact (UV.1 h.nd).1 e
 rw [<- J,<- AV] at W;obtain ⟨l,u,R⟩:∃ l u,g::qs=l++[u]:=⟨(g::qs).dropLast,(g::qs).getLast (by simp),(List.dropLast_concat_getLast (by simp)).symm⟩;have hv:u∈g::qs:=by rw [R];simp
 have T:jW (g::qs)=jW l++u.nb::jW []:=by rw [R];simp [jW]
 have ko:=W;have V:=U;rw [T] at ko V;have H:A sb=u.nb:=by
  rw [ko.last (by simp)];simp [jW]
 obtain ⟨hT,q6,q7⟩:=vL.take ko V (UV.1 V).1;have kj:∀ a,a∈sb::jW (g::qs)->a=N\/oT sb qs a:=λa r=>by
  rw [AV,J] at r;rcases Uz.1 r with e|e
  . exact .inr (.inl e)
  . rcases Uz.1 e with e|e
    . exact .inl e
    . exact .inr (.inr e)
 have k6:∀ q∈g::qs,q.nb=u.nb->q∉l:=λq d e qd=>by
  have kz:=(UV.1 V).2;rw [Vb] at kz;exact kz.2.2 q.nb (Ua.2 ⟨q,qd,rfl⟩) u.nb (by simp) e
 have kc:∀ q∈g::qs,q∈l\/q=u:=λq d=>by
  rw [R] at d;rcases Un.1 d with e|e
  . exact .inl e
  . exact .inr (Vn.1 e)
 refine (FC (cn':=cn') (regs:=1+((ab (aw (D+L+G) s)).length:Int)) (ao:=ao) (m:=m) (c:=c) h.list hm hx hN (λa r=>⟨(h.apart a r).1,(h.apart a r).2.1⟩) (.inl rfl) h3 kx (by rw [k0,z];rfl) ka kb I (λ_=>⟨km,?_⟩)).mono ?_
 . obtain ⟨e,B,o,t⟩:=kv u hv;obtain ⟨j,M,q4⟩:=UZ B;refine ⟨j,M,by rw [q4,t,H],⟨_,_,by rw [H,kp u hv,q4,o];rfl⟩,?_,?_,?_⟩
   . rw [H];exact kj _ (UT _ (Ua.2 ⟨u,hv,rfl⟩))
   . rw [H];refine kj _ ?_;rw [T];rcases Uz.1 q6 with e|e
     . rw [e];exact Va ..
     . exact UT _ (UO _ e)
   . rw [H];rcases q7 with e|e
     . cases e
     . rw [e];exact .inr (.inl rfl)
 . rintro e w' ⟨rfl,hA,K⟩;have hh:∀ {v:ZT} {nn:Nat} {xs:List ZT},w.ownsRow 0 299 4 v nn xs->∀ k,v.ownBlock=ZX k->¬ (oT sb qs k\/k=sb+1):=λhw k O q=>by
    obtain ⟨cur,P⟩:=bu hw O;rcases q with q|q
    . obtain ⟨_,_,_,_,cs,hc⟩:=h.apart k q;rw [hc] at P;simp only [US,Vl] at P;exact absurd P.2.1 (by decide)
    . rw [q,hm] at P;cases P
   have k8:∀ a,sb+1<a->a<=sb+1+1+1->¬ (oT sb qs a\/a=sb+1):=λa h1 h2 q=>by
    rcases q with q|q
    . obtain ⟨q1,q2,q3,_⟩:=h.apart a q;rcases q with q|q
      . omega
      . obtain ⟨p,hp,rfl⟩:=Ua.1 q;have:=h.SR p hp;omega
    . omega
   have hn:=(K.block (sb+1+1) (by omega) (k8 _ (by omega) (by omega))).trans h.list;have h6:=(K.block _ hll (k8 _ (by omega) (by omega))).trans h.R7;have ky:∀ q∈g::qs,sb+1+1+1<q.nb:=λq d=>by
    rcases Uz.1 d with e|e
    . rw [e,J];omega
    . exact h.SR q e
   have ke:∀ q∈g::qs,w'.ownsRow 0 299 4 (.slice q.ao q.m q.c) (bZ D L G q.s q.C).length (eG .u8 (bZ D L G q.s q.C)):=λq d=>by
    rcases Uz.1 d with e|e
    . subst z;rw [e];exact bR ho K (λk O q=>hh ho k O q)
    . exact bR (h.own q e) K (λk O q'=>hh (h.own q e) k O q')
   have X:∀ q∈g::qs,(∀ i,(eQ q.lost).testBit i=ZW->q.s.testBit i=ZW)/\tells (jO D L G) (ab (aw (D+L+G) q.s))=ZX q.C:=λq d=>by
    rcases Uz.1 d with e|e
    . subst z;rw [e];exact ⟨hr,ht⟩
    . exact ⟨h.TL q e,h.told q e⟩
   have kg:∀ q∈g::qs,q∈qs\/q=⟨x,w.heap.size+1+1,s,C,ao,m,c⟩:=λq d=>by
    rcases Uz.1 d with e|e
    . right;rw [e,z,kx]
    . exact .inl e
   refine ⟨rfl,?_,K⟩;by_cases kf:((f.length:Nat):Int)<=room
   . obtain ⟨ks,Y⟩:=hA.1 kf;exact ⟨f,g::qs,⟨hn,h6,ks,⟨cn',A,F,λa r=>Y a (kj a (by rcases r with e|e;rw [e];exact Va ..;exact UT _ e)),W,kp⟩,U,km,kr,kv,by rw [k7];rfl,ky,ke,λq d=>(X q d).1,λq d=>(X q d).2⟩,kg⟩
   . obtain ⟨j,M,kk,ks,Y⟩:=hA.2 (by omega);rw [H] at Y kk;have E:∀ q∈l,q∈g::qs:=λq d=>by rw [R];exact UO _ d
     have qa:f[j].1=u.lost:=by
      obtain ⟨q,d,o,t⟩:=kr _ (T8 M);rcases kc q d with e|e
      . exact absurd e (k6 q d (by rw [t,kk]))
      . rw [<- o,e]
     have e0:cT (f.eraseIdx j)=(cT f).eraseIdx j:=uU _ _;have qc:jW l++jW []=jW l:=(by simp [jW]);rw [qc] at hT;refine ⟨f.eraseIdx j,l,⟨hn,h6,ks,⟨cn',_,_,λa r=>Y a (kj a ?_),hT,λq d=>kp q (E q d)⟩,?_,?_,λe B=>?_,λq d=>?_,?_,λq d=>ky q (E q d),λq d=>ke q (E q d),λq d=>(X q (E q d)).1,λq d=>(X q (E q d)).2⟩,λq d=>kg q (E q d)⟩
     . rw [T];rcases r with e|e
       . rw [e];exact Va ..
       . exact UT _ (UO _ e)
     . rw [T] at U;exact YL (List.Sublist.cons_cons _ (List.sublist_append_left _ _)) U
     . rw [e0];exact YL (List.eraseIdx_sublist _ _) km
     . obtain ⟨i,hi,qb,Q⟩:=YT.1 B;obtain ⟨q,d,o,t⟩:=kr e (by rw [<- Q];exact T8 _);refine ⟨q,(kc q d).resolve_right λeq=>?_,o,t⟩;subst eq;have q9:(cT f)[i]'(by simpa [cT] using hi)=(cT f)[j]'(by simpa [cT] using M):=by
        simp only [cT,UU,Q,qa,o]
       exact qb (FD km _ _ q9)
     . obtain ⟨e,B,o,t⟩:=kv q (E q d);obtain ⟨i,hi,Q⟩:=UZ B;refine ⟨e,YT.2 ⟨i,hi,λhd=>?_,Q⟩,o,t⟩;subst hd;rw [Q,t] at kk;exact k6 q (E q d) kk d
     . have:(g::qs).length=l.length+1:=by rw [R];simp
       rw [List.length_eraseIdx_of_lt M,k7];simp at this;omega
def O7 (sb:Nat) (qs:List Pq) (k:Nat):Prop:=(sb<=k/\k<=sb+1+1+1)\/k∈jW qs\/∃ q∈qs,(Value.slice q.ao q.m q.c).ownBlock=ZX k
def Dp {qs:List Pq} (h:oT sb qs k):O7 sb qs k:=h.elim (λe=>.inl (by omega)) λe=>.inr (.inl e)
def gP.keep (h:gP w sb room D L G es qs) (b:∀ k,O7 sb qs k->w'.heap[k]?=w.heap[k]?):gP w' sb room D L G es qs:=by
 obtain ⟨cn,nw,ol,i,g,f⟩:=h.ring;obtain ⟨n,j⟩:=h.map;exact ⟨(b _ (.inl ⟨by omega,by omega⟩)).trans h.list,(b _ (.inl ⟨by omega,by omega⟩)).trans h.R7,⟨n,(b _ (.inl ⟨by omega,by omega⟩)).trans j⟩,⟨cn,nw,ol,λa c=>(i a c).keep (b a (Dp c)),g,f⟩,h.nd,h.lo,h.Tu,h.qs_es,h.len,h.SR,λq d=>pY (h.own q d) λk e=>b k (.inr (.inr ⟨q,d,e⟩)),h.TL,h.told⟩
def gP.blt (h:gP w sb room D L G es qs) (k:Nat) (a:O7 sb qs k):k<w.heap.size:=by
 have:sb+1+1+1<w.heap.size:=(T5.1 h.R7).1;rcases a with e|e|⟨q,b,e⟩
 . omega
 . exact (h.apart k (.inr e)).2.2.2.1
 . exact Ra (h.own q b) e
def m8 (sb:Nat) (room:Int) (D L G:Nat) (es:List (Nat×Nat×Nat)) (qs:List Pq) (ho:Nat):bf where
 ps:=sb+1+1+1
 ho:=ho
 bl:=O7 sb qs
 S:=λw=>gP w sb room D L G es qs
 keep:=λ_ _ h hk=>h.keep hk
 kd:=λw h k hk cs T z e=>by
  rcases hk with ⟨h1,h2⟩|hk|⟨q,hq,hk⟩
  . have hx:k=sb\/k=sb+1\/k=sb+1+1\/k=sb+1+1+1:=by omega
    rcases hx with rfl|rfl|rfl|rfl
    . obtain ⟨_,_,_,_,cs',q⟩:=h.apart k (.inl rfl)
      rw [q] at e;injection e with e;injection e with _ e;exact .inr (.inr (.inl e.symm))
    . obtain ⟨n,q⟩:=h.map;rw [q] at e;injection e with e;cases e
    . have q:w.heap[sb+1+1]?=_:=h.list
      rw [q] at e;injection e with e;injection e with _ e;exact .inr (.inl e.symm)
    . rw [h.R7] at e;injection e with e;injection e with _ e;exact .inl e.symm
  . obtain ⟨_,_,_,_,cs',q⟩:=h.apart k (.inr hk)
    rw [q] at e;injection e with e;injection e with _ e;exact .inr (.inr (.inl e.symm))
  . obtain ⟨cur,q⟩:=bu (h.own q hq) hk
    rw [q] at e;injection e with e;injection e with _ e;exact .inr (.inr (.inr e.symm))
 lt:=λ_ h=>h.blt
 cl:=λw h k hk=>by
  rcases hk with ⟨h1,h2⟩|hk|⟨q,hq,hk⟩
  . have hx:k=sb\/k=sb+1\/k=sb+1+1\/k=sb+1+1+1:=by omega
    rcases hx with rfl|rfl|rfl|rfl
    . obtain ⟨_,_,_,_,cs',q⟩:=h.apart k (.inl rfl)
      exact .inr ⟨_,_,_,q⟩
    . exact .inl rfl
    . exact .inr ⟨_,_,_,h.list⟩
    . exact .inr ⟨_,_,_,h.R7⟩
  . obtain ⟨_,_,_,_,cs',q⟩:=h.apart k (.inr hk)
    exact .inr ⟨_,_,_,q⟩
  . obtain ⟨cur,q⟩:=bu (h.own q hq) hk
    exact .inr ⟨_,_,_,q⟩
def m9 (sb:Nat) (room:Int) (D L G:Nat) (ps:bf):Prop:=∃ es qs ho,ps=m8 sb room D L G es qs ho
end
end
def Dq {qs qs':List Pq} (h:∀ p,p∈qs'↔p∈qs) (c:O7 sb qs' k):O7 sb qs k:=by
 rcases c with e|e|⟨q,a,e⟩
 . exact .inl e
 . obtain ⟨q,a,b⟩:=Ua.1 e;exact .inr (.inl (Ua.2 ⟨q,(h q).1 a,b⟩))
 . exact .inr (.inr ⟨q,(h q).1 a,e⟩)
def gP.cell {qs:List Pq} (h:gP w sb room D L G es qs):w.cell? ⟨sb+1+1+1,0,ZY⟩=ZX (Z6 (ZX ⟨sb+1+1,0,ZY⟩)):=by
 have a:=h.R7;simp [World.cell?,a]
theorem MR {qs:List Pq} (t:gP w sb room D L G es qs) {lost:Nat} (V:lost∈cT es):∃ q d,q∈qs/\q.lost=lost/\(∀ p,p∈d↔p∈qs)/\ZS ZO 145 #[Z6 (ZX ⟨sb+1+1+1,0,ZY⟩),bL D L G (eQ lost:Nat) (fQ lost)] w λe w'=>nD D L G q.s q.ao q.m q.c e/\gP w' sb room D L G es d/\aa (oT sb qs) w w':=by
 obtain ⟨q,d,S,T,B,E⟩:=RD t V;refine ⟨q,d,S,T,B,?_⟩;obtain ⟨s,U⟩:=nM (q.s);obtain ⟨ao,Q⟩:=nM (q.ao);obtain ⟨m,P⟩:=nM (q.m);obtain ⟨c,K⟩:=nM (q.c);rw [U,Q,P,K] at E ⊢;clear U Q P K;have f:=wt.new w D L G (eQ lost:Nat) (fQ lost);obtain ⟨w2,hy⟩:=nM ((w.alloc (Z4 #[Z7 Z9 (D:Int),Z7 Z9 (L:Int),Z7 Z9 (G:Int),Z7 Z8 ((eQ lost:Nat):Int),Z2 (fQ lost)] 221)).alloc (Z4 #[Z7 Z9 0,Z5 ZY 0 0] 206));rw [hy] at f;obtain ⟨c0,c1,X,Y,Z⟩:=f.cells;have j:∀ k,O7 sb qs k->k<w.heap.size:=t.blt;have g:∀ k,O7 sb d k->k<w.heap.size:=λk b=>j k (Dq B b);have u:=t.keep λk b=>f.below.block k (j k b);have hv:=u.cell;obtain ⟨z,i⟩:∃ z:Int,1+((ab (aw (D+L+G) s)).length:Int)=z:=⟨_,rfl⟩;have J:∀ w',bW w2 w'->ZS ZO 173 #[Z6 (ZX ⟨sb+1+1,0,ZY⟩),bL D L G (eQ lost:Nat) (fQ lost)] w' λe r=>e=Z3 (ZZ #[.agg #[Z7 Z9 z,.slice ao m c],Z2 ZW])/\gP r sb room D L G es d/\aa (oT sb qs) w' r:=λw' hb=>by
  rw [<- i];exact E w' (u.keep λk b=>hb.block k (T9 (j k b) f.below.size))
 have C:bW w2 (w2.alloc (Z4 #[Z7 Z9 0,Z5 ZY 0 0] 206)):=bA w2 _;obtain ⟨d0,d1,d2,d3,d4⟩:=(f.mono C).cells;have dp:=(u.keep λk b=>C.block k (T9 (j k b) f.below.size)).cell;have k5:=f.size;have O:∀ k,oT sb qs k->k<w.heap.size:=λk b=>j k (Dp b);have M:=ak O;have H:=a5 f g i J;clear f J C t u g j O E B S T V;unfold bL at H ⊢;unfold nD;rw [i];clear i;go_enter func145,ntmps145;go_upto_region 1 with fail;go_cut [6,7] from 10 to 18 (λv6 v7 wx=>v7=Z2 ZW/\∃ gb,v6=Z6 (ZX ⟨gb,0,ZY⟩)/\w2.heap.size<=gb/\wx.heap[gb]?=ZX (Z4 #[Z7 Z9 z,.slice ao m c] 206 (0,0))/\gP wx sb room D L G es d/\aa (oT sb qs) w2 wx)
 case first=>
  go_region_with (go_at_call 173;refine (H.o.2.2.2 _ ?_).mono ?_;(first|exact (T6 _ _).drew|exact ((T6 _ _).drew).alloc lR _);rintro e w3 ⟨rfl,h,a⟩;(try (have F:w3.heap[w2.heap.size]?=ZX (Z4 #[Z7 Z9 0,Z5 ZY 0 0] 206 (0,0)):=(a.block w2.heap.size (by simp) (λq=>by have:=M.out _ q;omega)).trans (Uk w2.drew _);obtain ⟨r0,r1,g1,g0⟩:=ay F;have W:=ak F;clear F));have I:aa (oT sb qs) w2 w3:=(by first|exact (aa.drew w2).trans a|exact aa.after ((bA w2 _).drew) a);have x:=al h I;clear h a I);all_goals (go_wp2_with fail;go_meet;case rel=>(
   obtain ⟨h,a⟩:=x.o;have g:=H.o.2.1;have hg:=a.size;first
    | (refine ⟨rfl,w2.heap.size,rfl,TY _,iX (y':=.slice ao m c) (iW (x':=Z7 Z9 z) W.o),h.keep λk b=>(ix w3 w2.heap.size 0 1 _ _).block k (by have:=g k b;omega) (by have:=g k b;omega),?_⟩
       have n:=ix w3 w2.heap.size 0 1 (Z7 Z9 z) (.slice ao m c);exact ⟨n.os.trans a.os,n.tape.trans a.tape,n.output.trans a.output,TZ a.size n.size,λk y A=>(n.block k (by omega) (by omega)).trans (a.block k y A)⟩)
    | exact ⟨rfl,w3.heap.size,rfl,hg,Uk _ _,h.keep λk b=>Uy _ _ _ (by have:=g k b;omega),a.os,a.tape,a.output,by rw [Uw];omega,λk y A=>(Uy _ _ _ (by omega)).trans (a.block k y A)⟩))
 case rest=>
  clear c0 c1 X Y Z d0 d1 d2 d3 d4 dp hv;rename ZU=>w3;obtain ⟨rfl,gb,rfl,k0,R,h,a⟩:=hcut;obtain ⟨f,g,i,_⟩:=H.o;have l:=(a.block (w.heap.size+1) (by omega) (λq=>by have:=M.out _ q;omega)).trans f.res;obtain ⟨q0,q1,g1,g0⟩:=ay l;obtain ⟨r0,r1,_,_⟩:=ay R;have x:=aE l h a;clear l h a R f g i;go_wp2;obtain ⟨l,h,a⟩:=x.o;obtain ⟨f,g,i,_⟩:=H.o;obtain ⟨n0,n1,_⟩:=ay (iX (y':=.slice ao m c) (iW (x':=Z7 Z9 z) l));have N:aa (λk=>k=w.heap.size+1) w3 ((w3.setCell ⟨w.heap.size+1,0,ZY⟩ (Z7 Z9 z)).setCell ⟨w.heap.size+1,1,ZY⟩ (.slice ao m c)):=ix w3 (w.heap.size+1) 0 1 _ _;refine Uv (v:=ZZ #[.agg #[Z7 Z9 z,.slice ao m c],.nilIface]) (by simp [results,results145,go_sem,n0,n1]) rfl ?_;exact ⟨rfl,h.keep λk b=>N.block k (by have:=g k b;have:=a.size;omega) (by have:=g k b;omega),(aa.after f.below a).later N (λk b q=>by omega)⟩
section
def MT:¬ rM 213:=by unfold rM;decide
section
variable {w':ZU} {D L G:Nat} {Kind:bf->Prop} {ps:bf}
def RF (D L G:Nat) (Kind:bf->Prop) (ps:bf) (l1:Nat) (w1:ZU) (v6 v7:ZT) (wx:ZU):Prop:=v7=.nilIface/\∃ gb ps' s C ao m c,v6=Z6 (ZX ⟨gb,0,ZY⟩)/\w1.heap.size<=gb/\wx.heap[gb]?=ZX (Z4 #[Z7 Z9 (1+((ab (aw (D+L+G) s)).length:Int)),.slice ao m c] 206 (0,0))/\DT D L G Kind ps ps' l1 s C ao m c w1.heap.size wx/\aa ps.bl w1 wx
def JA {ps':bf} (e:DT D L G Kind ps ps' l1 s C ao m c w1.heap.size w3) (d:bW w1 w') (b:aa ps.bl w' w3) :
 RF D L G Kind ps l1 w1 (Z6 (ZX ⟨w3.heap.size,0,ZY⟩)) .nilIface (w3.alloc (Z4 #[Z7 Z9 (1+((ab (aw (D+L+G) s)).length:Int)),.slice ao m c] 206)):=by
 have a:bW w3 (w3.alloc (Z4 #[Z7 Z9 (1+((ab (aw (D+L+G) s)).length:Int)),.slice ao m c] 206)):=bA _ _;exact ⟨rfl,_,ps',s,C,ao,m,c,rfl,TZ d.size b.size,Uk _ _,e.keep (T:=λ_=>False) (aa.RT a _) (λ_ q=>q.elim),(aa.after d b).trans (aa.RT a _)⟩
def FE {ps':bf} (n:DT D L G Kind ps ps' l1 s C ao m c (w1.heap.size+1) w3) (hl:∀ k,ps.bl k->k<w1.heap.size) (r:w2.heap.size=w1.heap.size) (o:bW w1 w2) (g:aa ps.bl (w2.alloc (Z4 #[Z7 Z9 0,Z5 ZY 0 0] 206)) w3) :
 RF D L G Kind ps l1 w1 (Z6 (ZX ⟨w1.heap.size,0,ZY⟩)) .nilIface ((w3.setCell ⟨w1.heap.size,0,ZY⟩ (Z7 Z9 (1+((ab (aw (D+L+G) s)).length:Int)))).setCell ⟨w1.heap.size,1,ZY⟩ (.slice ao m c)):=by
 have p:w3.heap[w1.heap.size]?=ZX (Z4 #[Z7 Z9 0,Z5 ZY 0 0] 206 (0,0)):=(g.block w1.heap.size (by rw [Uw];omega) (λq=>by have:=hl _ q;omega)).trans (by rw [<- r];exact Uk _ _);have b:=ix w3 w1.heap.size 0 1 (Z7 Z9 (1+((ab (aw (D+L+G) s)).length:Int))) (.slice ao m c);have j:DT D L G Kind ps ps' l1 s C ao m c w1.heap.size ((w3.setCell ⟨w1.heap.size,0,ZY⟩ (Z7 Z9 (1+((ab (aw (D+L+G) s)).length:Int)))).setCell ⟨w1.heap.size,1,ZY⟩ (.slice ao m c)):=by
  have h:=n.keep b (λk (q:k=w1.heap.size)=>⟨by omega,λe=>by have:=hl k e;omega⟩);exact ⟨h.kind,h.psE,h.hoE,h.kit,λk d=>(h.bl k d).imp id (by omega),λk d=>(h.ob k d).imp id (by omega),h.own,h.TL,h.told⟩
 have l:bW w1 (w2.alloc (Z4 #[Z7 Z9 0,Z5 ZY 0 0] 206)):=o.alloc (by omega) _;have a:=aa.after l g;exact ⟨rfl,_,ps',s,C,ao,m,c,rfl,TY _,iX (iW p),j,b.os.trans a.os,b.tape.trans a.tape,b.output.trans a.output,TZ a.size b.size,λk f i=>(b.block k (T9 f a.size) (by omega)).trans (a.block k f i)⟩
end
end
theorem Bs.sub {off:Nat} (h:Bs w (Z5 (ZX ⟨b,off,ZY⟩) bl c) l) (i n d:Nat) (f:i+n<=l.length) (p:n<=d):Bs w (Z5 (ZX ⟨b,off+i,ZY⟩) n d) ((l.drop i).take n):=by
 obtain ⟨ao,c0,e,t,u,m,o⟩:=h;injection e with e1 e2 e3;have hl:((l.drop i).take n).length=n:=by rw [Us,Ur];omega
 refine ⟨ZX ⟨b,off+i,ZY⟩,d,by rw [hl],by rw [hl];exact p,by rw [hl];omega,λx r=>m x (U8 (U2 r)),λv=>⟨b,off+i,rfl,λk g=>?_⟩⟩;rw [hl] at g;obtain ⟨s,y,a,j⟩:=o (λq=>by rw [q] at f;simp at f;omega);rw [<- e1] at a;injection a with a;injection a with e5 e6;subst e5 e6;have:=j (i+k) (by omega);rw [Vx,this];congr 3;rw [Ub,Ub,VR g,Wg]
def Dr (a b:a8) (n k:Nat) (h:a.length=n):(a++b).drop (n+k)=b.drop k:=by
 subst h;rw [<- VN,List.drop_left]
def MU (ho:o.fit) (rest:a8):(bP o++rest).getD 0 0=o.name.size:=by
 unfold bP;have:be o.name.size 1=[o.name.size]:=by
  have:=ho.name.2;simp [be];omega
 rw [this];rfl
def JB (o:Ob) (rest:a8):((bP o++rest).drop 1).take o.name.size=o.name.toList.map (λ(b:UInt8)=>b.toNat):=by
 have:(be o.name.size 1).length=1:=aD _ _;have:(o.name.toList.map (λ(b:UInt8)=>b.toNat)).length=o.name.size:=by
  rw [Ud,Yn,Wv];rfl
 unfold bP fM;simp only [UC];rw [W5 (by omega),WN (by omega),Ut,V2 (by omega),UJ (by omega)]
def JC (ho:o.fit) (rest:a8):((bP o++rest).drop 17).take 2=be o.size 2:=by
 have:(be o.name.size 1++fM o.name).length=17:=by rw [Uc,aD,mG ho.name.2]
 unfold bP;rw [UC,UC,W5 (by omega),WN (by omega),Ut,V2 (by rw [aD];exact TY _),UJ (by rw [aD];exact TY _)]
def MV (l:a8) (j:Nat) (a:j<l.length) (r:a8):((l.flatMap (λs=>be s 4)++r).drop (4*j)).take 4=be l[j] 4:=by
 induction l generalizing j with
 | nil=>cases a
 | cons x l ih=>
  cases j with
  | zero=>rw [VQ,Nat.mul_zero,Xw,UC,V2 (by rw [aD];exact TY _),UJ (by rw [aD];exact TY _)];rfl
  | succ j=>
   rw [VQ,show 4*(j+1)=4+4*j by omega,UC,Dr _ _ 4 (4*j) (aD _ _)];exact ih j (by simpa using a)
def MW (ho:o.fit):(be o.name.size 1++fM o.name++be o.size 2).length=19:=by rw [Uc,Uc,aD,aD,mG ho.name.2]
def Ds (ho:o.fit) (rest:a8) (j:Nat) (b:j<o.RR.length):((bP o++rest).drop (19+4*j)).take 4=be o.RR[j] 4:=by
 have a:=MW ho;unfold bP;rw [UC,Dr _ _ 19 (4*j) a,MV _ _ b]
def JD (ho:o.fit) (rest:a8):(bP o++rest).drop (19+4*o.RR.length)=rest:=by
 rw [<- di ho,W5 lR,WN lR,Ut]
def zOb:Array ZT:=#[.string ⟨#[]⟩,Z7 Z9 0,Z5 ZY 0 0]
def MX {o:Oper} (j:o.guard=ZY) (x y:Operand) (ho:o.op=.store 152 x y) {b:Nat} {cs cs':Array ZT}
 (k:a.eval x=Z6 (ZX ⟨b,0,ZY⟩)) (l:a.eval y=.agg cs') (g:w.heap[b]?=ZX (Z4 cs 152 (0,0))) (i:cs.size=3) (c:cs'.size=3) (e:cs'.all (·.oneCell')=ZW) (h:wpList ZO ops Q rest (a.put o.dst undef) (w.setRow b cs')):wpList ZO ops Q (o::rest) a w:=by
 have d:(ZO.info? 152).map (·.size)=ZX 3:=by kernel_rfl
 have f:(Instr.storeAt 152 (Z6 (ZX ⟨b,0,ZY⟩)) (.agg cs')).run ZO w=.ok () (w.setRow b cs'):=by
  simp only [Instr.storeAt,Instr.sureAddr,Ux,Vf,UK,XY w b 152 152 cs cs' g (by rw [c];exact d) (by rw [i,c]) e]
 refine V5 j λK hK=>?_;unfold Oper.wp;simp [execOp,ho,k,l,f,Result.andThen];exact hK _ _ h
def Du {P:Program} {fn:Func} {p t u:Tmp} {ty:ZQ} (h:fn.results=#[.cell p ty,.tmp t,.tmp u]) (tmps:Array ZT) (w:ZU) (g:Nat) (b:ZQ) (cs:Array ZT) (a:Nat×Nat) (d:TypeDesc) (x y:ZT)
 (l:tmps.getD p undef=Z6 (ZX ⟨g,0,ZY⟩)) (n:tmps.getD t undef=x) (o:tmps.getD u undef=y) (j:w.heap[g]?=ZX (Z4 cs b a)) (m:P.underlying ty=ZX d) (i:(match d with|.struct _|.array _ _=>ZW|_=>ZV)=ZW) (k:(P.info? ty).map (·.size)=ZX cs.size) :
 (results fn tmps).run P w=.ok (ZZ #[.agg cs,x,y]) w:=by
 have c:tmps[p]?.getD undef=Z6 (ZX ⟨g,0,ZY⟩):=by simpa using l
 have e:tmps[t]?.getD undef=x:=by simpa using n
 have f:tmps[u]?.getD undef=y:=by simpa using o
 simp [results,h,c,e,f,asAddr,W9 w g b ty cs a d j m i k]
def UoR (w:ZU) (nm:ByteArray) (sz:Nat) (st:a8) (i:ZT) (wr:ZU):Prop:=∃ (j:Nat) (sv:ZT),j<=st.length/\i=Z7 Z9 j/\wr.heap[w.heap.size]?=ZX (Z4 #[Z0 nm,Z7 Z9 (sz:Int),sv] 152 (0,0))/\wr.ownsRow w.heap.size 3 1 sv j (jV (st.take j))/\bW w wr
structure RG (w:ZU) (b off bl c:Nat) (o:Ob) (rest:a8) (e:ZR) (w':ZU):Prop where
 out:∃ sa sc bv,e=Z3 (ZZ #[.agg #[Z0 o.name,Z7 Z9 (o.size:Nat),.slice sa o.RR.length sc],bv,Z2 ZW])/\bg (λk=>w.heap.size<=k) w' (.slice sa o.RR.length sc) o.RR/\∀ w0,Bs w0 (Z5 (ZX ⟨b,off,ZY⟩) bl c) (bP o++rest)->Bs w0 bv rest
 below:bW w w'
theorem rO {off:Nat} {rest:a8} (ss:Nat) (p:Bs w (Z5 (ZX ⟨b,off,ZY⟩) bl c) (bP o++rest)) (g:bl=(bP o++rest).length) (ho:o.fit) (xa:1<=ss/\ss<=1000000) (l:o.RR.length=max 1 ((o.size+ss-1)/ss)) (hr:rest.length<=100000000) :
 ZS ZO 185 #[Z5 (ZX ⟨b,off,ZY⟩) bl c,Z7 Z9 ss] w λe w'=>RG w b off bl c o rest e w':=by
 have N:bl=19+4*o.RR.length+rest.length:=by rw [g,Uc,di ho]
 have Z:=ho.len;have x2:=ho.name;have kr:=ho.size;obtain ⟨ao,c0,e0,kx,_,hx,hn⟩:=id p;injection e0 with T e2 e3;subst e3;rw [<- g] at kx hn;obtain ⟨b',o',x,qh⟩:=hn (λq=>by rw [q] at g;simp at g;omega);rw [<- T] at x;injection x with x;injection x with e5 e6;subst e5 e6;clear T e2;have d0:=qh 0 (by omega);rw [VV,MU ho] at d0;have kk:(w.alloc (Z4 zOb 152)).heap[w.heap.size]?=ZX (Z4 zOb 152 (0,0)):=Uk _ _;have Q:bW w (w.alloc (Z4 zOb 152)):=bA w _;have km:(w.alloc (Z4 zOb 152)).heap.size=w.heap.size+1:=by simp
 obtain ⟨w1,qd⟩:=nM (w.alloc (Z4 zOb 152));rw [qd] at kk Q km;have xc:w.alloc (Z4 #[.string ⟨#[]⟩,Z7 Z9 0,Z5 ZY 0 0] 152)=w1:=qd;have x0:b<w.heap.size:=Ui d0;have c1:w1.cell? ⟨b,off,ZY⟩=ZX (Z7 .u8 (o.name.size:Nat)):=(Uo (Q.block b x0)).trans d0;have Y:=p.mono Q;obtain ⟨m,A⟩:=nM (o.RR.length);obtain ⟨sz,t⟩:=nM (o.size);obtain ⟨L,r⟩:=nM (o.name.size);have q9:=zA (Z5 (ZX ⟨b,off+17,ZY⟩) 2 (c-17)) (be o.size 2) w1 (by rw [<- JC ho rest];exact Y.sub 17 2 _ (by omega) (by omega));rw [lx o.size 2 (by omega) (by omega),t] at q9;have q0:=m7 sz ss (by omega) xa w1;rw [<- t,<- l,A] at q0;rw [t] at q0;rw [A] at N Z;rw [r] at c1 x2;have qa:=gw m (by omega) w1;obtain ⟨lo,kj⟩:=nM (19+4*m);rw [kj] at N qa;have xd:¬ ((bl:Nat):Int)<19:=by omega
 have qv:¬ c=17:=by omega
 have xf:¬ ((L:Nat):Int)<1:=by omega
 have xg:¬ ((L:Nat):Int)>16:=by omega
 have xi:¬ ((sz:Nat):Int)>1500:=by omega
 have hll:¬ ((bl:Nat):Int)<(lo:Int):=by omega
 have xk:IntKind.i64.wrap (L:Int)=L:=by rw [UF];omega
 have H:=hide13 q9 q0 qa Y kk Q km A t r p g l;have HL:=a6 N kj Z kr kx;have qy:19<=bl:=by omega
 have qz:19<=c:=by omega
 clear N kj Z kr kx;clear q9 q0 qa Y kk Q km A t r p g l hn qh qd d0 hx;go_enter func185,ntmps185;go_wp2_with fail;refine H.o.1.mono ?_;rintro e w2 ⟨rfl,J⟩;obtain rfl:w1=w2:=J.symm;clear J;have xj:IntKind.i64.wrap (sz:Int)=sz:=by have:=HL.o.2.2.2.1;have:=H.o.2.2.2.2.2.2.2.2.1;rw [UF];omega
 go_wp2_with fail;refine H.o.2.1.mono ?_;rintro e w2 ⟨rfl,J⟩;obtain rfl:w1=w2:=J.symm;clear J;go_wp2_with fail;refine H.o.2.2.1.mono ?_;rintro e w2 ⟨rfl,J⟩;obtain rfl:w1=w2:=J.symm;clear J;obtain ⟨_,_,_,Y,kk,Q,km,A,t,r,p,g,l⟩:=H.o;have qi:(convert 40 9 (Z5 (ZX ⟨b,off+1,ZY⟩) L (c-1))).run ZO w1=.ok (Z0 o.name) w1:=by
  have qm:o.name.toList.length=L:=by rw [Yn,Wv,<- r];rfl
  have kv:=Y.sub 1 L (c-1) (by rw [<- g];omega) (by omega);rw [<- r,JB o rest] at kv;obtain ⟨ao,cc,T,_,_,_,U⟩:=kv;injection T with T e2 e3;have ky:o.name.toList.map (λ(b:UInt8)=>b.toNat)≠[]:=λe=>by
   have:=UB YJ e;rw [Ud,qm] at this;simp at this;omega
  obtain ⟨b',o',x,x1⟩:=U ky;rw [<- T] at x;injection x with x;injection x with e5 e6;subst e5 e6;have:=run_convert_bytes_back (P:=ZO) w1 40 9 5 ⟨b,off+1,ZY⟩ (c-1) o.name.toList Uq Xq abJ (λj hj=>by
   have V:=x1 j (by rw [Ud];exact hj);have h8:(o.name.toList.map (λ(b:UInt8)=>b.toNat)).getD j 0=(o.name.toList[j]).toNat:=by
    rw [Ub,UE,Ue hj];rfl
   rw [h8] at V;unfold Addr.add;split
   . rename_i h0;subst h0;exact V
   . exact V)
  rw [qm] at this;rw [this];congr 2;rw [Yn]
 clear Y p g l A t r Q;have x7:¬ c=1:=by omega
 have HQ:=al kk km;clear kk km;obtain ⟨nm,q8⟩:=nM (o.name);rw [q8] at qi;have xh:1+L<=c:=by omega
 go_wp2_with (show wpList _ _ _ ({ dst:=ZY,op:=Op.store 152 (Z1 4) (Z1 50),type:=_,pos:=_,after:=_,guard:=_ }::_) _ _;refine MX (b:=w.heap.size) (cs:=zOb) (cs':=#[Z0 nm,Z7 Z9 (sz:Int),Z5 ZY 0 0]) rfl (Z1 4) (Z1 50) rfl (by rfl) (by rfl) (by exact HQ.o.1) rfl rfl (by simp [Value.oneCell']) ?_);have qn:(w1.setRow w.heap.size #[Z0 nm,Z7 Z9 (sz:Int),Z5 ZY 0 0]).heap[w.heap.size]?=ZX (Z4 #[Z0 nm,Z7 Z9 (sz:Int),Z5 ZY 0 0] 152 (0,0)):=Vy _ _ _ _ _ _ HQ.o.1;have qg:bW w (w1.setRow w.heap.size #[Z0 nm,Z7 Z9 (sz:Int),Z5 ZY 0 0]):=H.o.2.2.2.2.2.1.grown (aG _ _ _) H.o.2.2.2.2.2.1.size (λk e=>by have:=UQ e;omega);have H8:=al qn qg;have qs:=ak q8;clear qn qg qi q8;go_loopw [52] (λi wr=>UoR w nm sz o.RR i wr) (λi _=>m-(intOf i).toNat)
 case atStart=>exact ⟨0,_,T7 _,rfl,H8.o.1,UP _ _ _ _,H8.o.2⟩
 case round=>
  clear H8;obtain ⟨j,sv,hj,rfl,f,X,z⟩:=hrel;obtain ⟨_,_,_,_,_,_,_,A,t,r,p,g,l⟩:=H.o;obtain ⟨N,kj,Z,kr,kx⟩:=HL.o;have q1:=p.mono (w':=wr) z;have qe:=z.size;have kg:w.heap.size<wr.heap.size:=(T5.1 f).1;by_cases xe:j<m
  . have q6:j<o.RR.length:=(by omega);obtain ⟨ii,x5,q3,q4,q5⟩:=Uu Tryz.Sk;have x9:=ho.st _ (T8 q6);have R:=q1.sub (19+4*j) 4 (c-(19+4*j)) (by rw [<- g];omega) (by omega);rw [Ds ho rest j q6] at R;obtain ⟨s,hs⟩:=nM (o.RR[j]);rw [hs] at x9 R;have qq:jV (o.RR.take (j+1))=jV (o.RR.take j)++[Z7 Z9 (s:Int)]:=by
     rw [Vg,Ue q6,hs];unfold jV;rw [UD];rfl
    obtain ⟨d,a,hq,E,ke,_,_⟩:=run_append_own_at (P:=ZO) (wr.drew.alloc (Z4 #[Z7 Z9 (s:Int)] 3)) w.heap.size 48 0 3 ii (Z7 Z9 0) 1 8 Yi x5 q3 q4 q5 rfl (by decide) sv j (jV (o.RR.take j)) ((show wr.drew.ownsRow w.heap.size 3 1 sv j (jV (o.RR.take j)) from X).alloc _) ⟨wr.heap.size,0,ZY⟩ 1 1 [Z7 Z9 (s:Int)] rfl (lB wr.drew _ _) (by intro u hu;simp at hu;subst hu;rfl) (by unfold maxLen;omega) (by omega) (by simp;omega);have qb:(wr.drew.alloc (Z4 #[Z7 Z9 (s:Int)] 3)).heap[w.heap.size]?=ZX (Z4 #[Z0 nm,Z7 Z9 (sz:Int),sv] 152 (0,0)):=(Uy _ _ _ kg).trans f;have hp:(wr.drew.alloc (Z4 #[Z7 Z9 (s:Int)] 3)).ownsRow w.heap.size 3 1 sv j (jV (o.RR.take j)):=(show wr.drew.ownsRow w.heap.size 3 1 sv j (jV (o.RR.take j)) from X).alloc _;have F:=(ke.block w.heap.size (by simp;omega) (λe=>bH hp qb (by decide) e.symm)).trans qb;have hv:=aT E;have q2:bW w (wr.drew.alloc (Z4 #[Z7 Z9 (s:Int)] 3)):=z.drew.alloc qe _;have n:bW w a:=q2.grown ke q2.size (λk e=>dK hp e);rw [<- qq] at E;have qf:=hide7 f R hq E F hv n;have x6:j<=100000:=(by omega);have x4:19+4*j+4<=bl:=(by omega);clear f X z A t r p g l N kj Z kr q1 R hq E ke qb hp F hv q2 n qq hs qe kg;go_wp2_with fail;obtain ⟨f,R,hq,E,F,⟨va,vc,hv⟩,n⟩:=qf.out;obtain ⟨B,ks⟩:=nM (19+4*j);obtain ⟨U,x3⟩:=nM (B+4);have S:=gw j (by omega) wr.drew;have p2:=gw (j+1) (by omega) wr.drew;have p3:=zA _ (be s 4) wr.drew R;rw [ks] at S p3 x4;rw [show 19+4*(j+1)=U by omega] at p2;rw [lx s 4 (by omega) (by omega)] at p3;have M:wr.cell? ⟨w.heap.size,2,ZY⟩=ZX sv:=(by simp [World.cell?,f]);have hd:(wr.drew.alloc (Z4 #[Z7 Z9 (s:Int)] 3)).cell? ⟨w.heap.size,2,ZY⟩=ZX sv:=(World.cell?_alloc_some wr.drew _ _ (by rw [show wr.drew.cell? ⟨w.heap.size,2,ZY⟩=ZX sv from M];rfl)).trans M;have qr:a.cell? ⟨w.heap.size,2,ZY⟩=ZX sv:=(by simp [World.cell?,F]);have xm:a.frozen? ⟨w.heap.size,2,ZY⟩=ZV:=(by simp [World.frozen?,F]);have k1:B<=U:=(by omega);have k3:U<=c:=(by omega);have k4:U-B=4:=(by omega);have k5:¬ c=B:=(by omega);have k6:IntKind.i64.wrap (s:Int)=s:=(by rw [UF];omega);have k7:IntKind.i64.wrap ((j:Int)+1)=(j:Int)+1:=(by rw [UF];omega);have qo:∀ ty,(Builtin.append_ #[48,48] ty #[sv,Z5 (ZX ⟨wr.heap.size,0,ZY⟩) 1 1]).run ZO (wr.drew.alloc (Z4 #[Z7 Z9 (s:Int)] 3))=.ok d a:=λ_=>hq;refine ga 14 [(0,ZW),(1,ZW),(2,ZW),(3,ZW),(5,ZW),(6,ZW),(4,ZV),(7,ZV),(8,ZW),(9,ZV),(10,ZW),(11,ZV),(12,ZV),(13,ZW),(14,ZV)] (λw'=>w'.cell? ⟨w.heap.size,2,ZY⟩=ZX sv) (by kernel_rfl) (by kernel_rfl) M ?_;iterate 6 (refine aZ rfl rfl ?_;apply YG;refine ⟨λw' G=>?_,?_⟩;(first|(go_simp;done)|(go_simp;exact rfl));simp only [Act.put,Ug,Uf,Uh])
    refine mr S rfl rfl (by go_simp) ?_;rintro e w3 ⟨rfl,rfl⟩;refine ⟨_,rfl,λ_=>M,?_⟩;simp only [Act.put,Ug,Uf,Uh];refine mr p2 rfl rfl (by go_simp) ?_;rintro e w3 ⟨rfl,rfl⟩;refine ⟨_,rfl,λ_=>M,?_⟩;simp only [Act.put,Ug,Uf,Uh];refine aZ rfl rfl ?_;apply YG;refine ⟨λw' G=>?_,?_⟩;(first|(go_simp;done)|(go_simp;exact rfl));simp only [Act.put,Ug,Uf,Uh];refine mr p3 rfl rfl (by go_simp) ?_;rintro e w3 ⟨rfl,rfl⟩;refine ⟨_,rfl,λ_=>M,?_⟩;simp only [Act.put,Ug,Uf,Uh];refine aZ rfl rfl ?_;apply YG;refine ⟨λw' G=>?_,?_⟩;(first|(go_simp;done)|(go_simp;exact rfl));simp only [Act.put,Ug,Uf,Uh];refine td (v:=Z5 (ZX ⟨wr.heap.size,0,ZY⟩) 1 1) (w1:=wr.drew.alloc (Z4 #[Z7 Z9 (s:Int)] 3)) rfl rfl (by go_simp) (λ_=>hd) ?_;simp only [Act.put,Ug,Uf,Uh];refine td (v:=d) (w1:=a) rfl rfl (by simp [execOp,Act.eval,resolve,invoke,builtin,qo]) (λ_=>qr) ?_;simp only [Act.put,Ug,Uf,Uh];refine aZ rfl rfl ?_;apply YG;refine ⟨λw' G=>?_,?_⟩;(first|(go_simp;done)|(go_simp;exact rfl));simp only [Act.put,Ug,Uf,Uh];refine nS (w1:=a.setCell ⟨w.heap.size,2,ZY⟩ d) rfl rfl (by subst hv;go_simp) (absurd rfl) (gS ?_);obtain ⟨w3,I⟩:∃ w3,w3=a.setCell ⟨w.heap.size,2,ZY⟩ d:=⟨_,rfl⟩;rw [<- I];clear S p2 p3 M hd qr xm k1 k3 k4 k5 k6 k7 qo ks x3;have kz:w3.heap[w.heap.size]?=ZX (Z4 #[Z0 nm,Z7 Z9 (sz:Int),d] 152 (0,0)):=(by rw [I];exact abG a w.heap.size 2 _ _ d F);have O:aa (λk=>k=w.heap.size) a w3:=(by rw [I];exact aa.setCell _ _ _ rfl);have k0:w3.ownsRow w.heap.size 3 1 d (j+1) (jV (o.RR.take (j+1))):=bR E O (λk hk e=>bH E F (by decide) (by rw [hk,e]));have kp:bW w w3:=⟨O.os.trans n.os,O.tape.trans n.tape,O.output.trans n.output,TZ n.size O.size,λk hk=>(O.block k (by have:=n.size;omega) (by omega)).trans (n.block k hk)⟩;have H3:=aE kz k0 kp;clear f R hq E F hv n kz O k0 kp I qf;rename_i ko
    refine ko _ _ ?_;clear ko;simp only [Act.put];go_wp2;go_roundw
    case rel=>exact ⟨j+1,d,by have:=H.o.2.2.2.2.2.2.2.1;omega,by go_num,H3.o.1,H3.o.2.1,H3.o.2.2⟩
    case measure=>simp [intOf];omega
  . have q7:j=m:=(by omega);subst q7;obtain ⟨C,D,xb⟩:=aT X;subst xb;have ky:o.RR≠[]:=λe=>by
     have y:=UB YJ e;have h2:1<=o.RR.length:=(by rw [l];exact YQ _ _);rw [y] at h2;simp at h2
    have W:=CH (K:=λk=>w.heap.size<=k) (show wr.ownsRow w.heap.size 3 1 (.slice C j D) j (jV o.RR) by have y:=X;rw [UJ (by omega)] at y;exact y) ky (by omega) (λk hk=>hk);have W:=W.choose_spec.choose_spec.2;obtain ⟨ra,qp⟩:∃ ra:Option Addr,(c=lo/\ra=ZX ⟨b,off,ZY⟩)\/(c≠lo/\ra=ZX ⟨b,off+lo,ZY⟩):=by
     by_cases V:c=lo
     . exact ⟨_,.inl ⟨V,rfl⟩⟩
     . exact ⟨_,.inr ⟨V,rfl⟩⟩
    have hf:∀ w0,Bs w0 (Z5 (ZX ⟨b,off,ZY⟩) bl c) (bP o++rest)->Bs w0 (.slice ra (bl-lo) (c-lo)) rest:=by
     intro w0 qx;have y:=qx.sub lo (bl-lo) (c-lo) (by rw [<- g];omega) (by omega);have h2:((bP o++rest).drop lo).take (bl-lo)=rest:=by
      rw [show lo=19+4*o.RR.length by omega,JD ho,UJ (by omega)]
     rw [h2] at y;rcases qp with ⟨h3,rfl⟩|⟨h3,rfl⟩
     . have x8:rest=[]:=Xc.1 (by omega);subst x8;refine ⟨ZX ⟨b,off,ZY⟩,c-lo,?_,by simp,by decide,λ_ h=>(by cases h),λh=>absurd rfl h⟩;simp only [U0];congr 1;omega
     . exact y
    have Hr:=a5 f W hf z;have x6:j<=100000:=(by omega);clear f X z A t r p g l N Z kr q1 W hf qe kg ky;go_wp2_with fail;have f:=Hr.o.1;have kf:(ZO.info? 152).map (·.size)=ZX 3:=(by kernel_rfl);have qj:(Instr.loadAt 152 (Z6 (ZX ⟨w.heap.size,0,ZY⟩))).run ZO wr.drew=.ok (.agg #[Z0 nm,Z7 Z9 (sz:Int),.slice C j D]) wr.drew:=(by simp only [Instr.loadAt,Instr.sureAddr,Ux,Vf,UK,W9 wr.drew w.heap.size 152 152 #[Z0 nm,Z7 Z9 (sz:Int),.slice C j D] (0,0) _ f underlying152 rfl kf]);have l:(Instr.storeAt 152 (Z6 (ZX ⟨w.heap.size,0,ZY⟩)) (.agg #[Z0 nm,Z7 Z9 (sz:Int),.slice C j D])).run ZO wr.drew=.ok () wr.drew:=by
     simp only [Instr.storeAt,Instr.sureAddr,Ux,Vf,UK,XY wr.drew w.heap.size 152 152 #[Z0 nm,Z7 Z9 (sz:Int),.slice C j D] #[Z0 nm,Z7 Z9 (sz:Int),.slice C j D] f kf rfl (by simp [Value.oneCell'])];rw [setRow_self wr.drew w.heap.size _ 152 (0,0) f]
    have S:=gw j (by omega) wr.drew;rw [kj] at S;refine ga 99 [(0,ZW),(1,ZW),(2,ZW),(3,ZV),(4,ZW),(5,ZV),(6,ZW),(7,ZW)] (λw'=>w'=wr.drew) (by kernel_rfl) (by kernel_rfl) rfl ?_;refine aZ rfl rfl ⟨_,λw' G=>by subst G;simp [execOp,Act.eval,qj];rfl,?_⟩;simp only [Act.put,Ug,Uf,Uh];iterate 2 (refine aZ rfl rfl ?_;apply YG;refine ⟨λw' G=>?_,?_⟩;(first|(go_simp;done)|(go_simp;exact rfl));simp only [Act.put,Ug,Uf,Uh])
    refine mr S rfl rfl (by go_simp) ?_;rintro e w3 ⟨rfl,rfl⟩;refine ⟨_,rfl,λ_=>rfl,?_⟩;simp only [Act.put,Ug,Uf,Uh];refine aZ rfl rfl ⟨.slice ra (bl-lo) (c-lo),λw' G=>by rcases qp with ⟨y,rfl⟩|⟨y,rfl⟩<;>go_simp,?_⟩;simp only [Act.put,Ug,Uf,Uh];refine nS (w1:=wr.drew) rfl rfl (by simp [execOp,Act.eval,l]) (λ_=>rfl) ?_;simp only [Act.put,Ug,Uf,Uh];iterate 2 (refine aZ rfl rfl ?_;apply YG;refine ⟨λw' G=>?_,?_⟩;(first|(go_simp;done)|(go_simp;exact rfl));simp only [Act.put,Ug,Uf,Uh])
    refine gS ?_;clear qj l S f kf;obtain ⟨w3,I⟩:∃ w3,w3=wr.drew:=⟨_,rfl⟩;rw [<- I];rename_i ko
    refine ko _ _ ?_;clear ko;go_wp2;obtain ⟨f,W,hf,z⟩:=Hr.o;have kz:w3.heap[w.heap.size]?=ZX (Z4 #[Z0 nm,Z7 Z9 (sz:Int),.slice C j D] 152 (0,0)):=(by rw [I];exact f);refine Uv (v:=ZZ #[.agg #[Z0 nm,Z7 Z9 (sz:Int),.slice C j D],.slice ra (bl-lo) (c-lo),Z2 ZW]) (Du results185 _ w3 w.heap.size 152 _ (0,0) _ _ _ rfl rfl rfl kz underlying152 rfl (by kernel_rfl)) rfl ?_;have qk:=H.o.2.2.2.2.2.2.2.1;have qc:=H.o.2.2.2.2.2.2.2.2.1;have kp:bW wr w3:=(by rw [I];exact (T6 _ wr).drew);refine ⟨⟨C,D,_,by rw [qs.out,qc,qk],?_,hf⟩,z.trans (kp.mono z.size)⟩;rw [qk];exact W.keep (eN.RU kp)
def aaP (l:a8):ByteArray:=⟨(l.map YM).toArray⟩
theorem uV (h:Bs w v l):(convert 40 9 v).run ZO w=.ok (Z0 (aaP l)) w:=by
 obtain ⟨ao,c,rfl,_,_,k,f⟩:=h;by_cases hl:l=[]
 . subst hl;exact AL ao c w
 . obtain ⟨b,off,rfl,i⟩:=f hl;have:=run_convert_bytes_back (P:=ZO) w 40 9 5 ⟨b,off,ZY⟩ c (l.map YM) Uq Xq abJ (λj a=>by
    rw [Ud] at a;have d:=i j a;have g:((l.map YM)[j]'(by rw [Ud];exact a)).toNat=l.getD j 0:=by
     rw [UU,Ub,Ue a];have:=k _ (T8 a);simp;omega
    rw [g];unfold Addr.add;split
    . rename_i e;subst e;exact d
    . exact d)
   rw [Ud] at this;exact this
theorem FF {v':ZT} (h:Bs w v l) (b:Bs w v' l):ZS ZO 186 #[v,v'] w λe w'=>e=Z3 (Z2 ZW)/\w'=w:=by
 have g:=uV h;have i:=uV b;obtain ⟨ao,c,rfl,_⟩:=h;obtain ⟨j,d,rfl,_⟩:=b;obtain ⟨S,f⟩:=nM (aaP l);obtain ⟨N,a⟩:=nM (l.length);rw [f,a] at g i;rw [a];clear f a;go_enter func186,ntmps186;go_wp2;go_ret;exact ⟨rfl,rfl⟩
def Dv (D:Nat) (l:a8) (os:List Ob):Prop:=∀ (w:ZU) (v:ZT),Bs w v l->ZS ZO 155 #[v,Z7 Z9 ((D*44:Nat):Int)] w λe w'=>∃ o,e=Z3 (ZZ #[o,Z2 ZW])/\fa (λk=>w.heap.size<=k) w' o os/\bW w w'
def Bs.TC (h:w.ownsRow base 5 1 v n (aI l)) (c:∀ x∈l,x<256) (hl:l.length<=1000000000):Bs w v l:=by
 have i:l.length=n:=by have:=h.1;rw [aW] at this;omega
 rcases h.2 with ⟨rfl,q⟩|⟨g,cap,cur,rfl,j,d,m,o,p,e⟩
 . have:l=[]:=Xc.1 (by omega);subst this;exact ⟨ZY,0,rfl,TY _,by decide,c,λh=>absurd rfl h⟩
 . refine ⟨ZX ⟨g,0,ZY⟩,cap,by rw [i],by omega,by omega,c,λ_=>⟨g,0,rfl,λk b=>?_⟩⟩;have a:=UB (λl=>l[k]?) e;simp only [Wf,aI] at a;rw [VR (by omega),abE,UE,Ue b] at a;have f:l.getD k 0=l[k]:=(by simp [Ub,b]);rw [f];simp only [Um,World.cell?,d];exact a
def AW (os:List Ob) (sv:Nat->ZT) (k:Nat):List ZT:=(YI k).flatMap λi=>[Z0 (os.getD i GJ).name,Z7 Z9 ((os.getD i GJ).size:Nat),sv i]
def G5 (os:List Ob) (sv:Nat->ZT):∀ k,(AW os sv k).length=k*3
 | 0=>rfl
 | k+1=>by
  unfold AW;rw [VF,Wz,Uc];have:=G5 os sv k;unfold AW at this;rw [this];simp;omega
def oU (os:List Ob) (sv:Nat->ZT) (k:Nat):AW os sv (k+1)=AW os sv k++[Z0 (os.getD k GJ).name,Z7 Z9 ((os.getD k GJ).size:Nat),sv k]:=by
 unfold AW;rw [VF,Wz];simp
def JE {os:List Ob} {sv':Nat->ZT} (h:∀ i,i<k->sv i=sv' i):AW os sv k=AW os sv' k:=by
 induction k with
 | zero=>rfl
 | succ k ih=>rw [oU,oU,ih (λi a=>h i (by omega)),h k (by omega)]
def FG (os:List Ob) (sv:Nat->ZT):∀ (k i:Nat),i<k->(AW os sv k)[i*3]?=ZX (Z0 (os.getD i GJ).name)/\(AW os sv k)[i*3+1]?=ZX (Z7 Z9 ((os.getD i GJ).size:Nat))/\(AW os sv k)[i*3+2]?=ZX (sv i)
 | k+1,i,hi=>by
  have hl:=G5 os sv k;rw [oU];by_cases h:i<k
  . obtain ⟨a,b,c⟩:=FG os sv k i h;rw [VG (by omega),VG (by omega),VG (by omega)];exact ⟨a,b,c⟩
  . have e:i=k:=(by omega);subst e;rw [U7 (by omega),U7 (by omega),U7 (by omega),hl,show i*3-i*3=0 by omega,show i*3+1-i*3=1 by omega,show i*3+2-i*3=2 by omega];exact ⟨rfl,rfl,rfl⟩
def FH {os:List Ob} (h:w.ownsRow base 152 3 v os.length (AW os sv os.length)) (hl:os.length<=1000000) (hK:∀ k,base<=k->K k) (q:∀ i (a:i<os.length),bg K w (sv i) os[i].RR):fa K w v os:=by
 rcases h.2 with ⟨o,p⟩|⟨g,cap,cur,f,m,n,_⟩
 . have:os=[]:=Xc.1 p;subst this;rw [o];exact fa.nil _ _
 . refine ⟨ZX ⟨g,0,ZY⟩,cap,f,hl,λ_=>⟨g,0,rfl,hK g m,⟨_,_,_,n,by decide⟩,λi a=>?_⟩⟩;obtain ⟨c,d,l⟩:=FG os sv os.length i a;have e:os.getD i GJ=os[i]:=(by simp [Ub,a]);rw [e] at c d;have b:∀ j u,(AW os sv os.length)[j]?=ZX u->w.cell? ⟨g,j,ZY⟩=ZX u:=λj u r=>by
    have:=h.cells (g:=g) (by rw [f];rfl) j u r;rwa [jm] at this
   refine ⟨sv i,?_,?_,?_,q i a⟩
   . rw [Um];exact b _ _ c
   . rw [Um];exact b _ _ d
   . rw [Um];exact b _ _ l
def packL_le:∀ {l:List Ob},(∀ o∈l,o.fit)->(aj l).length<=l.length*5000
 | [],_=>by simp [aj]
 | o::l,h=>by
  have:=packL_le (l:=l) (λx b=>h x (UT _ b));have a:=h o (Va ..);have:=a.len;have e:aj (o::l)=bP o++aj l:=rfl;rw [e,Uc,di a,UG];omega
structure UpI (w:ZU) (os:List Ob) (k:Nat) (cv rv:ZT) (sv:Nat->ZT) (wr:ZU):Prop where
 rest:Bs w rv (aj (os.drop k))
 own:wr.ownsRow w.heap.size 152 3 cv k (AW os sv k)
 ints:∀ i (hi:i<os.length),i<k->bg (λb=>w.heap.size<=b/\cv.ownBlock≠ZX b) wr (sv i) os[i].RR
 below:bW w wr
def G6 {wr w4 w5:ZU} {os:List Ob} {sz sc:Nat} {cv v5 bv:ZT} {rv:ZT} {nm:ByteArray} {sa:Option Addr} (I:k<os.length) (g:UpI w os k cv rv sv wr) (y:bW wr w2) (H:bg (λb=>wr.heap.size<=b) w2 (.slice sa m sc) os[k].RR) (G:Bs w bv (aj (os.drop (k+1))))
 (z:bW w2 w4) (J:os[k].name=nm) (L:os[k].size=sz) (K:w5.ownsRow w.heap.size 152 3 v5 (k+1) (AW os sv k++[Z0 nm,Z7 Z9 (sz:Int),.slice sa m sc])) (f:(w4.alloc (Z4 #[Z0 nm,Z7 Z9 (sz:Int),.slice sa m sc] 152)).grownBy w5 cv.ownBlock)
 (u:v5.ownBlock=cv.ownBlock\/v5.ownBlock=ZX (w4.alloc (Z4 #[Z0 nm,Z7 Z9 (sz:Int),.slice sa m sc] 152)).heap.size):UpI w os (k+1) v5 bv (λi=>if i=k then .slice sa m sc else sv i) w5:=by
 have E:bW w4 (w4.alloc (Z4 #[Z0 nm,Z7 Z9 (sz:Int),.slice sa m sc] 152)):=bA w4 _;have:(w4.alloc (Z4 #[Z0 nm,Z7 Z9 (sz:Int),.slice sa m sc] 152)).heap.size=w4.heap.size+1:=by simp
 have M:=y.size;have N:=z.size;have O:=g.below.size;have v:bW w2 (w4.alloc (Z4 #[Z0 nm,Z7 Z9 (sz:Int),.slice sa m sc] 152)):=z.trans (E.mono N);have x:bW wr (w4.alloc (Z4 #[Z0 nm,Z7 Z9 (sz:Int),.slice sa m sc] 152)):=y.trans (v.mono M);have A:∀ b,cv.ownBlock=ZX b->b<wr.heap.size:=λb a=>by
  obtain ⟨cur,F⟩:=bu g.own a;exact (T5.1 F).1
 have e:os.getD k GJ=os[k]:=by simp [Ub,I]
 refine ⟨G,?_,λi C P=>?_,?_⟩
 . rw [oU,e,J,L,TX rfl];rw [JE (sv':=sv) (λi C=>TW (by omega))];exact K
 . by_cases B:i=k
   . subst B;rw [TX rfl];have l:bg (λb=>wr.heap.size<=b/\b<w2.heap.size) w2 (.slice sa m sc) os[i].RR:=by
      obtain ⟨ao,c,n,o,p⟩:=H;refine ⟨ao,c,n,o,λhl=>?_⟩;obtain ⟨b,off,r,s,j,t⟩:=p hl;exact ⟨b,off,r,⟨s,j.lt⟩,j,t⟩
     refine (l.keep (w':=w5) ⟨by have:=f.size;omega,λb a d=>?_⟩).weaken λb d=>⟨by omega,λq=>?_⟩
     . exact (f.block b (by omega) (λq=>by have:=A b q.symm;omega)).trans (v.block b a)
     . rcases u with h|h
       . rw [h] at q;have:=A b q;omega
       . rw [h] at q;have:=UQ q;omega
   . rw [TW B];have l:=g.ints i C (by omega);have D:bg (λb=>(w.heap.size<=b/\cv.ownBlock≠ZX b)/\b<wr.heap.size) wr (sv i) os[i].RR:=by
      obtain ⟨ao,c,n,o,p⟩:=l;refine ⟨ao,c,n,o,λhl=>?_⟩;obtain ⟨b,off,r,s,j,t⟩:=p hl;exact ⟨b,off,r,⟨s,j.lt⟩,j,t⟩
     refine (D.keep (w':=w5) ⟨by have:=f.size;omega,λb a d=>?_⟩).weaken λb d=>⟨d.1.1,λq=>?_⟩
     . exact (f.block b (by omega) (λq=>d.1.2 q.symm)).trans (x.block b a)
     . rcases u with h|h
       . rw [h] at q;exact d.1.2 q
       . rw [h] at q;have:=UQ q;omega
 . exact (g.below.trans (x.mono O)).grown f (by omega) (λb a=>dK g.own a)
def UpR (w:ZU) (os:List Ob) (cv rv:ZT) (wr:ZU):Prop:=∃ (k:Nat) (sv:Nat->ZT),k<=os.length/\UpI w os k cv rv sv wr
def uW (w:ZU) (x y z:ZT) (t:ZQ):∀ j u,[x,y,z][j]?=ZX u->(w.alloc (Z4 #[x,y,z] t)).cell? ((⟨w.heap.size,0,ZY⟩:Addr).add j)=ZX u:=by
 intro j u h;rw [jm];match j,h with
 | 0,h=>simp at h;subst h;simp only [World.cell?,Uk w (Z4 #[x,y,z] t)];rfl
 | 1,h=>simp at h;subst h;simp only [World.cell?,Uk w (Z4 #[x,y,z] t)];rfl
 | 2,h=>simp at h;subst h;simp only [World.cell?,Uk w (Z4 #[x,y,z] t)];rfl
 | j+3,h=>simp at h
def RH (w:ZU) (os:List Ob) (e:ZR) (w':ZU):Prop:=∃ o,e=Z3 (ZZ #[o,Z2 ZW])/\fa (λk=>w.heap.size<=k) w' o os/\bW w w'
def RI:ZT->Nat
 | .slice _ n _=>n
 | _=>0
theorem FJ {os:List Ob} (R:Nat) (qq:1<=R/\R<=1000000) (r:Bs w v (aj os)) (n:∀ o∈os,o.fit) (D:∀ o∈os,o.RR.length=max 1 ((o.size+R-1)/R)) (E:Al os) (qo:os.length<=10000) :
 ZS ZO 155 #[v,Z7 Z9 R] w λe w'=>RH w os e w':=by
 obtain ⟨ao,c,hv,_⟩:=id r;obtain ⟨M,s⟩:=nM ((aj os).length);rw [s] at hv;subst hv;have Z:=a6 r n D E s;clear r n D E s;go_enter func155,ntmps155;go_wp2_with fail;go_loopw [6,7] (λcv rv wr=>UpR w os cv rv wr) (λ_ rv _=>RI rv)
 case atStart=>exact ⟨0,λ_=>Z5 ZY 0 0,T7 _,by rw [Xw];exact Z.o.1,UP _ _ _ _,λi _ h=>absurd h (XH _),T6 _ _⟩
 case round=>
  obtain ⟨k,sv,hk,j⟩:=hrel;by_cases G:k<os.length
  . obtain ⟨r,n,D,E,s⟩:=Z.o;have he:os.drop k=os[k]::os.drop (k+1):=X5 G;have kf:aj (os.drop k)=bP os[k]++aj (os.drop (k+1)):=(by rw [he];rfl);have P:=n _ (T8 G);have h7:=j.rest;rw [kf] at h7;have F:Bs wr _ (aj (os.drop k)):=j.rest.mono j.below;rw [kf] at F;obtain ⟨Y,rc,Q,q2,q3,_,ka⟩:=id F;have qb:bP os[k]++aj (os.drop (k+1))≠[]:=λe=>by
     have:=UB YJ e;rw [Uc,di P] at this;simp at this
    obtain ⟨rb,ro,rfl,_⟩:=ka qb;have qp:(aj (os.drop (k+1))).length<=100000000:=by
     have J:=packL_le (l:=os.drop (k+1)) (λo ho=>n o (U8 ho));rw [Ur] at J;omega
    obtain ⟨bl,O⟩:=nM ((bP os[k]++aj (os.drop (k+1))).length);have qf:0<bl:=(by rw [<- O,Uc,di P];omega);rw [O] at Q;rw [Q] at F;have qd:=rO R F O.symm P qq (D _ (T8 G)) qp;obtain ⟨I,cc,kc⟩:=aT j.own;have HR:=ak E;have kk:(aj (os.drop (k+1))).length<bl:=(by rw [<- O,Uc,di P];omega);clear E;have t:=a7 j qd P O kf h7;clear j r n D s he kf P F h7 q2 q3 ka qb qd O;subst Q kc;go_wp2_with fail;refine t.o.2.1.mono ?_;rintro e w2 ⟨⟨y,z,bv,rfl,kv,hz⟩,W⟩;have km:=hz w t.o.2.2.2.2.2;clear hz;obtain ⟨o,ho⟩:=nM (os[k]);rw [ho] at kv ⊢;have a:=a5 kv km W ho;obtain ⟨hd,bc,q9,_⟩:=id km;obtain ⟨bn,q8⟩:=nM ((aj (os.drop (k+1))).length);rw [q8] at q9 kk;subst q9;clear kv km W ho q8;have ki:bW w2 (w2.alloc (Z4 #[Z0 o.name,Z7 Z9 (o.size:Nat),.slice y o.RR.length z] 152)):=bA w2 _;have kg:(w2.alloc (Z4 #[Z0 o.name,Z7 Z9 (o.size:Nat),.slice y o.RR.length z] 152)).heap[w2.heap.size]?=ZX (Z4 #[Z0 o.name,Z7 Z9 (o.size:Nat),.slice y o.RR.length z] 152 (0,0)):=Uk _ _;obtain ⟨w3,kh⟩:=nM (w2.alloc (Z4 #[Z0 o.name,Z7 Z9 (o.size:Nat),.slice y o.RR.length z] 152));rw [kh] at ki kg;have q0:w3.cell? ⟨w2.heap.size,0,ZY⟩=ZX (Z0 o.name):=(by simp [World.cell?,kg]);have A:=al ki kg;clear ki kg;obtain ⟨nm,ky⟩:=nM (o.name);obtain ⟨sz,q5⟩:=nM (o.size);obtain ⟨m,hm⟩:=nM (o.RR.length);rw [ky] at q0 kh ⊢;rw [q5] at kh ⊢;rw [hm] at kh ⊢;have f:=aE ky q5 hm;clear ky q5 hm;go_wp2_with fail;obtain ⟨io,qa,k5,k6,k7⟩:=Uu Tryz.R3;by_cases qi:k=0
    . subst qi;go_quiet (fail);have C:bW w3 (w3.drewN nq):=⟨rfl,rfl,rfl,TY _,λ_ _=>rfl⟩;obtain ⟨d,X⟩:=nM (w3.drewN nq);rw [X] at C ⊢;have q:=(C.block _ (T5.1 A.o.2).1).trans A.o.2;rw [f.o.1,f.o.2.1,f.o.2.2] at q;have r0:d.cell? ⟨w2.heap.size,0,ZY⟩=ZX (Z0 nm):=(by simp [World.cell?,q]);have r1:d.cell? ⟨w2.heap.size,1,ZY⟩=ZX (Z7 Z9 (sz:Int)):=(by simp [World.cell?,q]);have r2:d.cell? ⟨w2.heap.size,2,ZY⟩=ZX (.slice y m z):=(by simp [World.cell?,q]);have B:bW w2 d:=A.o.1.trans (C.mono A.o.1.size);have K:bW wr (d.alloc (Z4 #[Z0 nm,Z7 Z9 (sz:Int),.slice y m z] 152)):=(a.o.2.2.1.trans (B.mono a.o.2.2.1.size)).alloc (TZ a.o.2.2.1.size B.size) _;have T:=bR t.o.1.own (aa.RT K (λ_=>False)) (λ_ _ h=>h);have q6:w.heap.size<=(d.alloc (Z4 #[Z0 nm,Z7 Z9 (sz:Int),.slice y m z] 152)).heap.size:=TZ t.o.1.below.size K.size;have S:=al T B;clear T C X q q0 B K;go_wp2_with (show wpList _ _ _ ({ dst:=ZX 44,op:=_,type:=_,pos:=_,after:=_,guard:=_ }::_) _ _;refine XZ _ rfl (Z1 41) (Z1 43) 144 rfl w.heap.size 152 io (.agg #[Z0 YF,Z7 Z9 0,Z5 ZY 0 0]) 3 48 VD qa k5 k6 k7 rfl (by decide) (.slice I 0 cc) 0 (AW os sv 0) rfl (by exact S.o.1) ⟨d.heap.size,0,ZY⟩ 1 1 _ rfl rfl (uW d _ _ _ _) (by intro u V;simp at V;rcases V with rfl|rfl|rfl<;>rfl) (by unfold maxLen;omega) (by omega) (by exact q6) ?_;intro v5 w5 kz ks qh hj);refine ⟨⟨0+1,_,G,G6 G t.o.1 a.o.2.2.1 (by have U:=a.o.1;rw [f.o.2.2,<- a.o.2.2.2] at U;exact U) a.o.2.1 S.o.2 (by rw [a.o.2.2.2];exact f.o.1) (by rw [a.o.2.2.2];exact f.o.2.1) kz ks hj⟩,?_⟩;show bn<bl;omega
    . have qs:0<k:=(by omega);obtain ⟨pv,q1⟩:=nM ((os.getD (k-1) GJ).name);obtain ⟨L,qg,kp⟩:∃ L,I=ZX ⟨L,0,ZY⟩/\wr.cell? ⟨L,(k-1)*3,ZY⟩=ZX (Z0 pv):=by
       rcases t.o.1.own.2 with ⟨_,h0⟩|⟨g,cap,cur,e1,_⟩
       . omega
       . injection e1 with e1 _ _;refine ⟨g,e1,?_⟩;have J:=(FG os sv k (k-1) (by omega)).1;have h2:=t.o.1.own.cells (g:=g) (by rw [e1];rfl) _ _ J;rw [jm,q1] at h2;exact h2
      subst qg;have k0:w3.cell? ⟨L,(k-1)*3,ZY⟩=ZX (Z0 pv):=((a.o.2.2.1.trans (A.o.1.mono a.o.2.2.1.size)).cell (p:=⟨L,(k-1)*3,ZY⟩) (Ui kp)).trans kp;have ke:PT nm pv=ZV:=by
       have J:=HR.o (k-1) (by omega);rw [show k-1+1=k by omega,q1] at J;have e:os.getD k GJ=os[k]:=(by simp [Ub,G]);rw [e,a.o.2.2.2,f.o.1] at J;exact J
      have kx:∀ w':ZU,(binOp .leq 9 (Z0 nm) (Z0 pv)).run ZO w'=.ok (Z2 ZV) w':=λw'=>by
       unfold PT at ke;simp [binOp,Op.stringOp,ke]
      have k9:=ke;unfold PT at k9;have qm:((k:Nat):Int)-1=((k-1:Nat):Int):=(by omega);have qn:(((k-1:Nat)):Int).toNat=k-1:=(by omega);obtain ⟨k1,k8⟩:=nM (k-1);rw [k8] at k0 qm qn;have qj:k1<k:=(by omega);clear kp ke q1 k8;go_quiet (fail);clear k0 kx k9;have C:bW w3 (w3.drewN nq):=⟨rfl,rfl,rfl,TY _,λ_ _=>rfl⟩;obtain ⟨d,X⟩:=nM (w3.drewN nq);rw [X] at C ⊢;have q:=(C.block _ (T5.1 A.o.2).1).trans A.o.2;rw [f.o.1,f.o.2.1,f.o.2.2] at q;have r0:d.cell? ⟨w2.heap.size,0,ZY⟩=ZX (Z0 nm):=(by simp [World.cell?,q]);have r1:d.cell? ⟨w2.heap.size,1,ZY⟩=ZX (Z7 Z9 (sz:Int)):=(by simp [World.cell?,q]);have r2:d.cell? ⟨w2.heap.size,2,ZY⟩=ZX (.slice y m z):=(by simp [World.cell?,q]);have B:bW w2 d:=A.o.1.trans (C.mono A.o.1.size);have K:bW wr (d.alloc (Z4 #[Z0 nm,Z7 Z9 (sz:Int),.slice y m z] 152)):=(a.o.2.2.1.trans (B.mono a.o.2.2.1.size)).alloc (TZ a.o.2.2.1.size B.size) _;have T:=bR t.o.1.own (aa.RT K (λ_=>False)) (λ_ _ h=>h);have q6:w.heap.size<=(d.alloc (Z4 #[Z0 nm,Z7 Z9 (sz:Int),.slice y m z] 152)).heap.size:=TZ t.o.1.below.size K.size;have S:=al T B;clear T C X q q0 B K;go_wp2_with (show wpList _ _ _ ({ dst:=ZX 44,op:=_,type:=_,pos:=_,after:=_,guard:=_ }::_) _ _;refine XZ _ rfl (Z1 41) (Z1 43) 144 rfl w.heap.size 152 io (.agg #[Z0 YF,Z7 Z9 0,Z5 ZY 0 0]) 3 48 VD qa k5 k6 k7 rfl (by decide) (Z5 (ZX ⟨L,0,ZY⟩) k cc) k (AW os sv k) rfl (by exact S.o.1) ⟨d.heap.size,0,ZY⟩ 1 1 _ rfl rfl (uW d _ _ _ _) (by intro u V;simp at V;rcases V with rfl|rfl|rfl<;>rfl) (by unfold maxLen;omega) (by omega) (by exact q6) ?_;intro v5 w5 kz ks qh hj);refine ⟨⟨k+1,_,G,G6 G t.o.1 a.o.2.2.1 (by have U:=a.o.1;rw [f.o.2.2,<- a.o.2.2.2] at U;exact U) a.o.2.1 S.o.2 (by rw [a.o.2.2.2];exact f.o.1) (by rw [a.o.2.2.2];exact f.o.2.1) kz ks hj⟩,?_⟩;show bn<bl;omega
  . have qk:k=os.length:=(by omega);subst qk;obtain ⟨r,n,D,E,s⟩:=Z.o;have F:=j.rest;rw [WN lR] at F;obtain ⟨Y,rc,Q,_⟩:=F;have q4:u7=.slice Y 0 rc:=Q;have hn:fa (λk=>w.heap.size<=k) wr u6 os:=FH j.own (by omega) (λk hk=>hk) (λi hi=>(j.ints i hi hi).weaken λb hb=>hb.1);have qc:=xZ hn n qo;obtain ⟨I,cc,kc⟩:=aT j.own;obtain ⟨N,hN⟩:=nM (os.length);rw [hN] at kc;have H:=a5 hn j.below qc hN;clear hn qc j r n D E s Q hN;subst q4 kc;go_wp2_with fail;refine H.o.2.2.1.mono ?_;rintro e w5 ⟨g,cap,rfl,hh,kj⟩;obtain ⟨r,n,D,E,s⟩:=Z.o;have hx:∀ x∈aj os,x<256:=(by obtain ⟨_,_,_,_,_,h,_⟩:=r;exact h);have hl:(aj os).length<=1000000000:=(by have:=packL_le n;omega);have q7:=Bs.TC hh hx hl;have ko:bW w w5:=H.o.2.1.trans (kj.mono H.o.2.1.size);have W:=r.mono ko;have kr:=FF q7 W;rw [s] at kr;have H5:=aE kr kj ko;rw [s];clear r n D E s q7 W kr hh kj ko hx hl;go_wp2_with fail;refine H5.o.1.mono ?_;rintro e w6 ⟨rfl,qe⟩;obtain rfl:w5=w6:=qe.symm;clear qe;go_wp2;go_ret2;exact ⟨_,rfl,H.o.1.keep (eN.RU H5.o.2.1),H5.o.2.2⟩
def AX (D:Nat) (f:1<=D/\D<=1000) {os:List Ob} (c:∀ o∈os,o.fit) (b:∀ o∈os,o.RR.length=max 1 ((o.size+D*44-1)/(D*44))) (d:Al os) (a:os.length<=10000):Dv D (aj os) os:=λw v e=>FJ (D*44) ⟨by omega,by omega⟩ e c b d a
def uX (d:Nat) (tx:ZQ) (a b:ZT) (i:TypeInfo) (e:ZO.info? tx=ZX i) (c:i.comparable=ZW) (w:ZU):(Op.equalIn (d+1) 215 (.iface tx a) (.iface tx b)).run ZO w=(Op.equalIn d tx a b).run ZO w:=by
 simp [Op.equalIn,UR aci,typeInfo,e,c]
theorem MY (D L G a c b:Int) (w:ZU):(Op.equalIn 10000 27 (.agg #[Z7 Z9 D,Z7 Z9 L,Z7 Z9 G]) (.agg #[Z7 Z9 a,Z7 Z9 c,Z7 Z9 b])).run ZO w=.ok (decide (D=a/\L=c/\G=b)) w:=by
 by_cases d:D=a
 . by_cases e:L=c
   . by_cases f:G=b
     . subst d e f;go_simp
     . have:(G==b)=ZV:=by simp [f]
       subst d e;go_simp
   . have:(L==c)=ZV:=by simp [e]
     subst d;go_simp
 . have:(D==a)=ZV:=by simp [d]
   go_simp
def MZ:∃ i:TypeInfo,ZO.info? 142=ZX i/\i.comparable=ZW:=by
 have:(ZO.info? 142).map (λi=>i.comparable)=ZX ZW:=by kernel_rfl
 rw [Wi] at this;exact this
structure Rt where
 D:Nat
 L:Nat
 G:Nat
 t:Nat
 f:Nat
 n:Nat
def JF (x:Rt):Array ZT:=aq x.D x.L x.G x.t x.f x.n
def l9 (x:Rt):Option bz->Rt
 | some (.root D L G t f n)=>if x.t<t then ⟨D,L,G,t,f,n⟩ else x
 | _=>x
def bx (R:Nat->Option bz):Nat->Rt
 | 0=>⟨0,0,0,0,0,0⟩
 | k+1=>l9 (bx R k) (R k)
def FK (x k:Nat):Option bz->Nat
 | some .blank=>x|||2^k
 | _=>x
def cB (R:Nat->Option bz):Nat->Nat
 | 0=>0
 | k+1=>FK (cB R k) k (R k)
theorem iY (R:Nat->Option bz):∀ k,k<=60->cB R k<2^k
 | 0,_=>by simp [cB]
 | k+1,h=>by
  have:=iY R k (by omega);have a:2^k<2^(k+1):=VS (by decide) (by omega);show FK (cB R k) k (R k)<2^(k+1);unfold FK;split
  . exact WG (by omega) a
  . omega
def uY {o:Oper} (e:o.guard=ZY) (x y:Operand) (ho:o.op=.store 142 x y) {b D L G t f n:Nat} {cs:Array ZT}
 (g:a.eval x=Z6 (ZX ⟨b,0,ZY⟩)) (i:a.eval y=.agg (aq D L G t f n)) (c:w.heap[b]?=ZX (Z4 cs 142 (0,0))) (d:cs.size=6) (h:wpList ZO ops Q rest (a.put o.dst undef) (w.setRow b (aq D L G t f n))):wpList ZO ops Q (o::rest) a w:=by
 refine V5 e λK hK=>?_;unfold Oper.wp;simp [execOp,ho,g,i,ug c d,Result.andThen];exact hK _ _ h
def O8 (v:ZT) (w:ZU):(Instr.typeAssert (.iface 142 v) 215 142 ZW).run ZO w=.ok (ZZ #[v,Z2 ZW]) w:=by
 simp [Instr.typeAssert,UR Yc]
def FL:Option bz->Bool
 | some (.root ..)=>ZW
 | _=>ZV
def FM {o:Option bz} (h:FL o=ZV) (w:ZU):(Instr.typeAssert (fU o) 215 142 ZW).run ZO w=.ok (ZZ #[.agg (aq 0 0 0 0 0 0),Z2 ZV]) w:=by
 match o,h with
 | none,_|some .blank,_|some .filled,_|some (.shard _),_=>simp [fU,cF,Instr.typeAssert,UR Yc];rfl
def FN (w:ZU):(zeroValue 231).run ZO w=.ok (.agg #[]) w:=by
 obtain ⟨a,b,c⟩:∃ a,ZO.info? 231=ZX a/\a.zero=ZX (.agg #[]):=by
  have:(ZO.info? 231).map (λi=>i.zero)=ZX (ZX (.agg #[])):=by kernel_rfl
  rw [Wi] at this;exact this
 simp [zeroValue,typeInfo,Ux,b,c]
def M0 (v:ZT) (w:ZU):(Instr.typeAssert (.iface 231 v) 215 231 ZW).run ZO w=.ok (ZZ #[v,Z2 ZW]) w:=by
 simp [Instr.typeAssert,UR underlying231]
def sC:Option bz->Bool
 | some .blank=>ZW
 | _=>ZV
def Dw {o:Option bz} (h:sC o=ZV) (w:ZU):(Instr.typeAssert (fU o) 215 231 ZW).run ZO w=.ok (ZZ #[.agg #[],Z2 ZV]) w:=by
 match o,h with
 | none,_|some (.root ..),_|some .filled,_|some (.shard _),_=>simp [fU,cF,Instr.typeAssert,UR underlying231]
def G7 {o:Option bz} (h:sC o=ZV):FK x k o=x:=by
 match o,h with
 | none,_|some (.root ..),_|some .filled,_|some (.shard _),_=>rfl
def JG {x:Rt} {o:Option bz} (h:FL o=ZV):l9 x o=x:=by
 match o,h with
 | none,_|some .blank,_|some .filled,_|some (.shard _),_=>rfl
def fR (w:ZU) (D L G t f n:Nat):ZU:=(w.alloc (Z4 (aq 0 0 0 0 0 0) 142)).setRow w.heap.size (aq D L G t f n)
def uZ (w:ZU) (D L G t f n:Nat):(fR w D L G t f n).heap[w.heap.size]?=ZX (Z4 (aq D L G t f n) 142 (0,0)):=Vy _ _ _ _ _ _ (Uk w (Z4 (aq 0 0 0 0 0 0) 142))
def eZ (w:ZU) (D L G t f n:Nat):bW w (fR w D L G t f n):=(bA w _).trans ⟨rfl,rfl,rfl,by unfold fR;rw [gG];exact TY _,λk a=>(aG _ _ _).block k (by simp;omega) (λq=>by have:=UQ q;omega)⟩
def AY {o:Oper} (b:o.guard=ZY) (x y:Operand) (ho:o.op=.store 142 x y) {D L G t f n:Nat}
 (c:a.eval x=Z6 (ZX ⟨w.heap.size,0,ZY⟩)) (d:a.eval y=.agg (aq D L G t f n)) (h:wpList ZO ops Q rest (a.put o.dst undef) (fR w D L G t f n)):wpList ZO ops Q (o::rest) a (w.alloc (Z4 (aq 0 0 0 0 0 0) 142)):=
 uY b x y ho c d (Uk _ _) rfl h
def BkR (w:ZU) (R:Nat->Option bz) (N:Nat) (s i:ZT) (wr:ZU):Prop:=∃ k:Nat,k<=N/\i=Z7 Z9 k/\s=Z7 Z8 (cB R k:Nat)/\bW w wr
theorem u9 (R:Nat->Option bz) (v:N<=60) (d:w.rowIs g 215 N (λi=>fU (R i))) :
 ZS ZO 93 #[Z5 (ZX ⟨g,0,ZY⟩) N N] w λe w'=>e=Z3 (Z7 Z8 (cB R N:Nat))/\bW w w':=by
 have q:=d.lt;have y:=FN;go_enter func93,ntmps93;go_wp2_with fail;go_loopw [2,9] (λs i wr=>BkR w R N s i wr) (λ_ i _=>N-(intOf i).toNat)
 case atStart=>exact ⟨0,T7 _,rfl,rfl,T6 _ _⟩
 case round=>
  obtain ⟨k,x,rfl,rfl,a⟩:=hrel;by_cases t:k<N
  . have j:wr.rowIs g 215 N (λi=>fU (R i)):=d.of_block (a.block g q);have c:=j.cell (i:=k) t;have b:cB R (k+1)=FK (cB R k) k (R k):=rfl;have h:=iY R k (by omega);have p:cB R k<18446744073709551616:=Xa h (BY (by omega));have l:=a.size;cases f:sC (R k) with
    | false=>
     have n:=Dw f;rw [G7 f] at b;obtain ⟨u,m⟩:=nM (fU (R k));simp only [m] at c n;have H:=al a b;clear a j b h d m;go_wp2;refine ⟨⟨k+1,by omega,by go_num,by rw [H.o.2],H.o.1.alloc l _⟩,by simp [intOf];omega⟩
    | true=>
     have f:R k=ZX .blank:=by
      match R k,f with
      | some .blank,_=>rfl
     have n:=M0;rw [f] at c b;simp only [fU,cF] at c;have H:=al a b;clear a j b h d;go_wp2_with fail;refine (fK _ k p (by omega) _).mono ?_;rintro e w2 ⟨rfl,rfl⟩;go_wp2;refine ⟨⟨k+1,by omega,by go_num,by rw [H.o.2];rfl,H.o.1.alloc l _⟩,by simp [intOf];omega⟩
  . have r:k=N:=(by omega);subst r;have H:=ak a;clear a d;go_wp2;go_ret;exact ⟨rfl,H.o⟩
def LrR (w:ZU) (R:Nat->Option bz) (N:Nat) (i:ZT) (wr:ZU):Prop:=∃ k:Nat,k<=N/\i=Z7 Z9 k/\wr.heap[w.heap.size]?=ZX (Z4 (JF (bx R k)) 142 (0,0))/\bW w wr
theorem AZ (R:Nat->Option bz) (W:N<=60) (h:w.rowIs g 215 N (λi=>fU (R i))) :
 ZS ZO 90 #[Z5 (ZX ⟨g,0,ZY⟩) N N] w λe w'=>e=Z3 (.agg (JF (bx R N)))/\bW w w':=by
 have Q:=h.lt;have E:(w.alloc (Z4 (aq 0 0 0 0 0 0) 142)).heap[w.heap.size]?=ZX (Z4 (JF (bx R 0)) 142 (0,0)):=Uk _ _;have I:bW w (w.alloc (Z4 (aq 0 0 0 0 0 0) 142)):=bA w _;have X:=xV;go_enter func90,ntmps90;go_wp2_with fail;go_loopw [9] (λi wr=>LrR w R N i wr) (λi _=>N-(intOf i).toNat)
 case atStart=>exact ⟨0,T7 _,rfl,E,I⟩
 case round=>
  clear E I;obtain ⟨k,p,rfl,d,a⟩:=hrel;by_cases T:k<N
  . have z:wr.rowIs g 215 N (λi=>fU (R i)):=h.of_block (a.block g Q);have c:=z.cell (i:=k) T;have hl:bx R (k+1)=l9 (bx R k) (R k):=rfl;have K:=a.size;have F:w.heap.size<wr.heap.size:=(T5.1 d).1;have x:(fR wr 0 0 0 0 0 0).heap[w.heap.size]?=ZX (Z4 (JF (bx R k)) 142 (0,0)):=((eZ wr 0 0 0 0 0 0).block _ F).trans d;have s:bW w (fR wr 0 0 0 0 0 0):=a.trans ((eZ wr 0 0 0 0 0 0).mono K);cases j:FL (R k) with
    | false=>
     have t1:=FM j;rw [JG j] at hl;obtain ⟨u,M⟩:=nM (fU (R k));simp only [M] at c t1;have H:=aE x s hl;clear d a z hl h x s M;go_wp2_with (show wpList _ _ _ ({ dst:=ZY,op:=Op.store 142 (Z1 5) (Z1 16),type:=_,pos:=_,after:=_,guard:=_ }::_) _ _;refine AY (w:=wr) (D:=0) (L:=0) (G:=0) (t:=0) (f:=0) (n:=0) rfl (Z1 5) (Z1 16) rfl (by rfl) (by rfl) ?_);refine ⟨⟨k+1,by omega,by go_num,by rw [H.o.2.2];exact H.o.1,H.o.2.1⟩,by simp [intOf];omega⟩
    | true=>
     obtain ⟨D,L,G,t,f,n,j⟩:∃ D L G t f n,R k=ZX (.root D L G t f n):=by
      match R k,j with
      | some (.root ..),_=>exact ⟨_,_,_,_,_,_,rfl⟩
     have t1:=O8;rw [j] at c hl;simp only [fU,cF] at c;have m:=uZ wr D L G t f n;have l:(fR wr D L G t f n).heap[w.heap.size]?=ZX (Z4 (JF (bx R k)) 142 (0,0)):=((eZ wr D L G t f n).block _ F).trans d;have y:bW w (fR wr D L G t f n):=a.trans ((eZ wr D L G t f n).mono K);obtain ⟨O,A⟩:=nM (fR wr D L G t f n);rw [A] at m l y;have V:O.cell? ⟨wr.heap.size,3,ZY⟩=ZX (Z7 Z8 t):=(by simp [World.cell?,m,aq]);have c0:O.cell? ⟨w.heap.size,3,ZY⟩=ZX (Z7 Z8 (bx R k).t):=(by simp [World.cell?,l,JF,aq]);have H:=a6 A m l y hl;clear d a z hl h A m l y x s;by_cases J:(bx R k).t<t
     . go_wp2_with (first|(show wpList _ _ _ ({ dst:=ZY,op:=Op.store 142 (Z1 5) (Z1 16),type:=_,pos:=_,after:=_,guard:=_ }::_) _ _;refine AY (w:=wr) (D:=D) (L:=L) (G:=G) (t:=t) (f:=f) (n:=n) rfl (Z1 5) (Z1 16) rfl (by rfl) (by rfl) ?_;rw [H.o.1])|(show wpList _ _ _ ({ dst:=ZX 26,op:=_,type:=_,pos:=_,after:=_,guard:=_ }::_) _ _;refine kR (D:=D) (L:=L) (G:=G) (t:=t) (f:=f) (n:=n) (b:=wr.heap.size) rfl (Z1 5) rfl rfl (by rfl) (by exact H.o.2.1) ?_)|(show wpList _ _ _ ({ dst:=ZY,op:=Op.store 142 (Z1 2) (Z1 26),type:=_,pos:=_,after:=_,guard:=_ }::_) _ _;refine uY (D:=D) (L:=L) (G:=G) (t:=t) (f:=f) (n:=n) (b:=w.heap.size) (cs:=JF (bx R k)) rfl (Z1 2) (Z1 26) rfl (by rfl) (by rfl) (by exact H.o.2.2.1) rfl ?_));obtain ⟨_,U,B,r,C⟩:=H.o;refine ⟨⟨k+1,by omega,by go_num,?_,r.trans ⟨rfl,rfl,rfl,by rw [gG];exact TY _,λk p=>(aG _ _ _).block k (T9 p r.size) (λq=>by have:=UQ q;omega)⟩⟩,by simp [intOf];omega⟩;rw [C];rw [show l9 (bx R k) (ZX (.root D L G t f n))=⟨D,L,G,t,f,n⟩ from TX J];exact Vy _ _ _ _ _ _ B
     . go_wp2_with (show wpList _ _ _ ({ dst:=ZY,op:=Op.store 142 (Z1 5) (Z1 16),type:=_,pos:=_,after:=_,guard:=_ }::_) _ _;refine AY (w:=wr) (D:=D) (L:=L) (G:=G) (t:=t) (f:=f) (n:=n) rfl (Z1 5) (Z1 16) rfl (by rfl) (by rfl) ?_;rw [H.o.1]);obtain ⟨_,U,B,r,C⟩:=H.o;refine ⟨⟨k+1,by omega,by go_num,?_,r⟩,by simp [intOf];omega⟩;rw [C];rw [show l9 (bx R k) (ZX (.root D L G t f n))=bx R k from TW J];exact B
  . have S:k=N:=(by omega);subst S;have H:=al d a;clear d a h;go_wp2_with (first|(show wpList _ _ _ ({ dst:=ZX 28,op:=_,type:=_,pos:=_,after:=_,guard:=_ }::_) _ _;refine kR (b:=w.heap.size) (ra:=JF (bx R k)) rfl (Z1 2) rfl rfl (by rfl) (by exact H.o.1) ?_)|(show wpList _ _ _ ({ dst:=ZY,op:=Op.store 142 (Z1 2) (Z1 28),type:=_,pos:=_,after:=_,guard:=_ }::_) _ _;refine uY (b:=w.heap.size) (cs:=JF (bx R k)) (D:=(bx R k).D) (L:=(bx R k).L) (G:=(bx R k).G) (t:=(bx R k).t) (f:=(bx R k).f) (n:=(bx R k).n) rfl (Z1 2) (Z1 28) rfl (by rfl) (by rfl) (by exact H.o.1) rfl ?_));have P:=Vy _ _ _ (JF (bx R k)) _ _ H.o.1;refine Uv (v:=.agg (JF (bx R k))) (V8 results90 _ _ w.heap.size 142 (JF (bx R k)) (0,0) _ rfl P Yc rfl (kQ _ _ _ _ _ _)) rfl ?_;exact ⟨rfl,H.o.2.trans ⟨rfl,rfl,rfl,by rw [gG];exact TY _,λk p=>(aG _ _ _).block k (T9 p H.o.2.size) (λq=>by have:=UQ q;omega)⟩⟩
def yO (t:ZQ) (y:ZT) (w:ZU):(Op.equalIn 10000 215 .nilIface (.iface t y)).run ZO w=.ok ZV w:=by
 rw [Op.equalIn];simp [Ux,UR aci,UK]
def RK:bz->Prop
 | .filled=>True
 | .root ..=>True
 | _=>False
def Dx:∃ i:TypeInfo,ZO.info? 180=ZX i/\i.comparable=ZW:=by
 have:(ZO.info? 180).map (λi=>i.comparable)=ZX ZW:=by kernel_rfl
 rw [Wi] at this;exact this
def Fnd (o:Option bz) (r:bz):Prop:=o=ZY\/o=ZX .blank\/o=ZX r
def ri {t:ZQ} (a:t≠231) (y:ZT) (w:ZU):(Op.equalIn 10000 215 (cF .blank) (.iface t y)).run ZO w=.ok ZV w:=by
 rw [Op.equalIn];simp [cF,Ux,UR aci,UK,a.symm]
theorem JH {o:Option bz} (d:RK r) (h:Fnd o r):∃ b,∀ w:ZU,(Op.equalIn 10000 215 (fU o) (cF r)).run ZO w=.ok b w:=by
 match r,d with
 | .filled,_=>
  rcases h with rfl|rfl|rfl
  . exact ⟨_,yO _ _⟩
  . exact ⟨_,ri (by decide) _⟩
  . obtain ⟨i,a,c⟩:=Dx;exact ⟨ZW,λw=>(uX 9999 180 _ _ i a c w).trans (by go_simp)⟩
 | .root D L G t f n,_=>
  rcases h with rfl|rfl|rfl
  . exact ⟨_,yO _ _⟩
  . exact ⟨_,ri (by decide) _⟩
  . obtain ⟨i,a,c⟩:=MZ;exact ⟨ZW,λw=>(uX 9999 142 _ _ i a c w).trans (by unfold aq;go_simp)⟩
def ve (o:Option bz):fU o=.nilIface\/∃ t x,fU o=.iface t x:=by
 cases o with
 | none=>exact .inl rfl
 | some r=>exact .inr (kF r)
def FO {o:Option bz} (d:RK r) (h:Fnd o r):∃ b,∀ w:ZU,(binOp .neq 215 (fU o) (cF r)).run ZO w=.ok (Z2 b) w:=by
 obtain ⟨b,c⟩:=JH d h;refine ⟨!b,λw=>?_⟩;have a:=c w;obtain ⟨t,x,f⟩:=kF r;rcases ve o with e|⟨g,y,e⟩<;>(rw [e,f] at a ⊢;simp only [binOp];simp [Op.equal,Op.maxDepth,a])
def UgR (w:ZU) (N:Nat) (s i:ZT) (wr:ZU):Prop:=∃ k x:Nat,k<=N/\i=Z7 Z9 k/\s=Z7 Z8 x/\x<2^k/\wr=w
theorem FP {R:Nat->Option bz} (F:N<=60) (q:RK r) (t:∀ i,i<N->Fnd (R i) r) (a:w.rowIs g 215 N (λi=>fU (R i))) :
 ZS ZO 117 #[Z5 (ZX ⟨g,0,ZY⟩) N N,cF r] w λe w'=>∃ x:Nat,e=Z3 (Z7 Z8 x)/\x<2^N/\w'=w:=by
 have f:∀ i,i<N->∃ b,∀ w:ZU,(binOp .neq 215 (fU (R i)) (cF r)).run ZO w=.ok (Z2 b) w:=λi D=>FO q (t i D);obtain ⟨I,rv,n⟩:=kF r;rw [n] at f ⊢;clear n t q;have z:=ak f;clear f;go_enter func117,ntmps117;go_wp2_with fail;go_loopw [4,9] (λs i wr=>UgR w N s i wr) (λ_ i _=>N-(intOf i).toNat)
 case atStart=>exact ⟨0,0,T7 _,rfl,rfl,by decide,rfl⟩
 case round=>
  obtain ⟨k,x,G,rfl,rfl,d,rfl⟩:=hrel;by_cases m:k<N
  . have c:=a.cell (i:=k) m;have B:x<18446744073709551616:=Xa d (BY (by omega));have j:=fK x k B (by omega) wr;have h:x|||2^k<2^(k+1):=WG (Xa d (VS (by decide) (by omega))) (VS (by decide) (by omega));have p:x<2^(k+1):=Xa d (VS (by decide) (by omega));have H:=ak a;clear a;obtain ⟨b,C⟩:=z.o k m;obtain ⟨y,E⟩:=nM (x|||2^k);rw [E] at j h;have l:=ak j;clear j;rcases ve (R k) with v|⟨J,u,v⟩<;>simp only [v] at c C<;>cases b
    . go_wp2;exact ⟨⟨k+1,x,by omega,by go_num,rfl,p,rfl⟩,by simp [intOf];omega⟩
    . go_wp2_with fail;refine l.o.mono ?_;rintro e w' ⟨rfl,rfl⟩;go_wp2;exact ⟨⟨k+1,y,by omega,by go_num,rfl,h,rfl⟩,by simp [intOf];omega⟩
    . go_wp2;exact ⟨⟨k+1,x,by omega,by go_num,rfl,p,rfl⟩,by simp [intOf];omega⟩
    . go_wp2_with fail;refine l.o.mono ?_;rintro e w' ⟨rfl,rfl⟩;go_wp2;exact ⟨⟨k+1,y,by omega,by go_num,rfl,h,rfl⟩,by simp [intOf];omega⟩
  . have A:k=N:=(by omega);subst A;clear a;go_wp2;go_ret;exact ⟨x,rfl,d,rfl⟩
def en2 (o:Ob):List ZT:=[Z0 o.name,Z7 Z9 (o.size:Nat)]
def mb (os:List Ob):List ZT:=os.flatMap en2
def JI (os:List Ob) (k:Nat) (a:k<os.length):mb (os.take (k+1))=mb (os.take k)++en2 os[k]:=by
 unfold mb;rw [Vg,Ue a,Wz];simp
def Tryz.Tl:(ZO.info? 99).map (λi=>(i.zero,i.size,i.bytes))=ZX (ZX (.agg #[Z0 YF,Z7 Z9 0]),2,24):=by kernel_rfl
def LiR (w:ZU) (q:Nat) (os:List Ob) (i:ZT) (wr:ZU):Prop:=∃ k:Nat,k<=os.length/\i=Z7 Z9 (k:Nat)/\∃ u,ZP wr q 95 u/\wr.ownsRow w.heap.size 99 2 u k (mb (os.take k))/\aa (λj=>j=q) w wr
theorem JJ {q1 q2 v f:Nat} {os:List Ob} (N:ZP w q1 103 (Z6 (ZX ⟨ar,0,ZY⟩))) (O:ZP w q2 95 (Z5 ZY 0 0)) (Q:bC w ar v D L G t f n pg ob ZV) (z:fa K w ob os) (hK:∀ k,K k->k≠q2) (ke:os.length<=10000) :
 ZS ZO 74 #[Z6 (ZX ⟨q1,0,ZY⟩),Z6 (ZX ⟨q2,0,ZY⟩)] w λe w'=>e=Z3 .nilIface/\∃ u,ZP w' q2 95 u/\w'.ownsRow w.heap.size 99 2 u os.length (mb os)/\aa (λj=>j=q2) w w':=by
 obtain ⟨_,_,_,_,M⟩:=Q.cells;have g1:=N.cell;obtain ⟨ie,k6,hf,hg,hh⟩:=Uu Tryz.Tl;obtain ⟨oo,oc,rfl,hol,_⟩:=id z;obtain ⟨x,Y⟩:=nM (os.length);rw [Y] at M;have H:=aE O z Y;have kb:x<=10000:=by omega
 clear N O Q z hol;go_enter func74,ntmps74;go_wp2;go_loopw [10] (λi wr=>LiR w q2 os i wr) (λi _=>x-(intOf i).toNat)
 case atStart=>exact ⟨0,T7 _,rfl,_,H.o.1,UP _ _ _ _,aa.refl _ _⟩
 case round=>
  clear M g1;obtain ⟨k,hk,rfl,u,l,ho,a⟩:=hrel;by_cases W:k<os.length
  . have T:eN K w wr:=⟨a.size,λj d k5=>a.block j d (λe=>hK j k5 e)⟩;obtain ⟨b,off,sv,rfl,hb,_,r1,r2,r3,r4⟩:=(H.o.2.1.keep T).at' (k:=k) W;obtain ⟨sa,sc,rfl,_⟩:=id r4;obtain ⟨nm,B⟩:=nM (os[k].name);obtain ⟨sz,E⟩:∃ sz:Int,((os[k].size:Nat):Int)=sz:=⟨_,rfl⟩;obtain ⟨sl,Z⟩:=nM (os[k].RR.length);have s:mb (os.take (k+1))=mb (os.take k)++[Z0 nm,Z7 Z9 sz]:=(by rw [JI os k W];unfold en2;rw [B,E]);rw [B] at r1;rw [E] at r2;rw [Z] at r3;have k9:(k:Int)<(x:Int):=(by omega);obtain ⟨w3,F⟩:=nM (wr.alloc (Z4 #[Z0 nm,Z7 Z9 sz,.slice sa sl sc] 152));have A:ai w3 wr.heap.size 152 [Z0 nm,Z7 Z9 sz,.slice sa sl sc]:=(by rw [<- F];exact UN wr _);have q:bW wr w3:=(by rw [<- F];exact bA wr _);have ka:w3.heap.size=wr.heap.size+1:=(by rw [<- F];simp);have x0:=A.cell (j:=0) (u:=Z0 nm) rfl;have x1:=A.cell (j:=1) (u:=Z7 Z9 sz) rfl;have R:ZP w3 q2 95 u:=(q.block _ l.lt).trans l;have xq:=R.cell;have V:ai (w3.alloc (Z4 #[Z0 nm,Z7 Z9 sz] 99)) w3.heap.size 99 [Z0 nm,Z7 Z9 sz]:=UN w3 _;have g:bW wr (w3.alloc (Z4 #[Z0 nm,Z7 Z9 sz] 99)):=q.alloc (by omega) _;have y:Src ZO 2 95 (Z5 (ZX ⟨w3.heap.size,0,ZY⟩) 1 1) 1 [Z0 nm,Z7 Z9 sz] (w3.alloc (Z4 #[Z0 nm,Z7 Z9 sz] 99)):=
     Vk _ underlying95 ⟨w3.heap.size,0,ZY⟩ 1 1 [Z0 nm,Z7 Z9 sz] rfl (λj u d=>by rw [Vp,Um];exact V.cell d) (λu U=>by
      simp only [Uz,W4,or_false] at U;rcases U with rfl|rfl<;>rfl)
    have C:(w3.alloc (Z4 #[Z0 nm,Z7 Z9 sz] 99)).ownsRow w.heap.size 99 2 u k (mb (os.take k)):=an ho g;have c:=hide8 l ho a y C g s q;have kc:IntKind.i64.wrap ((k:Int)+1)=(k:Int)+1:=(by rw [UF];omega);clear l ho a y C g s q A V R T r4 B E Z hb ka;go_wp2_with (at_builtin;refine ae _ rfl (Z1 14) (Z1 20) 95 95 rfl w.heap.size 99 ie _ 2 24 underlying95 k6 hf hg hh rfl u k (mb (os.take k)) (by rfl) (by exact c.o.2.2.2.2.1) _ (by rfl) 1 [Z0 nm,Z7 Z9 sz] (by exact c.o.2.2.2.1) (by unfold maxLen;omega) (by omega) (by exact TZ c.o.2.2.1.size c.o.2.2.2.2.2.1.size) ?_;intro v7 r p h he;have m:ZP r q2 95 u:=(h.block _ (T9 c.o.1.lt c.o.2.2.2.2.2.1.size) (λe=>bH c.o.2.1 c.o.1 (by decide) e.symm)).trans ((c.o.2.2.2.2.2.1.block _ c.o.1.lt).trans c.o.1);have z0:=m.cell;have z1:=m.frozen;obtain ⟨I,J,rfl⟩:=aT p;have H7:=aE p h m;clear p h he m);obtain ⟨l,ho,a,y,C,g,s,q⟩:=c.o;obtain ⟨p,h,m⟩:=H7.o;have hn:ZP (r.setCell ⟨q2,0,ZY⟩ (.slice I (k+1) J)) q2 95 (.slice I (k+1) J):=m.set _;have P:∀ j,j≠q2->(r.setCell ⟨q2,0,ZY⟩ (.slice I (k+1) J)).heap[j]?=r.heap[j]?:=λj d=>Uj _ _ _ _ d;have kg:=h.size;have kf:=g.size;refine ⟨⟨k+1,by omega,by go_num,_,hn,?_,?_⟩,?_⟩
    . rw [s];exact bR p (S:=λj=>j=q2) ⟨rfl,rfl,rfl,by simp [World.setCell],λj _ d=>P j d⟩ λj d e=>bH p (e▸m:r.heap[j]?=_) (by decide) d
    . refine ⟨h.os.trans (g.os.trans a.os),h.tape.trans (g.tape.trans a.tape),h.output.trans (g.output.trans a.output),by have:=a.size;simp [World.setCell];omega,λj d X=>?_⟩;have k7:j<wr.heap.size:=T9 d a.size;exact (P j X).trans ((h.block j (by omega) (λe=>by have:=dK ho e.symm;omega)).trans ((g.block j k7).trans (a.block j d X)))
    . simp only [intOf];omega
  . have k8:k=x:=(by have:=H.o.2.2;omega);subst k8;have HF:=aE l ho a;clear l ho a;go_wp2;go_ret;obtain ⟨l,ho,a⟩:=HF.o;refine ⟨rfl,u,l,?_,a⟩;rw [UJ (by have:=H.o.2.2;omega),<- H.o.2.2] at ho;exact ho
def M1 (w:ZU) (xs:aX) (e:ZR) (w':ZU):Prop:=∃ u,e=Z3 (ZZ #[u,.nilIface])/\bW w w'/\w'.ownsRow w.heap.size 99 2 u xs.os.length (mb xs.os)
def JK {l:List ZT} (h:w.ownsRow base 99 2 u n l) (i:w.heap[b]?=ZX (Z4 #[.nilIface] 64 (0,0))) (k:∀ j,j≠b->w'.heap[j]?=w.heap[j]?):w'.ownsRow base 99 2 u n l:=by
 refine ⟨h.1,?_⟩;rcases h.2 with f|⟨g,cap,cur,c,d,a,m⟩
 . exact .inl f
 . exact .inr ⟨g,cap,cur,c,d,(k g (λe=>by subst e;rw [i] at a;cases a)).trans a,m⟩
theorem aaQ {v:Nat} {ps:bf} {xs:aX} {A:aC} (h:a9 w ar v p ps D L G t pg ob P xs A F) :
 ZS ZO 51 #[Z6 (ZX ⟨ar,0,ZY⟩)] w (M1 w xs):=by
 have hm:∀ (args:Array ZT) (w:ZU),(callFunc 74 args).run ZO w=.ok (.enter 74 args) w:=VC func74 (by kernel_rfl) rfl;obtain ⟨w3,I⟩:=nM ((w.alloc (Z4 #[Z6 (ZX ⟨ar,0,ZY⟩)] 103)).alloc (Z4 #[Z5 ZY 0 0] 95));have x:ZP w3 w.heap.size 103 (Z6 (ZX ⟨ar,0,ZY⟩)):=by rw [<- I];exact (UH w _ _).alloc _
 have y:ZP w3 (w.heap.size+1) 95 (Z5 ZY 0 0):=by
  have:=UH (w.alloc (Z4 #[Z6 (ZX ⟨ar,0,ZY⟩)] 103)) 95 (Z5 ZY 0 0);rw [Uw] at this;rw [<- I];exact this
 have m:bW w w3:=by rw [<- I];exact (bA w _).alloc (by simp) _
 have Q:=h.below m;have hx:=y.lt;have R:=Fz Q 74 #[] #[Z6 (ZX ⟨w.heap.size,0,ZY⟩),Z6 (ZX ⟨w.heap.size+1,0,ZY⟩)] hm
  (λr U xs' B q w2=>r=.nilIface/\xs'=xs/\(∀ j,j<w.heap.size->w2.heap[j]?=w.heap[j]?)/\∃ u,ZP w2 (w.heap.size+1) 95 u/\w2.ownsRow w.heap.size 99 2 u xs.os.length (mb xs.os)) (λj=>j=w.heap.size+1) (λj e=>by omega)
  (λr U xs' B q w2 w' l=>by
   rintro ⟨X,Y,Z,u,z,ho⟩;exact ⟨X,Y,λj f=>(l.2.2 j (by omega)).trans (Z j f),u,(l.2.2 _ (λe=>by have K:=l.1;rw [<- e,z] at K;cases K)).trans z,JK ho l.1 l.2.2⟩)
  (λw1 E hv=>by
   have i:bW w w1:=m.trans (E.mono m.size);have hq:=h.below i;have hC:fa (λk=>k<w.heap.size) w1 ob xs.os:=h.cat.any.keep (eN.RU i);refine (JJ ((E.block _ x.lt).trans x) ((E.block _ y.lt).trans y) hq.arc hC (λk T=>by omega) (by have:=h.Sq.1;omega)).mono ?_;rintro e w2 ⟨rfl,u,z,ho,N⟩;have O:bW w w2:=i.trans (N.below (B:=w.heap.size) λk T=>⟨T9 T i.size,by omega⟩);exact ⟨_,t,pg,ob,P,xs,A,ps,rfl,.inl rfl,h.below O,fj.refl A,N.mono λj _ f=>.inr (.inr f),rfl,rfl,λj f=>O.block j f,u,z,de ho i.size⟩)
 have c1:=x.cell;have H:=aE R m h;clear R m x y h Q;go_enter func51,ntmps51;go_wp2_with fail;refine H.o.1.mono ?_;rintro e J ⟨r,U,hd,hb,P',xs',B,q,rfl,hs,hr,hp,b,rfl,rfl,C,u,a,d⟩;have y0:=a.cell;have y1:=a.frozen;obtain ⟨ao,c,rfl⟩:=aT d;obtain ⟨n,g⟩:=nM (xs'.os.length);rw [g] at y0 a;have V:=a6 b d a C g;clear hr b d a C hs hp g;go_wp2;obtain ⟨b,d,a,C,g⟩:=V.o;have W:=(a.set (.slice ao n c)).cell;refine Uv (v:=ZZ #[.slice ao n c,.nilIface]) (by simp [results,results51,go_sem,W]) rfl ?_;have M:bW J (J.setCell ⟨w.heap.size+1,0,ZY⟩ (.slice ao n c)):=⟨rfl,rfl,rfl,by simp [World.setCell],λj f=>by
  by_cases e:j=w.heap.size+1
  . subst e;exact (a.set (.slice ao n c)).trans a.symm
  . exact Uj _ _ _ _ e⟩
 rw [g] at d;have s:=H.o.2.1;have S:w.heap.size<=J.heap.size:=TZ s.size b.size;exact ⟨_,rfl,(Below.mk (b.os.trans s.os) (b.tape.trans s.tape) (b.output.trans s.output) S C).trans (M.mono S),by rw [g];exact an d M⟩
theorem aaR {sa v:Nat} {ps:bf} {xs:aX} {A:aC} (c:ZP w sa 105 (Z6 (ZX ⟨ar,0,ZY⟩))) (h:a9 w ar v p ps D L G t pg ob P xs A F) :
 ZS ZO 35 #[Z6 (ZX ⟨sa,0,ZY⟩)] w (M1 w xs):=by
 have cs:=c.cell;have b:=aaQ h;clear c h;go_enter func35,ntmps35;go_wp2_with fail;refine b.mono ?_;rintro e f ⟨u,rfl,a⟩;have d:=ak a;clear a b;go_wp2;go_ret2;exact ⟨u,rfl,d.o⟩
section
variable {X:ZU} {p:Nat} {A:eB} {F:aH}
def gX (f:Nat->a8) (nb:Nat):List ZT:=(YI (64*nb)).map λk=>Z7 .u8 (((f (k/64)).getD (k%64) 0:Nat):Int)
def gY (g:Nat->Bool) (nb:Nat):List ZT:=(YI nb).map λk=>Z2 (g k)
def vh (f:Nat->a8) (nb:Nat):(gX f nb).length=64*nb:=by unfold gX;rw [Ud,UM]
def vk (g:Nat->Bool) (nb:Nat):(gY g nb).length=nb:=by unfold gY;rw [Ud,UM]
theorem ag.setBlks (h:ag X p A F) (i:Nat) (a:i<A.n) (f:Nat->a8) (hl:∀ j,(f j).length=64/\∀ x∈f j,x<256):ag (X.setCells (F.bb i) 0 (gX f A.nb)) p (A.R2 i f) F:=by
 refine h.R2 a ((fF (gX f A.nb) 0 X _ (h.blk i a)).congr λm c=>?_) (λk b=>aQ _ _ _ _ _ b) hl;rw [TX ⟨T7 _,by rw [vh];omega⟩,Yv,Ub];unfold gX;rw [UE,VU c];rfl
theorem ag.setBads (h:ag X p A F) (i:Nat) (a:i<A.n) (g:Nat->Bool):ag (X.setCells (F.bd i) 0 (gY g A.nb)) p (A.R6 i g) F:=by
 refine h.R6 a ((fF (gY g A.nb) 0 X _ (h.bad i a)).congr λm c=>?_) (λk b=>aQ _ _ _ _ _ b);rw [TX ⟨T7 _,by rw [vk];omega⟩,Yv,Ub];unfold gY;rw [UE,VU c];rfl
def jU (A:eB) (k:Nat):eB:=⟨A.n,A.nb,λi=>if i<k then A.lost i else ZV,λi=>if i<k then A.bad i else λ_=>ZV,λi=>if i<k then A.blk i else λ_=>zb⟩
theorem M2 (k:Nat) (f:Nat->α) (z:α):(λi=>if i=k then f k else if i<k then f i else z)=λi=>if i<k+1 then f i else z:=by
 funext i;by_cases e:i=k
 . subst e;simp
 . rw [TW e];by_cases q:i<k
   . rw [TX q,TX (by omega)]
   . rw [TW q,TW (by omega)]
def JL (A:eB):jU A 0=pJ A.n A.nb:=by unfold jU pJ;simp
def JM (A:eB) (k:Nat):(({ jU A k with lost:=λi=>if i=k then A.lost k else (jU A k).lost i }:eB).R2 k (A.blk k)).R6 k (A.bad k)=jU A (k+1):=by
 unfold jU eB.R2 eB.R6;simp only [eB.mk.injEq,true_and];exact ⟨M2 k A.lost ZV,M2 k A.bad _,M2 k A.blk _⟩
def Tryz.To:(ZO.info? 114).map (·.size)=ZX 64:=by kernel_rfl
def Tryz.Tj:(ZO.info? 4).map (·.size)=ZX 1:=by kernel_rfl
def vl (h:w.rowIs b t n f):∃ cur:List ZT,ai w b t cur/\cur.length=n:=by
 obtain ⟨c,a,d,_⟩:=h;refine ⟨c.toList,?_,by simpa using d⟩;unfold ai;rw [a,Array.toArray_toList]
def M3 {B:eB} (h:ag w p A F) (k:ag w q B E) (i:Nat) (o:i<A.n) (r:i<B.n) (l:B.nb=A.nb) (f:ZQ) :
 (Builtin.copy_ #[76,76] f #[Z5 (ZX ⟨E.bb i,0,ZY⟩) A.nb A.nb,Z5 (ZX ⟨F.bb i,0,ZY⟩) A.nb A.nb]).run ZO w=.ok (goInt A.nb) (w.setCells (E.bb i) 0 (gX (A.blk i) A.nb)):=by
 obtain ⟨cur,m,g⟩:=vl (k.blk i r);have b:=vh (A.blk i) A.nb;have d:Nat.min A.nb A.nb=A.nb:=Nat.min_self _;have:=eo (P:=ZO) w 76 76 f 114 64 (E.bb i) 0 A.nb A.nb (F.bb i) 0 A.nb A.nb 114 cur (gX (A.blk i) A.nb) underlying76 Tryz.To (by rw [b,d];omega) (λj v a=>by
  unfold gX at a;rw [UE] at a;by_cases c:j<64*A.nb
  . rw [VU c] at a;rw [Um,(h.blk i o).cell c];exact a
  . rw [Vm (by rw [UM];omega)] at a;cases a) m (by rw [b,g,l];omega) (λv e=>by
  unfold gX at e;obtain ⟨x,_,rfl⟩:=Ua.1 e;rfl)
 rw [d] at this;exact this
def M4 {B:eB} (h:ag w p A F) (k:ag w q B E) (i:Nat) (o:i<A.n) (r:i<B.n) (l:B.nb=A.nb) (f:ZQ) :
 (Builtin.copy_ #[77,77] f #[Z5 (ZX ⟨E.bd i,0,ZY⟩) A.nb A.nb,Z5 (ZX ⟨F.bd i,0,ZY⟩) A.nb A.nb]).run ZO w=.ok (goInt A.nb) (w.setCells (E.bd i) 0 (gY (A.bad i) A.nb)):=by
 obtain ⟨cur,m,g⟩:=vl (k.bad i r);have b:=vk (A.bad i) A.nb;have d:Nat.min A.nb A.nb=A.nb:=Nat.min_self _;have:=eo (P:=ZO) w 77 77 f 4 1 (E.bd i) 0 A.nb A.nb (F.bd i) 0 A.nb A.nb 4 cur (gY (A.bad i) A.nb) underlying77 Tryz.Tj (by rw [b,d];omega) (λj v a=>by
  unfold gY at a;rw [UE] at a;by_cases c:j<A.nb
  . rw [VU c] at a;rw [Um,(h.bad i o).cell c];exact a
  . rw [Vm (by rw [UM];omega)] at a;cases a) m (by rw [b,g,l];omega) (λv e=>by
  unfold gY at e;obtain ⟨x,_,rfl⟩:=Ua.1 e;rfl)
 rw [d] at this;exact this
structure M6 (w:ZU) (p c:Nat) (A B:eB) (F E:aH):Prop where
 a:ag w p A F
 b:ag w c B E
 n:B.n=A.n
 nb:B.nb=A.nb
 ap:∀ k,F.S k->¬ E.S k
def M6.facts {B:eB} (h:M6 w p c A B F E) (i:Nat) (o:i<A.n) :
 (w.cell? ⟨p,0,ZY⟩=ZX (Z5 (ZX ⟨F.g,0,ZY⟩) A.n F.cap)/\w.cell? ⟨c,0,ZY⟩=ZX (Z5 (ZX ⟨E.g,0,ZY⟩) A.n E.cap))/\(p≠E.g/\c≠E.g/\F.g≠E.g)/\(p≠E.bb i/\c≠E.bb i/\F.g≠E.bb i/\E.g≠E.bb i)/\(p≠E.bd i/\c≠E.bd i/\F.g≠E.bd i/\E.g≠E.bd i):=by
 obtain ⟨c0,_⟩:=h.a.RX;obtain ⟨c1,_⟩:=h.b.RX;rw [h.n] at c1;have d:i<B.n:=by rw [h.n];exact o
 have a:=(h.b.apart.2.1 i d);have j:=h.a.sp;have f:=h.a.sg;have k:=h.b.sb d;have l:=h.b.sd d;have m:=h.b.sg;exact ⟨⟨c0,c1⟩,⟨λe=>h.ap _ j (e▸m),h.b.apart.1,λe=>h.ap _ f (e▸m)⟩,⟨λe=>h.ap _ j (e▸k),Vo a.1,λe=>h.ap _ f (e▸k),Vo a.2.1⟩,⟨λe=>h.ap _ j (e▸l),Vo a.2.2.1,λe=>h.ap _ f (e▸l),Vo a.2.2.2⟩⟩
def CpR (w:ZU) (c:Nat) (A:eB) (E:aH) (i:ZT) (wr:ZU):Prop:=∃ k:Nat,k<=A.n/\i=Z7 Z9 (k:Nat)/\bW w wr/\ag wr c (jU A k) E
def aaS (w:ZU) (A:eB) (e:ZR) (w':ZU):Prop:=∃ E:aH,e=Z3 (Z6 (ZX ⟨w.heap.size,0,ZY⟩))/\bW w w'/\ag w' w.heap.size (jU A A.n) E/\∀ k,E.S k->w.heap.size<=k
theorem Dy (h:ag w p A F) (Z:0<A.n) :
 ZS ZO 36 #[Z6 (ZX ⟨p,0,ZY⟩)] w (aaS w A):=by
 have W:=h.n;have ka:=h.nb;have l:=aE h W ka;clear h;go_enter func36,ntmps36;have r:=l.o.1.RX.1;have k7:=iQ (l.o.1.keep (Y:=w.drew) λ_ _=>rfl) Z;have kb:=kG A.n A.nb w.drew Z W ka;go_upto_region 1 with fail;go_cut [3] from 5 to 72 (λv3 wx=>v3=Z6 (ZX ⟨w.heap.size,0,ZY⟩)/\Ly A.n A.nb w.drew (Z3 (Z6 (ZX ⟨w.heap.size,0,ZY⟩))) wx)
 case first=>
  go_region_with (first|(go_at_call 38;refine k7.mono ?_;rintro e wz ⟨rfl,rfl⟩)|(go_at_call 8;refine kb.mono ?_;rintro e wz T;obtain ⟨rfl,_⟩:=id T;have HZ:=ak T;clear T));all_goals (go_wp2_with fail;go_meet;case rel=>exact ⟨rfl,HZ.o⟩)
 case rest=>
 obtain ⟨rfl,ki,k5,E,y,D⟩:=hcut;clear ki k7 kb r;change ag _ w.heap.size (pJ A.n A.nb) E at y;change ∀ k,E.S k->w.heap.size<=k at D;have J:bW w wc:=((T6 _ w).drew).trans k5;have hy:ag wc p A F:=l.o.1.below J lR;have q0:=hy.RX.1;have k0:∀ k,F.S k->k<w.heap.size:=λk X=>l.o.1.RS X;obtain ⟨c,C⟩:=nM (w.heap.size);rw [<- JL] at y;rw [C] at y D;have f:=a6 y D J k0 C;rw [C];clear y D k5 J hy k0 C;go_wp2_with fail;go_loopw [18] (λi wr=>CpR w c A E i wr) (λi _=>A.n-(intOf i).toNat)
 case atStart=>exact ⟨0,T7 _,rfl,f.o.2.2.1,f.o.1⟩
 case round=>
  obtain ⟨k,X,rfl,z,G⟩:=hrel;by_cases d:k<A.n
  . have kj:(k:Int)<(A.n:Int):=(by omega);have u:M6 wr p c A (jU A k) F E:=⟨l.o.1.below z lR,G,rfl,rfl,λj h1 h2=>by have:=f.o.2.2.2.1 j h1;have:=f.o.2.1 j h2;have:=f.o.2.2.2.2;omega⟩;obtain ⟨⟨r,B⟩,_,_,_⟩:=u.facts k d;have l0:=(u.a.R8 k d).1;have m0:=(u.b.R8 k d).1;have f0:=u.b.R9 (k*4);have x:=al u z;clear z G u;go_wp2_with fail;go_region;clear r B l0 m0 f0;have t:ag (wr.setCell ⟨E.g,k*4,ZY⟩ (Z2 (A.lost k))).drew c ({ jU A k with lost:=λi=>if i=k then A.lost k else (jU A k).lost i }:eB) E:=(x.o.1.b.Te k (A.lost k)).keep λ_ _=>rfl;have N:aa (λj=>j=E.g) wr (wr.setCell ⟨E.g,k*4,ZY⟩ (Z2 (A.lost k))).drew:=(aa.setCell (S:=λj=>j=E.g) wr ⟨E.g,k*4,ZY⟩ _ rfl).trans (aa.drew _);obtain ⟨w2,kc⟩:=nM ((wr.setCell ⟨E.g,k*4,ZY⟩ (Z2 (A.lost k))).drew);rw [kc] at t N ⊢;have H:∀ j,E.S j->w.heap.size<=j:=λj s=>by have:=f.o.2.1 j s;have:=f.o.2.2.2.2;omega
    have kg:=H _ t.sg;have k8:=H _ (t.sb d);have k9:=H _ (t.sd d);have Q:bW w w2:=x.o.2.trans (N.below λj s=>⟨T9 s x.o.2.size,λe=>by omega⟩);have m:M6 w2 p c A ({ jU A k with lost:=λi=>if i=k then A.lost k else (jU A k).lost i }:eB) F E:=⟨l.o.1.below Q lR,t,rfl,rfl,x.o.1.ap⟩;have K:=M3 (m.a.keep (Y:=w2.drew) λ_ _=>rfl) (m.b.keep (Y:=w2.drew) λ_ _=>rfl) k d d rfl;obtain ⟨⟨r,B⟩,_,_,_⟩:=m.facts k d;have l1:=(m.a.R8 k d).2.1;have m1:w2.cell? ⟨E.g,k*4+1,ZY⟩=ZX (Z5 (ZX ⟨E.bb k,0,ZY⟩) A.nb A.nb):=(m.b.R8 k d).2.1;have v:=a5 m Q k8 k9;clear t N kc H kg k8 k9 Q m;go_wp2_with fail;go_region;clear r B l1 m1 K;have L:ag (w2.drew.setCells (E.bb k) 0 (gX (A.blk k) A.nb)) c (({ jU A k with lost:=λi=>if i=k then A.lost k else (jU A k).lost i }:eB).R2 k (A.blk k)) E:=(v.o.1.b.keep (Y:=w2.drew) λ_ _=>rfl).setBlks k d (A.blk k) (l.o.1.len k);have O:aa (λj=>j=E.bb k) w2 (w2.drew.setCells (E.bb k) 0 (gX (A.blk k) A.nb)):=(aa.drew w2).trans (aa.setCells _ _ _ _ rfl);obtain ⟨w3,ke⟩:=nM (w2.drew.setCells (E.bb k) 0 (gX (A.blk k) A.nb));rw [ke] at L O ⊢;have R:bW w w3:=v.o.2.1.trans (O.below λj s=>⟨T9 s v.o.2.1.size,λe=>by have:=v.o.2.2.1;omega⟩);have q:M6 w3 p c A (({ jU A k with lost:=λi=>if i=k then A.lost k else (jU A k).lost i }:eB).R2 k (A.blk k)) F E:=⟨l.o.1.below R lR,L,rfl,rfl,x.o.1.ap⟩;have K:=M4 (q.a.keep (Y:=w3.drew) λ_ _=>rfl) (q.b.keep (Y:=w3.drew) λ_ _=>rfl) k d d rfl;obtain ⟨⟨r,B⟩,_,_,_⟩:=q.facts k d;have l2:=(q.a.R8 k d).2.2.1;have m2:w3.cell? ⟨E.g,k*4+2,ZY⟩=ZX (Z5 (ZX ⟨E.bd k,0,ZY⟩) A.nb A.nb):=(q.b.R8 k d).2.2.1;have I:=al q R;clear L O ke R q;go_wp2_with fail;go_region;clear r B l2 m2 K;have M:ag (w3.drew.setCells (E.bd k) 0 (gY (A.bad k) A.nb)) c (jU A (k+1)) E:=by
     have:=(I.o.1.b.keep (Y:=w3.drew) λ_ _=>rfl).setBads k d (A.bad k);rw [JM] at this;exact this
    have P:aa (λj=>j=E.bd k) w3 (w3.drew.setCells (E.bd k) 0 (gY (A.bad k) A.nb)):=(aa.drew w3).trans (aa.setCells _ _ _ _ rfl);obtain ⟨w4,kf⟩:=nM (w3.drew.setCells (E.bd k) 0 (gY (A.bad k) A.nb));rw [kf] at M P ⊢;have k6:bW w w4:=I.o.2.trans (P.below λj s=>⟨T9 s I.o.2.size,λe=>by have:=v.o.2.2.2;omega⟩);have V:CpR w c A E (Z7 Z9 ((k:Int)+1)) w4:=⟨k+1,by omega,rfl,k6,M⟩;have H4:=ak V;clear M P kf k6 V;go_wp2;exact ⟨H4.o,by simp [intOf];omega⟩
  . have kh:k=A.n:=(by omega);subst kh;have U:=al z G;clear z G;go_wp2;go_ret;have e:=f.o.2.2.2.2;subst e;exact ⟨E,rfl,U.o.1,U.o.2,f.o.2.1⟩
def abk (w:ZU) (A:aC) (e:ZR) (w':ZU):Prop:=∃ E:aH,e=Z3 (Z6 (ZX ⟨w.heap.size,0,ZY⟩))/\bW w w'/\az w' w.heap.size A E/\∀ k,E.S k->w.heap.size<=k
def Dz {A:aC} (h:az w p A F) (g:0<A.n) :
 ZS ZO 36 #[Z6 (ZX ⟨p,0,ZY⟩)] w (abk w A):=by
 obtain ⟨R,f,a⟩:=h;refine (Dy f (by rw [a.n];exact g)).mono ?_;rintro e w' ⟨E,j,k,l,m⟩;refine ⟨E,j,k,⟨_,l,a.n,a.nb,λi c=>?_,λi b c d=>?_,λi b c d=>?_⟩,m⟩
 . show (if i<R.n then R.lost i else ZV)=A.lost i;rw [a.n,TX c,a.lost i c]
 . rw [<- a.rd i b c d];unfold eB.rd jU;rw [a.n];simp only [TX c]
 . have q:=a.tn i b c d;unfold jU;rw [a.n];simpa only [TX c] using q
end
