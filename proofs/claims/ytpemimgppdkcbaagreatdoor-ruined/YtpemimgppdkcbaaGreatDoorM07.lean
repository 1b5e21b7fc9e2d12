import Derived.Test.YtpemimgppdkcbaaGreatDoorM06
import Derived.Lib.UnsafeStr
import Derived.RangeFuncRecord
import Derived.Laws.CopyRow
import Derived.Laws.IdiomStrings
set_option maxRecDepth 100000
set_option linter.all false
set_option maxHeartbeats 8000000
open Go.IntKind renaming i64 -> Z9, u64 -> Z8
open Go.Value renaming int -> Z7, pointer -> Z6, slice -> Z5, bool -> Z2, string -> Z0, tuple -> ZZ
open Go.Obj renaming cells -> Z4
open Go.Ending renaming returned -> Z3
open Go.Operand renaming tmp -> Z1
open Go renaming undef -> ZY, World -> ZT, Value -> ZS, Calls -> ZR, Addr -> ZQ, Ending -> ZP, TypeId -> ZO
open Option renaming none -> ZX, some -> ZW
open Bool renaming true -> ZV, false -> ZU
open ByteArray renaming empty -> YD
open List renaming range -> YE, length -> YH, replicate -> YL
open Nat renaming le_of_lt_succ -> YF, le_max_left -> YK
open Int.ofNat renaming inj -> YG
open List.Sublist renaming append -> YI, refl -> YJ
open Array renaming getElem?_setIfInBounds_self_of_lt -> YM
open Go.Proofs.Tryz renaming prog -> ZN
open Go.Proofs.Tryz
namespace Go.Proofs.YtpemimgppdkcbaaGreatDoor
def X3:=@Nat.div_le_div_right
def X4:=@Go.Lib.size_eq
def YC:=@Nat.div_le_div_left
def abe:=@Go.Proofs.Tryz.underlying184
def X5:=@Go.Proofs.Tryz.underlying235
def UT:=@Go.Proofs.Tryz.underlying41
end Go.Proofs.YtpemimgppdkcbaaGreatDoor
namespace Go.Proofs.YtpemimgppdkcbaaGreatDoor
open Go.RowKit Go.Deep Gf Go.Shelf
variable {ops:Array Oper} {rd:Bool} {Q:Exit->Act->ZT->Prop} {E F:aR} {L G lost regs room:Int} {O:List (Int×Nat×Nat×a8)} {Dl:List a8} {es:List (Nat×Nat×Nat)} {l P P' d ns:a8} {rest:List Oper} {xs ys:List ZS} {k D c b x t m n a base g cap i N p sb r q s j bl lo size:Nat} {Dn:Nat->Bool} {ol nw:Nat->Nat} {S K K' T:Nat->Prop} {f:Nat->ZS} {o:Ob} {ao:Option ZQ} {A B:fK} {α:Type} {e:ZO} {v u steps ne v12:ZS} {w w' w2 w3 w12 w1 w5 w6:ZT}
theorem Ct (k:FuncId) (first cap:Array ZS) (o:∀ (args:Array ZS) (w:ZT),(callFunc k args).run ZN w=.ok (.enter k args) w) (w:ZT) (R:ZT->ZS->ZT->Prop)
 (h:∀ w1,bW w w1->w1.heap.size=w.heap.size+1->w1.heap[w.heap.size]?=ZW (Z4 #[.nilIface] 53 (0,0))->ZR ZN k (first++cap) w1 λe w2=>∃ v,e=Z3 v/\isErr v/\R w1 v w2/\w2.heap[w.heap.size]?=w1.heap[w.heap.size]?) :
 ZR ZN 63 #[.func (.func k) first cap] w λe w'=>∃ v w1 w2,e=Z3 v/\isErr v/\bW w w1/\w1.heap.size=w.heap.size+1/\R w1 v w2/\w'=w2.setCell ⟨w.heap.size,0,ZX⟩ v:=by
 have j:=h (w.alloc (Z4 #[.nilIface] 53)) (bA w _) (by simp) (UG w _);have d:(w.alloc (Z4 #[.nilIface] 53)).heap[w.heap.size]?=ZW (Z4 #[.nilIface] 53 (0,0)):=Uc _ _;go_enter_defers func63,ntmps63
 go_wp2_with fail;refine j.mono ?_;clear j;rintro e w2 ⟨v,rfl,l,i,g⟩;have a:w2.heap[w.heap.size]?=ZW (Z4 #[.nilIface] 53 (0,0)):=g.trans d;have m:w2.cell? ⟨w.heap.size,0,ZX⟩=ZW .nilIface:=by simp [World.cell?,a]
 have n:w2.frozen? ⟨w.heap.size,0,ZX⟩=ZU:=by simp [World.frozen?,a]
 have c:(w2.setCell ⟨w.heap.size,0,ZX⟩ v).cell? ⟨w.heap.size,0,ZX⟩=ZW v:=by simp [World.cell?,World.setCell,VH,a]
 have H:=au i l;clear i g a d h;rcases l with rfl|⟨t,u,rfl⟩
 . go_wp2;refine leaves_cons (f:=92) (args:=#[Z6 (ZW ⟨w.heap.size,0,ZX⟩)]) (by simp) (by simp [go_sem]) ?_;refine (sS ⟨w.heap.size,0,ZX⟩ _).mono ?_;rintro e u' b ⟨rfl,rfl,rfl⟩;refine ⟨.nilIface,by simp [results,results63,go_sem,c],_,_,w2,rfl,.inl rfl,(TY _ w).alloc lR (Z4 #[.nilIface] 53),by simp,H.out.1,rfl⟩
 . go_wp2;refine leaves_cons (f:=92) (args:=#[Z6 (ZW ⟨w.heap.size,0,ZX⟩)]) (by simp) (by simp [go_sem]) ?_;refine (sS ⟨w.heap.size,0,ZX⟩ _).mono ?_;rintro e u' b ⟨rfl,rfl,rfl⟩;refine ⟨.iface t u,by simp [results,results63,go_sem,c],_,_,w2,rfl,.inr ⟨t,u,rfl⟩,(TY _ w).alloc lR (Z4 #[.nilIface] 53),by simp,H.out.1,rfl⟩
theorem lW (k:FuncId) (first cap:Array ZS) (D:∀ (args:Array ZS) (w:ZT),(callFunc k args).run ZN w=.ok (.enter k args) w) (w:ZT) (a:Nat) (cs:Array ZS) (p:w.heap[a]?=ZW (Z4 cs 115 (0,0))) (C:cs[9]?=ZW (Z2 ZU)) (R:ZT->ZS->ZT->Prop)
 (s:∀ w1,bW w w1->w1.heap.size=w.heap.size+1->w1.heap[w.heap.size]?=ZW (Z4 #[.nilIface] 53 (0,0))->ZR ZN k (first++cap) w1 λe w2=>∃ v,e=Z3 v/\mX v/\R w1 v w2/\w2.heap[w.heap.size]?=w1.heap[w.heap.size]?/\∃ cs',w2.heap[a]?=ZW (Z4 cs' 115 (0,0))/\cs'[9]?=ZW (Z2 ZU)) :
 ZR ZN 47 #[Z6 (ZW ⟨a,0,ZX⟩),.func (.func k) first cap] w λe w'=>∃ v w1 w2,e=Z3 v/\mX v/\bW w w1/\w1.heap.size=w.heap.size+1/\R w1 v w2/\w'=(w2.setCell ⟨w.heap.size,0,ZX⟩ v).setCell ⟨a,9,ZX⟩ (Z2 ZU):=by
 have I:a<w.heap.size:=(TX.1 p).1;have E:w.cell? ⟨a,9,ZX⟩=ZW (Z2 ZU):=by simp [World.cell?,p,C]
 have m:=Ct k first cap D w (λw1 v w2=>mX v/\R w1 v w2/\∃ cs',w2.heap[a]?=ZW (Z4 cs' 115 (0,0))/\cs'[9]?=ZW (Z2 ZU)) (λw1 x y c=>(s w1 x y c).mono (by
  rintro e w2 ⟨v,rfl,c,z,A,B⟩;exact ⟨v,rfl,c.isErr,⟨c,z,B⟩,A⟩))
 go_enter func47,ntmps47;go_wp2_with fail;refine m.mono ?_;rintro e w3 ⟨v,w1,w2,rfl,_,r,u,⟨t,o,cs',q,l⟩,rfl⟩;have b:(w2.setCell ⟨w.heap.size,0,ZX⟩ v).heap[a]?=ZW (Z4 cs' 115 (0,0)):=(Ud _ _ _ _ (by show a≠w.heap.size;omega)).trans q;obtain ⟨w3,d⟩:=nM (w2.setCell ⟨w.heap.size,0,ZX⟩ v);rw [d] at b ⊢;have F:w3.cell? ⟨a,9,ZX⟩=ZW (Z2 ZU):=by simp [World.cell?,b,l]
 have G:w3.frozen? ⟨a,9,ZX⟩=ZU:=by simp [World.frozen?,b]
 have H:=a6 r u o t d;clear r u o m s b l q d;rcases t with rfl|⟨n,hn,rfl⟩
 . go_wp2_with fail;refine (Dq 13 w3).mono ?_;rintro e w' ⟨rfl,rfl⟩;go_wp2;go_ret;obtain ⟨f,g,h,i,j⟩:=H.out;exact ⟨.nilIface,w1,w2,rfl,i,f,g,h,by rw [j]⟩
 . go_wp2_with fail;refine (JJ n hn w3).mono ?_;rintro e w' ⟨rfl,rfl⟩;go_wp2;go_ret;obtain ⟨f,g,h,i,j⟩:=H.out;exact ⟨.iface 58 (Z7 Z9 n),w1,w2,rfl,i,f,g,h,by rw [j]⟩
def cZ (D:Nat) (d:a8) (k:Nat):a8:=(d.drop (k*(D*44))).take (D*44)
def oN (h:k<l.length):l.getD k 0=l[k]:=by rw [T5,Ua h];rfl
def lX (h:k<l.length):l.getD k 0∈l:=by rw [oN h];exact T4 h
def aH.at (A:aH) (b:Nat) (f:Nat->bC):Prop:=∀ i,i<A.n->A.rc i b=f i
def aH.holds (A:aH) (D L G:Nat) (S:a8) (c:Nat->a8):Prop:=∀ k,k<S.length->A.at (S.getD k 0) (shF D L G (c k))
def jP (A:aH) (ds:a8) {b m:Nat} (f:Nat->bC) (i:Nat) (h:m≠b):(A.putAt ds b f).rc i m=A.rc i m:=if_neg λq=>h q.1
def ui (A:aH) (b:Nat) (f:Nat->bC) {i n:Nat} (h:i<n):(A.putAt (YE n) b f).rc i b=f i:=if_pos ⟨rfl,Uy.2 h⟩
def lY {A:aH} {L G:Nat} {S:a8} {c:Nat->a8} (i:Nat) {m:Nat} (h:m∉S):∀ k,k<=S.length->(A.wrTo D L G S c k).rc i m=A.rc i m
 | 0,_=>rfl
 | k+1,hk=>(jP _ _ (b:=S.getD k 0) _ _ (λe:m=S.getD k 0=>h (e▸lX hk))).trans (lY i h k (by omega))
def FW {A:aH} {L G:Nat} {S:a8} {c:Nat->a8} (hn:S.Nodup) {i:Nat} (a:i<A.n):∀ k j,j<k->k<=S.length->(A.wrTo D L G S c k).rc i (S.getD j 0)=shF D L G (c j) i
 | 0,_,hj,_=>by omega
 | k+1,j,hj,hk=>by
  rcases Xq (YF hj) with rfl|b
  . exact ui _ _ _ (by rw [(gQ A D L G S c j).1];exact a)
  . refine (jP _ _ _ _ (λe=>?_)).trans (FW hn a k j b (by omega));rw [oN (by omega),oN (by omega)] at e;have:=(List.getElem_inj hn).1 e;omega
def uj {A:aH} {L G:Nat} {S:a8} (c:Nat->a8) (hn:S.Nodup):(A.wrTo D L G S c S.length).holds D L G S c:=λk b i a=>FW hn (by rw [(gQ A D L G S c _).1] at a;exact a) _ k b lR
def aH.at.off {A B:aH} {f:Nat->bC} (h:A.at b f) (hn:B.n=A.n) (c:∀ i,B.rc i b=A.rc i b):B.at b f:=λi a=>(c i).trans (h i (hn▸a))
def aH.holds.off {A B:aH} {L G:Nat} {S:a8} {c:Nat->a8} (h:A.holds D L G S c) (hn:B.n=A.n) (d:∀ b∈S,∀ i,B.rc i b=A.rc i b):B.holds D L G S c:=λk a=>(h k a).off hn (d _ (lX a))
abbrev aY:=List (Ob×a8)
def aY.os (xs:aY):List Ob:=xs.map (·.1)
def aY.names (xs:aY):List ByteArray:=aQ xs.os
structure lg (D:Nat) (x:Ob×a8):Prop where
 fit:x.1.fit
 st:x.1.RQ.length=max 1 ((x.1.size+D*44-1)/(D*44))
 len:x.2.length=x.1.size
 byt:∀ b∈x.2,b<256
def zY {xs:aY} {x:Ob×a8} (a:x∈xs) {b:Nat} (h:b∈x.1.RQ):b∈ak xs.os:=X0.2 ⟨x.1,List.mem_map_of_mem a,h⟩
structure cA (A:aH) (D L G t:Nat) (P:a8) (xs:aY):Prop where
 turn:0<t
 root:A.at 0 (λ_=>.root D L G t (P.getD 0 0) (an xs.os).length)
 fill:A.at 1 (λ_=>.filled)
 pl:P.length=pgs D (an xs.os).length
 page:A.holds D L G P (bU D P (an xs.os))
 TU:(P++ak xs.os).Nodup
 Tt:∀ x∈P++ak xs.os,2<=x/\x<A.nb
 fits:∀ x∈xs,lg D x
 up:Up xs.names
 held:∀ x∈xs,A.holds D L G x.1.RQ (cZ D x.2)
 room:(ak xs.os).length+2*P.length+2<=A.nb
def cA.off {A B:aH} {L G:Nat} {xs:aY} (h:cA A D L G t P xs) (hn:B.n=A.n) (d:B.nb=A.nb) (a:∀ b,(b<2\/b∈P++ak xs.os)->∀ i,B.rc i b=A.rc i b):cA B D L G t P xs:=
 ⟨h.turn,h.root.off hn (a 0 (.inl (by decide))),h.fill.off hn (a 1 (.inl (by decide))),h.pl,h.page.off hn λb c=>a b (.inr (UB _ c)),h.TU,d▸h.Tt,h.fits,h.up,λx e=>(h.held x e).off hn λb c=>a b (.inr (VK _ (zY e c))),d▸h.room⟩
def cA.wr {A:aH} {L G:Nat} {xs:aY} (h:cA A D L G t P xs) {S:a8} (c:Nat->a8) (a:∀ b∈S,2<=b/\b∉P++ak xs.os) {k:Nat} (f:k<=S.length):cA (A.wrTo D L G S c k) D L G t P xs:=
 h.off (gQ A D L G S c k).1 (gQ A D L G S c k).2.1 λb d i=>lY i (λq=>d.elim (λe=>by have:=(a b q).1;omega) (a b q).2) k f
def OQ (A:aH) (D L G t:Nat) (P l:a8):(A.Tm D L G t P l).n=A.n/\(A.Tm D L G t P l).nb=A.nb/\(A.Tm D L G t P l).lost=A.lost/\(A.clean->(A.Tm D L G t P l).clean):=have h:=gQ A D L G P (bU D P l) P.length;⟨h.1,h.2.1,h.2.2.1,λq=>(h.2.2.2 q).putAt _ _ _⟩
def qt {B:aH} {L G:Nat} {xs':aY} (n:B.at 1 (λ_=>.filled))
 (o:P'.length=pgs D (an xs'.os).length) (f:(P'++ak xs'.os).Nodup) (d:∀ x∈P'++ak xs'.os,2<=x/\x<B.nb) (m:∀ x∈xs',lg D x) (r:Up xs'.names) (k:∀ x∈xs',B.holds D L G x.1.RQ (cZ D x.2)) (l:(ak xs'.os).length+2*P'.length+2<=B.nb) {t':Nat} (t:0<t') :
 cA (B.Tm D L G t' P' (an xs'.os)) D L G t' P' xs':=by
 have a:=OQ B D L G t' P' (an xs'.os);have p:=gQ B D L G P' (bU D P' (an xs'.os)) P'.length;have g:∀ b∈P'++ak xs'.os,b≠0:=λb c e=>by have:=(d b c).1;omega
 refine ⟨t,λi s=>ui _ _ _ (a.1▸s),n.off a.1 λi=>(jP _ _ _ _ (by decide)).trans (lY i (λq=>by have:=(d 1 (UB _ q)).1;omega) _ lR),o,
  (uj (A:=B) (bU D P' (an xs'.os)) (UU.1 f).1).off (a.1.trans p.1.symm) λb c i=>jP _ _ _ _ (g b (UB _ c)),f,by rw [a.2.1];exact d,m,r,λx j=>(k x j).off a.1 λb c i=>?_,by rw [a.2.1];exact l⟩
 have h:=zY j c;exact (jP _ _ _ _ (g b (VK _ h))).trans (lY i (λq=>(UU.1 f).2.2 b q b h rfl) _ lR)
def aY.ins (xs:aY) (x:Ob×a8):aY:=xs.take (aJ xs.names x.1.name)++x::xs.drop (aJ xs.names x.1.name)
def aY.del (xs:aY) (k:Nat):aY:=xs.take k++xs.drop (k+1)
def jQ (xs:aY) (x:Ob×a8):(xs.ins x).Perm (x::xs):=by
 unfold aY.ins;refine List.perm_middle.trans ?_;rw [V4]
def LD (xs:aY) (x:Ob×a8):(xs.ins x).os=xs.os.take (aJ xs.names x.1.name)++x.1::xs.os.drop (aJ xs.names x.1.name):=by
 unfold aY.ins aY.os;rw [Uw,Uu,Wr,Ws]
def IA (xs:aY) (x:Ob×a8):(xs.ins x).names=xs.names.take (aJ xs.names x.1.name)++x.1.name::xs.names.drop (aJ xs.names x.1.name):=by
 unfold aY.names;rw [LD];unfold aQ aY.names aQ;rw [Uw,Uu,Wr,Ws]
def LF (xs:aY) (k:Nat):(xs.del k).os=xs.os.take k++xs.os.drop (k+1):=by
 unfold aY.del aY.os;rw [Uw,Wr,Ws]
def IB (xs:aY) (k:Nat):(xs.del k).names=xs.names.take k++xs.names.drop (k+1):=by
 unfold aY.names;rw [LF];unfold aQ;rw [Uw,Wr,Ws]
def kS (xs:aY) (k:Nat):(xs.del k).Sublist xs:=by
 have a:(xs.take k++xs.drop (k+1)).Sublist (xs.take k++xs.drop k):=YI (YJ _) (by rw [<- VA];exact List.drop_sublist _ _);rwa [V4] at a
def Ey (o:Ob) (os:List Ob):ak (o::os)=o.RQ++ak os:=by unfold ak;rw [VE]
def qu (xs:aY) (x:Ob×a8):(ak (xs.ins x).os).Perm (x.1.RQ++ak xs.os):=by
 have h:=(jQ xs x).map (·.1);have:=h.flatMap_right (·.RQ);rw [Uu,VE] at this;exact this
def IC (xs:aY) (x:Ob×a8):(an (xs.ins x).os).length=(an xs.os).length+(bM x.1).length:=by
 have h:=((jQ xs x).map (·.1)).flatMap_right bM;rw [Uu,VE] at h;have:=h.length_eq;rw [T8] at this;unfold an aY.os;omega
def oO {β:Type} (f:α->List β):∀ {l m:List α},l.Sublist m->(l.flatMap f).Sublist (m.flatMap f)
 | _,_,.slnil=>by simp
 | _,_,.cons a h=>by rw [VE];exact (oO f h).trans (abj _ _)
 | _,_,.cons_cons a h=>by rw [VE,VE];exact YI (YJ _) (oO f h)
def ID (xs:aY) (k:Nat):(ak (xs.del k).os).Sublist (ak xs.os):=oO _ ((kS xs k).map _)
def qw (xs:aY) (k:Nat):(an (xs.del k).os).length<=(an xs.os).length:=(oO bM ((kS xs k).map (Prod.fst:Ob×a8->Ob))).length_le
def uk (h:m<=n):pgs D m<=pgs D n:=by
 unfold pgs;have:(m+(D*44-4)-1)/(D*44-4)<=(n+(D*44-4)-1)/(D*44-4):=X3 (by omega);omega
def LG {A:aH} {L G:Nat} {xs:aY} (h:cA A D L G t P xs) (x:Ob×a8) (u:lg D x) (p:x.1.name∉xs.names) (r:P'.length=pgs D (an (xs.ins x).os).length)
 (m:((x.1.RQ++P')++(P++ak xs.os)).Nodup) (j:∀ b∈(x.1.RQ++P')++(P++ak xs.os),2<=b/\b<A.nb) (E:(ak xs.os).length+x.1.RQ.length+2*P'.length+2<=A.nb) :
 cA ((A.wrTo D L G x.1.RQ (cZ D x.2) x.1.RQ.length).Tm D L G (t+1) P' (an (xs.ins x).os)) D L G (t+1) P' (xs.ins x):=by
 obtain ⟨k,l,_⟩:=gQ A D L G x.1.RQ (cZ D x.2) x.1.RQ.length;rw [UU] at m;obtain ⟨v,w,g⟩:=m;obtain ⟨o,z,B⟩:=UU.1 v;obtain ⟨F,C,H⟩:=UU.1 w;have n:∀ b,b∉x.1.RQ->∀ i,(A.wrTo D L G x.1.RQ (cZ D x.2) x.1.RQ.length).rc i b=A.rc i b:=λb c i=>lY i c _ lR;refine qt (h.fill.off k (n 1 λe=>by have:=(j 1 (by simp [e])).1;omega)) r ?_ ?_ ?_ ?_ ?_ ?_ (by omega)
 . have s:(P'++ak (xs.ins x).os).Perm (P'++(x.1.RQ++ak xs.os)):=(qu xs x).append_left P';rw [s.nodup_iff,UU];refine ⟨z,?_,?_⟩
   . rw [UU];exact ⟨o,C,λa f b c=>g a (by simp [f]) b (by simp [c])⟩
   . intro a f b c;rcases Uf.1 c with c|c
     . exact λe=>B b c a f e.symm
     . exact g a (by simp [f]) b (by simp [c])
 . intro b c;rw [l];refine j b ?_;rcases Uf.1 c with c|c
   . simp [c]
   . have:=(qu xs x).mem_iff.1 c;rcases Uf.1 this with q|q<;>simp [q]
 . intro y d;rcases Ur.1 ((jQ xs x).mem_iff.1 d) with rfl|d
   . exact u
   . exact h.fits y d
 . rw [IA];exact Iu h.up p
 . intro y d;rcases Ur.1 ((jQ xs x).mem_iff.1 d) with rfl|d
   . exact uj _ o
   . exact (h.held y d).off k λb c=>n b λe=>g _ (UB _ e) _ (VK _ (zY d c)) rfl
 . rw [(qu xs x).length_eq,T8,l];omega
def LH {A:aH} {L G:Nat} {xs:aY} (h:cA A D L G t P xs) (k:Nat) (f:P'.length=pgs D (an (xs.del k).os).length)
 (j:(P'++(P++ak xs.os)).Nodup) (i:∀ b∈P'++(P++ak xs.os),2<=b/\b<A.nb) :
 cA (A.Tm D L G (t+1) P' (an (xs.del k).os)) D L G (t+1) P' (xs.del k):=by
 have d:=ID xs k;obtain ⟨m,n,o⟩:=UU.1 j;obtain ⟨s,p,u⟩:=UU.1 n;refine qt h.fill f ?_ ?_ (λx e=>h.fits x ((kS xs k).subset e)) ?_ (λx e=>h.held x ((kS xs k).subset e)) ?_ (by omega)
 . rw [UU];exact ⟨m,p.sublist d,λa l b c=>o a l b (VK _ (d.subset c))⟩
 . intro b c;refine i b ?_;rcases Uf.1 c with c|c
   . simp [c]
   . simp [d.subset c]
 . rw [IB];exact Lz h.up k
 . have:=d.length_le;have:=h.room;have g:=uk (D:=D) (qw xs k);rw [<- f,<- h.pl] at g;omega
theorem FX (q s:Nat) (d:1<=q):max 1 ((s+q-1)/q)<=s/q+1:=by
 have c:(s+q-1)/q<=(s+q)/q:=X3 (by omega);rw [Nat.add_div_right _ (by omega)] at c;generalize s/q=a at c ⊢;generalize (s+q-1)/q=b at c ⊢;omega
def qV (D:Nat) (xs:aY):Nat:=(xs.map λx=>x.2.length/(D*44)+1).sum
def FY (c:1<=D):∀ {xs:aY},(∀ x∈xs,lg D x)->(ak xs.os).length<=qV D xs
 | [],_=>by simp [qV,ak,aY.os]
 | x::xs,h=>by
  have ih:=FY c (xs:=xs) (λy d=>h y (by simp [d]));have a:=h x (by simp);have b:=FX (D*44) x.1.size (by omega);rw [<- a.st] at b;have e:ak (aY.os (x::xs))=x.1.RQ++ak (aY.os xs):=by unfold aY.os;rw [Uu,Ey]
  rw [e,T8];unfold qV at ih ⊢;rw [Uu,Xh,a.len];omega
def jh (c:1<=D):∀ {xs:aY},(∀ x∈xs,lg D x)->(an xs.os).length<=xs.length*(19+4*(1500/(D*44)+1))
 | [],_=>by simp [an,aY.os]
 | x::xs,h=>by
  have:=jh c (xs:=xs) (λy d=>h y (by simp [d]));have a:=h x (by simp);have b:=FX (D*44) x.1.size (by omega);rw [<- a.st] at b;have:x.1.size/(D*44)<=1500/(D*44):=X3 a.fit.size;have e:an (aY.os (x::xs))=bM x.1++an (aY.os xs):=by unfold aY.os an;rw [Uu,VE]
  rw [e,T8,cQ a.fit,Uv,Xm];omega
def Ez (b:1<=D) (k:D<=6) {xs:aY} (h:∀ x∈xs,lg D x) {n nb count pages:Nat} (hn:n<=1500) (c:count=max 1 ((n+D*44-1)/(D*44))) (d:pages=pgs D ((an xs.os).length+(19+4*count)))
 (e:nb<(ak xs.os).length+count+2*pages+2):nb<qV D xs+(n/(D*44)+1)+2*((xs.length+1)*200/(D*44)+1)+8:=by
 have f:=FY b h;have g:=jh b h;have i:=FX (D*44) n (by omega);rw [<- c] at i;have j:n/(D*44)<=1500/(D*44):=X3 hn;suffices hs:pages<=(xs.length+1)*200/(D*44)+4 by omega
 obtain ⟨m,a⟩:=nM (xs.length);obtain ⟨l,hl⟩:=nM ((an xs.os).length);rw [a,hl] at g;rw [hl] at d;rw [a];clear f c a hl e h;subst d;unfold pgs;have:D=1\/D=2\/D=3\/D=4\/D=5\/D=6:=by omega
 rcases this with rfl|rfl|rfl|rfl|rfl|rfl<;>omega
def EA {A:aH} {L G:Nat} {xs:aY} (h:cA A D L G t P xs) {count pages l:Nat} (c:pages=pgs D ((an xs.os).length+l)) (d:(ak xs.os).length+count+2*pages+2<=A.nb) :
 count+pages<=(aX (tk A.nb (P++ak xs.os)).1 A.nb).length:=by
 have a:=lP h.TU h.Tt;have b:=uk (D:=D) (show (an xs.os).length<=(an xs.os).length+l by omega);rw [<- c,<- h.pl] at b;rw [T8] at a;omega
def EB {A:aH} {L G:Nat} {xs:aY} (h:cA A D L G t P xs) (k:Nat):pgs D (an (xs.del k).os).length<=(aX (tk A.nb (P++ak xs.os)).1 A.nb).length:=by
 have a:=lP h.TU h.Tt;have b:=uk (D:=D) (qw xs k);rw [<- h.pl] at b;rw [T8] at a;have:=h.room;omega
theorem mD (x:ByteArray) (w:ZT):ZR ZN 146 #[Z0 x] w λe w'=>e=Z3 (Z2 ZU)/\w'=w:=by
 go_enter func146,ntmps146;go_wp2;go_ret;exact ⟨by simp,rfl⟩
def ru (a b:ByteArray):Int:=if jx a b then -1 else if jx b a then 1 else 0
def FZ {a b:ByteArray}:ru a b<0↔jx a b=ZV:=by
 unfold ru;cases h1:jx a b<;>cases h2:jx b a<;>simp
theorem F0 {a b:ByteArray}:ru a b=0↔a=b:=by
 unfold ru;constructor
 . intro h;cases h1:jx a b
   . cases h2:jx b a
     . exact rZ h1 h2
     . simp [h1,h2] at h
   . simp [h1] at h
 . rintro rfl;simp [iT]
theorem Cu (x y:ByteArray) (w:ZT):ZR ZN 111 #[Z0 x,Z0 y] w λe w'=>e=Z3 (Z7 Z9 (ru x y))/\w'=w:=by
 by_cases a:x=y
 . subst a;have hl:Op.bytesLess x.toList x.toList=ZU:=iT x;have c:ru x x=0:=F0.2 rfl;rw [c];go_enter func111,ntmps111;go_wp2_with fail;refine (mD x w).mono ?_;rintro e w1 ⟨rfl,rfl⟩;go_wp2_with fail;refine (mD x w1).mono ?_;rintro e w2 ⟨rfl,rfl⟩;go_wp2;go_ret;exact ⟨rfl,rfl⟩
 . have d:¬ x.toList=y.toList:=λe=>a (toList_inj e);have f:(!x.toList==y.toList)=ZV:=(by simp [d]);obtain ⟨lt,b⟩:=nM (jx x y);have hl:Op.bytesLess x.toList y.toList=lt:=b;have c:ru x y=if lt then -1 else 1:=by
    unfold ru;rw [b];cases lt
    . cases hg:jx y x
      . exact absurd (rZ b hg) a
      . rfl
    . rfl
   rw [c];clear c b;go_enter func111,ntmps111;go_wp2_with fail;refine (mD x w).mono ?_;rintro e w1 ⟨rfl,rfl⟩;go_wp2_with fail;refine (mD y w1).mono ?_;rintro e w2 ⟨rfl,rfl⟩;cases lt
   . go_wp2;go_ret;exact ⟨rfl,rfl⟩
   . go_wp2;go_ret;exact ⟨rfl,rfl⟩
theorem xJ (nm x:ByteArray) (b:Int) (a:ZS) (w:ZT):ZR ZN 110 #[.agg #[Z0 nm,Z7 Z9 b,a],Z0 x] w λe w'=>e=Z3 (Z7 Z9 (ru nm x))/\bW w w':=by
 have c:bW w (w.alloc (Z4 #[Z0 nm,Z7 Z9 b,a] 130)):=bA w _;go_enter func110,ntmps110;go_wp2_with fail;refine (Cu nm x _).mono ?_;rintro e w1 ⟨rfl,rfl⟩;go_wp2;go_ret;exact ⟨rfl,c⟩
def mP (os:List Ob) (x:ByteArray):Bool:=match (aQ os)[aJ (aQ os) x]? with
 | some n=>decide (n=x)
 | none=>ZU
theorem Cv {os:List Ob} (c:Up (aQ os)) (x:ByteArray):mP os x=ZV↔x∈aQ os:=by
 unfold mP;constructor
 . intro h;split at h
   . rename_i n hn
     have:=of_decide_eq_true h;rw [<- this];exact List.mem_of_getElem? hn
   . cases h
 . intro h;obtain ⟨a,b⟩:=ue c h;rw [Ua a,b];simp
def FdR (w:ZT) (os:List Ob) (x:ByteArray) (i j:ZS) (wr:ZT):Prop:=∃ a b:Nat,a<=b/\b<=os.length/\i=Z7 Z9 a/\j=Z7 Z9 b/\(∀ k (hk:k<os.length),k<a->jx os[k].name x=ZV)/\(∀ k (hk:k<os.length),b<=k->jx os[k].name x=ZU)/\bW w wr
def OR {os:List Ob} (a:Up (aQ os)) {i j:Nat} (b:i<os.length) (c:j<os.length) (h:i<j):jx os[i].name os[j].name=ZV:=by
 unfold Up at a;rw [Wf] at a;have:=a i j (by rw [bm];exact b) (by rw [bm];exact c) h;unfold aQ at this;rwa [Ve,Ve] at this
def eY.at' {os:List Ob} (h:eY K w (.slice ao n c) os) {k:Nat} (d:k<os.length):∃ b off a,ao=ZW ⟨b,off,ZX⟩/\b<w.heap.size/\K b/\w.cell? ⟨b,off+k*3,ZX⟩=ZW (Z0 os[k].name)/\w.cell? ⟨b,off+k*3+1,ZX⟩=ZW (Z7 Z9 (os[k].size:Nat))/\w.cell? ⟨b,off+k*3+2,ZX⟩=ZW a/\br K w a os[k].RQ:=by
 obtain ⟨f,s,e,_,g⟩:=h;obtain ⟨b,off,i,j,l,m⟩:=g (λe=>by rw [e] at d;simp at d);simp only [Vt] at e;obtain ⟨rfl,_,_⟩:=e;obtain ⟨a,o,p,q,r⟩:=m k d;exact ⟨b,off,a,i,l,j,o,p,q,r⟩
theorem EC {os:List Ob} (K:eY (λk=>k<w.heap.size) w v os) (kc:os.length<=10000) (S:Up (aQ os)) (x:ByteArray) :
 ZR ZN 109 #[v,Z0 x,.func (.func 110) #[] #[]] w λe w'=>e=Z3 (ZZ #[Z7 Z9 (aJ (aQ os) x:Nat),Z2 (mP os x)])/\bW w w':=by
 obtain ⟨ao,c,rfl,k5,_⟩:=id K;obtain ⟨N,O⟩:=nM (os.length);have H:=au K S;clear K S;rw [O];go_enter func109,ntmps109;go_wp2;go_loopw [9,10] (λi j wr=>FdR w os x i j wr) (λi j _=>(intOf j).toNat-(intOf i).toNat)
 case atStart=>exact ⟨0,N,T9 _,by omega,rfl,rfl,λk _ h=>by omega,λk q h=>by omega,TY _ w⟩
 case round=>
  obtain ⟨a,b,k9,U,rfl,rfl,o,n,f⟩:=hrel;by_cases ka:a<b
  . obtain ⟨m,D⟩:∃ m:Nat,m=(a+b)/2:=⟨_,rfl⟩;have R:((a:Int)+(b:Int))/2=(m:Int):=(by omega);have L:m<os.length:=(by omega);obtain ⟨b0,off,M,rfl,hy,_,z,A,E,_⟩:=(H.out.1.keep (eB.RT f)).at' (k:=m) L;obtain ⟨nm,d⟩:=nM (os[m].name);obtain ⟨t,C⟩:∃ t:Int,((os[m].size:Nat):Int)=t:=⟨_,rfl⟩;rw [d] at z;rw [C] at A;have k6:m<N:=(by omega);have k7:(m:Int)<(N:Int):=(by omega);have r:=a6 o n f d D;clear o n f d D C;go_wp2_with fail;refine (xJ nm x t M wr).mono ?_;rintro e w1 ⟨rfl,u⟩;obtain ⟨I,l⟩:=nM (ru nm x);rw [l];obtain ⟨o,n,f,d,D⟩:=r.out;have g:bW w w1:=f.trans (u.mono f.size);by_cases P:I<0
    . have p:jx nm x=ZV:=FZ.1 (by rw [l];exact P);have F:Hid (FdR w os x (Z7 Z9 ((m+1:Nat):Int)) (Z7 Z9 (b:Nat)) w1):=al ⟨m+1,b,by omega,U,rfl,rfl,(λk q h=>by
       rcases Xq (YF h) with e|J
       . subst e;rw [d];exact p
       . have:=OR H.out.2 q L J;rw [d] at this;exact jO this p),(λk q h=>n k q h),g⟩
      clear o n f d u g p l r z A E;dsimp only;have kb:m<=10000:=(by omega);have k8:a<=m:=(by omega);have Y:m<b:=(by omega);clear D R;go_wp2;refine ⟨by simpa using F.out,?_⟩;show ((b:Int)).toNat-((m:Int)+1).toNat<((b:Int)).toNat-((a:Int)).toNat;omega
    . have p:jx nm x=ZU:=by
       cases h:jx nm x
       . rfl
       . exact absurd (FZ.2 h) (by rw [l];exact P)
      have F:Hid (FdR w os x (Z7 Z9 (a:Nat)) (Z7 Z9 (m:Nat)) w1):=al ⟨a,m,by omega,by omega,rfl,rfl,(λk q h=>o k q h),(λk q h=>by
       rcases Xq h with e|J
       . subst e;rw [d];exact p
       . have:=OR H.out.2 L q J;rw [d] at this;cases hx:jx os[k].name x
         . rfl
         . rw [jO this hx] at p;cases p),g⟩
      clear o n f d u g p l r z A E;dsimp only;have k8:a<=m:=(by omega);have Y:m<b:=(by omega);clear D R;go_wp2;refine ⟨F.out,?_⟩;show ((m:Int)).toNat-((a:Int)).toNat<((b:Int)).toNat-((a:Int)).toNat;omega
  . have T:a=b:=(by omega);subst T;have y:aJ (aQ os) x=a:=gE _ _ _ (by rw [bm];omega) (λj X h=>by
     have k0:j<os.length:=(by rwa [bm] at X);simpa [aQ] using o j k0 h) (λW=>by
     have hz:a<os.length:=(by rwa [bm] at W);simpa [aQ] using n a hz lR)
    by_cases Z:a<N
    . have hv:a<os.length:=O.symm▸Z;obtain ⟨b0,off,M,rfl,hy,_,z,A,E,_⟩:=(H.out.1.keep (eB.RT f)).at' (k:=a) hv;obtain ⟨nm,d⟩:=nM (os[a].name);obtain ⟨t,C⟩:∃ t:Int,((os[a].size:Nat):Int)=t:=⟨_,rfl⟩;have B:mP os x=decide (ru nm x=0):=by
       unfold mP;rw [y,Ua (by rw [bm];omega)];simp only [aQ,Ve,d];exact decide_eq_decide.2 F0.symm
      rw [d] at z;rw [C] at A;have V:(a:Int)<(N:Int):=(by omega);have r:=al f;have G:=au y B;clear o n f d y B C;go_wp2_with fail;refine (xJ nm x t M wr).mono ?_;rintro e w1 ⟨rfl,u⟩;obtain ⟨I,l⟩:=nM (ru nm x);have s:=au G.out.1 (G.out.2.trans (by rw [l]));rw [l];have g:Hid (bW w w1):=al (r.out.trans (u.mono r.out.size));clear u r G z A E l;by_cases Q:I=0
      . subst Q;go_wp2;go_ret2;refine ⟨?_,g.out⟩;rw [s.out.1,s.out.2];rfl
      . go_wp2;go_ret2;refine ⟨?_,g.out⟩;rw [s.out.1,s.out.2];simp [Q]
    . have B:mP os x=ZU:=by
       unfold mP;rw [y,VM (by rw [bm];omega)]
      have V:¬ (a:Int)<(N:Int):=(by omega);have g:Hid (bW w wr):=al f;have s:=au y B;clear o n f y B;go_wp2;go_ret2;refine ⟨?_,g.out⟩;rw [s.out.1,s.out.2];rfl
theorem LI {os:List Ob} (c:eY (λk=>k<w.heap.size) w v os) (f:os.length<=10000) (g:Up (aQ os)) (x:ByteArray) :
 ZR ZN 77 #[v,Z0 x] w λe w'=>e=Z3 (ZZ #[Z7 Z9 (aJ (aQ os) x:Nat),Z2 (mP os x)])/\bW w w':=by
 have a:=EC c f g x;obtain ⟨n,hn⟩:=nM (aJ (aQ os) x);obtain ⟨i,d⟩:=nM (mP os x);rw [hn,d] at a ⊢;clear hn d;go_enter func77,ntmps77;go_wp2_with fail;refine a.mono ?_;rintro e w1 ⟨rfl,b⟩;have H:=al b;clear b a c;go_wp2;go_ret2;exact ⟨rfl,H.out⟩
def bT (x:ByteArray):Bool:=decide (1<=x.size/\x.size<=16)
theorem jR (x:ByteArray) (w:ZT):ZR ZN 78 #[Z0 x] w λe w'=>e=Z3 (Z2 (bT x))/\w'=w:=by
 have hn:bT x=(decide (1<=x.size)&&decide (x.size<=16)):=by unfold bT;simp
 rw [hn];obtain ⟨n,f⟩:=nM (x.size);rw [f];by_cases b:1<=n
 . have a:(1:Int)<=(n:Int):=(by omega);by_cases c:n<=16
   . have d:(n:Int)<=16:=(by omega);go_enter func78,ntmps78;go_wp2;go_ret;exact ⟨by simp [b,c],rfl⟩
   . have d:¬ (n:Int)<=16:=(by omega);go_enter func78,ntmps78;go_wp2;go_ret;exact ⟨by simp,rfl⟩
 . have a:¬ (1:Int)<=(n:Int):=(by omega);go_enter func78,ntmps78;go_wp2;go_ret;exact ⟨by simp,rfl⟩
theorem uo (s:ByteArray) (w:ZT) (l:¬ s.size=0) (A:s.size<=1000000):ZR ZN 143 #[Z0 s] w λe w'=>e=Z3 (Z0 s)/\bW w w':=by
 obtain ⟨i,d,v,a,y⟩:=Us Tryz.R6;have m:(ZN.info? 5).map (·.size)=ZW 1:=by rw [d];simp [a]
 have r:ZN.cellsOf 5=1:=by simp [Program.cellsOf,d,a]
 obtain ⟨M,b⟩:∃ M,M=madeCells (Value.int .u8 0).cells (((s.size:Nat):Int).toNat*i.size):=⟨_,rfl⟩;have B:M.size=s.size:=by rw [b,size_madeCells,a];simp
 have D:∀ W:ZT,(Instr.makeSlice 31 (Z7 Z9 (s.size:Int)) (Z7 Z9 (s.size:Int))).run ZN W=.ok (Z5 (ZW ⟨W.heap.size,0,ZX⟩) s.size s.size) (W.alloc (Z4 M 5)):=λW=>by
  have h:=run_make (P:=ZN) W 31 5 i (Z7 .u8 0) Uh d v .i64 .i64 (s.size:Int) (s.size:Int) (by omega) (by omega) (by rw [y];omega) (by omega);rw [<- b] at h;simpa using h
 clear b;have t:=Lib.run_copy_row_string (P:=ZN) (w.alloc (Z4 M 5)) 31 9 3 5 w.heap.size 0 s.size s.size s M 5 Uh m (Yr w _) lR (by omega);obtain ⟨Y,c⟩:∃ Y,Y=(M.toList.take 0++Lib.byteCells s.data.toList++M.toList.drop (0+s.size)).toArray:=⟨_,rfl⟩;rw [<- c] at t;have f:Y.toList=Lib.byteCells s.data.toList:=by
  rw [c,List.toList_toArray,VR,Uk,WA (by rw [Wk];omega),Wg]
 have C:Y.size=s.size:=by rw [<- Wk,f,Lib.byteCells_length,<- X4]
 have g:((w.alloc (Z4 M 5)).setRow w.heap.size Y).heap[w.heap.size]?=ZW (Z4 Y 5 (0,0)):=Vf _ _ M _ 5 (0,0) (Yr w _);have u:s.data.toList≠[]:=λe=>l (by rw [X4,e];rfl);have n:=Lib.run_unsafeString_row (P:=ZN) ((w.alloc (Z4 M 5)).setRow w.heap.size Y) 285 3 9 5 underlying285 r w.heap.size Y.size (by unfold World.shape?;rw [g]) s.data.toList u (by rw [<- X4];omega) (by rw [<- X4];omega)
  (λj x z=>Lib.cells_of_row g Y.size j _ (by rw [UD (by rw [Wk];exact TV _),f];simp [Lib.byteCells,z]))
 rw [<- X4] at n;clear c;go_enter func143,ntmps143;go_wp2;go_ret;have o:bW w (w.alloc (Z4 M 5)):=bA w _;have q:Below w.heap.size (w.alloc (Z4 M 5)) ((w.alloc (Z4 M 5)).setRow w.heap.size Y):=⟨rfl,rfl,rfl,by simp,λk E=>setRow_other _ _ _ _ (by omega)⟩;exact ⟨rfl,Lib.below_freeze (o.trans q) (p:=⟨w.heap.size,0,ZX⟩) lR _⟩
theorem ur (s:ByteArray) (w:ZT) (c:¬ s.size=0) (d:s.size<=1000000):ZR ZN 106 #[Z0 s] w λe w'=>e=Z3 (Z0 s)/\bW w w':=by
 have b:=uo s w c d;go_enter func106,ntmps106;go_wp2_with fail;refine b.mono ?_;rintro e w1 ⟨rfl,a⟩;have H:=al a;clear a b;go_wp2;go_ret;exact ⟨rfl,H.out⟩
def zZ (ho:w.ownsRow base 130 3 u n xs) (d:g<base):u.ownBlock≠ZW g:=λe=>by
 rcases ho.2 with ⟨rfl,_⟩|⟨a,cap,cur,rfl,c,_⟩
 . cases e
 . have:a=g:=(by simpa [Value.ownBlock] using e);omega
def z6 (ho:w.ownsRow base 130 3 u n xs) (d:w.heap.size<=g):u.ownBlock≠ZW g:=λe=>by
 rcases ho.2 with ⟨rfl,_⟩|⟨a,cap,cur,rfl,c,h,_⟩
 . cases e
 . have:a=g:=(by simpa [Value.ownBlock] using e);have:=(TX.1 h).1;omega
def IE (ho:w.ownsRow base 130 3 u n xs) (o:Obj):(w.alloc o).ownsRow base 130 3 u n xs:=by
 refine ⟨ho.1,?_⟩;rcases ho.2 with h|⟨g,cap,cur,rfl,a,h,b⟩
 . exact .inl h
 . exact .inr ⟨g,cap,cur,rfl,a,(VY w o g (TX.1 h).1).trans h,b⟩
def uv (K:Nat->Prop) (w:ZT) (os:List Ob) (e:ZP) (w':ZT):Prop:=∃ u,e=Z3 u/\eY K w' u os/\bW w w'
theorem Cw {os:List Ob} (R:eY K w v os) (k9:os.length<=9999) (hK:∀ k,w.heap.size<=k->K k) {i:Nat} (hi:i<=os.length) (o:Ob) (a:ZS) (E:br K w a o.RQ) :
 ZR ZN 108 #[v,Z7 Z9 (i:Nat),.agg #[Z0 o.name,Z7 Z9 (o.size:Nat),a]] w (uv K w (os.take i++o::os.drop i)):=by
 obtain ⟨nm,V⟩:=nM (o.name);obtain ⟨b,Y⟩:∃ b:Int,((o.size:Nat):Int)=b:=⟨_,rfl⟩;have Z:∀ u∈jw (o,a),u.oneCell'=ZV:=by
  obtain ⟨ao,c,e,_⟩:=E;exact FT ⟨ao,_,c,e⟩
 have hv:(jw (o,a)).toArray=#[Z0 nm,Z7 Z9 b,a]:=by rw [<- V,<- Y];rfl
 have T:∀ W,bW w W->ZR ZN 117 #[v] W λe w'=>∃ u L,e=Z3 u/\L.map (·.1)=os/\NV K W L/\w'.ownsRow W.heap.size 130 3 u L.length (bQ L)/\bW W w':=λW z=>oL (R.keep (eB.RT z)) (by omega);have U:∀ (W n:ZT) (u:ZS) (L:List (Ob×ZS)) (base vb:Nat),bW w W->bW W n->L.map (·.1)=os->NV K W L->n.ownsRow base 130 3 u L.length (bQ L)->w.heap.size<=base->W.heap.size<=base->base<=n.heap.size->n.heap[vb]?=ZW (Z4 #[Z0 nm,Z7 Z9 b,a] 130 (0,0))->u.ownBlock≠ZW vb ->
  ZR ZN 145 #[u,Z7 Z9 (i:Nat),Z5 (ZW ⟨vb,0,ZX⟩) 1 1] n (uv K w (os.take i++o::os.drop i)):=λW n u L base vb z k5 g f ho ka hz k6 hx k7=>by
  have k8:L.length=os.length:=by rw [<- g,T7]
  refine (Ev ho k6 f.one Z (by omega) (by rw [hv];exact hx) k7 (by omega)).mono ?_;rintro e w' ⟨u',rfl,X,k0⟩;have B:bW W w':=k5.trans (k0.mono hz);have O:bW w w':=z.trans (B.mono z.size);have P:L.length+1=(L.take i++(o,a)::L.drop i).length:=by simp;omega
  rw [P] at X;refine ⟨u',rfl,?_,O⟩;have l:=ud (K:=K) (L:=L.take i++(o,a)::L.drop i) X (by rw [<- P];omega) (λk hk=>hK k (by omega)) (λy hy=>by
   rw [Uf,Ur] at hy;rcases hy with h|h|h
   . exact (f y (UN h)).keep (eB.RT B)
   . subst h;exact E.keep (eB.RT O)
   . exact (f y (US h)).keep (eB.RT B))
  have e:(L.take i++(o,a)::L.drop i).map (·.1)=os.take i++o::os.drop i:=by rw [Uw,Uu,Wr,Ws,g]
  rwa [e] at l
 rw [V,Y];have F:=al T;have G:=al U;clear T U R E Z hv hK;go_enter func108,ntmps108;have x:bW w (w.alloc (Z4 #[Z0 nm,Z7 Z9 b,a] 130)).drew:=(bA w _).drew;have S:bW w ((w.alloc (Z4 #[Z0 nm,Z7 Z9 b,a] 130)).drew.alloc (Z4 #[Z0 nm,Z7 Z9 b,a] 130)):=x.alloc x.size _;have m:=au x S;have N:=UG w (Z4 #[Z0 nm,Z7 Z9 b,a] 130);have s:aj (w.alloc (Z4 #[Z0 nm,Z7 Z9 b,a] 130)).drew w.heap.size 130 [Z0 nm,Z7 Z9 b,a]:=N;have H:=s.cell (j:=0) (u:=Z0 nm) rfl;have I:=s.cell (j:=1) (u:=Z7 Z9 b) rfl;have J:=s.cell (j:=2) (u:=a) rfl;have M:=s.lt;have Q:(w.alloc (Z4 #[Z0 nm,Z7 Z9 b,a] 130)).drew.heap.size=w.heap.size+1:=by show (w.alloc _).heap.size=_;exact Ug _ _
 have D:((w.alloc (Z4 #[Z0 nm,Z7 Z9 b,a] 130)).drew.alloc (Z4 #[Z0 nm,Z7 Z9 b,a] 130)).heap[w.heap.size+1]?=ZW (Z4 #[Z0 nm,Z7 Z9 b,a] 130):=by rw [<- Q];exact UG _ _
 have C:=au D (show w.heap.size+1<((w.alloc (Z4 #[Z0 nm,Z7 Z9 b,a] 130)).drew.alloc (Z4 #[Z0 nm,Z7 Z9 b,a] 130)).heap.size from (TX.1 D).1);have t:=a5 M H I J;clear x S M H I J N s D Q;go_wp2_with fail;go_region_with (first
  | (go_at_call 117;first
   | (refine (F.out (w.alloc (Z4 #[Z0 nm,Z7 Z9 b,a] 130)).drew m.out.1).mono ?_;rintro e w1 ⟨u,L,rfl,g,f,ho,q⟩;have b0:=λj=>q.cell (p:=⟨w.heap.size,j,ZX⟩) (t.out.1);have c0:w1.cell? ⟨w.heap.size,0,ZX⟩=ZW (Z0 nm):=(b0 0).trans t.out.2.1;have c1:w1.cell? ⟨w.heap.size,1,ZX⟩=ZW (Z7 Z9 b):=(b0 1).trans t.out.2.2.1;have c2:w1.cell? ⟨w.heap.size,2,ZX⟩=ZW a:=(b0 2).trans t.out.2.2.2;clear b0;have d:=a5 g f ho q;clear g f ho q)
   | (refine (F.out ((w.alloc (Z4 #[Z0 nm,Z7 Z9 b,a] 130)).drew.alloc (Z4 #[Z0 nm,Z7 Z9 b,a] 130)) m.out.2).mono ?_;rintro e w1 ⟨u,L,rfl,g,f,ho,q⟩;have d:=a5 g f ho q;clear g f ho q))
  | (go_at_call 145;first
   | (refine (G.out (w.alloc (Z4 #[Z0 nm,Z7 Z9 b,a] 130)).drew (w1.alloc (Z4 #[Z0 nm,Z7 Z9 b,a] 130)) u L (w.alloc (Z4 #[Z0 nm,Z7 Z9 b,a] 130)).drew.heap.size w1.heap.size m.out.1 (d.out.2.2.2.alloc d.out.2.2.2.size _) d.out.1 d.out.2.1 (IE d.out.2.2.1 _) m.out.1.size lR (d.out.2.2.2.alloc d.out.2.2.2.size _).size (UG w1 _) (z6 d.out.2.2.1 lR)).mono ?_;rintro e w2 ⟨u2,rfl,l,r⟩;have A:=au l r;clear l r)
   | (refine (G.out ((w.alloc (Z4 #[Z0 nm,Z7 Z9 b,a] 130)).drew.alloc (Z4 #[Z0 nm,Z7 Z9 b,a] 130)) w1 u L ((w.alloc (Z4 #[Z0 nm,Z7 Z9 b,a] 130)).drew.alloc (Z4 #[Z0 nm,Z7 Z9 b,a] 130)).heap.size (w.heap.size+1) m.out.2 d.out.2.2.2 d.out.1 d.out.2.1 d.out.2.2.1 m.out.2.size lR d.out.2.2.2.size ((d.out.2.2.2.block _ C.out.2).trans C.out.1) (zZ d.out.2.2.1 C.out.2)).mono ?_;rintro e w2 ⟨u2,rfl,l,r⟩;have A:=au l r;clear l r)))
 all_goals (go_wp2;go_ret;exact ⟨_,rfl,A.out.1,A.out.2⟩)
def lZ {o:Oper} {a:Act} {K:Act->ZT->Prop} {E:Prop} (f:o.guard=ZX) (d x:Operand) (b c:ZO) (e:o.op=Op.call { callee:=Callee.builtin Builtin.append,args:=#[d,x],argTypes:=#[b,c] })
 (v u:ZS) (hd:a.eval d=v) (hx:a.eval x=u) {v':ZS} {w':ZT} (hr:(Builtin.append_ #[b,c] o.type #[v,u]).run ZN w=.ok v' w') (hK:K (a.put o.dst v') w'):if Region.wanted o (yielded ops a.tmps)=ZV then Oper.wp ZN o a w K Q else E:=by
 rw [if_pos (by simp [Region.wanted,f])];unfold Oper.wp;simp [execOp,e,resolve,invoke,builtin,hd,hx,hr,Result.andThen];exact hK
theorem LJ (cur:List ZS) (L:List (Ob×ZS)) (i N:Nat) (c:L.length=N+1) (j:i<=N) (e:cur.take (L.length*3)=bQ L) (hl:(N+1)*3<=cur.length) (a:List ZS) (h:a.length=3) :
 ((cur.take (i*3)++(bQ L).drop ((i+1)*3)++cur.drop (i*3+((bQ L).drop ((i+1)*3)).length)).take (N*3)++a++(cur.take (i*3)++(bQ L).drop ((i+1)*3)++cur.drop (i*3+((bQ L).drop ((i+1)*3)).length)).drop (N*3+a.length)).take (N*3)=bQ (L.take i++L.drop (i+1)) /\
 ((cur.take (i*3)++(bQ L).drop ((i+1)*3)++cur.drop (i*3+((bQ L).drop ((i+1)*3)).length)).take (N*3)++a++(cur.take (i*3)++(bQ L).drop ((i+1)*3)++cur.drop (i*3+((bQ L).drop ((i+1)*3)).length)).drop (N*3+a.length)).length=cur.length:=by
 have g:((bQ L).drop ((i+1)*3)).length=(N-i)*3:=by rw [Uj,bY,c];omega
 have d:cur.take (i*3)=bQ (L.take i):=by
  rw [<- Co,<- e,Yx,V5 (by omega)]
 have f:(cur.take (i*3)++(bQ L).drop ((i+1)*3)).length=N*3:=by rw [T8,Ui,g];omega
 have b:(cur.take (i*3)++(bQ L).drop ((i+1)*3)++cur.drop (i*3+((bQ L).drop ((i+1)*3)).length)).take (N*3)=cur.take (i*3)++(bQ L).drop ((i+1)*3):=by
  conv=>lhs;rw [<- f]
  exact XV
 constructor
 . rw [b,Uz,VN (by omega),UD (by omega),d,ub,iS]
 . rw [b];simp only [T8,Uj,Ui,bY,h,c];omega
theorem ED {cur:Array ZS} {L:List (Ob×ZS)} (T:w.heap[g]?=ZW (Z4 cur 130 (0,0))) (X:base<=g) (Z:cur.size=cap*3) (C:cur.toList.take (L.length*3)=bQ L) (R:∀ u∈bQ L,u.oneCell'=ZV) (F:L.length=N+1) (U:i<=N) (k8:L.length<=cap) (kc:cap<=9223372036854775807) (hl:L.length<=10000) :
 ZR ZN 116 #[Z5 (ZW ⟨g,0,ZX⟩) L.length cap,Z7 Z9 (i:Nat),Z7 Z9 ((i:Int)+1)] w λe w'=>e=Z3 (Z5 (ZW ⟨g,0,ZX⟩) N cap)/\Below base w w'/\∃ a,aj w' g 130 a/\a.length=cap*3/\a.take (N*3)=bQ (L.take i++L.drop (i+1)):=by
 obtain ⟨Y,K,Q,t,hv⟩:=Us Tryz.RZ;have l:aj w g 130 cur.toList:=by unfold aj;exact T
 have n:cur.toList.length=cap*3:=by simpa using Z
 have s:((bQ L).drop ((i+1)*3)).length=(N-i)*3:=by rw [Uj,bY,F];omega
 have O:∀ u∈(bQ L).drop ((i+1)*3),u.oneCell'=ZV:=λu A=>R u (US A);have M:∀ j u,(bQ L)[j]?=ZW u->w.drew.cell? ⟨g,j,ZX⟩=ZW u:=λj u b=>by
  have h2:w.cell? ⟨g,j,ZX⟩=ZW u:=by
   refine l.cell ?_;have kb:j<L.length*3:=(by obtain ⟨q,_⟩:=U1.1 b;rwa [bY] at q);rw [<- C,VF kb] at b;exact b
  exact h2
 have S:∀ d,Src ZN 3 113 (Z5 (ZW ⟨g,if cap=i+1 then 0 else (i+1)*3,ZX⟩) (N-i) d) (N-i) ((bQ L).drop ((i+1)*3)) w.drew:=λd=>by
  refine U7 w.drew Vn _ (N-i) d _ s (λj u b=>?_) O;rw [U9];split
  . rename_i v
    have:N-i=0:=by omega
    rw [this] at s;have:=UP (by omega:((bQ L).drop ((i+1)*3)).length=0);rw [this] at b;simp at b
  . rw [VZ] at b;exact M _ _ b
 have D:∀ m d,(Builtin.append_ #[113,113] m #[Z5 (ZW ⟨g,0,ZX⟩) i cap,Z5 (ZW ⟨g,if cap=i+1 then 0 else (i+1)*3,ZX⟩) (N-i) d]).run ZN w.drew=.ok (Z5 (ZW ⟨g,0,ZX⟩) N cap) (w.drew.setCells g (i*3) ((bQ L).drop ((i+1)*3))):=λm d=>by
  have hs:Src ZN Y.size 113 (Z5 (ZW ⟨g,if cap=i+1 then 0 else (i+1)*3,ZX⟩) (N-i) d) (N-i) ((bQ L).drop ((i+1)*3)) w.drew:=by rw [t];exact S d
  have h:=run_append_room_src (P:=ZN) (w:=w.drew) 113 113 m 130 Y Vn K g 0 i cap _ (N-i) _ hs (by omega) (λj b=>by
   rw [t];have:=l.cell (Ua (by rw [n];rw [s] at b;omega:0+i*3+j<cur.toList.length));show (w.cell? _).isSome=ZV;rw [this];rfl) (λj b=>l.R3 _)
  rw [t,Ue,show i+(N-i)=N by omega] at h;exact h
 have r:aj (w.drew.setCells g (i*3) ((bQ L).drop ((i+1)*3))) g 130 _:=aj.set (w:=w.drew) l (i*3) ((bQ L).drop ((i+1)*3)) (by rw [s,n];omega);obtain ⟨p,G⟩:=nM (w.drew.setCells g (i*3) ((bQ L).drop ((i+1)*3)));have I:Below base w p:=by rw [<- G];exact (TY base w).drew.grown (cy _ _ _ _) (by show base<=w.heap.size;have:=l.lt;omega) (λk e=>by cases e;exact X)
 rw [G] at D r;obtain ⟨c1,J⟩:=nM (cur.toList.take (i*3)++(bQ L).drop ((i+1)*3)++cur.toList.drop (i*3+((bQ L).drop ((i+1)*3)).length));obtain ⟨f,y,x,k9⟩:∃ f,(Builtin.zeroCells (Value.agg #[Z0 YD,Z7 Z9 0,Z5 ZX 0 0]).cells 1).toList=f/\f.length=3/\∀ u∈f,u.oneCell'=ZV:=by
  refine ⟨[Z0 YD,Z7 Z9 0,Z5 ZX 0 0],by kernel_rfl,rfl,?_⟩;intro u A;simp only [Ur,WK,or_false] at A;rcases A with rfl|rfl|rfl<;>rfl
 have B:=LJ cur.toList L i N F U C (by rw [n];omega) f x;rw [J] at r B;have E:c1.length=cap*3:=by rw [<- J];simp only [T8,Uj,Ui,bY,n];omega
 have ka:∀ m c,(Builtin.clear_ #[113] m #[Z5 (ZW ⟨g,N*3,ZX⟩) 1 c]).run ZN p=.ok (ZZ #[]) (p.setCells g (N*3) f):=λm c=>by
  have h:=tZ (P:=ZN) p 113 130 m g (N*3) 1 c 130 c1 Vn (z:=.agg #[Z0 YD,Z7 Z9 0,Z5 ZX 0 0]) (λw=>by simp [zeroValue,typeInfo,K,Q]) (by omega) r (by rw [y,x,E];omega) (by rw [y];exact k9);rw [y] at h;exact h
 have V:=r.set (N*3) f (by rw [x,E];omega);have W:Below base w (p.setCells g (N*3) f):=I.grown (cy _ _ _ _) (TW (by have:=l.lt;omega) I.size) (λk e=>by cases e;exact X);have H:=a5 V W B n;have o:=al D;rw [F] at k8 hl ⊢;have k1:(0:Int)<=(i:Int)+1:=by omega
 have k2:((i:Int)+1).toNat=i+1:=by omega
 have k3:¬ cap=N:=by omega
 have k4:i<=N+1:=by omega
 have k5:(i:Int)<=(N:Int)+1:=by omega
 clear l n s O M S D r G I J y x k9 B E V W T Z C R K Q t hv;by_cases v:cap=i+1
 . rw [if_pos v] at o;obtain rfl:i=N:=(by omega);subst v;rw [Wx] at o;clear k8 U k3;go_enter func116,ntmps116;go_wp2;go_region_law (refine lZ rfl _ _ 113 113 rfl _ _ (by simp [Act.eval,Act.put]) (by simp [Act.eval,Act.put]) (o.out _ 0) ?_)
   go_wp2;go_ret;exact ⟨rfl,H.out.2.1,_,H.out.1,H.out.2.2.1.2.trans H.out.2.2.2,H.out.2.2.1.1⟩
 . rw [if_neg v] at o;have k6:i<=cap:=(by omega);have k7:(i:Int)<=(cap:Int):=(by omega);go_enter func116,ntmps116;go_wp2;go_region_law (refine lZ rfl _ _ 113 113 rfl _ _ (by simp [Act.eval,Act.put]) (by simp [Act.eval,Act.put]) (o.out _ (cap-(i+1))) ?_)
   go_wp2;go_ret;exact ⟨rfl,H.out.2.1,_,H.out.1,H.out.2.2.1.2.trans H.out.2.2.2,H.out.2.2.1.1⟩
theorem uw {os:List Ob} (o:eY K w v os) (S:os.length<=9999) (hK:∀ k,w.heap.size<=k->K k) {i:Nat} (Q:i<os.length) :
 ZR ZN 82 #[v,Z7 Z9 (i:Nat)] w (uv K w (os.take i++os.drop (i+1))):=by
 have s:=oL o (by omega);have t:∀ (W:ZT) (u:ZS) (L:List (Ob×ZS)),L.map (·.1)=os->NV K w L->W.ownsRow w.heap.size 130 3 u L.length (bQ L)->bW w W->ZR ZN 116 #[u,Z7 Z9 (i:Nat),Z7 Z9 ((i:Int)+1)] W (uv K w (os.take i++os.drop (i+1))):=λW u L b a ho c=>by
  have R:L.length=os.length:=by rw [<- b,T7]
  rcases ho.2 with ⟨rfl,P⟩|⟨g,cap,cur,rfl,q,H,O,J,M,F⟩
  . omega
  . have n:cap<=9223372036854775807:=(by unfold maxLen at J;omega);obtain ⟨N,G⟩:∃ N,L.length=N+1:=⟨L.length-1,by omega⟩;refine (ED H q M F a.one G (by omega) O n (by omega)).mono ?_;rintro e w' ⟨rfl,I,l,C,D,E⟩;have d:bW w w':=c.trans I;have f:N=(L.take i++L.drop (i+1)).length:=(by simp;omega);refine ⟨_,rfl,?_,d⟩;have x:=zR C q f (by omega) n D E;have B:(L.take i++L.drop (i+1)).map (·.1)=os.take i++os.drop (i+1):=(by rw [Uw,Wr,Ws,b]);rw [<- B,f];rw [f] at x;refine ud x (by omega) hK (λy z=>?_);rw [Uf] at z;rcases z with h|h
    . exact (a y (UN h)).keep (eB.RT d)
    . exact (a y (US h)).keep (eB.RT d)
 have A:=al t;clear t o hK;go_enter func82,ntmps82;go_wp2_with fail;refine s.mono ?_;rintro e w1 ⟨u,L,rfl,b,a,ho,c⟩;have r:=A.out w1 u L b a ho c;clear s b a ho c;go_wp2_with fail;refine r.mono ?_;rintro e w2 ⟨u2,rfl,m,p⟩;have j:=au m p;clear m p r;go_wp2;go_ret;exact ⟨_,rfl,j.out.1,j.out.2⟩
section
def ry (T:ZO):Prop:=T=189\/T=237\/T=234\/T=292
structure aU where
 ps:Nat
 ho:Nat
 bl:Nat->Prop
 S:ZT->Prop
 keep:∀ w w',S w->(∀ k,bl k->w'.heap[k]?=w.heap[k]?)->S w'
 kd:∀ w,S w->∀ k,bl k->∀ cs T z,w.heap[k]?=ZW (Z4 cs T z)->ry T
 lt:∀ w,S w->∀ k,bl k->k<w.heap.size
 cl:∀ w,S w->∀ k,bl k->k+2=ps\/∃ cs T z,w.heap[k]?=ZW (Z4 cs T z)
structure aZ (w:ZT) (ar v p:Nat) (ps:aU) (D L G t:Nat) (pg ob:ZS) (P:a8) (xs:aY) (A:aH) (F:aR):Prop where
 arc:bh w ar v D L G t (P.getD 0 0) (an xs.os).length pg ob ZU
 vol:pH w v p D L G ps.ps ps.ho A F
 nar:¬ F.S ar
 vlt:3<=v/\v<ar
 disk:cA A D L G t P xs
 pgs:br (λk=>ar<k/\¬ F.S k/\¬ ps.bl k) w pg P
 cat:eY (λk=>ar<k/\¬ F.S k/\¬ ps.bl k) w ob xs.os
 nb:A.nb<=1000
 turn:t<=1000000
 kit:ps.S w
 apt:∀ k,ps.bl k->3<=k/\k≠ar/\k≠v/\¬ F.S k
 hol:A.here->ps.ho=0
 hl:ps.ho<2^(D+L+G)
def br.any (h:br K w v l):br (λk=>k<w.heap.size) w v l:=by
 obtain ⟨ao,c,d,e,f⟩:=h;refine ⟨ao,c,d,e,λhl=>?_⟩;obtain ⟨b,off,g,j,a,i⟩:=f hl;exact ⟨b,off,g,a,a,i⟩
def eY.any {os:List Ob} (h:eY K w v os):eY (λk=>k<w.heap.size) w v os:=by
 obtain ⟨ao,c,d,e,f⟩:=h;refine ⟨ao,c,d,e,λhl=>?_⟩;obtain ⟨b,off,j,r,a,l⟩:=f hl;refine ⟨b,off,j,a,a,λi g=>?_⟩;obtain ⟨q,m,n,o,p⟩:=l i g;exact ⟨q,m,n,o,p.any⟩
def ux:∀ {xs:aY},(∀ x∈xs,lg D x)->xs.os.length<=(ak xs.os).length
 | [],_=>TV _
 | x::xs,h=>by
  have:=ux (xs:=xs) (λy c=>h y (by simp [c]));have b:=(h x (by simp)).st;have:1<=x.1.RQ.length:=by rw [b];exact YK _ _
  have e:ak (aY.os (x::xs))=x.1.RQ++ak (aY.os xs):=by simp [ak,aY.os]
  have a:(aY.os (x::xs)).length=(aY.os xs).length+1:=by simp [aY.os]
  rw [e,a,T8];omega
section
variable {w:ZT} {ar v p D L G t:Nat} {ps:aU} {pg ob:ZS} {P:a8} {xs:aY} {A:aH} {F:aR}
def aZ.vne (h:aZ w ar v p ps D L G t pg ob P xs A F):v≠ar:=by have:=h.vlt;omega
def aZ.n0 (h:aZ w ar v p ps D L G t pg ob P xs A F):0<A.n:=by have:=h.vol.n;have:=h.vol.par.d1;omega
def aZ.Sa (h:aZ w ar v p ps D L G t pg ob P xs A F):xs.os.length<=1000/\(ak xs.os).length<=1000/\P.length<=1000:=by
 have:=ux h.disk.fits;have:=h.disk.room;have:=h.nb;omega
def aZ.packL_le (h:aZ w ar v p ps D L G t pg ob P xs A F):(an xs.os).length<=1000000:=by
 have:=jh h.vol.par.d1 h.disk.fits;have:=h.Sa.1;have:xs.os.length=xs.length:=by simp [aY.os]
 have:1500/(D*44)<=34:=by
  have:=h.vol.par.d1;have:1500/(D*44)<=1500/44:=YC (by omega) (by decide);omega
 have:xs.length*(19+4*(1500/(D*44)+1))<=1000*(19+4*(34+1)):=Xo (by omega) (by omega);omega
def aZ.below (h:aZ w ar v p ps D L G t pg ob P xs A F) {w':ZT} (a:bW w w'):aZ w' ar v p ps D L G t pg ob P xs A F:=
 { h with arc:=h.arc.keep (a.block _ h.arc.lt),vol:=h.vol.below a lR,pgs:=h.pgs.keep (eB.RT a),cat:=h.cat.keep (eB.RT a),kit:=ps.keep _ _ h.kit λk b=>a.block k (ps.lt _ h.kit k b) }
def eu (xs:aY):aQ xs.os=xs.names:=by simp [aQ,aY.os,aY.names]
def aZ.find (h:aZ w ar v p ps D L G t pg ob P xs A F) (x:ByteArray) :
 ZR ZN 77 #[ob,Z0 x] w λe w'=>e=Z3 (ZZ #[Z7 Z9 (aJ xs.names x:Nat),Z2 (mP xs.os x)])/\bW w w':=by
 have a:Up (aQ xs.os):=by rw [eu];exact h.disk.up
 have:=LI h.cat.any (by have:=h.Sa.1;omega) a x;rwa [eu] at this
def aZ.there (h:aZ w ar v p ps D L G t pg ob P xs A F) {x:ByteArray} (b:x∈xs.names):mP xs.os x=ZV:=by
 have a:Up (aQ xs.os):=by rw [eu];exact h.disk.up
 exact (Cv a x).2 (by rw [eu];exact b)
def aZ.Sv (h:aZ w ar v p ps D L G t pg ob P xs A F) {x:ByteArray} (b:x∉xs.names):mP xs.os x=ZU:=by
 have a:Up (aQ xs.os):=by rw [eu];exact h.disk.up
 cases hi:mP xs.os x
 . rfl
 . exact absurd ((Cv a x).1 hi) (by rw [eu];exact b)
end
def br.wk (h:br K w v l) (g:∀ k,K k->k<w.heap.size->K' k):br K' w v l:=by
 obtain ⟨ao,c,d,e,f⟩:=h;refine ⟨ao,c,d,e,λhl=>?_⟩;obtain ⟨b,off,i,j,a,m⟩:=f hl;exact ⟨b,off,i,g _ j a,a,m⟩
def eY.wk {os:List Ob} (h:eY K w v os) (a:∀ k,K k->k<w.heap.size->K' k):eY K' w v os:=by
 obtain ⟨ao,c,e,f,g⟩:=h;refine ⟨ao,c,e,f,λhl=>?_⟩;obtain ⟨b,off,l,m,d,n⟩:=g hl;refine ⟨b,off,l,a _ m d,d,λi j=>?_⟩;obtain ⟨s,o,p,q,r⟩:=n i j;exact ⟨s,o,p,q,r.wk a⟩
end
theorem m4 (n m:Nat) (hn:n<=1000000) (f:1<=m/\m<=1000000) (w:ZT):ZR ZN 103 #[Z7 Z9 n,Z7 Z9 m] w λe w'=>e=Z3 (Z7 Z9 ((max 1 ((n+m-1)/m):Nat):Int))/\w'=w:=by
 have a:=sX n m (by omega) f w;obtain ⟨q,b⟩:=nM ((n+m-1)/m);rw [b] at a;rw [b];have g:∀ (d:ZO) (w:ZT),(Builtin.max_ #[3,3] d #[Z7 Z9 1,Z7 Z9 (q:Int)]).run ZN w=.ok (Z7 Z9 ((max 1 q:Nat):Int)) w:=λd w=>by
  rw [lB];congr 2;split<;>omega
 clear b;go_enter func103,ntmps103;go_wp2_with fail;refine a.mono ?_;rintro e w' ⟨rfl,c⟩;obtain rfl:w=w':=c.symm;clear a c;go_wp2;go_ret;exact ⟨rfl,rfl⟩
theorem IF (ao:Option ZQ) (n c a bb:Nat) (i:a<=bb) (j:bb<=c):∃ d,(∀ w,(Instr.sliceAt 31 (.slice ao n c) (ZW (Z7 Z9 (a:Nat))) (ZW (Z7 Z9 (bb:Nat))) ZX).run ZN w=.ok (.slice d (bb-a) (c-a)) w)/\∀ b off,ao=ZW ⟨b,off,ZX⟩->c≠a->d=ZW ⟨b,off+a,ZX⟩:=by
 match ao with
 | none=>exact ⟨ZX,λw=>by go_simp,λ_ _ h=>by cases h⟩
 | some ⟨b,off,x⟩=>exact ⟨if c=a then ZW ⟨b,off,x⟩ else ZW (Addr.add ⟨b,off,x⟩ a),λw=>by go_simp,λg e h f=>by rw [if_neg f];cases h;rw [U9]⟩
def Qs {a':Option ZQ} (h:Bs w (.slice ao n c) d) (hn:n=d.length) {ks m a:Nat} (q:∀ b off,ao=ZW ⟨b,off,ZX⟩->c≠ks->a'=ZW ⟨b,off+ks,ZX⟩) (f:((d.drop ks).take m).length=a) (z:ks+a<=n):Bs w (.slice a' a (c-ks)) ((d.drop ks).take m):=by
 obtain ⟨g,t,e,u,v,l,o⟩:=h;simp only [Vt] at e;obtain ⟨rfl,_,rfl⟩:=e;refine ⟨_,_,by rw [f],by omega,by omega,λx s=>l x (US (UN s)),λhl=>?_⟩;obtain ⟨b,off,i,r⟩:=o (λe=>by rw [e] at hl;simp at hl);have:0<a:=by rw [<- f];exact XY.2 hl
 refine ⟨b,off+ks,q b off i (by omega),λk j=>?_⟩;have p:k<m:=by rw [Ui] at j;omega
 rw [Vu,r (ks+k) (by omega)];simp only [T5,VF p,VZ]
theorem rz {ar v L G ps ho D' L' G' f nn:Nat} {pg ob:ZS} {ofb:Bool} {A:aH} (s:bh w ar v D' L' G' t f nn pg ob ofb) (l:pH w v p D L G ps ho A F) (k8:¬ F.S ar)
 (nm:ByteArray) (sv:ZS) (S:a8) (C:br (λk=>¬ F.S k) w sv S) (k7:∀ x∈S,x<A.nb) (ao:Option ZQ) (c:Nat) (d:a8) (N:∀ w',aa F.S w w'->Bs w' (.slice ao d.length c) d) (ke:d.length<=1500) (kc:d.length<=c) (hp:∀ k,k<S.length->k*(D*44)<=d.length) :
 ZR ZN 107 #[Z6 (ZW ⟨ar,0,ZX⟩),.agg #[Z0 nm,Z7 Z9 (d.length:Nat),sv],.slice ao d.length c] w (Eo w p D L G S (cZ D d) A F):=by
 have kv:=l.par.d1;have hD:=l.par.d;obtain ⟨O,P,rfl,hq,_⟩:=id C;obtain ⟨c0,_⟩:=s.cells;have k5:=λW (hW:bW w W)=>dA (l.vol.keep (hW.block _ l.vol.lt)) (by omega);obtain ⟨a,M⟩:=nM (D*44);have ko:44<=a/\a<=528:=by omega
 have o:bW w (w.alloc (Z4 #[Z0 nm,Z7 Z9 (d.length:Nat),.slice O S.length P] 130)):=bA w _;have m:aj (w.alloc (Z4 #[Z0 nm,Z7 Z9 (d.length:Nat),.slice O S.length P] 130)) w.heap.size 130 [Z0 nm,Z7 Z9 (d.length:Nat),.slice O S.length P]:=UG w _;obtain ⟨n,r⟩:=nM (d.length);rw [r] at o m kc ke ⊢;have g2:=m.cell (j:=2) (u:=.slice O S.length P) rfl;have J:=(o.cell (p:=⟨ar,0,ZX⟩) s.lt).trans c0;have T:=k5 _ o;obtain ⟨w1,kp⟩:=nM (w.alloc (Z4 #[Z0 nm,Z7 Z9 (n:Nat),.slice O S.length P] 130));rw [kp] at T g2 J o m;rw [M] at T hp;have E:=hide8 s l C N o m r M;clear s l C N k5 o m r c0;go_enter func107,ntmps107;go_wp2_with fail;refine T.mono ?_;rintro e Q ⟨rfl,rfl⟩;clear T;go_wp2;go_loopw [19] (λi wr=>∃ k:Nat,i=Z7 Z9 (k:Nat)/\k<=S.length/\aB wr p (A.wrTo D L G S (cZ D d) k) F/\aa (F.S) Q wr) (λi _=>S.length-(intOf i).toNat)
 case atStart=>exact ⟨0,rfl,T9 _,E.out.2.1.arr.below E.out.2.2.2.2.1 lR,aa.refl _ _⟩
 case round=>
  clear g2 J;obtain ⟨k,rfl,hk,U,B⟩:=hrel;by_cases z:k<S.length
  . obtain ⟨s,l,C,N,o,m,r,M⟩:=E.out;have K:aa (F.S) w wr:=(aa.RS o _).trans B;obtain ⟨sb,so,hb,e1,hs⟩:=rY (C.keep (eB.R9 K)) (λe=>by rw [e] at z;simp at z);simp only [Vt] at e1;obtain ⟨rfl,_,rfl⟩:=e1;have g1:=hs k z;obtain ⟨y,Y⟩:=nM (S[k]);rw [Y] at g1;have kr:y<A.nb:=(by rw [<- Y];exact k7 _ (T4 z));have hg:=s.keep (K.block _ s.lt k8);obtain ⟨ca,_⟩:=hg.cells;have km:¬ F.S w.heap.size:=λh=>by have:=l.arr.RU h;omega
    have hh:aj wr w.heap.size 130 _:=m.keep (B.block _ m.lt km);have cz:=hh.cell (j:=1) (u:=Z7 Z9 (n:Nat)) rfl;have hz:=hp k z;obtain ⟨q,k0⟩:=nM (k*a);obtain ⟨b,hi⟩:=nM ((k+1)*a);have h7:(k+1)*a=k*a+a:=WH k a;have ki:(k:Int)*(a:Int)=((k*a:Nat):Int):=(by rw [XM]);have kj:((k:Int)+1)*(a:Int)=(((k+1)*a:Nat):Int):=(by rw [XM];rfl);rw [k0] at ki h7 hz;rw [hi] at kj h7;rw [r] at hz;obtain ⟨bb,kb⟩:=nM (min b n);have k9:q<=bb:=(by omega);have ka:bb<=c:=(by omega);have hx:cZ D d k=(d.drop q).take a:=(by unfold cZ;rw [M,k0]);have Z:((d.drop q).take a).length=bb-q:=(by rw [Ui,Uj];omega);have kk:∀ H ty w,(Builtin.min_ H ty #[Z7 Z9 (b:Nat),Z7 Z9 (n:Nat)]).run ZN w=.ok (Z7 Z9 (bb:Nat)) w:=λH ty w=>by
     rw [gy];by_cases R:((n:Nat):Int)<((b:Nat):Int)
     . rw [if_pos R,show bb=n by omega]
     . rw [if_neg R,show bb=b by omega]
    obtain ⟨a',ky,hr⟩:=IF ao n c q bb k9 ka;have X:=gQ A D L G S (cZ D d) k;have k6:ZR ZN 144 #[Z6 (ZW ⟨v,0,ZX⟩),Z7 Z9 y,.slice a' (bb-q) (c-q)] wr.drew λe w'=>(∃ I,e=Z3 I/\LsE A I)/\aB w' p (A.wrTo D L G S (cZ D d) (k+1)) F/\aa F.S Q w':=by
     have hv:=N wr.drew (K.trans (aa.drew _));rw [r] at hv;refine (ld (l.turn (K.trans (aa.drew _)) (U.keep λ_ _=>rfl) X.1) y (by rw [X.2.1];exact kr) _ _ (Qs hv r.symm hr Z (by omega)) (by rw [Z];omega)).mono ?_;rintro e w' ⟨⟨I,rfl,V⟩,R,h2⟩;refine ⟨⟨I,rfl,V.imp_right λh=>⟨h.1,λc=>h.2 (X.2.2.2 c)⟩⟩,?_,B.trans ((aa.drew _).trans h2)⟩;rw [aH.wrTo,hx,oN z,Y];exact R
    have HW:=aE k6 hg hh;have kx:IntKind.i64.wrap ((k:Int)+1)=(k:Int)+1:=(by rw [Ut];omega);have kg:IntKind.i64.wrap (q:Int)=(q:Int):=(by rw [Ut];omega);have kh:IntKind.i64.wrap (b:Int)=(b:Int):=(by rw [Ut];omega);clear hr k6 hg hh B K U X hx Z hs Y s l C N o m r M kb h7;go_wp2;go_region_with (go_at_call 144;refine HW.out.1.mono ?_;rintro e w2 ⟨⟨I,rfl,V⟩,hj,hm⟩;have g:=aE hj hm V;clear hj hm V);all_goals (
     rcases g.out.2.2 with rfl|⟨rfl,_⟩
     . go_wp2;go_roundw
       case rel=>exact ⟨k+1,by go_num,by omega,g.out.1,g.out.2.1⟩
       case measure=>simp only [intOf];omega
     . unfold fJ at g ⊢;go_wp2;go_ret;exact ⟨k+1,_,rfl,by omega,g.out.1,(aa.RS E.out.2.2.2.2.1 _).trans g.out.2.1,.inr ⟨rfl,(g.out.2.2.resolve_left (by simp)).2⟩⟩)
  . have kf:k=S.length:=(by omega);subst kf;have g:=au U B;clear U B;go_wp2;go_ret;exact ⟨_,_,rfl,TV _,g.out.1,(aa.RS E.out.2.2.2.2.1 _).trans g.out.2,.inl ⟨rfl,rfl⟩⟩
def bK (D L G lost:Int) (rd:Bool):ZS:=.agg #[Z7 Z9 D,Z7 Z9 L,Z7 Z9 G,Z7 Z8 lost,Z2 rd]
def oP (e:Bool) (D L G lost:Int) (rd:Bool) (w:ZT):(Instr.checkKey e 10000 184 (bK D L G lost rd)).run ZN w=.ok () w:=by kernel_rfl
theorem N0 (D L G lost:Int) (rd:Bool) (w:ZT):(Op.equal 184 (bK D L G lost rd) (bK D L G lost rd)).run ZN w=.ok ZV w:=by
 unfold bK Op.equal Op.maxDepth;go_simp
def uy {es:Array MapEntry} (h:w.heap[m]?=ZW (.map es n)):(getObj m).run ZN w=.ok (.map es n) w:=by simp [getObj,Sem.run,h]
def LK {es:Array MapEntry} (h:w.heap[m]?=ZW (.map es n)) (o:Obj):(setObj m o).run ZN w=.ok () (w.putObj m o):=by simp [setObj,Sem.run,h,World.putObj]
def jy (w:ZT) (n:Nat) (D L G lost:Int) (rd:Bool) (regs:Int) (steps:ZS) (ne ol:ZS):Prop:=w.heap[n]?=ZW (Z4 (mV D L G lost rd regs steps ne ol) 234 (0,0))
def jy.lt {D:Int} {ol:ZS} (h:jy w n D L G lost rd regs steps ne ol):n<w.heap.size:=(TX.1 h).1
def jy.cells {D:Int} {ol:ZS} (h:jy w n D L G lost rd regs steps ne ol):w.cell? ⟨n,7,ZX⟩=ZW ne/\w.cell? ⟨n,8,ZX⟩=ZW ol/\w.frozen? ⟨n,7,ZX⟩=ZU/\w.frozen? ⟨n,8,ZX⟩=ZU:=by
 have a:w.heap[n]?=ZW (Z4 (mV D L G lost rd regs steps ne ol) 234 (0,0)):=h;simp [World.cell?,World.frozen?,a,mV]
def jy.SS {D:Int} {ol:ZS} (h:jy w n D L G lost rd regs steps ne ol) (x:ZS):jy (w.setCell ⟨n,7,ZX⟩ x) n D L G lost rd regs steps x ol:=ai (j:=7) h x
def jy.SH {D:Int} {ol:ZS} (h:jy w n D L G lost rd regs steps ne ol) (x:ZS):jy (w.setCell ⟨n,8,ZX⟩ x) n D L G lost rd regs steps ne x:=ai (j:=8) h x
def jy.keep {D:Int} {ol:ZS} (h:jy w n D L G lost rd regs steps ne ol) (e:w'.heap[n]?=w.heap[n]?):jy w' n D L G lost rd regs steps ne ol:=e.trans h
def iq (w:ZT) (b i j:Nat) (x y:ZS):aa (λk=>k=b) w ((w.setCell ⟨b,i,ZX⟩ x).setCell ⟨b,j,ZX⟩ y):=by
 have a:aa (λk=>k=b) w (w.setCell ⟨b,i,ZX⟩ x):=aa.setCell _ _ _ rfl;have c:aa (λk=>k=b) (w.setCell ⟨b,i,ZX⟩ x) ((w.setCell ⟨b,i,ZX⟩ x).setCell ⟨b,j,ZX⟩ y):=aa.setCell _ _ _ rfl;exact a.trans c
def RH (w:ZT) (sb n:Nat):Prop:=jy w sb 0 0 0 0 ZU 0 (Z5 ZX 0 0) (Z6 (ZW ⟨n,0,ZX⟩)) (Z6 (ZW ⟨n,0,ZX⟩))
def fE (w:ZT) (sb:Nat) (room:Int):Prop:=w.heap[sb+1+1]?=ZW (Z4 #[Z7 Z9 room,.map (ZW (sb+1)),Z6 (ZW ⟨sb,0,ZX⟩)] 237 (0,0))
def jy.value {D:Int} {ol:ZS} (h:jy w n D L G lost rd regs steps ne ol):w.cell? ⟨n,5,ZX⟩=ZW (Z7 Z9 regs)/\w.cell? ⟨n,6,ZX⟩=ZW steps:=by
 have a:w.heap[n]?=ZW (Z4 (mV D L G lost rd regs steps ne ol) 234 (0,0)):=h;simp [World.cell?,a,mV]
def gd (hl:fE w sb room):w.cell? ⟨sb+1+1,0,ZX⟩=ZW (Z7 Z9 room)/\w.cell? ⟨sb+1+1,1,ZX⟩=ZW (.map (ZW (sb+1)))/\w.cell? ⟨sb+1+1,2,ZX⟩=ZW (Z6 (ZW ⟨sb,0,ZX⟩)):=by
 have a:w.heap[sb+1+1]?=_:=hl;simp [World.cell?,a]
def aa.putObj (w:ZT) (m:Nat) (o:Obj) (h:S m):aa S w (w.putObj m o):=⟨rfl,rfl,rfl,by simp [World.putObj],λk _ a=>UV (λe=>a (e▸h))⟩
structure vL (w w2:ZT) (D L G lost:Int) (rd:Bool):Prop where
 par:w2.heap[w.heap.size]?=ZW (Z4 #[Z7 Z9 D,Z7 Z9 L,Z7 Z9 G,Z7 Z8 lost,Z2 rd] 184 (0,0))
 res:w2.heap[w.heap.size+1]?=ZW (Z4 #[Z7 Z9 0,Z5 ZX 0 0] 187 (0,0))
 below:bW w w2
 size:w.heap.size+2<=w2.heap.size
def vL.new (w:ZT) (D L G lost:Int) (rd:Bool):vL w ((w.alloc (Z4 #[Z7 Z9 D,Z7 Z9 L,Z7 Z9 G,Z7 Z8 lost,Z2 rd] 184)).alloc (Z4 #[Z7 Z9 0,Z5 ZX 0 0] 187)) D L G lost rd:=by
 refine ⟨(Ux _ _ _ (by simp)).trans (Uc _ _),?_,(bA w _).alloc (by simp) _,by simp⟩;have:=Uc (w.alloc (Z4 #[Z7 Z9 D,Z7 Z9 L,Z7 Z9 G,Z7 Z8 lost,Z2 rd] 184)) (Z4 #[Z7 Z9 0,Z5 ZX 0 0] 187);rwa [Uq] at this
def vL.mono {D:Int} (h:vL w w2 D L G lost rd) (a:bW w2 w3):vL w w3 D L G lost rd:=by
 have:=h.size;exact ⟨(a.block _ (by omega)).trans h.par,(a.block _ (by omega)).trans h.res,h.below.trans (a.mono h.below.size),TW h.size a.size⟩
def vL.cells {D:Int} (h:vL w w2 D L G lost rd):w2.cell? ⟨w.heap.size,0,ZX⟩=ZW (Z7 Z9 D)/\w2.cell? ⟨w.heap.size,1,ZX⟩=ZW (Z7 Z9 L)/\w2.cell? ⟨w.heap.size,2,ZX⟩=ZW (Z7 Z9 G)/\w2.cell? ⟨w.heap.size,3,ZX⟩=ZW (Z7 Z8 lost)/\w2.cell? ⟨w.heap.size,4,ZX⟩=ZW (Z2 rd):=by
 have a:=h.par;simp [World.cell?,a]
def aa.after (a:bW w w2) (b:aa T w2 w3):aa T w w3:=⟨b.os.trans a.os,b.tape.trans a.tape,b.output.trans a.output,TW a.size b.size,λk c hn=>(b.block k (TZ c a.size) hn).trans (a.block k c)⟩
def nC (D L G s:Nat) (ao:Option ZQ) (m c:Nat) (e:ZP):Prop:=e=Z3 (ZZ #[.agg #[Z7 Z9 (1+((ab (aC (D+L+G) s)).length:Int)),.slice ao m c],.nilIface])
def pF.parts (h:pF w sb room):fE w sb room/\(∃ n,w.heap[sb+1]?=ZW (.map #[] n))/\RH w sb sb/\w.cell? ⟨sb+1+1+1,0,ZX⟩=ZW (Z6 (ZW ⟨sb+1+1,0,ZX⟩)):=by
 refine ⟨h.list,h.map,h.ends,?_⟩;have a:=h.R4;simp [World.cell?,a]
def LL (P:List St) (D c:List a8) (k:Nat) (h:(bI P k).k=0):bP P D c (k+1)=(bP P D c k).set (bI P k).a.toNat (D.getD (bI P k).b.toNat [])/\dq P D c (k+1)=dq P D c k:=by
 simp [bP,dq,dH,ik,h]
def N1 (P:List St) (D d:List a8) (k:Nat) (h:(bI P k).k=1):bP P D d (k+1)=(bP P D d k).set (bI P k).a.toNat (iK ((bP P D d k).getD (bI P k).a.toNat []) ((bP P D d k).getD (bI P k).b.toNat []) (bI P k).c)/\dq P D d (k+1)=dq P D d k:=by
 simp [bP,dq,dH,ik,h]
def N2 (P:List St) (D c:List a8) (k:Nat) (h:(bI P k).k=2):bP P D c (k+1)=bP P D c k/\dq P D c (k+1)=dq P D c k++[((bI P k).b,(bP P D c k).getD (bI P k).a.toNat [])]:=by
 simp [bP,dq,dH,ik,h]
def RnR (w0:ZT) (B:Nat) (P:List St) (D R0:List a8) (n r gR:Nat) (vO iv:ZS) (wr:ZT):Prop:=
 ∃ k T O,k<=P.length/\iv=Z7 Z9 (k:Nat)/\Rn w0 B P D R0 n r gR k vO T O wr
def Qt (regs:Int) (P:List St) (D:List a8) (gone:Nat) (w:ZT) (e:ZP) (w':ZT):Prop:=
 (iJ regs P D.length->gz P D gone->∃ v O,e=Z3 (ZZ #[v,.nilIface])/\mO 271 w' w.heap.size v O/\O.map (λq=>(q.1,q.2.2.2.take q.2.2.1))=dq P D (eJ regs.toNat (eo P D)) P.length) /\
 (iJ regs P D.length->¬ gz P D gone->e=Z3 (ZZ #[Z5 ZX 0 0,.iface 58 (Z7 Z9 2)]))/\(¬ iJ regs P D.length->e=Z3 (ZZ #[Z5 ZX 0 0,.iface 58 (Z7 Z9 4)]))/\bW w w'
def mO.weaken {t:ZO} {base':Nat} (h:mO t w base v O) (c:base'<=base):mO t w base' v O:=
 ⟨cP h.own c,λq d=>by obtain ⟨a,b⟩:=h.row q d;exact ⟨by omega,b⟩,h.nodup⟩
def Tryz.SU:(ZN.info? 271).map (λi=>(i.zero,i.size,i.bytes))=ZW (ZW (.agg #[Z7 Z9 0,Z5 ZX 0 0]),2,32):=by kernel_rfl
def N3 (w:ZT) (n:Nat) (hn:n=w.heap.size) (x y:ZS) (t:ZO):∀ j v,[x,y][j]?=ZW v->(w.alloc (Z4 #[x,y] t)).cell? ((⟨n,0,ZX⟩:ZQ).add j)=ZW v:=by
 subst hn;intro j v a;rw [jD];rcases j with _|_|j;all_goals simp at a
 all_goals subst a;simp
def aaJ (w:ZT) (k a b c:ZS) (t:ZO):∃ d,w.alloc (Z4 #[k,a,b,c] t)=d/\bW w d/\d.heap.size=w.heap.size+1/\d.cell? ⟨w.heap.size,1,ZX⟩=ZW a/\d.cell? ⟨w.heap.size,2,ZX⟩=ZW b/\d.cell? ⟨w.heap.size,3,ZX⟩=ZW c:=
 ⟨_,rfl,bA _ _,Ug _ _,by simp,by simp,by simp⟩
theorem N4 (regs:Int) (v:ZS) (P:List St) (R ci:Nat) (D:List a8) (gone:Nat) (w:ZT) (h:Ps .u8 w v P) (hP:∀ s∈P,yP s) (U:In w R D gone) (xd:R<w.heap.size) (q2:∀ l∈D,l.length<=100000) (hl:P.length<=5000) :
 ZR ZN 154 #[.agg #[Z7 Z9 regs,v],Z5 (ZW ⟨R,0,ZX⟩) D.length ci] w λe w'=>Qt regs P D gone w e w':=by
 obtain ⟨i0,x2,x9,xa,xb⟩:=Us Tryz.SU;have kf:bW w (w.alloc (Z4 #[Z7 Z9 regs,v] 187)):=bA _ _;have h0:=h.mono kf;obtain ⟨ao,c,rfl⟩:=h.slice;go_enter func154,ntmps154;go_wp2_with fail;refine (GN regs D.length _ P _ h0).mono ?_;rintro e w1 ⟨kr,ks,J⟩;try change Below _ _ _ at J
 rw [Ug] at J;obtain ⟨p0,p1⟩:=Ra J rfl;have x7:=J.size;try change Below _ _ _ at x7
 rw [Ug] at x7;have h5:=kf.trans (J.mono (by omega));by_cases I:iJ regs P D.length
 . have F:=kr I;subst F;obtain ⟨⟨g0,g1,g2⟩,hy⟩:=id I;obtain ⟨r,rfl⟩:∃ r:Nat,regs=(r:Int):=⟨regs.toNat,by omega⟩;have q8:=al I;have qp:=al hy;have hr:∀ i,i<P.length->(bI P i).k=0->0<=(bI P i).b/\(bI P i).b<(D.length:Int):=by
    intro i hi hk;rw [dO P i hi] at *;rcases hy i hi with h|h
    . exact ⟨h.2.2.2.1,h.2.2.2.2⟩
    . omega
   have q4:r<=32:=(by omega);have h1:=h.mono h5;have qc:=U.mono h5;clear I hy kr ks h0 J kf g0 g1;go_wp2_with fail;refine (pE _ P R ci D gone w1 h1 qc q2 hr hl).mono ?_;rintro e w2 ⟨kx,ky,k6⟩;have q0:=(k6.cell (Ub p0)).trans p0;have q1:=(k6.cell (Ub p1)).trans p1;have k7:=h5.trans (k6.mono (by omega));have xf:=k6.size;clear hr h1 qc p0 p1 h5 k6;by_cases C:gz P D gone
   . have F:=kx C;subst F;have qi:=GO C;have ka:=al C;have q6:=al (Px C);clear C kx ky;obtain ⟨n,hn⟩:=nM (eo P D);have HN:=al hn;rw [hn] at qi q6;rw [hn];clear hn;go_wp2_with fail;refine (zU r n w2 q4 qi).mono ?_;rintro e w3 ⟨y,T0,rfl,qe,qb,ko⟩;have x8:=ko.size;have hd:=(ko.cell (Ub q1)).trans q1;have qd:Rn w2 w2.heap.size P D (eJ r n) n r y 0 (Z5 ZX 0 0) T0 [] w3:=⟨qe,qb,λl hl=>by
      have:=VG (show l∈YL r (YL n 0) from hl);rw [this];simp,mO.nil _ _ _,rfl,λp _ q hq=>by simp at hq,ko,x8⟩
     have qa:=al qd;clear qd qe qb q0 q1;go_wp2;clear hd;go_loopw [10,37] (λvO iv wr=>RnR w2 w2.heap.size P D (eJ r n) n r y vO iv wr) (λ_ iv _=>P.length-(intOf iv).toNat)
     case atStart=>exact ⟨0,T0,[],T9 _,rfl,qa.out⟩
     case round=>
      clear qa;rename ZT=>wo;obtain ⟨k,T,O,hk,rfl,V⟩:=hrel;have xh:=V.size;have kp:=k7.trans (V.below.mono (by omega));by_cases H:k<P.length
      . rcases (h.mono kp).cases with ⟨rfl,_⟩|⟨b,off,cc,e,_,hc⟩
        . simp at H
        simp at e;obtain ⟨rfl,rfl⟩:=e;obtain ⟨d0,d1,d2,d3⟩:=hc k H;have hy:=qp.out k H;unfold iI at hy;have qh:=hP _ (T4 H);have k9:=dO P k H;have B:=al (LL P D (eJ r n) k);have W:=al (N1 P D (eJ r n) k);have Y:=al (N2 P D (eJ r n) k);have kb:=al (ka.out k H);have k0:=al (q6.out k H);have h4:Hid (Nd P D gone k↔((bI P k).k=0->¬ nX gone (bI P k).b.toNat/\fl P D (k+1)=ZW (D.getD (bI P k).b.toNat []).length/\(D.getD (bI P k).b.toNat []).length<=4096)):=Iff.rfl;rw [k9] at B W Y k0 h4;have qn:=al (U.mono kp);have HC:=al hc;have t:=al V;have HI:=al U;have HH:=al h;have xc:=al hP;clear hc V U h hP k9;have qj:=qh.2.2.2.2.2;clear qh;generalize P[k].k=sk at *;generalize P[k].a=sa at *;generalize P[k].b=sb at *;generalize P[k].c=K at *;obtain ⟨d,hz,z,xg,b1,b2,b3⟩:=aaJ wo (Z7 .u8 (sk:Int)) (Z7 Z9 sa) (Z7 Z9 sb) (Z7 .u8 (K:Int)) 292;have ki:=al (t.out.next z);rcases hy with ⟨kz,a0,a1,x0,x1⟩|⟨x3,a0,a1,x0,x1,xe⟩
        . obtain ⟨A,rfl⟩:∃ A:Nat,sa=(A:Int):=⟨sa.toNat,by omega⟩;obtain ⟨X,rfl⟩:∃ X:Nat,sb=(X:Int):=⟨sb.toNat,by omega⟩;have hA:A<r:=(by omega);have hX:X<D.length:=(by omega);obtain ⟨g,G,t1,u,o,E,t5,t6,t7,t8,t9⟩:=t.out.reg A hA;replace t1:=(z.cell (Ub t1)).trans t1
          replace u:=u.below z
          rw [Vy,Vy] at B;rw [Vy] at Y;rcases kz with rfl|rfl
          . have h6:Hid (wo.alloc (Z4 #[Z7 .u8 0,Z7 Z9 (A:Int),Z7 Z9 (X:Int),Z7 .u8 (K:Int)] 292)=d):=hz;have qg:D.getD X []=D[X]:=(by simp [hX]);have q3:=h4.out.1 kb.out rfl;have kg:=k0.out rfl;rw [Vy,qg] at q3 kg;rw [qg] at B;obtain ⟨ax,cx,u1,u2⟩:=(qn.out X hX).2 q3.1;have L:=(z.cell (Ub u1)).trans u1;have hb:=u2.mono z;have qk:∀ x∈D[X],x<256:=by
             obtain ⟨_,_,_,_,_,h,_⟩:=u2;exact h
            obtain ⟨wc,hh,ke,f⟩:=LC d.drew 3 g n n _ D[X] (ZW ax) cx u hb kg o;have HW:=al ((ki.out.next (show bW d d.drew from ⟨rfl,rfl,rfl,TV _,λ_ _=>rfl⟩)).write G o f ke kg qk (B.out rfl).1 (B.out rfl).2);rw [kg] at L hh;have kj:=al hh;have z1:=f.cell (show d.drew.cell? ⟨wo.heap.size,1,ZX⟩=_ from b1) (by simp;omega);have z2:=f.cell (show d.drew.cell? ⟨wo.heap.size,2,ZX⟩=_ from b2) (by simp;omega);have z3:=f.cell (show d.drew.cell? ⟨y,A,ZX⟩=_ from t1) (by simp;omega);have z4:=f.cell (show d.drew.cell? ⟨R,X,ZX⟩=_ from L) (by simp;omega);clear hh ke f u1 u2 hb G u o E B W Y kb k0 h4 q3 qk hz;go_wp2;rw [h6.out];go_region_held3 (λw'=>w'.cell? ⟨wo.heap.size,1,ZX⟩=ZW (Z7 Z9 (A:Int))/\w'.cell? ⟨wo.heap.size,2,ZX⟩=ZW (Z7 Z9 (X:Int))/\w'.cell? ⟨y,A,ZX⟩=ZW (Z5 (ZW ⟨g,0,ZX⟩) n n)/\w'.cell? ⟨R,X,ZX⟩=ZW (Z5 (ZW ax) n cx)) (first|exact ⟨b1,b2,t1,L⟩|exact ⟨z1,z2,z3,z4⟩) (refine Ix rfl (Z1 49) (Z1 54) rfl _ _ _ rfl rfl kj.out ?_);go_wp2;go_roundw
            case rel=>
             obtain ⟨T',km⟩:=HW.out;exact ⟨k+1,T',O,by omega,by go_num,km⟩
            case measure=>simp [intOf];omega
          . have h6:Hid (wo.alloc (Z4 #[Z7 .u8 2,Z7 Z9 (A:Int),Z7 Z9 (X:Int),Z7 .u8 (K:Int)] 292)=d):=hz;have Z:=ki.out.next (show bW d d.drew from ⟨rfl,rfl,rfl,TV _,λ_ _=>rfl⟩);have hol:=Z.olen;have kv:=DE ⟨g,0,ZX⟩ n _ d.drew (by have:=Bs.So (n:=n) (show aM d.drew g _ from u) (by omega) (by omega) E;rw [UD (by omega),o] at this;rw [o];exact this) (by omega);rw [o] at kv;have qm:=al kv;have k5:=al Z;have q9:=al (Y.out rfl);have kc:=al o;have kk:=al E;have q7:=al (λj hj=>(t.out.outs.own.lt j hj).2);have qo:=al (uh t.out.tab.own t.out.outs.own);have z1:d.drew.cell? ⟨wo.heap.size,1,ZX⟩=ZW (Z7 Z9 (A:Int)):=b1;have z2:d.drew.cell? ⟨wo.heap.size,2,ZX⟩=ZW (Z7 Z9 (X:Int)):=b2;have z3:d.drew.cell? ⟨y,A,ZX⟩=ZW (Z5 (ZW ⟨g,0,ZX⟩) n n):=t1;clear kv Z G u o E B W Y kb k0 h4 hz;go_wp2;rw [h6.out];go_region_held3 (λw'=>w'.cell? ⟨wo.heap.size,1,ZX⟩=ZW (Z7 Z9 (A:Int))/\w'.cell? ⟨wo.heap.size,2,ZX⟩=ZW (Z7 Z9 (X:Int))/\w'.cell? ⟨y,A,ZX⟩=ZW (Z5 (ZW ⟨g,0,ZX⟩) n n)) (first|exact ⟨b1,b2,t1⟩|exact ⟨M,N,Q⟩|exact ⟨((bA _ _).cell (Ub M)).trans M,((bA _ _).cell (Ub N)).trans N,((bA _ _).cell (Ub Q)).trans Q⟩|exact ⟨qr,xi,xj⟩)
             (first
              | (go_at_call 177;refine qm.out.mono ?_;rintro e wd ⟨bd,m,rfl,qy,qv,x6,S⟩
                 have M:=(S.cell (Ub z1)).trans z1;have N:=(S.cell (Ub z2)).trans z2;have Q:=(S.cell (Ub z3)).trans z3)
              | (refine step_append_lies _ rfl (Z1 73) (Z1 83) 267 rfl w2.heap.size 271 i0 (.agg #[Z7 Z9 0,Z5 ZX 0 0]) 2 32 underlying267 x2 x9 xa xb rfl (by decide) u10 O.length (pM O) rfl ((k5.out.next S).next (bA _ _)).outs.own ⟨wd.heap.size,0,ZX⟩ 1 1 [Z7 Z9 (X:Int),Z5 (ZW ⟨bd,0,ZX⟩) n (n+m)] rfl rfl (N3 _ _ rfl _ _ _) (by intro q hq;simp at hq;rcases hq with rfl|rfl<;>rfl) (by omega) (by unfold maxLen;omega) (by omega) (by have:=((k5.out.next S).next ((TY _ _).alloc lR (Z4 #[Z7 Z9 (X:Int),Z5 (ZW ⟨bd,0,ZX⟩) n (n+m)] 271))).size;exact this) _ rfl ?_;intro g5 xk w5 k8 h8 qx x5
                 have qr:=h8.cell (((bA _ _).cell (Ub M)).trans M) (λe=>by have:=q7.out _ e.symm;simp at this);have xi:=h8.cell (((bA _ _).cell (Ub N)).trans N) (λe=>by have:=q7.out _ e.symm;simp at this);have xj:=h8.cell (((bA _ _).cell (Ub Q)).trans Q) (λe=>qo.out e.symm)))
            go_wp2;go_roundw
            case rel=>exact ⟨k+1,T,_,by omega,by go_num,k5.out.put S qy qv kc.out (by omega) x6 kk.out h8 k8 q9.out.1 q9.out.2⟩
            case measure=>simp [intOf];omega
        . obtain ⟨A,rfl⟩:∃ A:Nat,sa=(A:Int):=⟨sa.toNat,by omega⟩;obtain ⟨X,rfl⟩:∃ X:Nat,sb=(X:Int):=⟨sb.toNat,by omega⟩;have hA:A<r:=(by omega);have hX:X<r:=(by omega);have qs:A≠X:=(by omega);obtain ⟨g,G,t1,u,o,E,t5,t6,t7,t8,t9⟩:=t.out.reg A hA;obtain ⟨g',qf,s1,s2,s3,s4,s5,s6,s7,s8,s9⟩:=t.out.reg X hX;have qz:=t.out.reg_ne G qf qs;replace t1:=(z.cell (Ub t1)).trans t1
          replace u:=u.below z
          replace s1:=(z.cell (Ub s1)).trans s1
          replace s2:=s2.below z
          rw [Vy,Vy] at W;subst x3;have h6:Hid (wo.alloc (Z4 #[Z7 .u8 1,Z7 Z9 (A:Int),Z7 Z9 (X:Int),Z7 .u8 (K:Int)] 292)=d):=hz;have Z:=ki.out.next (show bW d d.drew from ⟨rfl,rfl,rfl,TV _,λ_ _=>rfl⟩);have kh:=al (zW g g' n K _ _ d.drew qj u s2 o s3 qz E s4 (by omega));have k5:=al Z;have q5:=al (W.out rfl);have qq:=al G;have kc:=al o;have kk:=al E;have z1:d.drew.cell? ⟨wo.heap.size,1,ZX⟩=ZW (Z7 Z9 (A:Int)):=b1;have z2:d.drew.cell? ⟨wo.heap.size,2,ZX⟩=ZW (Z7 Z9 (X:Int)):=b2;have z3:d.drew.cell? ⟨wo.heap.size,3,ZX⟩=ZW (Z7 .u8 (K:Int)):=b3;have z4:d.drew.cell? ⟨y,A,ZX⟩=ZW (Z5 (ZW ⟨g,0,ZX⟩) n n):=t1;have z5:d.drew.cell? ⟨y,X,ZX⟩=ZW (Z5 (ZW ⟨g',0,ZX⟩) n n):=s1;clear Z G qf u o E s2 s3 s4 B W Y kb k0 h4 hz;go_wp2;rw [h6.out];go_region_held3 (λw'=>w'.cell? ⟨wo.heap.size,1,ZX⟩=ZW (Z7 Z9 (A:Int))/\w'.cell? ⟨wo.heap.size,2,ZX⟩=ZW (Z7 Z9 (X:Int))/\w'.cell? ⟨wo.heap.size,3,ZX⟩=ZW (Z7 .u8 (K:Int))/\w'.cell? ⟨y,A,ZX⟩=ZW (Z5 (ZW ⟨g,0,ZX⟩) n n)/\w'.cell? ⟨y,X,ZX⟩=ZW (Z5 (ZW ⟨g',0,ZX⟩) n n)) (first|exact ⟨b1,b2,b3,t1,s1⟩|exact ⟨M,N,Q,y4,y5⟩)
           (first
            | (go_at_call 165;refine kh.out.mono ?_;rintro e wc ⟨rfl,ke,f⟩
               have M:=f.cell z1 (by simp;omega);have N:=f.cell z2 (by simp;omega);have Q:=f.cell z3 (by simp;omega);have y4:=f.cell z4 (by simp;omega);have y5:=f.cell z5 (by simp;omega)))
          go_wp2;go_roundw
          case rel=>
           obtain ⟨T',km⟩:=k5.out.write qq.out kc.out f ke (by rw [ug];exact kc.out) (Iz kk.out qj) q5.out.1 q5.out.2;exact ⟨k+1,T',O,by omega,by go_num,km⟩
          case measure=>simp [intOf];omega
      . have x4:k=P.length:=(by omega);subst x4;have t:=al V;clear V h hP U;go_wp2;go_ret2;refine ⟨λ_ _=>⟨_,O,rfl,t.out.outs.weaken (by omega),?_⟩,λ_ hl=>absurd ka.out hl,λhn=>absurd q8.out hn,kp⟩;rw [HN.out,Vy];exact t.out.vals
   . have F:=ky C;subst F;have ka:=al C;clear C kx ky;go_wp2;go_ret2;exact ⟨λ_ hl=>absurd hl ka.out,λ_ _=>rfl,λhn=>absurd q8.out hn,k7⟩
 . have F:=ks I;subst F;have HN:=al I;clear I kr ks h0 h hP U J kf;go_wp2;go_ret2;exact ⟨λhp=>absurd hp HN.out,λhp=>absurd hp HN.out,λ_=>rfl,h5⟩
structure OS (w wx:ZT) (O:List (Int×Nat×Nat×a8)) (gg:Nat):Prop where
 ge:w.heap.size<=gg
 lt:gg<wx.heap.size
 cells:∀ i (hi:i<O.length),wx.cell? ⟨gg,i*2,ZX⟩=ZW (Z7 Z9 O[i].1)/\wx.cell? ⟨gg,i*2+1,ZX⟩=ZW (jX O[i].2)
 row:∀ q∈O,w.heap.size<=q.2.1/\aM wx q.2.1 q.2.2.2/\q.2.2.1<=q.2.2.2.length/\∀ x∈q.2.2.2,x<256
 below:bW w wx
def LM {vp:ZS} {P:List St} {lost:Nat} {Ms:List (Int×a8)} (C:Ps .u8 w vp P) (z:∀ s∈P,yP s) (x:In w g Dl lost) (B:g<w.heap.size) (y:Dl.length=N) (o:∀ l∈Dl,l.length<=100000) (hl:P.length<=5000) (u:iJ regs P N) (r:gz P Dl lost) (ho:dq P Dl (eJ regs.toNat (eo P Dl)) P.length=Ms) (i:Ms≠[]) :
 ZR ZN 154 #[.agg #[Z7 Z9 regs,vp],Z5 (ZW ⟨g,0,ZX⟩) N N] w λe w'=>∃ O b cap,e=Z3 (ZZ #[Z5 (ZW ⟨b,0,ZX⟩) O.length cap,.nilIface])/\O.map (λq=>(q.1,q.2.2.2.take q.2.2.1))=Ms/\OS w w' O b:=by
 subst y;refine (N4 regs vp P g Dl.length Dl lost w C z x B o hl).mono ?_;rintro e w' ⟨n,_,_,A⟩;obtain ⟨v,O,rfl,f,c⟩:=n u r;rw [ho] at c;rcases f.cases with ⟨d,_⟩|⟨b,cap,rfl,j⟩
 . rw [d] at c;exact absurd c.symm i
 . have p:O≠[]:=λq=>i (by rw [<- c,q];rfl);have t:b<w'.heap.size:=Ub (j 0 (XY.2 p)).1;refine ⟨O,b,cap,rfl,c,?_,t,j,λq D=>?_,A⟩
   . rcases f.own.2 with ⟨d,_⟩|⟨F,E,cur,a,h,_⟩
     . cases d
     . injection a with a;injection a with a;injection a with a;omega
   . obtain ⟨a,h,k,_,m⟩:=f.row q D;exact ⟨a,h,k,m⟩
def Fd (f0 f:Nat->ZS) (O:List (Int×Nat×Nat×a8)) (k:Nat):Prop:=(∀ i:Nat,(∀ q∈O.take k,q.1≠(i:Int))->f i=f0 i)/\∀ i:Nat,(∃ q∈O.take k,q.1=(i:Int))->∃ q∈O,q.1=(i:Int)/\f i=jX q.2
def aaK (w2:ZT) (r v b g N gone sp:Nat) (f0:Nat->ZS) (O:List (Int×Nat×Nat×a8)) (iv:ZS) (wr:ZT):Prop:=∃ k:Nat,k<=O.length/\iv=Z7 Z9 k/\∃ f,wr.rowIs g 31 N f/\Fd f0 f O k/\dI wr r v b g N gone sp/\aa (λk=>k=g) w2 wr
theorem Fd.step {f0:Nat->ZS} {d:Nat} (h:Fd f0 f O k) (g:k<O.length) (c:O[k].1=(d:Int)):Fd f0 (λi=>if i=d then jX O[k].2 else f i) O (k+1):=by
 have j:O.take (k+1)=O.take k++[O[k]]:=by rw [U6,Ua g];rfl
 constructor
 . intro i b;rw [j] at b;have l:i≠d:=λe=>b O[k] (VK _ (Vp.2 rfl)) (by rw [c,e]);show (if i=d then _ else f i)=f0 i;rw [if_neg l];exact h.1 i λq a=>b q (UB _ a)
 . rintro i ⟨q,a,e⟩;show ∃ q∈O,q.1=(i:Int)/\(if i=d then jX O[k].2 else f i)=jX q.2;by_cases b:i=d
   . rw [if_pos b];exact ⟨O[k],T4 g,by rw [c,b],rfl⟩
   . rw [if_neg b];rw [j] at a;rcases Uf.1 a with a|a
     . exact h.2 i ⟨q,a,e⟩
     . rw [Vp] at a;rw [a,c] at e;exact absurd (YG e).symm b
structure Qu (w:ZT) (r v b g N gone sp:Nat) (f:Nat->ZS) (M:a8) (R:Nat->a8) (w':ZT):Prop where
 rd:dI w' r v b g N gone sp
 row:∃ f',w'.rowIs g 31 N f'/\(∀ i,i∉M->f' i=f i)/\∀ i,i∈M->∃ bl m l,f' i=Z5 (ZW ⟨bl,0,ZX⟩) m l.length/\w.heap.size<=bl/\m<=l.length/\aM w' bl l/\l.take m=R i/\∀ x∈l,x<256
 out:aa (λk=>k=g) w w'
theorem LN {P:List St} {pm pc:Nat} {v gone sp lost:Nat} {M:a8} {R:Nat->a8} (Y:dI w r v b g N gone sp) (J:w.rowIs g 31 N f) (kz:r≠g) (hp:Ps .u8 w (.slice ao pm pc) P) (hP:∀ s∈P,yP s) (hI:In w g Dl lost) (hN:Dl.length=N) (k6:∀ l∈Dl,l.length<=100000) (hl:P.length<=5000) (I:iJ regs P N) (kj:gz P Dl lost) (ho:dq P Dl (eJ regs.toNat (eo P Dl)) P.length=M.map (λd:Nat=>((d:Int),R d))) (hM:M≠[]) (km:∀ d∈M,d<N) (q4:M.length<=16) :
 ZR ZN 127 #[Z6 (ZW ⟨r,0,ZX⟩),.agg #[Z7 Z9 regs,.slice ao pm pc]] w λe w'=>e=Z3 .nilIface/\Qu w r v b g N gone sp f M R w':=by
 obtain ⟨w1,ke⟩:=nM (w.alloc (Z4 #[Z7 Z9 regs,.slice ao pm pc] 187));have a:bW w w1:=by rw [<- ke];exact bA w _
 have kf:w1.heap[w.heap.size]?=ZW (Z4 #[Z7 Z9 regs,.slice ao pm pc] 187 (0,0)):=by rw [<- ke];exact Uc _ _
 have k0:w1.cell? ⟨w.heap.size,0,ZX⟩=ZW (Z7 Z9 regs):=by simp [World.cell?,kf]
 have k1:w1.cell? ⟨w.heap.size,1,ZX⟩=ZW (.slice ao pm pc):=by simp [World.cell?,kf]
 have D:=Y.keep (a.block _ Y.lt);have G:=J.of_block (a.block _ J.lt);have cs:=D.cells.2.2.1;have k7:=LM (w:=w1.drew) (hp.mono a.drew) hP (hI.mono a.drew) (TZ J.lt a.size) hN k6 hl I kj ho (λq=>hM (List.map_eq_nil_iff.1 q));have HG:=al (show g<w1.heap.size from TZ J.lt a.size);have H:=a5 a D G k7;clear Y J hp hI a kf D G k7 I kj ho k6 hP hM;go_enter func127,ntmps127;go_upto_region 1 with fail;go_cut [5,6] from 9 to 17 (λv5 v6 wx=>∃ O n cap,v5=Z5 (ZW ⟨n,0,ZX⟩) O.length cap/\v6=.nilIface/\O.map (λq=>(q.1,q.2.2.2.take q.2.2.1))=M.map (λd:Nat=>((d:Int),R d))/\OS w1.drew wx O n)
 case first=>
  go_region_with (go_at_call 154;refine H.out.2.2.2.mono ?_;rintro e w2 ⟨O,n,cap,rfl,u,x⟩;have c:=au u x;clear u x);all_goals (go_wp2_with fail;go_meet;case rel=>exact ⟨O,n,cap,rfl,rfl,c.out.1,c.out.2⟩)
 case rest=>
  rename ZT=>w2;clear k0 k1 cs ke;obtain ⟨O,n,cap,rfl,rfl,u,x⟩:=hcut;obtain ⟨a,D,G,_⟩:=H.out;have T:bW w1 w2:=((TY _ w1).drew).trans x.below;have kk:=D.keep (T.block _ D.lt);have hf:=G.of_block (T.block _ G.lt);have kg:O.length=M.length:=by have:=congrArg YH u;simpa using this
  have L:∀ k (X:k<O.length),∃ d,d∈M/\O[k].1=(d:Int)/\O[k].2.2.2.take O[k].2.2.1=R d:=λk X=>by
   have e:=congrArg (λl=>l[k]?) u;simp only [Un,Ua X,Ua (show k<M.length by omega),WD,UO,WR] at e;exact ⟨M[k],T4 _,e.1,e.2⟩
  have c:=hide7 x kk hf (a.trans (T.mono a.size)) u kg L;clear x a D G T kk hf u L;go_wp2;go_loopw [20] (λZ wr=>aaK w2 r v b g N gone sp f O Z wr) (λZ _=>O.length-(intOf Z).toNat)
  case atStart=>exact ⟨0,T9 _,rfl,f,c.out.2.2.1,⟨λ_ _=>rfl,λi ⟨q,K,_⟩=>by cases K⟩,c.out.2.1,aa.refl _ _⟩
  case round=>
   rename ZT=>wo;obtain ⟨k,X,rfl,fk,B,o,E,z⟩:=hrel;by_cases kc:k<O.length
   . obtain ⟨d,ka,C,_⟩:=c.out.2.2.2.2.2.2 k kc;have kp:=km d ka;obtain ⟨q0,q1⟩:=c.out.1.cells k kc;have kh:=HG.out;have kr:n≠g:=(by have:=c.out.1.ge;have:w1.drew.heap.size=w1.heap.size:=rfl;omega);have k5:=c.out.1.lt;have I:=z.block n k5 kr;have d0:wo.cell? ⟨n,k*2,ZX⟩=ZW (Z7 Z9 (d:Int)):=(Ul I).trans (by rw [q0,C]);have d1:wo.cell? ⟨n,k*2+1,ZX⟩=ZW (jX O[k].2):=(Ul I).trans q1;have A:=o.step kc C;obtain ⟨hv,kb⟩:=nM (jX O[k].2);rw [kb] at d1 A;obtain ⟨p,hn,t,q2⟩:∃ p hn t,hv=.slice p hn t:=⟨_,_,_,kb.symm⟩;subst q2;have U:bW wo (wo.alloc (Z4 #[Z7 Z9 (d:Int),.slice p hn t] 271)):=bA wo _;have F:(wo.alloc (Z4 #[Z7 Z9 (d:Int),.slice p hn t] 271)).heap[wo.heap.size]?=ZW (Z4 #[Z7 Z9 (d:Int),.slice p hn t] 271 (0,0)):=Uc _ _;have m:=E.keep (U.block _ E.lt);have h:=B.of_block (U.block _ B.lt);have y:aa (λk=>k=g) w2 (wo.alloc (Z4 #[Z7 Z9 (d:Int),.slice p hn t] 271)):=z.trans (aa.RS U _);obtain ⟨w3,Q⟩:=nM (wo.alloc (Z4 #[Z7 Z9 (d:Int),.slice p hn t] 271));have S:=a7 m h y F A Q;clear o A q0 q1 I kb U F m h y E B z C kh k5 Q;go_wp2;obtain ⟨m,h,y,F,A,Q⟩:=S.out;rw [Q] at m h y F ⊢;have k0:w3.cell? ⟨wo.heap.size,0,ZX⟩=ZW (Z7 Z9 d):=(by simp [World.cell?,F]);have k1:w3.cell? ⟨wo.heap.size,1,ZX⟩=ZW (.slice p hn t):=(by simp [World.cell?,F]);have cs:=m.cells.2.2.1;have cg:=h.cell (i:=d) kp;have fg:=h.frozen d;have H4:=a5 m h y A;clear m h y F A Q S d0 d1;go_region;go_wp2;go_roundw
     case rel=>
      obtain ⟨m,h,y,A⟩:=H4.out;have hO:aa (λk=>k=g) w3 (w3.setCell ⟨g,d,ZX⟩ (.slice p hn t)):=aa.setCell _ _ _ rfl;exact ⟨k+1,by omega,by go_num,_,h.set d _,A,m.keep (hO.block _ m.lt kz),y.trans (hO.trans (aa.drew _))⟩
     case measure=>simp [intOf]<;>omega
   . have kv:k=O.length:=(by omega);subst kv;have S:=a5 B o E z;clear B o E z;go_wp2;go_ret;obtain ⟨B,o,E,z⟩:=S.out;obtain ⟨x,_,_,ko,u,kg,L⟩:=c.out;unfold Fd at o;rw [VC] at o;have q3:=H.out.1.size;refine ⟨rfl,E,⟨fk,B,λi V=>o.1 i λq K e=>?_,λi V=>?_⟩,(aa.RS ko _).trans z⟩
     . obtain ⟨j,W,rfl⟩:=U0 K;obtain ⟨d,ka,C,_⟩:=L j W;rw [C] at e;exact V (YG e▸ka)
     . obtain ⟨j,W,rfl⟩:=U0 V;have ks:j<O.length:=(by omega);have kx:O[j].1=((M[j]:Nat):Int):=by
        have e:=congrArg (λl=>l[j]?) u;simp only [Un,Ua ks,Ua W,WD,UO,WR] at e;exact e.1
       obtain ⟨q,K,e1,e2⟩:=o.2 M[j] ⟨O[j],T4 _,kx⟩;obtain ⟨j2,ki,rfl⟩:=U0 K;obtain ⟨d,_,C,ky⟩:=L j2 ki;rw [C] at e1;obtain ⟨r1,r2,r3,r4⟩:=x.row _ (T4 ki);have kh:=HG.out;have q5:w1.drew.heap.size=w1.heap.size:=rfl;exact ⟨_,_,_,e2,by omega,r3,Vv r2 (z.block _ (aM.lt r2) (by omega)),by rw [ky,YG e1],r4⟩
def eC (x:Nat):Nat:=x/2
def fH (x:Nat):Bool:=decide (x%2=1)
theorem F2 (D L G:Int) {x y:Nat} (h:x≠y) (w:ZT):(Op.equal 184 (bK D L G (eC x:Nat) (fH x)) (bK D L G (eC y:Nat) (fH y))).run ZN w=.ok ZU w:=by
 by_cases a:eC x=eC y
 . have b:fH x≠fH y:=λe=>h (by
    unfold eC at a;unfold fH at e;have:(x%2=1)↔(y%2=1):=by
     constructor
     . intro q;exact of_decide_eq_true (by rw [<- e];exact decide_eq_true q)
     . intro q;exact of_decide_eq_true (by rw [e];exact decide_eq_true q)
    omega)
   have d:(fH x==fH y)=ZU:=(by simp [b]);rw [a];unfold bK Op.equal Op.maxDepth;go_simp
 . have c:(((eC x:Nat):Int)==((eC y:Nat):Int))=ZU:=by
    rw [beq_eq_false_iff_ne];omega
   unfold bK Op.equal Op.maxDepth;go_simp
def dU (D L G:Int) (es:List (Nat×Nat×Nat)):List MapEntry:=es.map λe=>{ key:=bK D L G (eC e.1:Nat) (fH e.1),val:=Z6 (ZW ⟨e.2.1,0,ZX⟩),born:=e.2.2 }
def cL (es:List (Nat×Nat×Nat)):a8:=es.map (·.1)
def Cx (D L G:Int) (lost:Nat) (w:ZT):∀ (es:List (Nat×Nat×Nat)) (i:Nat),lost∉cL es->(Instr.findAsking 184 (bK D L G (eC lost:Nat) (fH lost)) (dU D L G es) i).run ZN w=.ok ZX w
 | [],_,_=>by simp [dU,Instr.findAsking]
 | e::es,i,h=>by
  have b:lost≠e.1:=λq=>by
   subst q;exact h (UZ ..)
  have a:=Cx D L G lost w es (i+1) (λq=>h (UJ _ q));have c:=F2 D L G b w;unfold dU at a ⊢;simp only [Uu,Instr.findAsking,Uo,c,UE];simpa using a
def LO (D L G:Int) (w:ZT):∀ (es:List (Nat×Nat×Nat)) (i k:Nat) (a:k<es.length),(cL es).Nodup->(Instr.findAsking 184 (bK D L G (eC es[k].1:Nat) (fH es[k].1)) (dU D L G es) i).run ZN w=.ok (ZW (i+k,Z6 (ZW ⟨es[k].2.1,0,ZX⟩))) w
 | [],_,_,a,_=>absurd a (by simp)
 | e::es,i,0,_,_=>by
  have b:=N0 D L G (eC e.1:Nat) (fH e.1) w;unfold dU;simp only [Uu,Instr.findAsking,Uo,aa7,b,UE];simp
 | e::es,i,k+1,a,hn=>by
  have c:k<es.length:=by simpa using a
  have f:es[k].1≠e.1:=λq=>(UM.1 hn).1 (T6.2 ⟨es[k],T4 c,q⟩);have d:=LO D L G w es (i+1) k c (UM.1 hn).2;have b:=F2 D L G f w;unfold dU at d ⊢;simp only [Uu,Instr.findAsking,Uo,XO,b,UE];rw [show i+(k+1)=i+1+k by omega];simpa using d
def Cy (k:ZS) (x:MapEntry) (es:List MapEntry) (f:Array Field) (i:Nat):Instr.findNow (.struct f) k (x::es) i=ZX:=by
 simp [Instr.findNow,Instr.sameNow]
def xK (D L G:Int) {lost:Nat} {es:List (Nat×Nat×Nat)} (h:lost∉cL es) (w:ZT):(Instr.findKey 184 (bK D L G (eC lost:Nat) (fH lost)) (dU D L G es)).run ZN w=.ok ZX w:=by
 have a:=Cx D L G lost w es 0 h;cases es with
 | nil=>simp [dU,Instr.findKey,Instr.findNow,UH abe]
 | cons e es=>
  unfold dU at a ⊢;simp only [Uu] at a ⊢;simp only [Instr.findKey,Uo,UH abe,UE,Cy];exact a
def F3 (D L G:Int) {es:List (Nat×Nat×Nat)} {k:Nat} (b:k<es.length) (hn:(cL es).Nodup) (w:ZT):(Instr.findKey 184 (bK D L G (eC es[k].1:Nat) (fH es[k].1)) (dU D L G es)).run ZN w=.ok (ZW (k,Z6 (ZW ⟨es[k].2.1,0,ZX⟩))) w:=by
 have a:=LO D L G w es 0 k b hn;rw [Ue] at a;cases es with
 | nil=>exact absurd b (by simp)
 | cons e es=>
  unfold dU at a ⊢;simp only [Uu] at a ⊢;simp only [Instr.findKey,Uo,UH abe,UE,Cy];exact a
def LP {D:Int} (h:w.heap[m]?=ZW (.map (dU D L G es).toArray n)) {lost:Nat} (hl:lost∉cL es):(Instr.lookup 235 (.map (ZW m)) (bK D L G (eC lost:Nat) (fH lost)) ZV).run ZN w=.ok (ZZ #[.pointer ZX,Z2 ZU]) w:=by
 have a:=uy h;have b:=λe=>oP e D L G (eC lost:Nat) (fH lost) w;have c:=xK D L G hl w;simp [Instr.lookup,UH X5,a,b,c]
def N5 {D:Int} (h:w.heap[m]?=ZW (.map (dU D L G es).toArray n)) {k:Nat} (d:k<es.length) (hn:(cL es).Nodup):(Instr.lookup 235 (.map (ZW m)) (bK D L G (eC es[k].1:Nat) (fH es[k].1)) ZV).run ZN w=.ok (ZZ #[Z6 (ZW ⟨es[k].2.1,0,ZX⟩),Z2 ZV]) w:=by
 have a:=uy h;have b:=λe=>oP e D L G (eC es[k].1:Nat) (fH es[k].1) w;have c:=F3 D L G d hn w;simp [Instr.lookup,UH X5,a,b,c]
def N6 {D:Int} (h:w.heap[m]?=ZW (.map (dU D L G es).toArray n)) {lost:Nat} (hl:lost∉cL es) (nb:Nat):(Instr.mapUpdate 235 (.map (ZW m)) (bK D L G (eC lost:Nat) (fH lost)) (Z6 (ZW ⟨nb,0,ZX⟩))).run ZN w=.ok () (w.putObj m (.map (dU D L G (es++[(lost,nb,n)])).toArray (n+1))):=by
 have a:=uy h;have b:=oP ZU D L G (eC lost:Nat) (fH lost) w;have c:=xK D L G hl w;have d:(dU D L G es).toArray.push { key:=bK D L G (eC lost:Nat) (fH lost),val:=Z6 (ZW ⟨nb,0,ZX⟩),born:=n }=(dU D L G (es++[(lost,nb,n)])).toArray:=by simp [dU]
 simp [Instr.mapUpdate,UH X5,a,b,c,LK h,d]
def xL (D L G:Int):∀ (es:List (Nat×Nat×Nat)) (k:Nat),(dU D L G es).eraseIdx k=dU D L G (es.eraseIdx k)
 | [],_=>rfl
 | _::_,0=>rfl
 | e::es,k+1=>by
  have h:=xL D L G es k;unfold dU at h ⊢;simp only [Uu,List.eraseIdx_cons_succ,h]
def Qv {D:Int} (h:w.heap[m]?=ZW (.map (dU D L G es).toArray n)) {k:Nat} (d:k<es.length) (hn:(cL es).Nodup) (t:ZO):(Builtin.delete_ #[235,184] t #[.map (ZW m),bK D L G (eC es[k].1:Nat) (fH es[k].1)]).run ZN w=.ok (ZZ #[]) (w.putObj m (.map (dU D L G (es.eraseIdx k)).toArray n)):=by
 have a:=uy h;have b:=λe=>oP e D L G (eC es[k].1:Nat) (fH es[k].1) w;have c:=F3 D L G d hn w;simp [Builtin.delete_,UH X5,a,b,c,LK h,xL]
def N7 {D:Int} (h:w.heap[m]?=ZW (.map (dU D L G es).toArray n)) (t:ZO):(Builtin.len_ #[235] t #[.map (ZW m)]).run ZN w=.ok (Z7 Z9 (es.length:Nat)) w:=by
 have a:=uy h;simp [Builtin.len_,UH X5,a,dU,goInt]
structure EE where
 D:Int
 L:Int
 G:Int
 lost:Int
 rd:Bool
 regs:Int
 steps:ZS
def pf (w:ZT) (S:Nat->Prop) (cn:Nat->EE) (nw ol:Nat->Nat):Prop:=∀ a,S a->jy w a (cn a).D (cn a).L (cn a).G (cn a).lost (cn a).rd (cn a).regs (cn a).steps (Z6 (ZW ⟨nw a,0,ZX⟩)) (Z6 (ZW ⟨ol a,0,ZX⟩))
def ir (f:Nat->Nat) (a x:Nat):Nat->Nat:=λb=>if b=a then x else f b
def ew (f:Nat->Nat) (a x:Nat):ir f a x a=x:=if_pos rfl
def eH {f:Nat->Nat} (x:Nat) (h:b≠a):ir f a x b=f b:=if_neg h
def pf.SS {cn:Nat->EE} (h:pf w S cn nw ol) (a x:Nat):pf (w.setCell ⟨a,7,ZX⟩ (Z6 (ZW ⟨x,0,ZX⟩))) S cn (ir nw a x) ol:=λb c=>by
 by_cases e:b=a
 . subst e;rw [ew];exact (h b c).SS _
 . rw [eH x e];exact (h b c).keep (Ud _ _ _ _ e)
def pf.SH {cn:Nat->EE} (h:pf w S cn nw ol) (a x:Nat):pf (w.setCell ⟨a,8,ZX⟩ (Z6 (ZW ⟨x,0,ZX⟩))) S cn nw (ir ol a x):=λb c=>by
 by_cases e:b=a
 . subst e;rw [ew];exact (h b c).SH _
 . rw [eH x e];exact (h b c).keep (Ud _ _ _ _ e)
def pf.keep {cn:Nat->EE} (h:pf w S cn nw ol) (d:aa T w w') (e:∀ a,S a->¬ T a):pf w' S cn nw ol:=λb c=>(h b c).keep (d.block b (h b c).lt (e b c))
theorem qW {cn:Nat->EE} (h:pf w S cn nw ol) {n:Nat} (hn:S n) (a:S (nw n)) (b:S (ol n)) :
 ZR ZN 188 #[Z6 (ZW ⟨n,0,ZX⟩)] w λe w'=>e=Z3 (ZZ #[])/\pf w' S cn (ir nw (ol n) (nw n)) (ir ol (nw n) (ol n))/\aa S w w':=by
 obtain ⟨c,d,_,_⟩:=(h n hn).cells;obtain ⟨_,f,_,i⟩:=(h _ a).cells;obtain ⟨g,_,j,_⟩:=((h.SH (nw n) (ol n)) _ b).cells;have H:=aE ((h.SH (nw n) (ol n)).SS (ol n) (nw n)) a b;clear h a b hn;generalize nw n=x at *;generalize ol n=y at *;generalize ol x=z at *;generalize nw y=k at *;go_enter func188,ntmps188;go_region;go_end0
 exact ⟨rfl,H.out.1,((aa.setCell _ _ _ H.out.2.1).trans (aa.setCell _ _ _ H.out.2.2)).trans (aa.drew _)⟩
theorem z7 {cn:Nat->EE} (hl:fE w sb room) (h:pf w S cn nw ol) {n:Nat} (hn:S n) (b:S sb) (ho:S (ol sb)) :
 ZR ZN 189 #[Z6 (ZW ⟨sb+1+1,0,ZX⟩),Z6 (ZW ⟨n,0,ZX⟩)] w λe w'=>e=Z3 (ZZ #[])/\pf w' S cn (ir (ir nw n sb) (ol sb) n) (ir (ir ol n (ol sb)) sb n)/\aa S w w':=by
 have p:=(gd hl).2.2;obtain ⟨j,_,k,_⟩:=(h n hn).cells;obtain ⟨_,o,_,_⟩:=(h sb b).cells;have c:=h.SS n sb;obtain ⟨_,l,_,m⟩:=(c n hn).cells;have g:=c.SH n (ol sb);obtain ⟨w2,f⟩:=nM (((w.setCell ⟨n,7,ZX⟩ (Z6 (ZW ⟨sb,0,ZX⟩))).setCell ⟨n,8,ZX⟩ (Z6 (ZW ⟨ol sb,0,ZX⟩))).drew);have a:pf w2 S cn (ir nw n sb) (ir ol n (ol sb)):=by rw [<- f];exact g
 have i:aa S w w2:=by rw [<- f];exact ((aa.setCell _ _ _ hn).trans (aa.setCell _ _ _ hn)).trans (aa.drew _)
 obtain ⟨q,r,_,_⟩:=(a n hn).cells;rw [ew] at q r;have d:=a.SH sb n;obtain ⟨_,s,_,t8⟩:=(a sb b).cells;obtain ⟨t,_,u,_⟩:=(d (ol sb) ho).cells;have H:=a5 (d.SS (ol sb) n) i b ho;clear h c g a d hl hn b ho i;generalize ol sb=y at *;generalize ir ol n y sb=z at *;generalize ir nw n sb y=v at *;generalize nw n=x at *;generalize ol n=A at *;go_enter func189,ntmps189;go_wp2;go_region;clear f j k o l m p;go_wp2;go_region;go_end0
 exact ⟨rfl,H.out.1,H.out.2.1.trans (((aa.setCell _ _ _ H.out.2.2.1).trans (aa.setCell _ _ _ H.out.2.2.2)).trans (aa.drew _))⟩
def uZ (nw ol:Nat->Nat):Nat->a8->Nat->Prop
 | a,[],b=>ol a=b/\nw b=a
 | a,n::ns,b=>(ol a=n/\nw n=a)/\uZ nw ol n ns b
theorem uZ.congr {nw' ol':Nat->Nat}:∀ {ns:a8} {a b:Nat},uZ nw ol a ns b->(∀ x∈a::ns,ol' x=ol x)->(∀ x∈ns++[b],nw' x=nw x)->uZ nw' ol' a ns b
 | [],a,b,h,c,d=>⟨(c a (UZ ..)).trans h.1,(d b (by simp)).trans h.2⟩
 | n::ns,a,b,h,c,d=>⟨⟨(c a (UZ ..)).trans h.1.1,(d n (by simp)).trans h.1.2⟩,uZ.congr h.2 (λx e=>c x (UJ _ e)) (λx e=>d x (by rw [UL];exact UJ _ e))⟩
def uZ.Sf (h:uZ nw ol a ns b):ol a=b/\ns=[]\/ol a∈ns:=by
 cases ns with
 | nil=>exact .inl ⟨h.1,rfl⟩
 | cons n ns=>exact .inr (by rw [h.1.1];exact UZ ..)
def uZ.last:∀ {ns:a8} {a b:Nat},uZ nw ol a ns b->(hn:ns≠[])->nw b=ns.getLast hn
 | [],_,_,_,hn=>absurd rfl hn
 | [_],_,_,h,_=>h.2.2
 | _::m::ns,_,_,h,_=>by rw [List.getLast_cons (by simp)];exact uZ.last h.2 (by simp)
theorem uZ.put (h:uZ nw ol sb ns sb) (c:(sb::ns).Nodup) (hn:n∉sb::ns):uZ (ir (ir nw n sb) (ol sb) n) (ir (ir ol n (ol sb)) sb n) sb (n::ns) sb:=by
 have b:n≠sb:=λe=>hn (e▸UZ ..);have i:n≠ol sb:=λe=>by
  rcases h.Sf with q|q
  . exact b (e.trans q.1)
  . exact hn (UJ _ (e▸q))
 refine ⟨⟨ew _ _ _,by rw [eH _ i,ew]⟩,?_⟩;cases ns with
 | nil=>exact ⟨by rw [eH _ b,ew];exact h.1,by rw [h.1,ew]⟩
 | cons m l=>
  have d:=h.1.1;refine ⟨⟨by rw [eH _ b,ew];exact d,by rw [d,ew]⟩,h.2.congr (λx a=>?_) (λx a=>?_)⟩
  . have f:x≠sb:=λe=>(UM.1 c).1 (e▸a);have g:x≠n:=λe=>hn (UJ _ (e▸a));rw [eH _ f,eH _ g]
  . have j:x≠m:=λe=>by
     subst e;rcases Uf.1 a with q|q
     . exact (UM.1 (UM.1 c).2).1 q
     . rw [Vp] at q;subst q;exact (UM.1 c).1 (UZ ..)
    have k:x≠n:=λe=>by
     subst e;rcases Uf.1 a with q|q
     . exact hn (UJ _ (UJ _ q))
     . rw [Vp] at q;exact b q
    rw [d,eH _ j,eH _ k]
theorem uZ.take {r:a8}:∀ {l:a8} {a b:Nat},uZ nw ol a (l++n::r) b->(a::(l++n::r)).Nodup->b∉l++n::r->uZ (ir nw (ol n) (nw n)) (ir ol (nw n) (ol n)) a (l++r) b/\nw n∈a::l/\(ol n∈r\/ol n=b)
 | [],a,b,h,j,i=>by
  have d:(ol a=n/\nw n=a)/\uZ nw ol n r b:=h;obtain ⟨⟨_,t⟩,g⟩:=d;rw [t];refine ⟨?_,UZ ..,g.Sf.elim (λq=>.inr q.1) .inl⟩;cases r with
  | nil=>exact ⟨by rw [ew];exact g.1,by rw [g.1,ew]⟩
  | cons m rs=>
   have k:=g.1.1;have f:=(UM.1 (UM.1 j).2).2;refine ⟨⟨by rw [ew];exact k,by rw [k,ew]⟩,g.2.congr (λx o=>?_) (λx o=>?_)⟩
   . exact eH _ λe=>(UM.1 j).1 (by rw [<- e];exact UJ _ o)
   . rw [k];refine eH _ λe=>?_;subst e;rcases Uf.1 o with q|q
     . exact (UM.1 f).1 q
     . rw [Vp] at q;subst q;exact i (by simp)
 | c::l,a,b,h,j,i=>by
  have d:(ol a=c/\nw c=a)/\uZ nw ol c (l++n::r) b:=h;have f:=UM.1 j;obtain ⟨u,p,s⟩:=uZ.take d.2 f.2 (λq=>i (UJ _ q));refine ⟨⟨⟨?_,?_⟩,u⟩,UJ _ p,s⟩
  . rw [eH _ λe=>f.1 (by
     rw [e];rcases Ur.1 p with q|q
     . rw [q];exact UZ ..
     . exact UJ _ (UB _ q))]
    exact d.1.1
  . rw [eH _ λe=>by
     rcases s with q|q
     . exact (UM.1 f.2).1 (by rw [e];exact VK _ (UJ _ q))
     . exact i (by rw [<- q,<- e];exact UZ ..)]
    exact d.1.2
theorem EF (hl:fE w sb room) {D L G:Int} {es:List (Nat×Nat×Nat)} (i:w.heap[sb+1]?=ZW (.map (dU D L G es).toArray n)) {x:Nat} (u:x∉cL es) :
 ZR ZN 171 #[Z6 (ZW ⟨sb+1+1,0,ZX⟩),bK D L G (eC x:Nat) (fH x)] w λe w'=>e=Z3 (ZZ #[.agg #[Z7 Z9 0,Z5 ZX 0 0],Z2 ZU])/\bW w w':=by
 have l1:w.cell? ⟨sb+1+1,1,ZX⟩=ZW (.map (ZW (sb+1))):=by
  have t:w.heap[sb+1+1]?=_:=hl;simp [World.cell?,t]
 have k:∀ w',bW w w'->(Instr.lookup 235 (.map (ZW (sb+1))) (bK D L G (eC x:Nat) (fH x)) ZV).run ZN w'=.ok (ZZ #[.pointer ZX,Z2 ZU]) w':=λw' y=>LP ((y.block _ (TX.1 i).1).trans i) u;obtain ⟨w2,f⟩:=nM ((w.alloc (Z4 #[Z7 Z9 D,Z7 Z9 L,Z7 Z9 G,Z7 Z8 (eC x:Nat),Z2 (fH x)] 184)).alloc (Z4 #[Z7 Z9 0,Z5 ZX 0 0] 187));have a:bW w w2:=by rw [<- f];exact (bA w _).alloc (by simp) _
 have d:w2.heap[w.heap.size]?=ZW (Z4 #[Z7 Z9 D,Z7 Z9 L,Z7 Z9 G,Z7 Z8 (eC x:Nat),Z2 (fH x)] 184 (0,0)):=by rw [<- f];exact (Ux _ _ _ (by simp)).trans (Uc _ _)
 have c0:w2.cell? ⟨w.heap.size,0,ZX⟩=ZW (Z7 Z9 D):=by simp [World.cell?,d]
 have c1:w2.cell? ⟨w.heap.size,1,ZX⟩=ZW (Z7 Z9 L):=by simp [World.cell?,d]
 have q:w2.cell? ⟨w.heap.size,2,ZX⟩=ZW (Z7 Z9 G):=by simp [World.cell?,d]
 have r:w2.cell? ⟨w.heap.size,3,ZX⟩=ZW (Z7 Z8 (eC x:Nat)):=by simp [World.cell?,d]
 have s:w2.cell? ⟨w.heap.size,4,ZX⟩=ZW (Z2 (fH x)):=by simp [World.cell?,d]
 have h:w2.heap[w.heap.size+1]?=ZW (Z4 #[Z7 Z9 0,Z5 ZX 0 0] 187 (0,0)):=by
  have:=Uc (w.alloc (Z4 #[Z7 Z9 D,Z7 Z9 L,Z7 Z9 G,Z7 Z8 (eC x:Nat),Z2 (fH x)] 184)) (Z4 #[Z7 Z9 0,Z5 ZX 0 0] 187);rw [Uq] at this;rw [<- f];exact this
 have z:=(a.cell (p:=⟨sb+1+1,1,ZX⟩) (Ub l1)).trans l1;have j:=k w2.drew a.drew;unfold bK at j ⊢;have c:w2.heap.size=w.heap.size+2:=by rw [<- f];simp
 have H:=aE a h c;clear hl i k a d h c;go_enter func171,ntmps171;go_wp2;go_region;obtain ⟨a,h,c⟩:=H.out;have b:bW w2 (w2.drew.alloc (Z4 #[Z7 Z9 0,Z5 ZX 0 0] 187)):=((TY _ w2).drew).alloc lR _;obtain ⟨w3,m⟩:=nM (w2.drew.alloc (Z4 #[Z7 Z9 0,Z5 ZX 0 0] 187));rw [m] at b;have g:=(b.block (w.heap.size+1) (by omega)).trans h;obtain ⟨E,F,C,B⟩:=aw g;have l:w3.heap[w2.heap.size]?=ZW (Z4 #[Z7 Z9 0,Z5 ZX 0 0] 187 (0,0)):=by rw [<- m];exact Uc w2.drew _
 obtain ⟨I,J,_,_⟩:=aw l;have o:=a5 g b a c;clear a h c b g l c0 c1 q r s l1 z j f;go_wp2;obtain ⟨g,b,a,c⟩:=o.out;obtain ⟨n0,A,_⟩:=aw (iR (y':=Z5 ZX 0 0) (iQ (x':=Z7 Z9 0) g));refine Um (v:=ZZ #[.agg #[Z7 Z9 0,Z5 ZX 0 0],Z2 ZU]) (by simp [results,results171,go_sem,n0,A]) rfl ?_;exact ⟨rfl,((a.trans (b.mono a.size)).setCell (p:=⟨w.heap.size+1,0,ZX⟩) (by show w.heap.size<=w.heap.size+1;omega) _).setCell (p:=⟨w.heap.size+1,1,ZX⟩) (by show w.heap.size<=w.heap.size+1;omega) _⟩
theorem IG {nb:Nat} {D:Int} {cn:Nat->EE} (hl:fE w sb room) (I:w.heap[sb+1]?=ZW (.map (dU D L G es).toArray n)) (F:k<es.length) (O:(cL es).Nodup) (Z:es[k].1=x) (P:es[k].2.1=nb) (h:pf w S cn nw ol) (l:∀ a,S a->a≠sb+1/\a≠sb+1+1) (f:S nb) (M:S (nw nb)) (C:S (ol nb)) (p:S sb) (N:S (ol sb)) (o:cn nb=⟨D,L,G,(eC x:Nat),fH x,regs,.slice ao m c⟩) :
 ZR ZN 171 #[Z6 (ZW ⟨sb+1+1,0,ZX⟩),bK D L G (eC x:Nat) (fH x)] w λe w'=>e=Z3 (ZZ #[.agg #[Z7 Z9 regs,.slice ao m c],Z2 ZV])/\pf w' S cn (ir (ir (ir nw (ol nb) (nw nb)) nb sb) (ir ol (nw nb) (ol nb) sb) nb) (ir (ir (ir ol (nw nb) (ol nb)) nb (ir ol (nw nb) (ol nb) sb)) sb nb)/\aa S w w':=by
 obtain ⟨w2,z⟩:=nM ((w.alloc (Z4 #[Z7 Z9 D,Z7 Z9 L,Z7 Z9 G,Z7 Z8 (eC x:Nat),Z2 (fH x)] 184)).alloc (Z4 #[Z7 Z9 0,Z5 ZX 0 0] 187));have b:bW w w2:=by rw [<- z];exact (bA w _).alloc (by simp) _
 have i:w2.heap.size=w.heap.size+2:=by rw [<- z];simp
 have t:w2.heap[w.heap.size]?=ZW (Z4 #[Z7 Z9 D,Z7 Z9 L,Z7 Z9 G,Z7 Z8 (eC x:Nat),Z2 (fH x)] 184 (0,0)):=by rw [<- z];exact (Ux _ _ _ (by simp)).trans (Uc _ _)
 have c0:w2.cell? ⟨w.heap.size,0,ZX⟩=ZW (Z7 Z9 D):=by simp [World.cell?,t]
 have c1:w2.cell? ⟨w.heap.size,1,ZX⟩=ZW (Z7 Z9 L):=by simp [World.cell?,t]
 have c2:w2.cell? ⟨w.heap.size,2,ZX⟩=ZW (Z7 Z9 G):=by simp [World.cell?,t]
 have c3:w2.cell? ⟨w.heap.size,3,ZX⟩=ZW (Z7 Z8 (eC x:Nat)):=by simp [World.cell?,t]
 have c4:w2.cell? ⟨w.heap.size,4,ZX⟩=ZW (Z2 (fH x)):=by simp [World.cell?,t]
 have r:w2.heap[w.heap.size+1]?=ZW (Z4 #[Z7 Z9 0,Z5 ZX 0 0] 187 (0,0)):=by
  have:=Uc (w.alloc (Z4 #[Z7 Z9 D,Z7 Z9 L,Z7 Z9 G,Z7 Z8 (eC x:Nat),Z2 (fH x)] 184)) (Z4 #[Z7 Z9 0,Z5 ZX 0 0] 187);rw [Uq] at this;rw [<- z];exact this
 have hll:sb+1+1<w.heap.size:=(TX.1 hl).1;have g:fE w2 sb room:=(b.block _ hll).trans hl;have l1:=(gd g).2.1;have Q:pf w2 S cn nw ol:=λa s=>(h a s).keep (b.block _ (h a s).lt);have d:∀ a,S a->a<w.heap.size:=λa s=>(h a s).lt;have J:=N5 (w:=w2.drew) ((b.block _ (TX.1 I).1).trans I) F O;rw [Z,P] at J;have X:=qW (w:=w2.drew) (show pf w2.drew S cn nw ol from Q) f M C;have j:S (ir ol (nw nb) (ol nb) sb):=by
  by_cases e:sb=nw nb
  . rw [e,ew];exact C
  . rw [eH _ e];exact N
 unfold bK at J ⊢;have H:=hide12 b r i g d l f p j o hll X;clear hl I h b t r i g Q X l f M C p N j o d O F Z P hll;go_enter func171,ntmps171;go_wp2;go_region;clear c0 c1 c2 c3 c4 l1 J z;go_wp2_with fail;refine H.out.2.2.2.2.2.2.2.2.2.2.2.mono ?_;rintro e w3 ⟨rfl,R,T⟩;obtain ⟨b,r,i,g,d,l,f,p,j,o,hll,_⟩:=H.out;have E:aa S w2 w3:=(aa.drew w2).trans T;have W:=z7 (w:=w3) (n:=nb) (show fE w3 sb room from (E.block _ (by omega) (λq=>(l _ q).2 rfl)).trans g) R f p j;have K:=au E W;clear b r i g d l f p j o R T E W hll;go_wp2_with fail;refine K.out.2.mono ?_;rintro e B ⟨rfl,y,U⟩;obtain ⟨b,r,i,g,d,l,f,p,j,o,hll,_⟩:=H.out;have u:aa S w2 B:=K.out.1.trans U;have A:=(u.block (w.heap.size+1) (by omega) (λq=>by have:=d _ q;omega)).trans r;have Y:=(y nb f).value;rw [o] at Y;obtain ⟨v5,v6⟩:=Y;obtain ⟨r0,r1,g1,g0⟩:=aw A;have H4:=a7 y u A b i d;clear b r i g d l f p j o y U u A hll;go_wp2;obtain ⟨y,u,A,b,i,d⟩:=H4.out;obtain ⟨n0,n1,_⟩:=aw (iR (y':=.slice ao m c) (iQ (x':=Z7 Z9 regs) A));refine Um (v:=ZZ #[.agg #[Z7 Z9 regs,.slice ao m c],Z2 ZV]) (by simp [results,results171,go_sem,n0,n1]) rfl ?_;have V:aa (λk=>k=w.heap.size+1) B ((B.setCell ⟨w.heap.size+1,0,ZX⟩ (Z7 Z9 regs)).setCell ⟨w.heap.size+1,1,ZX⟩ (.slice ao m c)):=iq B (w.heap.size+1) 0 1 _ _;exact ⟨rfl,y.keep V (λa s e=>by have:=d a s;omega),((aa.RS b _).trans u).later V (λk F q=>by omega)⟩
theorem z8 {cn:Nat->EE} (hl:fE w sb room) {n:Nat} {ne0 j:ZS} (hn:jy w n (cn n).D (cn n).L (cn n).G (cn n).lost (cn n).rd (cn n).regs (cn n).steps ne0 j) (h:pf w (λa=>S a/\a≠n) cn nw ol) (c:S n) (d:S sb) (m:sb≠n) (ho:S (ol sb)) :
 ZR ZN 189 #[Z6 (ZW ⟨sb+1+1,0,ZX⟩),Z6 (ZW ⟨n,0,ZX⟩)] w λe w'=>e=Z3 (ZZ #[])/\pf w' S cn (ir (ir nw n sb) (ol sb) n) (ir (ir ol n (ol sb)) sb n)/\aa S w w':=by
 have u:=(gd hl).2.2;obtain ⟨o,_,p,_⟩:=hn.cells;obtain ⟨_,s,_,_⟩:=(h sb ⟨d,m⟩).cells;have g:=hn.SS (Z6 (ZW ⟨sb,0,ZX⟩));obtain ⟨_,q,_,r⟩:=g.cells;have k:pf ((w.setCell ⟨n,7,ZX⟩ (Z6 (ZW ⟨sb,0,ZX⟩))).setCell ⟨n,8,ZX⟩ (Z6 (ZW ⟨ol sb,0,ZX⟩))) S cn (ir nw n sb) (ir ol n (ol sb)):=λa t=>by
  by_cases e:a=n
  . subst e;rw [ew,ew];exact g.SH _
  . rw [eH _ e,eH _ e];exact ((h a ⟨t,e⟩).keep (Ud _ _ _ _ e)).keep (Ud _ _ _ _ e)
 obtain ⟨w2,i⟩:=nM (((w.setCell ⟨n,7,ZX⟩ (Z6 (ZW ⟨sb,0,ZX⟩))).setCell ⟨n,8,ZX⟩ (Z6 (ZW ⟨ol sb,0,ZX⟩))).drew);have b:pf w2 S cn (ir nw n sb) (ir ol n (ol sb)):=by rw [<- i];exact k
 have l:aa S w w2:=by rw [<- i];exact ((aa.setCell _ _ _ c).trans (aa.setCell _ _ _ c)).trans (aa.drew _)
 obtain ⟨v,x,_,_⟩:=(b n c).cells;rw [ew] at v x;have f:=b.SH sb n;obtain ⟨_,A,_,t8⟩:=(b sb d).cells;obtain ⟨B,_,C,_⟩:=(f (ol sb) ho).cells;have H:=a5 (f.SS (ol sb) n) l d ho;clear h g k b f hl hn d ho l c m;generalize ol sb=y at *;generalize ir ol n y sb=z at *;generalize ir nw n sb y=E at *;go_enter func189,ntmps189;go_wp2;go_region;clear i o p s q r u;go_wp2;go_region;go_end0
 exact ⟨rfl,H.out.1,H.out.2.1.trans (((aa.setCell _ _ _ H.out.2.2.1).trans (aa.setCell _ _ _ H.out.2.2.2)).trans (aa.drew _))⟩
def cnN (cn:Nat->EE) (N:Nat) (c:EE):Nat->EE:=λa=>if a=N then c else cn a
def jy.key {D:Int} {ol:ZS} (h:jy w n D L G lost rd regs steps ne ol):w.cell? ⟨n,0,ZX⟩=ZW (Z7 Z9 D)/\w.cell? ⟨n,1,ZX⟩=ZW (Z7 Z9 L)/\w.cell? ⟨n,2,ZX⟩=ZW (Z7 Z9 G)/\w.cell? ⟨n,3,ZX⟩=ZW (Z7 Z8 lost)/\w.cell? ⟨n,4,ZX⟩=ZW (Z2 rd):=by
 have a:w.heap[n]?=ZW (Z4 (mV D L G lost rd regs steps ne ol) 234 (0,0)):=h;simp [World.cell?,a,mV]
def OT (w':ZT) (sb:Nat) (room:Int) (D L G:Int) (es:List (Nat×Nat×Nat)) (S:Nat->Prop) (cn:Nat->EE) (nw ol:Nat->Nat):Prop:=
 (((es.length:Nat):Int)<=room->(∃ n,w'.heap[sb+1]?=ZW (.map (dU D L G es).toArray n))/\pf w' S cn nw ol) /\
 (room<((es.length:Nat):Int)->∃ j,∃ hj:j<es.length,es[j].2.1=nw sb/\(∃ n,w'.heap[sb+1]?=ZW (.map (dU D L G (es.eraseIdx j)).toArray n))/\pf w' S cn (ir nw (ol (nw sb)) (nw (nw sb))) (ir ol (nw (nw sb)) (ol (nw sb))))
theorem EG {D:Int} {cn:Nat->EE} (hl:fE w sb room) (hm:w.heap[sb+1]?=ZW (.map (dU D L G es).toArray n)) (q2:x∉cL es) (h:pf w S cn nw ol) (g:∀ a,S a->a≠sb+1/\a≠sb+1+1) (u:S sb) (A:S (ol sb)) {N:Nat} (hN:N=w.heap.size+1+1) {cn':Nat->EE} (k5:cn'=cnN cn N ⟨D,L,G,(eC x:Nat),fH x,regs,.slice ao m c⟩) {nw' l:Nat->Nat} (k8:nw'=ir (ir nw N sb) (ol sb) N) (k9:l=ir (ir ol N (ol sb)) sb N) {b:List (Nat×Nat×Nat)} (k6:b=es++[(x,N,n)])
 (hB:room<((b.length:Nat):Int)->(cL b).Nodup/\∃ j,∃ Z:j<b.length,b[j].2.1=nw' sb/\(∃ rg st,cn' (nw' sb)=⟨D,L,G,(eC b[j].1:Nat),fH b[j].1,rg,st⟩)/\(nw' sb=N\/S (nw' sb))/\(nw' (nw' sb)=N\/S (nw' (nw' sb)))/\(l (nw' sb)=N\/S (l (nw' sb)))) :
 ZR ZN 173 #[Z6 (ZW ⟨sb+1+1,0,ZX⟩),bK D L G (eC x:Nat) (fH x),.agg #[Z7 Z9 regs,.slice ao m c]] w λe w'=>e=Z3 (ZZ #[])/\OT w' sb room D L G b (λa=>a=N\/S a) cn' nw' l/\aa (λk=>S k\/k=sb+1) w w':=by
 subst hN;obtain ⟨w3,ki⟩:=nM (((w.alloc (Z4 #[Z7 Z9 D,Z7 Z9 L,Z7 Z9 G,Z7 Z8 (eC x:Nat),Z2 (fH x)] 184)).alloc (Z4 #[Z7 Z9 regs,.slice ao m c] 187)).alloc (Z4 #[Z7 Z9 D,Z7 Z9 L,Z7 Z9 G,Z7 Z8 (eC x:Nat),Z2 (fH x),Z7 Z9 regs,.slice ao m c,.pointer ZX,.pointer ZX] 234));have d:bW w w3:=by rw [<- ki];exact ((bA w _).alloc (by simp) _).alloc (by simp;omega) _
 obtain ⟨I,_,hn⟩:=mW w (Z4 #[Z7 Z9 D,Z7 Z9 L,Z7 Z9 G,Z7 Z8 (eC x:Nat),Z2 (fH x)] 184) (Z4 #[Z7 Z9 regs,.slice ao m c] 187) (Z4 #[Z7 Z9 D,Z7 Z9 L,Z7 Z9 G,Z7 Z8 (eC x:Nat),Z2 (fH x),Z7 Z9 regs,.slice ao m c,.pointer ZX,.pointer ZX] 234);rw [ki] at I hn;have E:jy w3 (w.heap.size+1+1) D L G (eC x:Nat) (fH x) regs (.slice ao m c) (.pointer ZX) (.pointer ZX):=hn;have hll:sb+1+1<w.heap.size:=(TX.1 hl).1;have o:fE w3 sb room:=(d.block _ hll).trans hl;have kx:=(d.block _ (by omega)).trans hm;have M:pf w3 S cn nw ol:=λa f=>(h a f).keep (d.block _ (h a f).lt);have r:∀ a,S a->a<w.heap.size:=λa f=>(h a f).lt;have c0:w3.cell? ⟨w.heap.size,0,ZX⟩=ZW (Z7 Z9 D):=by simp [World.cell?,I]
 have c1:w3.cell? ⟨w.heap.size,1,ZX⟩=ZW (Z7 Z9 L):=by simp [World.cell?,I]
 have c2:w3.cell? ⟨w.heap.size,2,ZX⟩=ZW (Z7 Z9 G):=by simp [World.cell?,I]
 have X:w3.cell? ⟨w.heap.size,3,ZX⟩=ZW (Z7 Z8 (eC x:Nat)):=by simp [World.cell?,I]
 have Y:w3.cell? ⟨w.heap.size,4,ZX⟩=ZW (Z2 (fH x)):=by simp [World.cell?,I]
 obtain ⟨_,l1,_⟩:=gd o;have kg:=N6 (w:=w3.drew) kx q2 (w.heap.size+1+1);have i:aa (λk=>k=sb+1) w3 (w3.drew.putObj (sb+1) (.map (dU D L G (es++[(x,w.heap.size+1+1,n)])).toArray (n+1))):=(aa.drew w3).trans (aa.putObj _ _ _ rfl);have s:(w3.drew.putObj (sb+1) (.map (dU D L G (es++[(x,w.heap.size+1+1,n)])).toArray (n+1))).heap[sb+1]?=ZW (.map (dU D L G (es++[(x,w.heap.size+1+1,n)])).toArray (n+1)):=by
  have hz:=d.size;unfold World.putObj;exact YM (by show sb+1<w3.heap.size;omega)
 obtain ⟨w4,q1⟩:=nM (w3.drew.putObj (sb+1) (.map (dU D L G (es++[(x,w.heap.size+1+1,n)])).toArray (n+1)));rw [q1] at kg i s;unfold bK at kg ⊢;have J:=a6 k5 k8 k9 k6 hB;clear k5 k8 k9 k6 hB;have H:=hide11 d E o M i s hll r g u A;clear hl hm h d E o kx M i s I hn q1 r g u A q2;go_enter func173,ntmps173;go_wp2;go_region;clear c0 c1 c2 X Y l1 kg ki;obtain ⟨d,E,o,M,i,s,hll,r,g,u,A⟩:=H.out;have kz:=E.lt;have kj:∀ a,S a->a≠w.heap.size+1+1:=λa f=>by have:=r a f;omega
 have ko:cn' (w.heap.size+1+1)=⟨D,L,G,(eC x:Nat),fH x,regs,.slice ao m c⟩:=by rw [J.out.1];exact if_pos rfl
 have kp:∀ a,S a->cn' a=cn a:=λa f=>by rw [J.out.1];exact if_neg (kj a f)
 have q0:=z8 (w:=w4) (S:=λa=>a=w.heap.size+1+1\/S a) (cn:=cn') (nw:=nw) (ol:=ol) (n:=w.heap.size+1+1) (show fE w4 sb room from (i.block _ (by omega) (by omega)).trans o) (by rw [ko];exact E.keep (i.block _ E.lt (by omega))) (λa f=>by
  have W:=f.1.resolve_left f.2;rw [kp a W];exact (M a W).keep (i.block _ (M a W).lt (g a W).1)) (.inl rfl) (.inr u) (kj sb u) (.inr A)
 have H4:=hide7 s i o d kz hll q0;clear d E o M i s q0 ko kp;go_wp2_with fail;refine H4.out.2.2.2.2.2.2.mono ?_;rintro e w5 ⟨rfl,v,z⟩;obtain ⟨s,i,o,d,kz,hll,_⟩:=H4.out;obtain ⟨_,_,_,_,_,_,_,r,g,u,A⟩:=H.out;have U:aa (λk=>k=sb+1\/k=w.heap.size+1+1\/S k) w3 w5:=(i.mono λ_ _ q=>.inl q).trans (z.mono λ_ _ q=>.inr q);have C:fE w5 sb room:=(U.block _ (by omega) (λq=>by
  rcases q with q|q|q
  . omega
  . omega
  . exact (g _ q).2 rfl)).trans o
 have q5:=i.size;have p:=(z.block (sb+1) (by omega) (λq=>by
  rcases q with q|q
  . omega
  . exact (g _ q).1 rfl)).trans s
 obtain ⟨l0,l1,l2⟩:=gd C;have kf:=λt=>N7 (w:=w5.drew) p t;have V:aa (λk=>S k\/k=sb+1) w w5:=(aa.RS d _).later U (λk hk q=>by
  rcases q with q|q|q
  . exact .inr q
  . omega
  . exact .inl q)
 rw [<- J.out.2.1,<- J.out.2.2.1] at v;rw [<- J.out.2.2.2.1] at p kf;obtain ⟨K,hK⟩:=nM (b.length);rw [hK] at kf;by_cases hr:(K:Int)<=room
 . have q3:¬ (room<(K:Int)):=(by omega);have Q:decide (room<(K:Int))=ZU:=decide_eq_false q3;have T:=a5 v p V hK;clear s i o U C p v z V g u A r d hK;go_wp2;go_region;go_wp2;go_end0
   obtain ⟨v,p,hO,hK⟩:=T.out;exact ⟨rfl,⟨λ_=>⟨⟨_,p⟩,v⟩,λq=>by rw [hK] at q;omega⟩,hO.trans (aa.drew _)⟩
 . have q4:room<(K:Int):=(by omega);obtain ⟨Q,j,Z,O,⟨rg,st,P⟩,B,kc,ke⟩:=J.out.2.2.2.2 (by rw [hK];exact q4);obtain ⟨e7,_,_,_⟩:=(v sb (.inr u)).cells;have kh:=qW (w:=w5.drew) (show pf w5.drew (λa=>a=w.heap.size+1+1\/S a) cn' nw' l from v) B kc ke;obtain ⟨q,F⟩:=nM (nw' sb);rw [F] at O P B kc ke e7 kh;have T:=hide13 C p V hK Q O P B kh F g r d;clear s i o U C p v z V g u A r d hK Q O P B kc ke kh F;go_wp2;go_region;go_wp2_with fail;refine T.out.2.2.2.2.2.2.2.2.1.mono ?_;rintro e w6 ⟨rfl,kb,kk⟩;clear l0 l1 l2 e7 kf;obtain ⟨C,p,z,hK,Q,O,P,B,_,F,g,r,d⟩:=T.out;have R:aa (λa=>a=w.heap.size+1+1\/S a) w5 w6:=(aa.drew w5).trans kk;have q6:=z.size;have kv:fE w6 sb room:=(R.block _ (by omega) (λe=>by
    rcases e with e|e
    . omega
    . exact (g _ e).2 rfl)).trans C
   have ky:=(R.block (sb+1) (by omega) (λe=>by
    rcases e with e|e
    . omega
    . exact (g _ e).1 rfl)).trans p
   obtain ⟨_,l1,_⟩:=gd kv;have ks:=(kb q B).key;rw [P] at ks;obtain ⟨c0,c1,c2,X,Y⟩:=ks;have kr:=λt=>Qv (w:=w6.drew) ky Z Q t;obtain ⟨y,hy⟩:=nM (b[j].1);rw [hy] at kr X Y;unfold bK at kr;have k7:OT (w6.drew.putObj (sb+1) (.map (dU D L G (b.eraseIdx j)).toArray (n+1))) sb room D L G b (λa=>a=w.heap.size+1+1\/S a) cn' nw' l/\aa (λk=>S k\/k=sb+1) w (w6.drew.putObj (sb+1) (.map (dU D L G (b.eraseIdx j)).toArray (n+1))):=by
    have km:aa (λk=>k=sb+1) w6 (w6.drew.putObj (sb+1) (.map (dU D L G (b.eraseIdx j)).toArray (n+1))):=(aa.drew w6).trans (aa.putObj _ _ _ rfl);have q7:=R.size;refine ⟨⟨λe=>by rw [hK] at e;omega,λ_=>⟨j,Z,O.trans F.symm,⟨n+1,?_⟩,?_⟩⟩,?_⟩
    . unfold World.putObj;exact YM (by show sb+1<w6.heap.size;omega)
    . rw [F];exact kb.keep km (λa f e=>by
       rcases f with f|f
       . omega
       . exact (g a f).1 e)
    . exact (z.later R (λk hk e=>by
       rcases e with e|e
       . omega
       . exact .inl e)).later km (λk hk e=>.inr e)
   have H6:=al k7;clear k7 C p z hK Q O P B F g r d R kv ky kb kk hy;go_wp2;go_region;go_end0
   exact ⟨rfl,H6.out⟩
def BU (w:ZT) (q s:Nat) (v12:ZS) (w12:ZT) (Dn:Nat->Bool) (w':ZT):Prop:=w'=if Dn 14=ZV then w12.setCell ⟨q,2,ZX⟩ v12 else if Dn 12=ZV then w12 else if Dn 11=ZV then w.drew.alloc (Z4 #[Z7 Z9 (s:Int)] 3) else w.drew
def gS (h:BU w q s v12 w12 Dn w') (i:Nat) (a:14≠i) (b:12≠i) (c:11≠i):BU w q s v12 w12 (fI Dn i) w':=by unfold BU;rw [bZ a,bZ b,bZ c];exact h
def uz (h:BU w q s v12 w12 Dn w') (a:Dn 14=ZU) (b:Dn 12=ZU) (c:Dn 11=ZU):w'=w.drew:=by
 unfold BU at h;rwa [if_neg (by rw [a];decide),if_neg (by rw [b];decide),if_neg (by rw [c];decide)] at h
def xM (h:BU w q s v12 w12 Dn w') (a:Dn 14=ZU) (b:Dn 12=ZU) (c:Dn 11=ZV):w'=w.drew.alloc (Z4 #[Z7 Z9 (s:Int)] 3):=by
 unfold BU at h;rwa [if_neg (by rw [a];decide),if_neg (by rw [b];decide),if_pos c] at h
def iu {sh:List (Op×Option Nat×a8)} (b:∀ j,Dn j=ZV->j<sh.length/\∀ k∈(bB sh j).2.2,Dn k=ZV) (a:Dn i=ZU) (c:i∈(bB sh j).2.2):Dn j=ZU:=by
 cases h:Dn j with
 | false=>rfl
 | true=>
  have:=(b j h).2 i c;rw [a] at this;cases this
noncomputable def RI:Array Oper:=((Tryz.f162.body.bind (pe · 12))).getD #[]
def RK:List (Op×Option Nat×a8):=[(Op.fieldAddr 130 (Z1 4) 2,ZW 55,[]),
 (Op.load 111 (Z1 55),ZW 56,[0]),
 (Op.move (Z1 0),ZW 57,[]),
 (Op.move (Z1 10),ZW 58,[]),
 (Op.call { callee:=Callee.value (Operand.func 104),args:=#[Z1 58],argTypes:=#[3] },ZW 59,[3]),
 (Op.move (Z1 10),ZW 60,[]),
 (Op.binOp BinOp.add 3 (Z1 60) (Operand.const (Value.int IntKind.i64 1)) 3,ZW 61,[5]),
 (Op.call { callee:=Callee.value (Operand.func 104),args:=#[Z1 61],argTypes:=#[3] },ZW 62,[6,4]),
 (Op.slice 31 (Z1 57) (ZW (Z1 59)) (ZW (Z1 62)) ZX,ZW 63,[2,4,7]),
 (Op.call { callee:=Callee.value (Operand.func 161),args:=#[Z1 63],argTypes:=#[31] },ZW 64,[8,7]),
 (Op.convert 39 3 (Z1 64),ZW 65,[9]),
 (Op.buildSlice 111 1 #[(0,Z1 65)],ZW 66,[10]),
 (Op.call { callee:=Callee.builtin Builtin.append,args:=#[Z1 56,Z1 66],argTypes:=#[111,111] },ZW 67,[1,11,9]),
 (Op.fieldAddr 130 (Z1 4) 2,ZW 68,[0,1,2,3,4,5,6,7,8,9,10,11,12]),
 (Op.store 111 (Z1 68) (Z1 67),ZX,[13,12,12,0,1,2,3,4,5,6,7,8,9,10,11,12])]
def EH:aL RI 55 69 RK:=bw (by kernel_rfl) (by kernel_rfl)
def RL (w:ZT) (q b off bl c j lo s:Nat) (sv v12:ZS):List ZS:=[Z6 (ZW ⟨q,2,ZX⟩),sv,Z5 (ZW ⟨b,off,ZX⟩) bl c,Z7 Z9 j,Z7 Z9 (lo:Nat),Z7 Z9 j,Z7 Z9 ((j+1:Nat):Int),Z7 Z9 ((lo+4:Nat):Int),Z5 (ZW ⟨b,off+lo,ZX⟩) 4 (c-lo),Z7 Z8 (s:Nat),Z7 Z9 (s:Nat),Z5 (ZW ⟨w.heap.size,0,ZX⟩) 1 1,v12,Z6 (ZW ⟨q,2,ZX⟩),ZY]
theorem rA {a:Act} {off:Nat} {sv nm:ZS} {sz:ZS} (Z:w.heap[q]?=ZW (Z4 #[nm,sz,sv] 130 (0,0))) (hx:19+4*j=lo) (k0:lo+4<=bl) (hz:bl<=c) (hj:j<=100000) (hs:s<4294967296) (W:Bs w (Z5 (ZW ⟨b,off+lo,ZX⟩) 4 (c-lo)) (be s 4)) (V:∀ ty,(Builtin.append_ #[111,111] ty #[sv,Z5 (ZW ⟨w.heap.size,0,ZX⟩) 1 1]).run ZN (w.drew.alloc (Z4 #[Z7 Z9 (s:Int)] 3))=.ok v12 w12) (S:∃ E G F,v12=.slice E G F) (M:w12.heap[q]?=ZW (Z4 #[nm,sz,sv] 130 (0,0))) (R:RI=ops) (k6:a.tmps.size=75)
 (O:a.eval (Z1 0)=Z5 (ZW ⟨b,off,ZX⟩) bl c) (L:a.eval (Z1 4)=Z6 (ZW ⟨q,0,ZX⟩)) (A:a.eval (Z1 10)=Z7 Z9 j)
 (T:∀ (w':ZT),w'=w12.setCell ⟨q,2,ZX⟩ v12->Q .normal (Act.RR a 55 [Z6 (ZW ⟨q,2,ZX⟩),sv,Z5 (ZW ⟨b,off,ZX⟩) bl c,Z7 Z9 j,Z7 Z9 (lo:Nat),Z7 Z9 j,Z7 Z9 ((j+1:Nat):Int),Z7 Z9 ((lo+4:Nat):Int),Z5 (ZW ⟨b,off+lo,ZX⟩) 4 (c-lo),Z7 Z8 (s:Nat),Z7 Z9 (s:Nat),Z5 (ZW ⟨w.heap.size,0,ZX⟩) 1 1,v12,Z6 (ZW ⟨q,2,ZX⟩)]) w'):(Code.region 12 ops ZV).wp ZN Q a w:=by
 subst R;have I:19+4*(j+1)=lo+4:=by omega
 have J:fG (be s 4)=s:=lu s 4 (by omega) (by omega);have H:w.cell? ⟨q,2,ZX⟩=ZW sv:=by simp [World.cell?,Z]
 refine dj (by kernel_rfl) EH a w (by omega) (λi u _=>u=(RL w q b off bl c j lo s sv v12).getD i ZY) (BU w q s v12 w12) rfl ?_ ?_
 . intro i D;match i,D with
   | 0,_=>
    intro o g w' Dn y ho l x p m k h d;have u0:g.eval (Z1 4)=Z6 (ZW ⟨q,0,ZX⟩):=(x.slot 4 (by omega)).trans L;exact af (v:=Z6 (ZW ⟨q,2,ZX⟩)) (by (conv at ho=>rhs;whnf);simp only [execOp,ho,u0];go_simp) l ⟨gS h 0 (by decide) (by decide) (by decide),rfl,kq⟩
   | 1,_=>
    intro o g w' Dn y ho l x p m k h d;have u0:g.eval (Z1 55)=Z6 (ZW ⟨q,2,ZX⟩):=d 0 (k 0 (by decide));have r:Dn 12=ZU:=iu m p (by decide);have t:Dn 14=ZU:=iu m r (by decide);have N:w'.cell? ⟨q,2,ZX⟩=ZW sv:=by
     cases h9:Dn 11 with
     | false=>rw [uz h t r h9];exact H
     | true=>rw [xM h t r h9];exact (World.cell?_alloc_some w.drew _ _ (by rw [show w.drew.cell? ⟨q,2,ZX⟩=ZW sv from H];rfl)).trans H
    exact af (v:=sv) (by (conv at ho=>rhs;whnf);simp only [execOp,ho,u0];go_simp) l ⟨gS h 1 (by decide) (by decide) (by decide),rfl,kq⟩
   | 2,_=>
    intro o g w' Dn y ho l x p m k h d;have u0:g.eval (Z1 0)=Z5 (ZW ⟨b,off,ZX⟩) bl c:=(x.slot 0 (by omega)).trans O;exact af (ag ho u0 w') l ⟨gS h 2 (by decide) (by decide) (by decide),rfl,kq⟩
   | 3,_=>
    intro o g w' Dn y ho l x p m k h d;have u0:g.eval (Z1 10)=Z7 Z9 j:=(x.slot 10 (by omega)).trans A;exact af (ag ho u0 w') l ⟨gS h 3 (by decide) (by decide) (by decide),rfl,kq⟩
   | 4,_=>
    intro o g w' Dn y ho l x p m k h d;have u0:g.eval (Z1 58)=Z7 Z9 j:=d 3 (k 3 (by decide));refine gj (f:=104) (args:=#[Z7 Z9 j]) (w1:=w') (by (conv at ho=>rhs;whnf);simp only [execOp,ho];go_simp;simpa [Act.eval] using u0) l (ga j (by omega) w') ?_;rintro e C ⟨rfl,z⟩;exact ⟨_,rfl,by rw [z];exact gS h 4 (by decide) (by decide) (by decide),by rw [hx];rfl,kq⟩
   | 5,_=>
    intro o g w' Dn y ho l x p m k h d;have u0:g.eval (Z1 10)=Z7 Z9 j:=(x.slot 10 (by omega)).trans A;exact af (ag ho u0 w') l ⟨gS h 5 (by decide) (by decide) (by decide),rfl,kq⟩
   | 6,_=>
    intro o g w' Dn y ho l x p m k h d;have u0:g.eval (Z1 60)=Z7 Z9 j:=d 5 (k 5 (by decide));have k7:IntKind.i64.wrap ((j:Int)+1)=(j:Int)+1:=(by rw [Ut];omega);exact af (v:=Z7 Z9 ((j+1:Nat):Int)) (by (conv at ho=>rhs;whnf);simp only [execOp,ho,u0];go_simp) l ⟨gS h 6 (by decide) (by decide) (by decide),rfl,kq⟩
   | 7,_=>
    intro o g w' Dn y ho l x p m k h d;have u0:g.eval (Z1 61)=Z7 Z9 ((j+1:Nat):Int):=d 6 (k 6 (by decide));refine gj (f:=104) (args:=#[Z7 Z9 ((j+1:Nat):Int)]) (w1:=w') (by (conv at ho=>rhs;whnf);simp only [execOp,ho];go_simp;simpa [Act.eval] using u0) l (ga (j+1) (by omega) w') ?_;rintro e C ⟨rfl,z⟩;exact ⟨_,rfl,by rw [z];exact gS h 7 (by decide) (by decide) (by decide),by rw [I];rfl,kq⟩
   | 8,_=>
    intro o g w' Dn y ho l x p m k h d;have u0:g.eval (Z1 57)=Z5 (ZW ⟨b,off,ZX⟩) bl c:=d 2 (k 2 (by decide));have u1:g.eval (Z1 59)=Z7 Z9 (lo:Nat):=d 4 (k 4 (by decide));have u2:g.eval (Z1 62)=Z7 Z9 ((lo+4:Nat):Int):=d 7 (k 7 (by decide));have hv:lo<=lo+4:=(by omega);have X:lo+4<=c:=(by omega);have hb:g.tmps[59]?.getD ZY=Z7 Z9 (lo:Nat):=(by simpa [Act.eval] using u1);have K:g.tmps[62]?.getD ZY=Z7 Z9 ((lo+4:Nat):Int):=(by simpa [Act.eval] using u2);have hr:lo+4-lo=4:=(by omega);have hh:¬ c=lo:=(by omega);clear u1 u2;obtain ⟨D,P⟩:=nM (lo+4);rw [P] at K hr X hv;exact af (v:=Z5 (ZW ⟨b,off+lo,ZX⟩) 4 (c-lo)) (by (conv at ho=>rhs;whnf);simp only [execOp,ho,u0];go_simp) l ⟨gS h 8 (by decide) (by decide) (by decide),rfl,kq⟩
   | 9,_=>
    intro o g w' Dn y ho l x p m k h d;have u0:g.eval (Z1 63)=Z5 (ZW ⟨b,off+lo,ZX⟩) 4 (c-lo):=d 8 (k 8 (by decide));have B:Dn 11=ZU:=iu m (iu m p (by decide):Dn 10=ZU) (by decide);have r:Dn 12=ZU:=iu m B (by decide);have t:Dn 14=ZU:=iu m r (by decide);have z:=uz h t r B;refine gj (f:=161) (args:=#[Z5 (ZW ⟨b,off+lo,ZX⟩) 4 (c-lo)]) (w1:=w') (by (conv at ho=>rhs;whnf);simp only [execOp,ho];go_simp;simpa [Act.eval] using u0) l (sE _ (be s 4) w' (by rw [z];exact W)) ?_;rintro e C ⟨rfl,hy⟩;exact ⟨_,rfl,by rw [hy];exact gS h 9 (by decide) (by decide) (by decide),by rw [J];rfl,kq⟩
   | 10,_=>
    intro o g w' Dn y ho l x p m k h d;have u0:g.eval (Z1 64)=Z7 Z8 (s:Nat):=d 9 (k 9 (by decide));have k5:IntKind.i64.wrap (s:Int)=s:=(by rw [Ut];omega);exact af (v:=Z7 Z9 (s:Nat)) (by (conv at ho=>rhs;whnf);simp only [execOp,ho,u0];go_simp) l ⟨gS h 10 (by decide) (by decide) (by decide),rfl,kq⟩
   | 11,_=>
    intro o g w' Dn y ho l x p m k h d;have u0:g.eval (Z1 65)=Z7 Z9 (s:Nat):=d 10 (k 10 (by decide));have r:Dn 12=ZU:=iu m p (by decide);have t:Dn 14=ZU:=iu m r (by decide);have z:=uz h t r p;subst z;exact af (v:=Z5 (ZW ⟨w.heap.size,0,ZX⟩) 1 1) (w':=w.drew.alloc (Z4 #[Z7 Z9 (s:Int)] 3)) (by (conv at ho=>rhs;whnf);simp only [execOp,ho,Vr,Uu,UY,u0];go_simp) l ⟨by unfold BU;rw [bZ (by decide),bZ (by decide),if_neg (by rw [t];decide),if_neg (by rw [r];decide),if_pos gP],rfl,kq⟩
   | 12,_=>
    intro o g w' Dn y ho l x p m k h d;have u0:g.eval (Z1 56)=sv:=d 1 (k 1 (by decide));have u1:g.eval (Z1 66)=Z5 (ZW ⟨w.heap.size,0,ZX⟩) 1 1:=d 11 (k 11 (by decide));have t:Dn 14=ZU:=iu m p (by decide);have z:=xM h t p (k 11 (by decide));subst z;exact af (v:=v12) (w':=w12) (by (conv at ho=>rhs;whnf);simp only [execOp,ho,resolve,invoke,builtin,Uo,U2,UE,Vr,Uu,UY,u0,u1,V]) l ⟨by unfold BU;rw [bZ (by decide),if_neg (by rw [t];decide),if_pos gP],rfl,kq⟩
   | 13,_=>
    intro o g w' Dn y ho l x p m k h d;have u0:g.eval (Z1 4)=Z6 (ZW ⟨q,0,ZX⟩):=(x.slot 4 (by omega)).trans L;exact af (v:=Z6 (ZW ⟨q,2,ZX⟩)) (by (conv at ho=>rhs;whnf);simp only [execOp,ho,u0];go_simp) l ⟨gS h 13 (by decide) (by decide) (by decide),rfl,kq⟩
   | 14,_=>
    intro o g w' Dn y ho l x p m k h d;obtain ⟨E,G,F,rfl⟩:=S;have u0:g.eval (Z1 68)=Z6 (ZW ⟨q,2,ZX⟩):=d 13 (k 13 (by decide));have u1:g.eval (Z1 67)=.slice E G F:=d 12 (k 12 (by decide));have z:w'=w12:=by
     have:=h;unfold BU at this;rwa [if_neg (by rw [p];decide),if_pos (k 12 (by decide))] at this
    subst z;have N:w'.cell? ⟨q,2,ZX⟩=ZW sv:=(by simp [World.cell?,M]);have ff:w'.frozen? ⟨q,2,ZX⟩=ZU:=(by simp [World.frozen?,M]);exact ig (w':=w'.setCell ⟨q,2,ZX⟩ (.slice E G F)) (by (conv at ho=>rhs;whnf);simp only [execOp,ho,u0,u1];go_simp) ⟨by unfold BU;rw [if_pos gP],rfl,kq⟩
   | n+15,hn=>exact absurd hn (by show ¬ n+15<15;omega)
 . rintro g w' Y ha ⟨Dn,U,h⟩ d;have e:g=Act.RR a 55 [Z6 (ZW ⟨q,2,ZX⟩),sv,Z5 (ZW ⟨b,off,ZX⟩) bl c,Z7 Z9 j,Z7 Z9 (lo:Nat),Z7 Z9 j,Z7 Z9 ((j+1:Nat):Int),Z7 Z9 ((lo+4:Nat):Int),Z5 (ZW ⟨b,off+lo,ZX⟩) 4 (c-lo),Z7 Z8 (s:Nat),Z7 Z9 (s:Nat),Z5 (ZW ⟨w.heap.size,0,ZX⟩) 1 1,v12,Z6 (ZW ⟨q,2,ZX⟩)]:=Y.out _ rfl (by omega) (λi D=>?_)
   . rw [e];exact T w' (by unfold BU at h;rw [if_pos (U 14 (by decide))] at h;exact h)
   . match i,D with
     | 0,_=>exact d 0 (by decide)
     | 1,_=>exact d 1 (by decide)
     | 2,_=>exact d 2 (by decide)
     | 3,_=>exact d 3 (by decide)
     | 4,_=>exact d 4 (by decide)
     | 5,_=>exact d 5 (by decide)
     | 6,_=>exact d 6 (by decide)
     | 7,_=>exact d 7 (by decide)
     | 8,_=>exact d 8 (by decide)
     | 9,_=>exact d 9 (by decide)
     | 10,_=>exact d 10 (by decide)
     | 11,_=>exact d 11 (by decide)
     | 12,_=>exact d 12 (by decide)
     | 13,_=>exact d 13 (by decide)
     | n+14,hn=>exact absurd hn (by simp)
noncomputable def RM:Array Oper:=((Tryz.f162.body.bind (pe · 14))).getD #[]
def RN:List (Op×Option Nat×a8):=[(Op.load 130 (Z1 4),ZW 70,[]),
 (Op.move (Z1 0),ZW 71,[]),
 (Op.move (Z1 9),ZW 72,[]),
 (Op.call { callee:=Callee.value (Operand.func 104),args:=#[Z1 72],argTypes:=#[3] },ZW 73,[2]),
 (Op.slice 31 (Z1 71) (ZW (Z1 73)) ZX ZX,ZW 74,[1,3]),
 (Op.store 130 (Z1 4) (Z1 70),ZX,[0,3,0]),
 (Op.assign (Z1 74),ZW 5,[4,5,0,1,2,3,4,5]),
 (Op.assign (Operand.const (Value.bool ZV)),ZW 6,[6,0,1,2,3,4,5,6])]
def EJ:aL RM 5 75 RN:=bw (by kernel_rfl) (by kernel_rfl)
def RO (b off bl c m lo sz sc:Nat) (nm:ByteArray) (sa ra:Option ZQ):List ZS:=[.agg #[Z0 nm,Z7 Z9 (sz:Int),.slice sa m sc],Z5 (ZW ⟨b,off,ZX⟩) bl c,Z7 Z9 m,Z7 Z9 (lo:Nat),.slice ra (bl-lo) (c-lo),ZY,.slice ra (bl-lo) (c-lo),Z2 ZV]
theorem rB {a:Act} {off sz sc:Nat} {nm:ByteArray} {sa ra:Option ZQ} (z:w.heap[q]?=ZW (Z4 #[Z0 nm,Z7 Z9 (sz:Int),.slice sa m sc] 130 (0,0))) (L:19+4*m=lo) (T:lo<=bl) (S:bl<=c) (P:m<=100000) (M:(c=lo/\ra=ZW ⟨b,off,ZX⟩)\/(c≠lo/\ra=ZW ⟨b,off+lo,ZX⟩)) (J:RM=ops) (U:a.tmps.size=75)
 (D:a.eval (Z1 0)=Z5 (ZW ⟨b,off,ZX⟩) bl c) (A:a.eval (Z1 4)=Z6 (ZW ⟨q,0,ZX⟩)) (E:a.eval (Z1 9)=Z7 Z9 m)
 (I:∀ (w':ZT),w'=w.drew->Q .normal (Act.RR (Act.RR a 5 [.slice ra (bl-lo) (c-lo),Z2 ZV]) 70 [.agg #[Z0 nm,Z7 Z9 (sz:Int),.slice sa m sc],Z5 (ZW ⟨b,off,ZX⟩) bl c,Z7 Z9 m,Z7 Z9 (lo:Nat),.slice ra (bl-lo) (c-lo)]) w'):(Code.region 14 ops ZV).wp ZN Q a w:=by
 subst J;have B:(ZN.info? 130).map (·.size)=ZW 3:=by kernel_rfl
 have K:(Instr.loadAt 130 (Z6 (ZW ⟨q,0,ZX⟩))).run ZN w.drew=.ok (.agg #[Z0 nm,Z7 Z9 (sz:Int),.slice sa m sc]) w.drew:=by simp only [Instr.loadAt,Instr.sureAddr,Uo,U2,UE,WN w.drew q 130 130 #[Z0 nm,Z7 Z9 (sz:Int),.slice sa m sc] (0,0) _ z underlying130 rfl B]
 have N:(Instr.storeAt 130 (Z6 (ZW ⟨q,0,ZX⟩)) (.agg #[Z0 nm,Z7 Z9 (sz:Int),.slice sa m sc])).run ZN w.drew=.ok () w.drew:=by
  simp only [Instr.storeAt,Instr.sureAddr,Uo,U2,UE,XA w.drew q 130 130 #[Z0 nm,Z7 Z9 (sz:Int),.slice sa m sc] #[Z0 nm,Z7 Z9 (sz:Int),.slice sa m sc] z B rfl (by simp [Value.oneCell'])];rw [setRow_self w.drew q _ 130 (0,0) z]
 refine lA (by kernel_rfl) EJ a w (by omega) (λi u _=>u=(RO b off bl c m lo sz sc nm sa ra).getD i ZY) (λ_ w'=>w'=w.drew) rfl ?_ ?_
 . intro i y;match i,y with
   | 0,_=>
    intro o g w' Dn s ho j t l p r k h d;have u0:g.eval (Z1 4)=Z6 (ZW ⟨q,0,ZX⟩):=(l 4 (by decide)).trans A;have x:w'=w.drew:=h;exact af (v:=.agg #[Z0 nm,Z7 Z9 (sz:Int),.slice sa m sc]) (by rw [x];(conv at ho=>rhs;whnf);simp [execOp,ho,u0,K]) j ⟨x,rfl,kq⟩
   | 1,_=>
    intro o g w' Dn s ho j t l p r k h d;have u0:g.eval (Z1 0)=Z5 (ZW ⟨b,off,ZX⟩) bl c:=(l 0 (by decide)).trans D;exact af (ag ho u0 w') j ⟨h,rfl,kq⟩
   | 2,_=>
    intro o g w' Dn s ho j t l p r k h d;have u0:g.eval (Z1 9)=Z7 Z9 m:=(l 9 (by decide)).trans E;exact af (ag ho u0 w') j ⟨h,rfl,kq⟩
   | 3,_=>
    intro o g w' Dn s ho j t l p r k h d;have u0:g.eval (Z1 72)=Z7 Z9 m:=d 2 (k 2 (by decide));refine gj (f:=104) (args:=#[Z7 Z9 m]) (w1:=w') (by (conv at ho=>rhs;whnf);simp only [execOp,ho];go_simp;simpa [Act.eval] using u0) j (ga m (by omega) w') ?_;rintro e O ⟨rfl,x⟩;exact ⟨_,rfl,by rw [x];exact h,by rw [L];rfl,kq⟩
   | 4,_=>
    intro o g w' Dn s ho j t l p r k h d;have u0:g.eval (Z1 71)=Z5 (ZW ⟨b,off,ZX⟩) bl c:=d 1 (k 1 (by decide));have u1:g.tmps[73]?.getD ZY=Z7 Z9 (lo:Nat):=(by have H:g.eval (Z1 73)=Z7 Z9 (lo:Nat):=d 3 (k 3 (by decide));simpa [Act.eval] using H);refine af (v:=.slice ra (bl-lo) (c-lo)) ?_ j ⟨h,rfl,kq⟩;rcases M with ⟨F,rfl⟩|⟨F,rfl⟩
    . (conv at ho=>rhs;whnf);simp only [execOp,ho,u0];go_simp
    . (conv at ho=>rhs;whnf);simp only [execOp,ho,u0];go_simp
   | 5,_=>
    intro o g w' Dn s ho j t l p r k h d;have u0:g.eval (Z1 4)=Z6 (ZW ⟨q,0,ZX⟩):=(l 4 (by decide)).trans A;have u1:g.eval (Z1 70)=.agg #[Z0 nm,Z7 Z9 (sz:Int),.slice sa m sc]:=d 0 (k 0 (by decide));have x:w'=w.drew:=h;subst x;exact ig (w':=w.drew) (by (conv at ho=>rhs;whnf);simp [execOp,ho,u0,u1,N]) ⟨rfl,rfl,kq⟩
   | 6,_=>
    intro o g w' Dn s ho j t l p r k h d;have u0:g.eval (Z1 74)=.slice ra (bl-lo) (c-lo):=d 4 (k 4 (by decide));exact af (v:=.slice ra (bl-lo) (c-lo)) (by (conv at ho=>rhs;whnf);simp only [execOp,ho,u0];go_simp) j ⟨h,rfl,kq⟩
   | 7,_=>
    intro o g w' Dn s ho j t l p r k h d;exact af (v:=Z2 ZV) (by (conv at ho=>rhs;whnf);simp only [execOp,ho];go_simp) j ⟨h,rfl,kq⟩
   | n+8,hn=>exact absurd hn (by show ¬ n+8<8;omega)
 . rintro g w' C G ⟨Dn,R,h⟩ d;have e:g=Act.RR (Act.RR a 5 [.slice ra (bl-lo) (c-lo),Z2 ZV]) 70 [.agg #[Z0 nm,Z7 Z9 (sz:Int),.slice sa m sc],Z5 (ZW ⟨b,off,ZX⟩) bl c,Z7 Z9 m,Z7 Z9 (lo:Nat),.slice ra (bl-lo) (c-lo)]:=PM C.size C.defers (ze G) (by rfl) (by show 5+2<=70;omega) (by show 75<=_;omega) (λi y=>?_) (λi y=>?_)
   . rw [e];exact I w' h
   . match i,y with
     | 0,_=>exact d 6 (by decide)
     | 1,_=>exact d 7 (by decide)
     | n+2,hn=>exact absurd hn (by simp)
   . match i,y with
     | 0,_=>exact d 0 (by decide)
     | 1,_=>exact d 1 (by decide)
     | 2,_=>exact d 2 (by decide)
     | 3,_=>exact d 3 (by decide)
     | 4,_=>exact d 4 (by decide)
     | n+5,hn=>exact absurd hn (by simp)
theorem Bs.sub {off:Nat} (h:Bs w (Z5 (ZW ⟨b,off,ZX⟩) bl c) l) (i n d:Nat) (f:i+n<=l.length) (p:n<=d):Bs w (Z5 (ZW ⟨b,off+i,ZX⟩) n d) ((l.drop i).take n):=by
 obtain ⟨ao,c0,e,t,u,m,o⟩:=h;injection e with e1 e2 e3;have hl:((l.drop i).take n).length=n:=by rw [Ui,Uj];omega
 refine ⟨ZW ⟨b,off+i,ZX⟩,d,by rw [hl],by rw [hl];exact p,by rw [hl];omega,λx r=>m x (US (UN r)),λv=>⟨b,off+i,rfl,λk g=>?_⟩⟩;rw [hl] at g;obtain ⟨s,y,a,j⟩:=o (λq=>by rw [q] at f;simp at f;omega);rw [<- e1] at a;injection a with a;injection a with e5 e6;subst e5 e6;have:=j (i+k) (by omega);rw [Vu,this];congr 3;rw [T5,T5,VF g,VZ]
def Cz (a b:a8) (n k:Nat) (h:a.length=n):(a++b).drop (n+k)=b.drop k:=by
 subst h;rw [<- VA,List.drop_left]
def LQ (ho:o.fit) (rest:a8):(bM o++rest).getD 0 0=o.name.size:=by
 unfold bM;have:be o.name.size 1=[o.name.size]:=by
  have:=ho.name.2;simp [be];omega
 rw [this];rfl
def IH (o:Ob) (rest:a8):((bM o++rest).drop 1).take o.name.size=o.name.toList.map (λ(b:UInt8)=>b.toNat):=by
 have:(be o.name.size 1).length=1:=aF _ _;have:(o.name.toList.map (λ(b:UInt8)=>b.toNat)).length=o.name.size:=by
  rw [T7,XZ,Wk];rfl
 unfold bM fD;simp only [Uz];rw [WM (by omega),WA (by omega),Uk,VN (by omega),UD (by omega)]
def II (ho:o.fit) (rest:a8):((bM o++rest).drop 17).take 2=be o.size 2:=by
 have:(be o.name.size 1++fD o.name).length=17:=by rw [T8,aF,mB ho.name.2]
 unfold bM;rw [Uz,Uz,WM (by omega),WA (by omega),Uk,VN (by rw [aF];exact TV _),UD (by rw [aF];exact TV _)]
def LR (l:a8) (j:Nat) (a:j<l.length) (r:a8):((l.flatMap (λs=>be s 4)++r).drop (4*j)).take 4=be l[j] 4:=by
 induction l generalizing j with
 | nil=>cases a
 | cons x l ih=>
  cases j with
  | zero=>rw [VE,Nat.mul_zero,WL,Uz,VN (by rw [aF];exact TV _),UD (by rw [aF];exact TV _)];rfl
  | succ j=>
   rw [VE,show 4*(j+1)=4+4*j by omega,Uz,Cz _ _ 4 (4*j) (aF _ _)];exact ih j (by simpa using a)
def LS (ho:o.fit):(be o.name.size 1++fD o.name++be o.size 2).length=19:=by rw [T8,T8,aF,aF,mB ho.name.2]
def CA (ho:o.fit) (rest:a8) (j:Nat) (b:j<o.RQ.length):((bM o++rest).drop (19+4*j)).take 4=be o.RQ[j] 4:=by
 have a:=LS ho;unfold bM;rw [Uz,Cz _ _ 19 (4*j) a,LR _ _ b]
def IJ (ho:o.fit) (rest:a8):(bM o++rest).drop (19+4*o.RQ.length)=rest:=by
 rw [<- cQ ho,WM lR,WA lR,Uk]
def QS:Array ZS:=#[.string ⟨#[]⟩,Z7 Z9 0,Z5 ZX 0 0]
def LU {o:Oper} {a:Act} (j:o.guard=ZX) (x y:Operand) (ho:o.op=.store 130 x y) {b:Nat} {cs cs':Array ZS}
 (k:a.eval x=Z6 (ZW ⟨b,0,ZX⟩)) (l:a.eval y=.agg cs') (g:w.heap[b]?=ZW (Z4 cs 130 (0,0))) (i:cs.size=3) (c:cs'.size=3) (e:cs'.all (·.oneCell')=ZV) (h:wpList ZN ops Q rest (a.put o.dst ZY) (w.setRow b cs')):wpList ZN ops Q (o::rest) a w:=by
 have d:(ZN.info? 130).map (·.size)=ZW 3:=by kernel_rfl
 have f:(Instr.storeAt 130 (Z6 (ZW ⟨b,0,ZX⟩)) (.agg cs')).run ZN w=.ok () (w.setRow b cs'):=by
  simp only [Instr.storeAt,Instr.sureAddr,Uo,U2,UE,XA w b 130 130 cs cs' g (by rw [c];exact d) (by rw [i,c]) e]
 refine VO j λK hK=>?_;unfold Oper.wp;simp [execOp,ho,k,l,f,Result.andThen];exact hK _ _ h
def CB {P:Program} {fn:Func} {p t u:Tmp} {ty:ZO} (h:fn.results=#[.cell p ty,.tmp t,.tmp u]) (tmps:Array ZS) (w:ZT) (g:Nat) (b:ZO) (cs:Array ZS) (a:Nat×Nat) (d:TypeDesc) (x y:ZS)
 (l:tmps.getD p ZY=Z6 (ZW ⟨g,0,ZX⟩)) (n:tmps.getD t ZY=x) (o:tmps.getD u ZY=y) (j:w.heap[g]?=ZW (Z4 cs b a)) (m:P.underlying ty=ZW d) (i:(match d with|.struct _|.array _ _=>ZV|_=>ZU)=ZV) (k:(P.info? ty).map (·.size)=ZW cs.size) :
 (results fn tmps).run P w=.ok (ZZ #[.agg cs,x,y]) w:=by
 have c:tmps[p]?.getD ZY=Z6 (ZW ⟨g,0,ZX⟩):=by simpa using l
 have e:tmps[t]?.getD ZY=x:=by simpa using n
 have f:tmps[u]?.getD ZY=y:=by simpa using o
 simp [results,h,c,e,f,asAddr,WN w g b ty cs a d j m i k]
def UoR (w:ZT) (nm:ByteArray) (sz:Nat) (st:a8) (i:ZS) (wr:ZT):Prop:=∃ (j:Nat) (sv:ZS),j<=st.length/\i=Z7 Z9 j/\wr.heap[w.heap.size]?=ZW (Z4 #[Z0 nm,Z7 Z9 (sz:Int),sv] 130 (0,0))/\wr.ownsRow w.heap.size 3 1 sv j (jL (st.take j))/\bW w wr
structure Qw (w:ZT) (b off bl c:Nat) (o:Ob) (rest:a8) (e:ZP) (w':ZT):Prop where
 out:∃ sa sc bv,e=Z3 (ZZ #[.agg #[Z0 o.name,Z7 Z9 (o.size:Nat),.slice sa o.RQ.length sc],bv,Z2 ZV])/\br (λk=>w.heap.size<=k) w' (.slice sa o.RQ.length sc) o.RQ/\∀ w0,Bs w0 (Z5 (ZW ⟨b,off,ZX⟩) bl c) (bM o++rest)->Bs w0 bv rest
 below:bW w w'
theorem rC {off:Nat} {rest:a8} (W:Nat) (l:Bs w (Z5 (ZW ⟨b,off,ZX⟩) bl c) (bM o++rest)) (a:bl=(bM o++rest).length) (ho:o.fit) (x4:1<=W/\W<=1000000) (y:o.RQ.length=max 1 ((o.size+W-1)/W)) (hr:rest.length<=100000000) :
 ZR ZN 162 #[Z5 (ZW ⟨b,off,ZX⟩) bl c,Z7 Z9 W] w λe w'=>Qw w b off bl c o rest e w':=by
 have D:bl=19+4*o.RQ.length+rest.length:=by rw [a,T8,cQ ho]
 have R:=ho.len;have qy:=ho.name;have ko:=ho.size;obtain ⟨ao,c0,e0,Q,_,hx,hh⟩:=id l;injection e0 with J e2 e3;subst e3;rw [<- a] at Q hh;obtain ⟨b',o',r,qe⟩:=hh (λq=>by rw [q] at a;simp at a;omega);rw [<- J] at r;injection r with r;injection r with e5 e6;subst e5 e6;clear J e2;have d0:=qe 0 (by omega);rw [VJ,LQ ho] at d0;have T:(w.alloc (Z4 QS 130)).heap[w.heap.size]?=ZW (Z4 QS 130 (0,0)):=Uc _ _;have G:bW w (w.alloc (Z4 QS 130)):=bA w _;have V:(w.alloc (Z4 QS 130)).heap.size=w.heap.size+1:=by simp
 obtain ⟨w1,qa⟩:=nM (w.alloc (Z4 QS 130));rw [qa] at T G V;have x6:w.alloc (Z4 #[.string ⟨#[]⟩,Z7 Z9 0,Z5 ZX 0 0] 130)=w1:=qa;have qv:b<w.heap.size:=Ub d0;have c1:w1.cell? ⟨b,off,ZX⟩=ZW (Z7 .u8 (o.name.size:Nat)):=(Ul (G.block b qv)).trans d0;have O:=l.mono G;obtain ⟨m,x⟩:=nM (o.RQ.length);obtain ⟨d,p⟩:=nM (o.size);obtain ⟨B,n⟩:=nM (o.name.size);have q6:=sE (Z5 (ZW ⟨b,off+17,ZX⟩) 2 (c-17)) (be o.size 2) w1 (by rw [<- II ho rest];exact O.sub 17 2 _ (by omega) (by omega));rw [lu o.size 2 (by omega) (by omega),p] at q6;have kv:=m4 d W (by omega) x4 w1;rw [<- p,<- y,x] at kv;rw [p] at kv;rw [x] at D R;rw [n] at c1 qy;have q7:=ga m (by omega) w1;obtain ⟨lo,S⟩:=nM (19+4*m);rw [S] at D q7;have x7:¬ ((bl:Nat):Int)<19:=by omega
 have qo:¬ c=17:=by omega
 have x9:¬ ((B:Nat):Int)<1:=by omega
 have xa:¬ ((B:Nat):Int)>16:=by omega
 have xc:¬ ((d:Nat):Int)>1500:=by omega
 have hll:¬ ((bl:Nat):Int)<(lo:Int):=by omega
 have xe:IntKind.i64.wrap (B:Int)=B:=by rw [Ut];omega
 have H:=hide13 q6 kv q7 O T G V x p n l a y;have HL:=a6 D S R ko Q;have qq:19<=bl:=by omega
 have qs:19<=c:=by omega
 clear D S R ko Q;clear q6 kv q7 O T G V x p n l a y hh qe qa d0 hx;go_enter func162,ntmps162;go_wp2_with fail;refine H.out.1.mono ?_;rintro e w2 ⟨rfl,A⟩;obtain rfl:w1=w2:=A.symm;clear A;have xd:IntKind.i64.wrap (d:Int)=d:=by have:=HL.out.2.2.2.1;have:=H.out.2.2.2.2.2.2.2.2.1;rw [Ut];omega
 go_wp2_with fail;refine H.out.2.1.mono ?_;rintro e w2 ⟨rfl,A⟩;obtain rfl:w1=w2:=A.symm;clear A;go_wp2_with fail;refine H.out.2.2.1.mono ?_;rintro e w2 ⟨rfl,A⟩;obtain rfl:w1=w2:=A.symm;clear A;obtain ⟨_,_,_,O,T,G,V,x,p,n,l,a,y⟩:=H.out;have qf:(convert 31 9 (Z5 (ZW ⟨b,off+1,ZX⟩) B (c-1))).run ZN w1=.ok (Z0 o.name) w1:=by
  have qh:o.name.toList.length=B:=by rw [XZ,Wk,<- n];rfl
  have kp:=O.sub 1 B (c-1) (by rw [<- a];omega) (by omega);rw [<- n,IH o rest] at kp;obtain ⟨ao,cc,J,_,_,_,h4⟩:=kp;injection J with J e2 e3;have kr:o.name.toList.map (λ(b:UInt8)=>b.toNat)≠[]:=λe=>by
   have:=congrArg YH e;rw [T7,qh] at this;simp at this;omega
  obtain ⟨b',o',r,qx⟩:=h4 kr;rw [<- J] at r;injection r with r;injection r with e5 e6;subst e5 e6;have:=run_convert_bytes_back (P:=ZN) w1 31 9 5 ⟨b,off+1,ZX⟩ (c-1) o.name.toList Uh W4 YB (λj hj=>by
   have L:=qx j (by rw [T7];exact hj);have h8:(o.name.toList.map (λ(b:UInt8)=>b.toNat)).getD j 0=(o.name.toList[j]).toNat:=by
    rw [T5,Un,Ua hj];rfl
   rw [h8] at L;unfold Addr.add;split
   . rename_i h0;subst h0;exact L
   . exact L)
  rw [qh] at this;rw [this];congr 2;rw [XZ]
 clear O l a y x p n G;have x2:¬ c=1:=by omega
 have HQ:=au T V;clear T V;obtain ⟨nm,q5⟩:=nM (o.name);rw [q5] at qf;have xb:1+B<=c:=by omega
 go_wp2_with (show wpList _ _ _ ({ dst:=ZX,op:=Op.store 130 (Z1 4) (Z1 50),type:=_,pos:=_,after:=_,guard:=_ }::_) _ _;refine LU (b:=w.heap.size) (cs:=QS) (cs':=#[Z0 nm,Z7 Z9 (d:Int),Z5 ZX 0 0]) rfl (Z1 4) (Z1 50) rfl (by rfl) (by rfl) (by exact HQ.out.1) rfl rfl (by simp [Value.oneCell']) ?_);have qi:(w1.setRow w.heap.size #[Z0 nm,Z7 Z9 (d:Int),Z5 ZX 0 0]).heap[w.heap.size]?=ZW (Z4 #[Z0 nm,Z7 Z9 (d:Int),Z5 ZX 0 0] 130 (0,0)):=Vf _ _ _ _ _ _ HQ.out.1;have qd:bW w (w1.setRow w.heap.size #[Z0 nm,Z7 Z9 (d:Int),Z5 ZX 0 0]):=H.out.2.2.2.2.2.1.grown (aK _ _ _) H.out.2.2.2.2.2.1.size (λk e=>by have:=UI e;omega);have H8:=au qi qd;have qn:=al q5;clear qi qd qf q5;go_loopw [52] (λi wr=>UoR w nm d o.RQ i wr) (λi _=>m-(intOf i).toNat)
 case atStart=>exact ⟨0,_,T9 _,rfl,H8.out.1,UK _ _ _ _,H8.out.2⟩
 case round=>
  clear H8;obtain ⟨j,sv,hj,rfl,f,N,t⟩:=hrel;obtain ⟨_,_,_,_,_,_,_,x,p,n,l,a,y⟩:=H.out;obtain ⟨D,S,R,ko,Q⟩:=HL.out;have kx:=l.mono (w':=wr) t;have qb:=t.size;have kb:w.heap.size<wr.heap.size:=(TX.1 f).1;by_cases x8:j<m
  . have q3:j<o.RQ.length:=(by omega);obtain ⟨ii,x0,kz,q0,q1⟩:=Us Tryz.Sq;have qk:=ho.st _ (T4 q3);have I:=kx.sub (19+4*j) 4 (c-(19+4*j)) (by rw [<- a];omega) (by omega);rw [CA ho rest j q3] at I;obtain ⟨s,hs⟩:=nM (o.RQ[j]);rw [hs] at qk I;have qm:jL (o.RQ.take (j+1))=jL (o.RQ.take j)++[Z7 Z9 (s:Int)]:=by
     rw [U6,Ua q3,hs];unfold jL;rw [Uw];rfl
    obtain ⟨v12,w12,Y,z,ka,_,_⟩:=run_append_own_at (P:=ZN) (wr.drew.alloc (Z4 #[Z7 Z9 (s:Int)] 3)) w.heap.size 111 0 3 ii (Z7 Z9 0) 1 8 XX x0 kz q0 q1 rfl (by decide) sv j (jL (o.RQ.take j)) ((show wr.drew.ownsRow w.heap.size 3 1 sv j (jL (o.RQ.take j)) from N).alloc _) ⟨wr.heap.size,0,ZX⟩ 1 1 [Z7 Z9 (s:Int)] rfl (ly wr.drew _ _) (by intro u hu;simp at hu;subst hu;rfl) (by unfold maxLen;omega) (by omega) (by simp;omega);have q8:(wr.drew.alloc (Z4 #[Z7 Z9 (s:Int)] 3)).heap[w.heap.size]?=ZW (Z4 #[Z0 nm,Z7 Z9 (d:Int),sv] 130 (0,0)):=(Ux _ _ _ kb).trans f;have hi:(wr.drew.alloc (Z4 #[Z7 Z9 (s:Int)] 3)).ownsRow w.heap.size 3 1 sv j (jL (o.RQ.take j)):=(show wr.drew.ownsRow w.heap.size 3 1 sv j (jL (o.RQ.take j)) from N).alloc _;have E:=(ka.block w.heap.size (by simp;omega) (λe=>bG hi q8 (by decide) e.symm)).trans q8;have Z:=bf z;have ky:bW w (wr.drew.alloc (Z4 #[Z7 Z9 (s:Int)] 3)):=t.drew.alloc qb _;have g:bW w w12:=ky.grown ka ky.size (λk e=>dY hi e);rw [<- qm] at z;have qc:=hide7 f I Y z E Z g;have q2:j<=100000:=(by omega);have qz:19+4*j+4<=bl:=(by omega);clear f N t x p n l a y D S R ko kx I Y z ka q8 hi E Z ky g qm hs qb kb;go_wp2_with fail;obtain ⟨f,I,Y,z,E,⟨va,vc,Z⟩,g⟩:=qc.out;refine rA f rfl qz Q q2 qk I (λ_=>Y) ⟨va,j+1,vc,Z⟩ E (by kernel_rfl) rfl rfl rfl rfl ?_;intro w3 U;have ks:w3.heap[w.heap.size]?=ZW (Z4 #[Z0 nm,Z7 Z9 (d:Int),v12] 130 (0,0)):=(by rw [U];exact Ys w12 w.heap.size 2 _ _ v12 E);have F:aa (λk=>k=w.heap.size) w12 w3:=(by rw [U];exact aa.setCell _ _ _ rfl);have k5:w3.ownsRow w.heap.size 3 1 v12 (j+1) (jL (o.RQ.take (j+1))):=bS z F (λk X e=>bG z E (by decide) (by rw [X,e]));have km:bW w w3:=⟨F.os.trans g.os,F.tape.trans g.tape,F.output.trans g.output,TW g.size F.size,λk X=>(F.block k (by have:=g.size;omega) (by omega)).trans (g.block k X)⟩;have H3:=aE ks k5 km;clear f I Y z E Z g ks F k5 km U qc;rename_i kk
    refine kk _ _ ?_;clear kk;simp only [Act.RR,Act.put,UW,UR,UX];go_wp2;go_roundw
    case rel=>exact ⟨j+1,v12,by have:=H.out.2.2.2.2.2.2.2.1;omega,by go_num,H3.out.1,H3.out.2.1,H3.out.2.2⟩
    case measure=>simp [intOf];omega
  . have q4:j=m:=(by omega);subst q4;obtain ⟨sa,sc,x5⟩:=bf N;subst x5;have kr:o.RQ≠[]:=λe=>by
     have C:=congrArg YH e;have h2:1<=o.RQ.length:=(by rw [y];exact YK _ _);rw [C] at h2;simp at h2
    have M:=Cn (K:=λk=>w.heap.size<=k) (show wr.ownsRow w.heap.size 3 1 (.slice sa j sc) j (jL o.RQ) by have C:=N;rw [UD (by omega)] at C;exact C) kr (by omega) (λk X=>X);have M:=M.choose_spec.choose_spec.2;obtain ⟨ra,qj⟩:∃ ra:Option ZQ,(c=lo/\ra=ZW ⟨b,off,ZX⟩)\/(c≠lo/\ra=ZW ⟨b,off+lo,ZX⟩):=by
     by_cases L:c=lo
     . exact ⟨_,.inl ⟨L,rfl⟩⟩
     . exact ⟨_,.inr ⟨L,rfl⟩⟩
    have he:∀ w0,Bs w0 (Z5 (ZW ⟨b,off,ZX⟩) bl c) (bM o++rest)->Bs w0 (.slice ra (bl-lo) (c-lo)) rest:=by
     intro w0 qp;have C:=qp.sub lo (bl-lo) (c-lo) (by rw [<- a];omega) (by omega);have h2:((bM o++rest).drop lo).take (bl-lo)=rest:=by
      rw [show lo=19+4*o.RQ.length by omega,IJ ho,UD (by omega)]
     rw [h2] at C;rcases qj with ⟨h3,rfl⟩|⟨h3,rfl⟩
     . have x3:rest=[]:=WQ.1 (by omega);subst x3;refine ⟨ZW ⟨b,off,ZX⟩,c-lo,?_,by simp,by decide,λ_ h=>(by cases h),λh=>absurd rfl h⟩;simp only [UQ];congr 1;omega
     . exact C
    have Hr:=a5 f M he t;have q2:j<=100000:=(by omega);have x1:lo<=bl:=(by omega);clear f N t x p n l a y D R ko kx M he qb kb kr;go_wp2_with fail;refine rB Hr.out.1 S x1 Q q2 qj (by kernel_rfl) rfl rfl rfl rfl ?_;intro w3 U;rename_i kk
    refine kk _ _ ?_;clear kk;simp only [Act.RR,Act.put,UW,UR,UX];go_wp2;obtain ⟨f,M,he,t⟩:=Hr.out;have ks:w3.heap[w.heap.size]?=ZW (Z4 #[Z0 nm,Z7 Z9 (d:Int),.slice sa j sc] 130 (0,0)):=(by rw [U];exact f);refine Um (v:=ZZ #[.agg #[Z0 nm,Z7 Z9 (d:Int),.slice sa j sc],.slice ra (bl-lo) (c-lo),Z2 ZV]) (CB results162 _ w3 w.heap.size 130 _ (0,0) _ _ _ rfl rfl rfl ks underlying130 rfl (by kernel_rfl)) rfl ?_;have qg:=H.out.2.2.2.2.2.2.2.1;have q9:=H.out.2.2.2.2.2.2.2.2.1;have km:bW wr w3:=(by rw [U];exact (TY _ wr).drew);refine ⟨⟨sa,sc,_,by rw [qn.out,q9,qg],?_,he⟩,t.trans (km.mono t.size)⟩;rw [qg];exact M.keep (eB.RT km)
def EK (d:Nat) (tx:ZO) (a b:ZS) (i:TypeInfo) (e:ZN.info? tx=ZW i) (c:i.comparable=ZV) (w:ZT):(Op.equalIn (d+1) 193 (.iface tx a) (.iface tx b)).run ZN w=(Op.equalIn d tx a b).run ZN w:=by
 simp [Op.equalIn,UH underlying193,typeInfo,e,c]
theorem LV (D L G a c b:Int) (w:ZT):(Op.equalIn 10000 26 (.agg #[Z7 Z9 D,Z7 Z9 L,Z7 Z9 G]) (.agg #[Z7 Z9 a,Z7 Z9 c,Z7 Z9 b])).run ZN w=.ok (decide (D=a/\L=c/\G=b)) w:=by
 by_cases d:D=a
 . by_cases e:L=c
   . by_cases f:G=b
     . subst d e f;go_simp
     . have:(G==b)=ZU:=by simp [f]
       subst d e;go_simp
   . have:(L==c)=ZU:=by simp [e]
     subst d;go_simp
 . have:(D==a)=ZU:=by simp [d]
   go_simp
def LW:∃ i:TypeInfo,ZN.info? 110=ZW i/\i.comparable=ZV:=by
 have:(ZN.info? 110).map (λi=>i.comparable)=ZW ZV:=by kernel_rfl
 rw [Wc] at this;exact this
structure Rt where
 D:Nat
 L:Nat
 G:Nat
 t:Nat
 f:Nat
 n:Nat
def IK (x:Rt):Array ZS:=aq x.D x.L x.G x.t x.f x.n
def l8 (x:Rt):Option bC->Rt
 | some (.root D L G t f n)=>if x.t<t then ⟨D,L,G,t,f,n⟩ else x
 | _=>x
def bu (R:Nat->Option bC):Nat->Rt
 | 0=>⟨0,0,0,0,0,0⟩
 | k+1=>l8 (bu R k) (R k)
def EL (x k:Nat):Option bC->Nat
 | some .blank=>x|||2^k
 | _=>x
def dy (R:Nat->Option bC):Nat->Nat
 | 0=>0
 | k+1=>EL (dy R k) k (R k)
theorem nD (R:Nat->Option bC):∀ k,k<=60->dy R k<2^k
 | 0,_=>by simp [dy]
 | k+1,h=>by
  have:=nD R k (by omega);have a:2^k<2^(k+1):=V0 (by decide) (by omega);show EL (dy R k) k (R k)<2^(k+1);unfold EL;split
  . exact Wu (by omega) a
  . omega
def uA {o:Oper} {a:Act} (e:o.guard=ZX) (x y:Operand) (ho:o.op=.store 110 x y) {b D L G t f n:Nat} {cs:Array ZS}
 (g:a.eval x=Z6 (ZW ⟨b,0,ZX⟩)) (i:a.eval y=.agg (aq D L G t f n)) (c:w.heap[b]?=ZW (Z4 cs 110 (0,0))) (d:cs.size=6) (h:wpList ZN ops Q rest (a.put o.dst ZY) (w.setRow b (aq D L G t f n))):wpList ZN ops Q (o::rest) a w:=by
 refine VO e λK hK=>?_;unfold Oper.wp;simp [execOp,ho,g,i,tW c d,Result.andThen];exact hK _ _ h
def N8 (v:ZS) (w:ZT):(Instr.typeAssert (.iface 110 v) 193 110 ZV).run ZN w=.ok (ZZ #[v,Z2 ZV]) w:=by
 simp [Instr.typeAssert,UH XR]
def EM:Option bC->Bool
 | some (.root ..)=>ZV
 | _=>ZU
def EN {o:Option bC} (h:EM o=ZU) (w:ZT):(Instr.typeAssert (gC o) 193 110 ZV).run ZN w=.ok (ZZ #[.agg (aq 0 0 0 0 0 0),Z2 ZU]) w:=by
 match o,h with
 | none,_|some .blank,_|some .filled,_|some (.shard _),_=>simp [gC,cj,Instr.typeAssert,UH XR];rfl
def EO (w:ZT):(zeroValue 204).run ZN w=.ok (.agg #[]) w:=by
 obtain ⟨a,b,c⟩:∃ a,ZN.info? 204=ZW a/\a.zero=ZW (.agg #[]):=by
  have:(ZN.info? 204).map (λi=>i.zero)=ZW (ZW (.agg #[])):=by kernel_rfl
  rw [Wc] at this;exact this
 simp [zeroValue,typeInfo,Uo,b,c]
def LX (v:ZS) (w:ZT):(Instr.typeAssert (.iface 204 v) 193 204 ZV).run ZN w=.ok (ZZ #[v,Z2 ZV]) w:=by
 simp [Instr.typeAssert,UH underlying204]
def oQ:Option bC->Bool
 | some .blank=>ZV
 | _=>ZU
def CC {o:Option bC} (h:oQ o=ZU) (w:ZT):(Instr.typeAssert (gC o) 193 204 ZV).run ZN w=.ok (ZZ #[.agg #[],Z2 ZU]) w:=by
 match o,h with
 | none,_|some (.root ..),_|some .filled,_|some (.shard _),_=>simp [gC,cj,Instr.typeAssert,UH underlying204]
def F4 {o:Option bC} (h:oQ o=ZU):EL x k o=x:=by
 match o,h with
 | none,_|some (.root ..),_|some .filled,_|some (.shard _),_=>rfl
def IL {x:Rt} {o:Option bC} (h:EM o=ZU):l8 x o=x:=by
 match o,h with
 | none,_|some .blank,_|some .filled,_|some (.shard _),_=>rfl
def fF (w:ZT) (D L G t f n:Nat):ZT:=(w.alloc (Z4 (aq 0 0 0 0 0 0) 110)).setRow w.heap.size (aq D L G t f n)
def uB (w:ZT) (D L G t f n:Nat):(fF w D L G t f n).heap[w.heap.size]?=ZW (Z4 (aq D L G t f n) 110 (0,0)):=Vf _ _ _ _ _ _ (Uc w (Z4 (aq 0 0 0 0 0 0) 110))
def eL (w:ZT) (D L G t f n:Nat):bW w (fF w D L G t f n):=(bA w _).trans ⟨rfl,rfl,rfl,by unfold fF;rw [gw];exact TV _,λk a=>(aK _ _ _).block k (by simp;omega) (λq=>by have:=UI q;omega)⟩
def z9 {o:Oper} {a:Act} (b:o.guard=ZX) (x y:Operand) (ho:o.op=.store 110 x y) {D L G t f n:Nat}
 (c:a.eval x=Z6 (ZW ⟨w.heap.size,0,ZX⟩)) (d:a.eval y=.agg (aq D L G t f n)) (h:wpList ZN ops Q rest (a.put o.dst ZY) (fF w D L G t f n)):wpList ZN ops Q (o::rest) a (w.alloc (Z4 (aq 0 0 0 0 0 0) 110)):=
 uA b x y ho c d (Uc _ _) rfl h
def BkR (w:ZT) (R:Nat->Option bC) (N:Nat) (s i:ZS) (wr:ZT):Prop:=∃ k:Nat,k<=N/\i=Z7 Z9 k/\s=Z7 Z8 (dy R k:Nat)/\bW w wr
theorem uC (R:Nat->Option bC) (t:N<=60) (d:w.rowIs g 193 N (λi=>gC (R i))) :
 ZR ZN 70 #[Z5 (ZW ⟨g,0,ZX⟩) N N] w λe w'=>e=Z3 (Z7 Z8 (dy R N:Nat))/\bW w w':=by
 have p:=d.lt;have x:=EO;go_enter func70,ntmps70;go_wp2_with fail;go_loopw [2,9] (λs i wr=>BkR w R N s i wr) (λ_ i _=>N-(intOf i).toNat)
 case atStart=>exact ⟨0,T9 _,rfl,rfl,TY _ _⟩
 case round=>
  obtain ⟨k,v,rfl,rfl,a⟩:=hrel;by_cases r:k<N
  . have j:wr.rowIs g 193 N (λi=>gC (R i)):=d.of_block (a.block g p);have c:=j.cell (i:=k) r;have b:dy R (k+1)=EL (dy R k) k (R k):=rfl;have h:=nD R k (by omega);have o:dy R k<18446744073709551616:=Xd h (FB (by omega));have l:=a.size;cases f:oQ (R k) with
    | false=>
     have n:=CC f;rw [F4 f] at b;obtain ⟨u,m⟩:=nM (gC (R k));simp only [m] at c n;have H:=au a b;clear a j b h d m;go_wp2;refine ⟨⟨k+1,by omega,by go_num,by rw [H.out.2],H.out.1.alloc l _⟩,by simp [intOf];omega⟩
    | true=>
     have f:R k=ZW .blank:=by
      match R k,f with
      | some .blank,_=>rfl
     have n:=LX;rw [f] at c b;simp only [gC,cj] at c;have H:=au a b;clear a j b h d;go_wp2_with fail;refine (gA _ k o (by omega) _).mono ?_;rintro e w2 ⟨rfl,rfl⟩;go_wp2;refine ⟨⟨k+1,by omega,by go_num,by rw [H.out.2];rfl,H.out.1.alloc l _⟩,by simp [intOf];omega⟩
  . have q:k=N:=(by omega);subst q;have H:=al a;clear a d;go_wp2;go_ret;exact ⟨rfl,H.out⟩
def LrR (w:ZT) (R:Nat->Option bC) (N:Nat) (i:ZS) (wr:ZT):Prop:=∃ k:Nat,k<=N/\i=Z7 Z9 k/\wr.heap[w.heap.size]?=ZW (Z4 (IK (bu R k)) 110 (0,0))/\bW w wr
theorem Aa (R:Nat->Option bC) (U:N<=60) (h:w.rowIs g 193 N (λi=>gC (R i))) :
 ZR ZN 66 #[Z5 (ZW ⟨g,0,ZX⟩) N N] w λe w'=>e=Z3 (.agg (IK (bu R N)))/\bW w w':=by
 have O:=h.lt;have C:(w.alloc (Z4 (aq 0 0 0 0 0 0) 110)).heap[w.heap.size]?=ZW (Z4 (IK (bu R 0)) 110 (0,0)):=Uc _ _;have F:bW w (w.alloc (Z4 (aq 0 0 0 0 0 0) 110)):=bA w _;have V:=xC;go_enter func66,ntmps66;go_wp2_with fail;go_loopw [9] (λi wr=>LrR w R N i wr) (λi _=>N-(intOf i).toNat)
 case atStart=>exact ⟨0,T9 _,rfl,C,F⟩
 case round=>
  clear C F;obtain ⟨k,o,rfl,d,a⟩:=hrel;by_cases Q:k<N
  . have y:wr.rowIs g 193 N (λi=>gC (R i)):=h.of_block (a.block g O);have c:=y.cell (i:=k) Q;have hl:bu R (k+1)=l8 (bu R k) (R k):=rfl;have J:=a.size;have E:w.heap.size<wr.heap.size:=(TX.1 d).1;have s:(fF wr 0 0 0 0 0 0).heap[w.heap.size]?=ZW (Z4 (IK (bu R k)) 110 (0,0)):=((eL wr 0 0 0 0 0 0).block _ E).trans d;have r:bW w (fF wr 0 0 0 0 0 0):=a.trans ((eL wr 0 0 0 0 0 0).mono J);cases j:EM (R k) with
    | false=>
     have t1:=EN j;rw [IL j] at hl;obtain ⟨u,K⟩:=nM (gC (R k));simp only [K] at c t1;have H:=aE s r hl;clear d a y hl h s r K;go_wp2_with (show wpList _ _ _ ({ dst:=ZX,op:=Op.store 110 (Z1 5) (Z1 16),type:=_,pos:=_,after:=_,guard:=_ }::_) _ _;refine z9 (w:=wr) (D:=0) (L:=0) (G:=0) (t:=0) (f:=0) (n:=0) rfl (Z1 5) (Z1 16) rfl (by rfl) (by rfl) ?_);refine ⟨⟨k+1,by omega,by go_num,by rw [H.out.2.2];exact H.out.1,H.out.2.1⟩,by simp [intOf];omega⟩
    | true=>
     obtain ⟨D,L,G,t,f,n,j⟩:∃ D L G t f n,R k=ZW (.root D L G t f n):=by
      match R k,j with
      | some (.root ..),_=>exact ⟨_,_,_,_,_,_,rfl⟩
     have t1:=N8;rw [j] at c hl;simp only [gC,cj] at c;have m:=uB wr D L G t f n;have l:(fF wr D L G t f n).heap[w.heap.size]?=ZW (Z4 (IK (bu R k)) 110 (0,0)):=((eL wr D L G t f n).block _ E).trans d;have x:bW w (fF wr D L G t f n):=a.trans ((eL wr D L G t f n).mono J);obtain ⟨w6,z⟩:=nM (fF wr D L G t f n);rw [z] at m l x;have T:w6.cell? ⟨wr.heap.size,3,ZX⟩=ZW (Z7 Z8 t):=(by simp [World.cell?,m,aq]);have c0:w6.cell? ⟨w.heap.size,3,ZX⟩=ZW (Z7 Z8 (bu R k).t):=(by simp [World.cell?,l,IK,aq]);have H:=a6 z m l x hl;clear d a y hl h z m l x s r;by_cases I:(bu R k).t<t
     . go_wp2_with (first|(show wpList _ _ _ ({ dst:=ZX,op:=Op.store 110 (Z1 5) (Z1 16),type:=_,pos:=_,after:=_,guard:=_ }::_) _ _;refine z9 (w:=wr) (D:=D) (L:=L) (G:=G) (t:=t) (f:=f) (n:=n) rfl (Z1 5) (Z1 16) rfl (by rfl) (by rfl) ?_;rw [H.out.1])|(show wpList _ _ _ ({ dst:=ZW 26,op:=_,type:=_,pos:=_,after:=_,guard:=_ }::_) _ _;refine kO (D:=D) (L:=L) (G:=G) (t:=t) (f:=f) (n:=n) (b:=wr.heap.size) rfl (Z1 5) rfl rfl (by rfl) (by exact H.out.2.1) ?_)|(show wpList _ _ _ ({ dst:=ZX,op:=Op.store 110 (Z1 2) (Z1 26),type:=_,pos:=_,after:=_,guard:=_ }::_) _ _;refine uA (D:=D) (L:=L) (G:=G) (t:=t) (f:=f) (n:=n) (b:=w.heap.size) (cs:=IK (bu R k)) rfl (Z1 2) (Z1 26) rfl (by rfl) (by rfl) (by exact H.out.2.2.1) rfl ?_));obtain ⟨_,S,A,p,B⟩:=H.out;refine ⟨⟨k+1,by omega,by go_num,?_,p.trans ⟨rfl,rfl,rfl,by rw [gw];exact TV _,λk o=>(aK _ _ _).block k (TZ o p.size) (λq=>by have:=UI q;omega)⟩⟩,by simp [intOf];omega⟩;rw [B];rw [show l8 (bu R k) (ZW (.root D L G t f n))=⟨D,L,G,t,f,n⟩ from if_pos I];exact Vf _ _ _ _ _ _ A
     . go_wp2_with (show wpList _ _ _ ({ dst:=ZX,op:=Op.store 110 (Z1 5) (Z1 16),type:=_,pos:=_,after:=_,guard:=_ }::_) _ _;refine z9 (w:=wr) (D:=D) (L:=L) (G:=G) (t:=t) (f:=f) (n:=n) rfl (Z1 5) (Z1 16) rfl (by rfl) (by rfl) ?_;rw [H.out.1]);obtain ⟨_,S,A,p,B⟩:=H.out;refine ⟨⟨k+1,by omega,by go_num,?_,p⟩,by simp [intOf];omega⟩;rw [B];rw [show l8 (bu R k) (ZW (.root D L G t f n))=bu R k from if_neg I];exact A
  . have P:k=N:=(by omega);subst P;have H:=au d a;clear d a h;go_wp2_with (first|(show wpList _ _ _ ({ dst:=ZW 28,op:=_,type:=_,pos:=_,after:=_,guard:=_ }::_) _ _;refine kO (b:=w.heap.size) (ra:=IK (bu R k)) rfl (Z1 2) rfl rfl (by rfl) (by exact H.out.1) ?_)|(show wpList _ _ _ ({ dst:=ZX,op:=Op.store 110 (Z1 2) (Z1 28),type:=_,pos:=_,after:=_,guard:=_ }::_) _ _;refine uA (b:=w.heap.size) (cs:=IK (bu R k)) (D:=(bu R k).D) (L:=(bu R k).L) (G:=(bu R k).G) (t:=(bu R k).t) (f:=(bu R k).f) (n:=(bu R k).n) rfl (Z1 2) (Z1 28) rfl (by rfl) (by rfl) (by exact H.out.1) rfl ?_));have M:=Vf _ _ _ (IK (bu R k)) _ _ H.out.1;refine Um (v:=.agg (IK (bu R k))) (VQ results66 _ _ w.heap.size 110 (IK (bu R k)) (0,0) _ rfl M XR rfl (kN _ _ _ _ _ _)) rfl ?_;exact ⟨rfl,H.out.2.trans ⟨rfl,rfl,rfl,by rw [gw];exact TV _,λk o=>(aK _ _ _).block k (TZ o H.out.2.size) (λq=>by have:=UI q;omega)⟩⟩
def uD {L:List (ByteArray×ZS)} (f:∀ o∈L,ju o.2):∀ u∈aO L,u.oneCell'=ZV:=by
 intro u a;unfold aO at a;rw [X0] at a;obtain ⟨q,d,b⟩:=a;simp at b;rcases b with rfl|rfl
 . rfl
 . obtain ⟨ao,n,c,e,_⟩:=f q d;rw [e];rfl
def LY {L:List (ByteArray×ZS)} (h:w.ownsRow base 51 2 v L.length (aO L)) (b:∀ o∈L,ju o.2):Src ZN 2 41 v L.length (aO L) w:=by
 rcases h.2 with ⟨rfl,a⟩|⟨g,cap,cur,rfl,c,d,e,f,i,j⟩
 . have:L=[]:=UP a;subst this;exact Xp w UT 0
 . exact U7 w UT ⟨g,0,ZX⟩ L.length cap (aO L) (kG L) (h.cells (g:=g) rfl) (uD b)
def Tryz.Se:(ZN.info? 51).map (λi=>(i.zero,i.size,i.bytes))=ZW (ZW (.agg #[Z0 YD,Z5 ZX 0 0]),2,40):=by kernel_rfl
theorem jS {L:List (ByteArray×ZS)} (h:oz w r base v L) (hl:L.length<=1000000) (I:∀ o∈L,ju o.2) :
 ZR ZN 22 #[Z6 (ZW ⟨r,0,ZX⟩)] w λe w'=>e=Z3 (Z6 (ZW ⟨w.heap.size,0,ZX⟩))/\(∃ u,oz w' w.heap.size (w.heap.size+1) u L)/\bW w w':=by
 have D:r<w.heap.size:=(TX.1 h.top).1;obtain ⟨w1,j⟩:=nM (w.alloc (Z4 #[Z5 ZX 0 0] 43));have l:w1.heap.size=w.heap.size+1:=by rw [<- j];simp
 have b:bW w w1:=by rw [<- j];exact bA w _
 have m:w1.heap[w.heap.size]?=ZW (Z4 #[Z5 ZX 0 0] 43 (0,0)):=by rw [<- j];exact Uc w (Z4 #[Z5 ZX 0 0] 43)
 have t:World.ownsRow w1.drew base 51 2 v L.length (aO L):=by rw [<- j];exact h.own.alloc _
 have x:=(b.block r D).trans h.top;obtain ⟨id,n,C,B,A⟩:=Us Tryz.Se;obtain ⟨J,w2,y,a,d,z⟩:=kY (P:=ZN) w1.drew w1.heap.size 41 41 41 51 id _ 2 40 UT n C B A rfl (Z5 ZX 0 0) 0 [] (UK _ _ _ _) v L.length (aO L) (LY t I) (by unfold maxLen;omega) (by omega) lR;rw [Ue,Uk] at a;obtain ⟨s,sl,q,rfl⟩:∃ s sl q,J=.slice s sl q:=by
  rcases a.2 with ⟨e,_⟩|⟨g,cap,cur,e,_⟩
  . exact ⟨_,_,_,e⟩
  . exact ⟨_,_,_,e⟩
 have f:bW w1 w2:=⟨d.os,d.tape,d.output,d.size,λk G=>d.block k G (by simp [Value.ownBlock])⟩;have c:=(f.block _ (by omega)).trans m;have c0:w1.cell? ⟨w.heap.size,0,ZX⟩=ZW (Z5 ZX 0 0):=by simp [World.cell?,m]
 have c1:w1.cell? ⟨r,0,ZX⟩=ZW v:=by simp [World.cell?,x]
 have K:w2.cell? ⟨w.heap.size,0,ZX⟩=ZW (Z5 ZX 0 0):=by simp [World.cell?,c]
 have M:w2.frozen? ⟨w.heap.size,0,ZX⟩=ZU:=by simp [World.frozen?,c]
 have H:=a7 y a f c b l;clear y a d z f c b m t x l;go_enter func22,ntmps22;go_wp2_with fail;go_region_law (refine lZ rfl _ _ 41 41 rfl _ _ (by simp [Act.eval]) (by simp [Act.eval]) H.out.1 ?_)
 all_goals (
  go_wp2;go_ret;obtain ⟨_,a,f,c,b,l⟩:=H.out;have E:w2.grownBy (w2.setCell ⟨w.heap.size,0,ZX⟩ (.slice s sl q)) (ZW w.heap.size):=⟨rfl,rfl,rfl,by simp [World.setCell],λi _ F=>Ud _ _ _ _ (λe=>F (by rw [e]))⟩;rw [l] at a;exact ⟨rfl,⟨_,by simp [World.setCell,VH,c],a.kept E (.inr λe=>by have:=(a.lt _ e).1;omega)⟩,(b.trans (f.mono b.size)).setCell (p:=⟨w.heap.size,0,ZX⟩) lR _⟩)
def xN {L:List (ByteArray×ZS)} (a:∀ o∈L,ju o.2) (k:Nat):∀ o∈L.take k,ju o.2:=λo h=>a o (UN h)
def qA {L:List (ByteArray×ZS)} (a:∀ o∈L,ju o.2) (k:Nat):∀ o∈L.drop k,ju o.2:=λo h=>a o (US h)
def oR {off:Nat} {L:List (ByteArray×ZS)} (hn:L.length=n) (i:∀ k (p:k<L.length),w.cell? ⟨g,off+k*2,ZX⟩=ZW (Z0 L[k].1)/\w.cell? ⟨g,off+k*2+1,ZX⟩=ZW L[k].2) (l:∀ o∈L,ju o.2) :
 Src ZN 2 41 (Z5 (ZW ⟨g,off,ZX⟩) n c) n (aO L) w:=by
 subst hn;refine U7 w UT ⟨g,off,ZX⟩ L.length c (aO L) (kG L) (λj u a=>?_) (uD l);rw [U9];have:j<L.length*2:=by
  obtain ⟨q,_⟩:=U1.1 a;rwa [kG] at q
 obtain ⟨f,h⟩:=tH L (j/2) (by omega);obtain ⟨c1,d⟩:=i (j/2) (by omega);by_cases e:j%2=0
 . have b:j/2*2=j:=(by omega);rw [b] at f c1;rw [f] at a;rw [c1,a]
 . have b:j/2*2+1=j:=(by omega);rw [b] at h;rw [h] at a;rw [show off+j/2*2+1=off+j by omega] at d;rw [d,a]
def uE (h:w.ownsRow base e size v n xs):∃ b sl a,v=.slice b sl a:=by
 rcases h.2 with ⟨q,_⟩|⟨g,cap,cur,q,_⟩
 . exact ⟨_,_,_,q⟩
 . exact ⟨_,_,_,q⟩
def aaa (w:ZT) (r:Nat) (L:List (ByteArray×ZS)) (name:ByteArray) (e:ZP) (w':ZT):Prop:=
 (¬ eG name/\e=Z3 (Z7 Z9 6)/\w'=w)\/(eG name/\pS L name/\e=Z3 (Z7 Z9 9)/\w'=w) \/
 (eG name/\∃ k,Nu L name k/\e=Z3 (Z7 Z9 0)/\(∃ u,oz w' r w.heap.size u (L.take k++L.drop (k+1)))/\aa (λj=>j=r) w w')
theorem qX {L:List (ByteArray×ZS)} (h:oz w r base v L) (hl:L.length<=1000000) (W:∀ o∈L,ju o.2) (name:ByteArray) :
 ZR ZN 23 #[Z6 (ZW ⟨r,0,ZX⟩),Z0 name] w λe w'=>aaa w r L name e w':=by
 obtain ⟨c0,f0⟩:=h.cell;have kg:=h.shape;have I:=jK h hl name;have hm:=tI h hl name;obtain ⟨id,s,M,K,J⟩:=Us Tryz.Se;go_enter func23,ntmps23;go_wp2_with fail;refine hm.mono ?_;clear hm;rintro e w1 ⟨rfl,hg⟩;rcases hg with ⟨kk,rfl⟩|⟨B,H,rfl⟩|⟨B,k0,Z,rfl⟩
 . have F:=al kk;clear kk I kg;go_wp2;go_ret;exact .inl ⟨F.out,rfl,rfl⟩
 . have F:=au B H;clear B H I kg;go_wp2;go_ret;exact .inr (.inl ⟨F.out.1,F.out.2,rfl,rfl⟩)
 . obtain ⟨x,hx⟩:=nM ((L.getD k0 (YD,ZY)).2);rw [hx];clear hx;go_wp2_with fail;refine I.mono ?_;clear I;rintro e w2 ⟨rfl,hf⟩;rcases hf with ⟨k,hk,rfl,hn,h3⟩|⟨rfl,H⟩
   . rcases kg with ⟨rfl,rfl⟩|⟨g,cap,rfl,kr,ko,G⟩
     . exact absurd hk (by simp)
     . have kh:Nu L name k:=⟨hk,hn,h3⟩;have ki:g<w2.heap.size:=Ub (G 0 (by omega)).1;have hp:r≠g:=by
        intro e;rcases h.own.2 with ⟨q,_⟩|⟨g',hb,cur,e1,e2,Q,_⟩
        . cases q
        . simp at e1;rw [<- e1.1] at Q;rw [<- e,h.top] at Q;simp at Q
       have km:Src ZN 2 41 (Z5 (ZW ⟨g,0,ZX⟩) k cap) k (aO (L.take k)) w2:=oR (by rw [Ui];omega) (λj l=>by
        rw [Ui] at l;obtain ⟨q1,q2⟩:=G j (by omega);rw [Ue,YA];exact ⟨q1,q2⟩) (xN W k)
       have n:=a6 B kh G h hp;clear B kh hn h3 G h hp Z;have kx:r<w2.heap.size:=Ub c0;have N:¬ cap=k+1\/cap=k+1:=(Decidable.em (cap=k+1)).symm;have ks:wrap64 ((k:Int)+1)=(k:Int)+1:=(by unfold wrap64;omega);rcases N with N|N
       . have kv:¬ (cap:Int)-((k:Int)+1)=0:=(by omega);go_wp2_with (first
          | (at_builtin;refine ae _ rfl (Z1 21) (Z1 27) 41 41 rfl w2.heap.size 51 id _ 2 40 UT s M K J rfl (Z5 ZX 0 0) 0 [] rfl (UK _ _ _ _) _ rfl k (aO (L.take k)) km (by unfold maxLen;omega) (by omega) lR ?_;intro E w3 A d k9
             have p:∀ j,j<w2.heap.size->w3.heap[j]?=w2.heap[j]?:=λj l=>d.block j l (by simp [Value.ownBlock]);have t:w3.heap[r]?=_:=(p r (Ub c0)).trans n.out.2.2.2.1.top;have P:w3.cell? ⟨r,0,ZX⟩=ZW (Z5 (ZW ⟨g,0,ZX⟩) L.length cap):=(by simp [World.cell?,t]);have f3:w3.frozen? ⟨r,0,ZX⟩=ZU:=(by simp [World.frozen?,t]);have D:=d.size;have T:=d.os;have R:=d.tape;have S:=d.output;have C:Src ZN 2 41 (Z5 (ZW ⟨g,(k+1)*2,ZX⟩) (L.length-(k+1)) (cap-(k+1))) (L.length-(k+1)) (aO (L.drop (k+1))) w3:=oR (by rw [Uj]) (λj l=>by
              rw [Uj] at l;obtain ⟨q1,q2⟩:=n.out.2.2.1 (k+1+j) (by omega);rw [X2,show (k+1)*2+j*2=(k+1+j)*2 by omega];exact ⟨(Ul (p g ki)).trans q1,(Ul (p g ki)).trans q2⟩) (qA W (k+1))
             have c:=aE A p C;clear A d p C t)
          | (at_builtin;refine ae _ rfl (Z1 29) (Z1 36) 41 41 rfl w2.heap.size 51 id _ 2 40 UT s M K J rfl E (0+k) _ rfl c.out.1 _ rfl (L.length-(k+1)) (aO (L.drop (k+1))) c.out.2.2 (by unfold maxLen;omega) (by omega) D ?_;intro v2 b m a ka
             obtain ⟨y,sl,u,rfl⟩:=uE m;have kf:¬ ZW r=E.ownBlock:=λe=>by have:=(c.out.1.lt r e.symm).1;omega
             have f:b.heap[r]?=_:=(a.block r (Ub P) kf).trans ((c.out.2.1 r (Ub c0)).trans n.out.2.2.2.1.top);have c4:b.cell? ⟨r,0,ZX⟩=ZW (Z5 (ZW ⟨g,0,ZX⟩) L.length cap):=(by simp [World.cell?,f]);have f4:b.frozen? ⟨r,0,ZX⟩=ZU:=(by simp [World.frozen?,f]);have O:=aE m a f;clear m a f))
         have ke:(L.take k++L.drop (k+1)).length=0+k+(L.length-(k+1)):=(by rw [T8,Ui,Uj];omega);obtain ⟨m,a,f⟩:=O.out;have z:b.ownsRow w2.heap.size 51 2 (.slice y sl u) (L.take k++L.drop (k+1)).length (aO (L.take k++L.drop (k+1))):=(by rw [ke,jt];exact m);have U:aa (λj=>j=r) w2 b:=⟨a.os.trans T,a.tape.trans R,a.output.trans S,TW D a.size,λj l kp=>(a.block j (by omega) (λe=>by have:=(c.out.1.lt j e.symm).1;omega)).trans (c.out.2.1 j l)⟩;go_ret;have Y:b.grownBy (b.setCell ⟨r,0,ZX⟩ (.slice y sl u)) (ZW r):=⟨rfl,rfl,rfl,by simp [World.setCell],λi _ V=>Ud _ _ _ _ (λe=>V (by rw [e]))⟩;refine .inr (.inr ⟨n.out.1,k,n.out.2.1,rfl,⟨.slice y sl u,⟨by simp [World.setCell,VH,f],z.kept Y (.inr λe=>by have:=(z.lt r e).1;omega)⟩⟩,U.trans (aa.setCell _ _ _ rfl)⟩)
       . subst N;have kj:L.length=k+1:=(by omega);have X:=al kj;clear kj;go_wp2_with (first
          | (at_builtin;refine ae _ rfl (Z1 21) (Z1 27) 41 41 rfl w2.heap.size 51 id _ 2 40 UT s M K J rfl (Z5 ZX 0 0) 0 [] rfl (UK _ _ _ _) _ rfl k (aO (L.take k)) km (by unfold maxLen;omega) (by omega) lR ?_;intro E w3 A d k9
             have p:∀ j,j<w2.heap.size->w3.heap[j]?=w2.heap[j]?:=λj l=>d.block j l (by simp [Value.ownBlock]);have t:w3.heap[r]?=_:=(p r (Ub c0)).trans n.out.2.2.2.1.top;have P:w3.cell? ⟨r,0,ZX⟩=ZW (Z5 (ZW ⟨g,0,ZX⟩) L.length (k+1)):=(by simp [World.cell?,t]);have f3:w3.frozen? ⟨r,0,ZX⟩=ZU:=(by simp [World.frozen?,t]);have D:=d.size;have T:=d.os;have R:=d.tape;have S:=d.output;have C:Src ZN 2 41 (Z5 (ZW ⟨g,0,ZX⟩) 0 0) 0 (aO (L.drop (k+1))) w3:=oR (by rw [Uj,X.out];omega) (λj l=>absurd l (by rw [Uj,X.out];omega)) (qA W (k+1));have c:=aE A p C;clear A d p C t)
          | (at_builtin;refine ae _ rfl (Z1 29) (Z1 36) 41 41 rfl w2.heap.size 51 id _ 2 40 UT s M K J rfl E (0+k) _ rfl c.out.1 _ rfl 0 (aO (L.drop (k+1))) c.out.2.2 (by unfold maxLen;omega) (by omega) D ?_;intro v2 b m a ka
             obtain ⟨y,sl,u,rfl⟩:=uE m;have kf:¬ ZW r=E.ownBlock:=λe=>by have:=(c.out.1.lt r e.symm).1;omega
             have f:b.heap[r]?=_:=(a.block r (Ub P) kf).trans ((c.out.2.1 r (Ub c0)).trans n.out.2.2.2.1.top);have c4:b.cell? ⟨r,0,ZX⟩=ZW (Z5 (ZW ⟨g,0,ZX⟩) L.length (k+1)):=(by simp [World.cell?,f]);have f4:b.frozen? ⟨r,0,ZX⟩=ZU:=(by simp [World.frozen?,f]);have O:=aE m a f;clear m a f))
         have ke:(L.take k++L.drop (k+1)).length=0+k+0:=(by rw [T8,Ui,Uj,X.out];omega);obtain ⟨m,a,f⟩:=O.out;have z:b.ownsRow w2.heap.size 51 2 (.slice y sl u) (L.take k++L.drop (k+1)).length (aO (L.take k++L.drop (k+1))):=(by rw [ke,jt];exact m);have U:aa (λj=>j=r) w2 b:=⟨a.os.trans T,a.tape.trans R,a.output.trans S,TW D a.size,λj l kp=>(a.block j (by omega) (λe=>by have:=(c.out.1.lt j e.symm).1;omega)).trans (c.out.2.1 j l)⟩;go_ret;have Y:b.grownBy (b.setCell ⟨r,0,ZX⟩ (.slice y sl u)) (ZW r):=⟨rfl,rfl,rfl,by simp [World.setCell],λi _ V=>Ud _ _ _ _ (λe=>V (by rw [e]))⟩;refine .inr (.inr ⟨n.out.1,k,n.out.2.1,rfl,⟨.slice y sl u,⟨by simp [World.setCell,VH,f],z.kept Y (.inr λe=>by have:=(z.lt r e).1;omega)⟩⟩,U.trans (aa.setCell _ _ _ rfl)⟩)
   . exact absurd Z.2.1 (H k0 Z.1)
def uF (h:Bs w v l):Src ZN 1 31 v l.length (aI l) w:=by
 obtain ⟨ao,c,rfl,m,n,o,g⟩:=h;have i:∀ u∈aI l,u.oneCell'=ZV:=λu a=>by unfold aI at a;rw [T6] at a;obtain ⟨x,_,rfl⟩:=a;rfl
 by_cases hl:l=[]
 . subst hl;cases ao with
   | none=>exact Xp w Uh c
   | some f=>exact U7 w Uh f 0 c [] rfl (λj u d=>by simp at d) (λu a=>by simp at a)
 . obtain ⟨b,off,rfl,k⟩:=g hl;refine U7 w Uh ⟨b,off,ZX⟩ l.length c (aI l) (by rw [aW,VW]) (λj u d=>?_) i;rw [U9];have e:j<l.length:=(by obtain ⟨q,_⟩:=U1.1 d;rwa [aW] at q);rw [k j e,<- d];unfold aI;rw [Un,Ua e,T5,Ua e];rfl
def Tryz.Sz:(ZN.info? 5).map (λi=>(i.zero,i.size,i.bytes))=ZW (ZW (Z7 .u8 0),1,1):=by kernel_rfl
theorem IM (r:Nat) (name:ByteArray) (ao:Option ZQ) (n c:Nat) (a:¬ eG name) (w:ZT) :
 ZR ZN 35 #[Z6 (ZW ⟨r,0,ZX⟩),Z0 name,.slice ao n c] w λe w'=>e=Z3 (Z7 Z9 6)/\w'=w:=by
 by_cases b:name.size=0
 . have n0:(name.size:Int)=0:=(by omega);go_enter func35,ntmps35;go_wp2;go_ret;exact ⟨rfl,rfl⟩
 . have n0:¬ (name.size:Int)=0:=(by omega);have d:(16:Int)<(name.size:Int):=(by unfold eG at a;omega);go_enter func35,ntmps35;go_wp2;go_ret;exact ⟨rfl,rfl⟩
theorem IN (r:Nat) (name:ByteArray) (ao:Option ZQ) (n c:Nat) (a:eG name) (hn:1500<n) (w:ZT) :
 ZR ZN 35 #[Z6 (ZW ⟨r,0,ZX⟩),Z0 name,.slice ao n c] w λe w'=>e=Z3 (Z7 Z9 7)/\w'=w:=by
 have b:¬ name.size=0:=by have:=a.1;omega
 have n0:¬ (name.size:Int)=0:=by omega
 have d:¬ (16:Int)<(name.size:Int):=by have:=a.2;omega
 have f:(1500:Int)<(n:Int):=by omega
 clear a;go_enter func35,ntmps35;go_wp2;go_ret;exact ⟨rfl,rfl⟩
theorem CD {L:List (ByteArray×ZS)} (h:oz w r base v L) (hl:L.length<=1000000) (name:ByteArray) (ao:Option ZQ) (n c:Nat) (a:eG name) (hn:n<=1500) (b:¬ pS L name) :
 ZR ZN 35 #[Z6 (ZW ⟨r,0,ZX⟩),Z0 name,.slice ao n c] w λe w'=>e=Z3 (Z7 Z9 8)/\w'=w:=by
 have d:=jK h hl name;have i:¬ name.size=0:=by have:=a.1;omega
 have n0:¬ (name.size:Int)=0:=by omega
 have l:¬ (16:Int)<(name.size:Int):=by have:=a.2;omega
 have m:¬ (1500:Int)<(n:Int):=by omega
 clear a h;go_enter func35,ntmps35;go_wp2_with fail;refine d.mono ?_;rintro e w1 ⟨rfl,g⟩;rcases g with ⟨k,j,rfl,_⟩|⟨rfl,f⟩
 . have k2:(0:Int)<=(k:Int):=(by omega);clear d b;go_wp2;go_ret;exact ⟨rfl,rfl⟩
 . exact absurd f b
def bx (h:w.ownsRow base e size v n xs):∃ d f,v=.slice d n f:=by
 rcases h.2 with ⟨b,c⟩|⟨g,cap,cur,a,_⟩
 . exact ⟨ZX,0,by rw [b,c]⟩
 . exact ⟨_,_,a⟩
def cB (L:List (ByteArray×ZS)):List ByteArray:=L.map (·.1)
def uG {L:List (ByteArray×ZS)} (e:∀ k (n:k<L.length),w1.cell? ⟨g,k*2,ZX⟩=ZW (Z0 L[k].1)/\w1.cell? ⟨g,k*2+1,ZX⟩=ZW L[k].2) (d:g<w1.heap.size) (b:bW w1 w3) (h:∀ o∈L,ju o.2) (m:a<=L.length):∀ c,Src ZN 2 41 (Z5 (ZW ⟨g,0,ZX⟩) a c) a (aO (L.take a)) w3:=λc=>
 oR (by rw [Ui];omega) (λj f=>by
  rw [Ui] at f;obtain ⟨i,l⟩:=e j (by omega);rw [Ue,YA];exact ⟨(Ul (b.block g d)).trans i,(Ul (b.block g d)).trans l⟩) (xN h a)
def uH {L:List (ByteArray×ZS)} (e:∀ k (n:k<L.length),w1.cell? ⟨g,k*2,ZX⟩=ZW (Z0 L[k].1)/\w1.cell? ⟨g,k*2+1,ZX⟩=ZW L[k].2) (d:g<w1.heap.size) (b:bW w1 w3) (h:∀ o∈L,ju o.2) (m:a<=L.length):∀ c,Src ZN 2 41 (Z5 (ZW ⟨g,a*2,ZX⟩) (L.length-a) c) (L.length-a) (aO (L.drop a)) w3:=λc=>
 oR (by rw [Uj]) (λj f=>by
  rw [Uj] at f;obtain ⟨i,l⟩:=e (a+j) (by omega);rw [X2,show a*2+j*2=(a+j)*2 by omega];exact ⟨(Ul (b.block g d)).trans i,(Ul (b.block g d)).trans l⟩) (qA h a)
def xO {L:List (ByteArray×ZS)} (h:k=L.length) (off c:Nat) (w:ZT):Src ZN 2 41 (Z5 (ZW ⟨g,off,ZX⟩) (L.length-k) c) (L.length-k) (aO (L.drop k)) w:=by
 subst h;rw [Wx,List.drop_length];exact U7 w UT ⟨g,off,ZX⟩ 0 c [] rfl (λj u a=>by simp at a) (λu b=>by simp at b)
def r9 (c:ZT) (name:ByteArray) (a:Option ZQ) (n b:Nat):Src ZN 2 41 (Z5 (ZW ⟨c.heap.size,0,ZX⟩) 1 1) 1 [Z0 name,.slice a n b] (c.alloc (Z4 #[Z0 name,.slice a n b] 51)):=
 U7 _ UT ⟨c.heap.size,0,ZX⟩ 1 1 [Z0 name,.slice a n b] rfl (λj u f=>by
  rw [U9,Ue];have g:=UG c (Z4 #[Z0 name,.slice a n b] 51);have e:(#[Value.string name,.slice a n b]:Array ZS)[j]?=ZW u:=by simpa using f
  simp only [World.cell?,g];exact e) (λu d=>by
  simp only [Ur,WK,or_false] at d;rcases d with rfl|rfl<;>rfl)
def OU {b1 b2:Nat} (f:w.ownsRow b1 5 1 v n xs) (p:w.ownsRow b2 51 2 u m ys) (o:w.grownBy w' u.ownBlock):w'.ownsRow b1 5 1 v n xs:=by
 refine ⟨f.1,?_⟩;rcases f.2 with l|⟨g,cap,cur,i,j,b,q⟩
 . exact .inl l
 . refine .inr ⟨g,cap,cur,i,j,(o.block g (TX.1 b).1 (λe=>?_)).trans b,q⟩;rcases p.2 with ⟨rfl,_⟩|⟨k,c,d,rfl,_,a,_⟩
   . cases e
   . have h:k=g:=(by simpa [Value.ownBlock] using e.symm);subst h;rw [b] at a;cases a
def F5 (h:w.ownsRow base e size v n xs) {k:Nat} (a:v.ownBlock=ZW k):base<=k:=by
 rcases h.2 with ⟨rfl,_⟩|⟨g,cap,cur,rfl,c,_⟩
 . cases a
 . have:g=k:=(by simpa [Value.ownBlock] using a);omega
def mF {w4:ZT} {vb:ZS} {L:List (ByteArray×ZS)} {o:Obj} (_:oz w r base v L) (j:w3.ownsRow w.heap.size 5 1 vb n xs) (f:bW w w3) (l:w4.ownsRow w.heap.size 51 2 u a ys) (g:bW w3 w4) (h:(w4.alloc o).grownBy w5 u.ownBlock):bW w w5/\w5.ownsRow w.heap.size 5 1 vb n xs:=by
 have b:bW w4 (w4.alloc o):=bA w4 _;have c:bW w w4:=f.trans (g.mono f.size);have d:bW w (w4.alloc o):=c.trans (b.mono c.size);have i:=ay l b;exact ⟨d.grown h d.size (λk e=>F5 i e),OU (ay (ay j g) b) i h⟩
def kT {vb:ZS} (d:w5.ownsRow w.heap.size 51 2 u a ys) (b:bW w w5) (f:w5.ownsRow w.heap.size 5 1 vb n xs) (c:w5.grownBy w6 u.ownBlock):bW w w6/\w6.ownsRow w.heap.size 5 1 vb n xs:=
 ⟨b.grown c b.size (λ_ e=>F5 d e),OU f d c⟩
def LZ (w:ZT) (r:Nat) (L:List (ByteArray×ZS)) (x:ByteArray) (d:a8) (e:ZP) (w':ZT):Prop:=
 e=Z3 (Z7 Z9 0)/\∃ u vb,oz w' r w.heap.size u (L.take (aJ (cB L) x)++(x,vb)::L.drop (aJ (cB L) x))/\w'.ownsRow w.heap.size 5 1 vb d.length (aI d)/\aa (λj=>j=r) w w'
def oS {vb:ZS} {L:List (ByteArray×ZS)} {x:ByteArray} (hn:d.length=n) (y:aJ (cB L) x=a) (c:w6.ownsRow w.heap.size 51 2 u m (aO (L.take a)++[Z0 x,vb]++aO (L.drop a))) (t:bW w w6) (B:w6.ownsRow w.heap.size 5 1 vb n (aI d)) (A:w6.heap[r]?=ZW (Z4 #[v] 43 (0,0))) (E:r<w.heap.size):LZ w r L x d (Z3 (Z7 Z9 0)) (w6.setCell ⟨r,0,ZX⟩ u):=by
 have l:∀ j,j≠r->(w6.setCell ⟨r,0,ZX⟩ u).heap[j]?=w6.heap[j]?:=λj f=>Ud _ _ _ _ f;have i:aO (L.take a)++[Z0 x,vb]++aO (L.drop a)=aO (L.take a++(x,vb)::L.drop a):=by
  rw [jt,Uz];rfl
 have C:m=(L.take a++(x,vb)::L.drop a).length:=by
  have:=c.1;rw [i,kG] at this;omega
 rw [i,C] at c;have b:∀ {e:ZO} {size k:Nat} {z:ZS} {xs:List ZS},w6.ownsRow w.heap.size e size z k xs->(w6.setCell ⟨r,0,ZX⟩ u).ownsRow w.heap.size e size z k xs:=λ{e size k z xs} h=>by
  refine ⟨h.1,?_⟩;rcases h.2 with s|⟨g,cap,cur,o,p,q,D⟩
  . exact .inl s
  . exact .inr ⟨g,cap,cur,o,p,(l g (by omega)).trans q,D⟩
 refine ⟨rfl,u,vb,?_,?_,?_⟩
 . rw [y];refine ⟨?_,b c⟩;have:=ai (j:=0) A u;exact this
 . rw [hn];exact b B
 . exact (aa.RS t _).trans ⟨rfl,rfl,rfl,by simp [World.setCell],λj _ f=>l j f⟩
def PuR (w:ZT) (L:List (ByteArray×ZS)) (x:ByteArray) (i:ZS) (wr:ZT):Prop:=∃ k:Nat,k<=L.length/\i=Z7 Z9 k/\wr=w/\∀ j (hj:j<L.length),j<k->jx L[j].1 x=ZV
theorem L0 {L:List (ByteArray×ZS)} (h:oz w r base (Z5 (ZW ⟨g,0,ZX⟩) L.length cap) L) (hl:L.length<=100000) (W:∀ o∈L,ju o.2) (name:ByteArray) (ao:Option ZQ) (c:Nat) (d:a8) (hd:Bs w (.slice ao d.length c) d) (q4:d.length<=1500) (ky:eG name) (q3:pS L name) (O:∀ k (hk:k<L.length),w.cell? ⟨g,k*2,ZX⟩=ZW (Z0 L[k].1)/\w.cell? ⟨g,k*2+1,ZX⟩=ZW L[k].2) (X:g<w.heap.size) (q6:L.length<=cap) :
 ZR ZN 35 #[Z6 (ZW ⟨r,0,ZX⟩),Z0 name,.slice ao d.length c] w (LZ w r L name d):=by
 obtain ⟨c0,f0⟩:=h.cell;have hc:=jK h (by omega) name;obtain ⟨id,f,K,J,I⟩:=Us Tryz.Se;obtain ⟨ib,ks,ke,kf,kg⟩:=Us Tryz.Sz;have h0:¬ name.size=0:=by have:=ky.1;omega
 have n0:¬ (name.size:Int)=0:=by omega
 have n1:¬ (16:Int)<(name.size:Int):=by have:=ky.2;omega
 obtain ⟨n,hn⟩:=nM (d.length);have kz:=uF hd;rw [hn] at kz q4 ⊢;have n2:¬ (1500:Int)<(n:Int):=by omega
 have B:r<w.heap.size:=Ub c0;have p:=aE kz h hn;clear ky h kz hd hn;go_enter func35,ntmps35;go_wp2_with fail;refine hc.mono ?_;rintro e w1 ⟨rfl,hf⟩;rcases hf with ⟨k,hk,rfl,hn,kp⟩|⟨rfl,kk⟩
 . exact absurd hn (q3 k hk)
 clear hc kk q3;go_wp2;go_loopw [8] (λi wr=>PuR w1 L name i wr) (λi _=>L.length-(intOf i).toNat)
 case atStart=>exact ⟨0,T9 _,rfl,rfl,λj _ h=>by omega⟩
 case round=>
  obtain ⟨k,hk,rfl,rfl,V⟩:=hrel;by_cases kv:k<L.length
  . obtain ⟨q1,q2⟩:=O k kv;obtain ⟨nm,kj⟩:=nM (L[k].1);rw [kj] at q1;have kx:(k:Int)<(L.length:Int):=(by omega);cases h6:jx nm name with
    | true=>
     have q5:Op.bytesLess nm.toList name.toList=ZV:=h6;have ka:PuR wr L name (Z7 Z9 ((k+1:Nat):Int)) wr:=⟨k+1,by omega,rfl,rfl,λj l h=>by
      rcases Xq (YF h) with e|h'
      . subst e;rw [kj];exact h6
      . exact V j l h'⟩
     have HN:=al ka;clear ka V q2 kj O;go_wp2;refine ⟨by simpa using HN.out,?_⟩;show L.length-((k:Int)+1).toNat<L.length-((k:Int)).toNat;omega
    | false=>
     have q5:Op.bytesLess nm.toList name.toList=ZU:=h6;have U:aJ (cB L) name=k:=gE _ _ _ (by unfold cB;rw [T7];omega) (λj l h=>by
      unfold cB at l ⊢;rw [Ve];exact V j (by rwa [T7] at l) h) (λhi=>by simp only [cB,Ve,kj];exact h6)
     have k3:¬ cap=k:=(by omega);have k4:k<=cap:=(by omega);have k5:(k:Int)<=(cap:Int):=(by omega);clear V q2 kj;have C:=au U O;clear U O;go_wp2_with (first
      | (at_builtin;refine ae _ rfl (Z1 48) (Z1 49) 31 31 rfl wr.heap.size 5 ib (Z7 .u8 0) 1 1 Uh ks ke kf kg rfl (Z5 ZX 0 0) 0 [] rfl (UK _ _ _ _) _ rfl n (aI d) p.out.1 (by unfold maxLen;omega) (by omega) lR ?_;intro vb w3 x a Y;rw [Ue,Uk] at x;have u:bW wr w3:=⟨a.os,a.tape,a.output,a.size,λj l=>a.block j l (by simp [Value.ownBlock])⟩;have G:=(u.block r B).trans p.out.2.1.top;have c3:w3.cell? ⟨r,0,ZX⟩=ZW (Z5 (ZW ⟨g,0,ZX⟩) L.length cap):=by simp [World.cell?,G]
         have f3:w3.frozen? ⟨r,0,ZX⟩=ZU:=(by simp [World.frozen?,G]);obtain ⟨M,N,rfl⟩:=bx x;have q:=aE x u (uG C.out.2 X u W (show k<=L.length by omega));clear x a Y u G)
      | (at_builtin;refine ae _ rfl (Z1 51) (Z1 57) 41 41 rfl wr.heap.size 51 id _ 2 40 UT f K J I rfl (Z5 ZX 0 0) 0 [] rfl (UK _ _ _ _) _ rfl (k) (aO (L.take (k))) (q.out.2.2 cap) (by unfold maxLen;omega) (by omega) q.out.2.1.size ?_;intro v4 A y b Z;rw [Ue,Uk] at y;have P:bW w3 A:=⟨b.os,b.tape,b.output,b.size,λj l=>b.block j l (by simp [Value.ownBlock])⟩
         obtain ⟨la,lc,rfl⟩:=bx y;have s:=au y P;clear y b Z P)
      | (at_builtin;refine ae _ rfl (Z1 59) (Z1 63) 41 41 rfl wr.heap.size 51 id _ 2 40 UT f K J I rfl (.slice la (k) lc) (k) (aO (L.take (k))) rfl (ay s.out.1 (bA A _)) _ rfl 1 [Z0 name,.slice M n N] (r9 A name M n N) (by unfold maxLen;omega) (by omega) (TW q.out.2.1.size (TW s.out.2.size (bA A _).size)) ?_;intro v5 w5 E Q hm
         have km:=mF p.out.2.1 q.out.1 q.out.2.1 s.out.1 s.out.2 Q;obtain ⟨v,S⟩:=km;have H:=(v.block r B).trans p.out.2.1.top;have c5:w5.cell? ⟨r,0,ZX⟩=ZW (Z5 (ZW ⟨g,0,ZX⟩) L.length cap):=(by simp [World.cell?,H]);have f5:w5.frozen? ⟨r,0,ZX⟩=ZU:=(by simp [World.frozen?,H]);obtain ⟨ma,mc,rfl⟩:=bx E;have m:=a5 E v S (uH C.out.2 X v W (show k<=L.length by omega));clear E Q hm v S H)
      | (at_builtin;refine ae _ rfl (Z1 65) (Z1 71) 41 41 rfl wr.heap.size 51 id _ 2 40 UT f K J I rfl (.slice ma (k+1) mc) (k+1) _ rfl m.out.1 _ rfl (L.length-(k)) (aO (L.drop (k))) (m.out.2.2.2 _) (by unfold maxLen;omega) (by omega) m.out.2.1.size ?_;intro v6 w6 F R hp
         have ko:=kT m.out.1 m.out.2.1 m.out.2.2.1 R;obtain ⟨D,T⟩:=ko;have z:=(D.block r B).trans p.out.2.1.top;have c6:w6.cell? ⟨r,0,ZX⟩=ZW (Z5 (ZW ⟨g,0,ZX⟩) L.length cap):=(by simp [World.cell?,z]);have f6:w6.frozen? ⟨r,0,ZX⟩=ZU:=(by simp [World.frozen?,z]);obtain ⟨na,nc,rfl⟩:=bx F;have t:=a5 F D T z;clear F R hp D T z))
     all_goals (go_ret;exact oS p.out.2.2 C.out.1 t.out.1 t.out.2.1 t.out.2.2.1 t.out.2.2.2 B)
  . have q0:k=L.length:=(by omega);have kx:¬ (k:Int)<(L.length:Int):=(by omega);have U:aJ (cB L) name=k:=gE _ _ _ (by unfold cB;rw [T7];omega) (λj l h=>by
     unfold cB at l ⊢;rw [Ve];exact V j (by rwa [T7] at l) h) (λhi=>by unfold cB at hi;rw [T7] at hi;omega)
    have HK:=al q0;clear V q0;by_cases kr:cap=k
    . subst kr;clear q6 kv;have C:=au U O;clear U O;go_wp2_with (first
       | (at_builtin;refine ae _ rfl (Z1 48) (Z1 49) 31 31 rfl wr.heap.size 5 ib (Z7 .u8 0) 1 1 Uh ks ke kf kg rfl (Z5 ZX 0 0) 0 [] rfl (UK _ _ _ _) _ rfl n (aI d) p.out.1 (by unfold maxLen;omega) (by omega) lR ?_;intro vb w3 x a Y;rw [Ue,Uk] at x;have u:bW wr w3:=⟨a.os,a.tape,a.output,a.size,λj l=>a.block j l (by simp [Value.ownBlock])⟩;have G:=(u.block r B).trans p.out.2.1.top;have c3:w3.cell? ⟨r,0,ZX⟩=ZW (Z5 (ZW ⟨g,0,ZX⟩) L.length cap):=by simp [World.cell?,G]
          have f3:w3.frozen? ⟨r,0,ZX⟩=ZU:=(by simp [World.frozen?,G]);obtain ⟨M,N,rfl⟩:=bx x;have q:=aE x u (uG C.out.2 X u W (show cap<=L.length by omega));clear x a Y u G)
       | (at_builtin;refine ae _ rfl (Z1 51) (Z1 57) 41 41 rfl wr.heap.size 51 id _ 2 40 UT f K J I rfl (Z5 ZX 0 0) 0 [] rfl (UK _ _ _ _) _ rfl (cap) (aO (L.take (cap))) (q.out.2.2 cap) (by unfold maxLen;omega) (by omega) q.out.2.1.size ?_;intro v4 A y b Z;rw [Ue,Uk] at y;have P:bW w3 A:=⟨b.os,b.tape,b.output,b.size,λj l=>b.block j l (by simp [Value.ownBlock])⟩
          obtain ⟨la,lc,rfl⟩:=bx y;have s:=au y P;clear y b Z P)
       | (at_builtin;refine ae _ rfl (Z1 59) (Z1 63) 41 41 rfl wr.heap.size 51 id _ 2 40 UT f K J I rfl (.slice la (cap) lc) (cap) (aO (L.take (cap))) rfl (ay s.out.1 (bA A _)) _ rfl 1 [Z0 name,.slice M n N] (r9 A name M n N) (by unfold maxLen;omega) (by omega) (TW q.out.2.1.size (TW s.out.2.size (bA A _).size)) ?_;intro v5 w5 E Q hm
          have km:=mF p.out.2.1 q.out.1 q.out.2.1 s.out.1 s.out.2 Q;obtain ⟨v,S⟩:=km;have H:=(v.block r B).trans p.out.2.1.top;have c5:w5.cell? ⟨r,0,ZX⟩=ZW (Z5 (ZW ⟨g,0,ZX⟩) L.length cap):=(by simp [World.cell?,H]);have f5:w5.frozen? ⟨r,0,ZX⟩=ZU:=(by simp [World.frozen?,H]);obtain ⟨ma,mc,rfl⟩:=bx E;have m:=a5 E v S (uH C.out.2 X v W (show cap<=L.length by omega));clear E Q hm v S H)
       | (at_builtin;refine ae _ rfl (Z1 65) (Z1 71) 41 41 rfl wr.heap.size 51 id _ 2 40 UT f K J I rfl (.slice ma (cap+1) mc) (cap+1) _ rfl m.out.1 _ rfl (L.length-(cap)) (aO (L.drop (cap))) (xO HK.out _ _ _) (by unfold maxLen;omega) (by omega) m.out.2.1.size ?_;intro v6 w6 F R hp
          have ko:=kT m.out.1 m.out.2.1 m.out.2.2.1 R;obtain ⟨D,T⟩:=ko;have z:=(D.block r B).trans p.out.2.1.top;have c6:w6.cell? ⟨r,0,ZX⟩=ZW (Z5 (ZW ⟨g,0,ZX⟩) L.length cap):=(by simp [World.cell?,z]);have f6:w6.frozen? ⟨r,0,ZX⟩=ZU:=(by simp [World.frozen?,z]);obtain ⟨na,nc,rfl⟩:=bx F;have t:=a5 F D T z;clear F R hp D T z))
      all_goals (go_ret;exact oS p.out.2.2 C.out.1 t.out.1 t.out.2.1 t.out.2.2.1 t.out.2.2.2 B)
    . have k4:k<=cap:=(by omega);have k5:(k:Int)<=(cap:Int):=(by omega);clear kv;have C:=au U O;clear U O;go_wp2_with (first
       | (at_builtin;refine ae _ rfl (Z1 48) (Z1 49) 31 31 rfl wr.heap.size 5 ib (Z7 .u8 0) 1 1 Uh ks ke kf kg rfl (Z5 ZX 0 0) 0 [] rfl (UK _ _ _ _) _ rfl n (aI d) p.out.1 (by unfold maxLen;omega) (by omega) lR ?_;intro vb w3 x a Y;rw [Ue,Uk] at x;have u:bW wr w3:=⟨a.os,a.tape,a.output,a.size,λj l=>a.block j l (by simp [Value.ownBlock])⟩;have G:=(u.block r B).trans p.out.2.1.top;have c3:w3.cell? ⟨r,0,ZX⟩=ZW (Z5 (ZW ⟨g,0,ZX⟩) L.length cap):=by simp [World.cell?,G]
          have f3:w3.frozen? ⟨r,0,ZX⟩=ZU:=(by simp [World.frozen?,G]);obtain ⟨M,N,rfl⟩:=bx x;have q:=aE x u (uG C.out.2 X u W (show k<=L.length by omega));clear x a Y u G)
       | (at_builtin;refine ae _ rfl (Z1 51) (Z1 57) 41 41 rfl wr.heap.size 51 id _ 2 40 UT f K J I rfl (Z5 ZX 0 0) 0 [] rfl (UK _ _ _ _) _ rfl (k) (aO (L.take (k))) (q.out.2.2 cap) (by unfold maxLen;omega) (by omega) q.out.2.1.size ?_;intro v4 A y b Z;rw [Ue,Uk] at y;have P:bW w3 A:=⟨b.os,b.tape,b.output,b.size,λj l=>b.block j l (by simp [Value.ownBlock])⟩
          obtain ⟨la,lc,rfl⟩:=bx y;have s:=au y P;clear y b Z P)
       | (at_builtin;refine ae _ rfl (Z1 59) (Z1 63) 41 41 rfl wr.heap.size 51 id _ 2 40 UT f K J I rfl (.slice la (k) lc) (k) (aO (L.take (k))) rfl (ay s.out.1 (bA A _)) _ rfl 1 [Z0 name,.slice M n N] (r9 A name M n N) (by unfold maxLen;omega) (by omega) (TW q.out.2.1.size (TW s.out.2.size (bA A _).size)) ?_;intro v5 w5 E Q hm
          have km:=mF p.out.2.1 q.out.1 q.out.2.1 s.out.1 s.out.2 Q;obtain ⟨v,S⟩:=km;have H:=(v.block r B).trans p.out.2.1.top;have c5:w5.cell? ⟨r,0,ZX⟩=ZW (Z5 (ZW ⟨g,0,ZX⟩) L.length cap):=(by simp [World.cell?,H]);have f5:w5.frozen? ⟨r,0,ZX⟩=ZU:=(by simp [World.frozen?,H]);obtain ⟨ma,mc,rfl⟩:=bx E;have m:=a5 E v S (uH C.out.2 X v W (show k<=L.length by omega));clear E Q hm v S H)
       | (at_builtin;refine ae _ rfl (Z1 65) (Z1 71) 41 41 rfl wr.heap.size 51 id _ 2 40 UT f K J I rfl (.slice ma (k+1) mc) (k+1) _ rfl m.out.1 _ rfl (L.length-(k)) (aO (L.drop (k))) (xO HK.out _ _ _) (by unfold maxLen;omega) (by omega) m.out.2.1.size ?_;intro v6 w6 F R hp
          have ko:=kT m.out.1 m.out.2.1 m.out.2.2.1 R;obtain ⟨D,T⟩:=ko;have z:=(D.block r B).trans p.out.2.1.top;have c6:w6.cell? ⟨r,0,ZX⟩=ZW (Z5 (ZW ⟨g,0,ZX⟩) L.length cap):=(by simp [World.cell?,z]);have f6:w6.frozen? ⟨r,0,ZX⟩=ZU:=(by simp [World.frozen?,z]);obtain ⟨na,nc,rfl⟩:=bx F;have t:=a5 F D T z;clear F R hp D T z))
      all_goals (go_ret;exact oS p.out.2.2 C.out.1 t.out.1 t.out.2.1 t.out.2.2.1 t.out.2.2.2 B)
theorem L2 (h:oz w r base (Z5 ZX 0 0) []) (name:ByteArray) (ao:Option ZQ) (c:Nat) (d:a8) (N:Bs w (.slice ao d.length c) d) (kb:d.length<=1500) (H:eG name) :
 ZR ZN 35 #[Z6 (ZW ⟨r,0,ZX⟩),Z0 name,.slice ao d.length c] w (LZ w r [] name d):=by
 obtain ⟨c0,f0⟩:=h.cell;have M:=jK h (by simp) name;obtain ⟨id,b,E,D,B⟩:=Us Tryz.Se;obtain ⟨ib,kc,hq,hr,hs⟩:=Us Tryz.Sz;have h0:¬ name.size=0:=by have:=H.1;omega
 have n0:¬ (name.size:Int)=0:=by omega
 have n1:¬ (16:Int)<(name.size:Int):=by have:=H.2;omega
 obtain ⟨n,hn⟩:=nM (d.length);have I:=uF N;rw [hn] at I kb ⊢;have n2:¬ (1500:Int)<(n:Int):=by omega
 have u:r<w.heap.size:=Ub c0;have f:=aE I h hn;clear H h I N hn;go_enter func35,ntmps35;go_wp2_with fail;refine M.mono ?_;rintro e w1 ⟨rfl,Z⟩;rcases Z with ⟨k,hk,_⟩|⟨rfl,_⟩
 . exact absurd hk (by simp)
 clear M;go_wp2;go_loopw [8] (λi wr=>i=Z7 Z9 0/\wr=w1) (λ_ _=>0)
 case atStart=>exact ⟨rfl,rfl⟩
 case round=>
  obtain ⟨rfl,rfl⟩:=hrel;go_wp2_with (first
   | (at_builtin;refine ae _ rfl (Z1 48) (Z1 49) 31 31 rfl wr.heap.size 5 ib (Z7 .u8 0) 1 1 Uh kc hq hr hs rfl (Z5 ZX 0 0) 0 [] rfl (UK _ _ _ _) _ rfl n (aI d) f.out.1 (by unfold maxLen;omega) (by omega) lR ?_;intro vb w3 s g V;rw [Ue,Uk] at s;have y:bW wr w3:=⟨g.os,g.tape,g.output,g.size,λj C=>g.block j C (by simp [Value.ownBlock])⟩;have R:=(y.block r u).trans f.out.2.1.top;have c3:w3.cell? ⟨r,0,ZX⟩=ZW (Z5 ZX 0 0):=by simp [World.cell?,R]
      obtain ⟨J,K,rfl⟩:=bx s;have o:=au s y;clear s g V y R)
   | (at_builtin;refine ae _ rfl (Z1 51) (Z1 57) 41 41 rfl wr.heap.size 51 id _ 2 40 UT b E D B rfl (Z5 ZX 0 0) 0 [] rfl (UK _ _ _ _) _ rfl 0 [] (Xp _ UT 0) (by unfold maxLen;omega) (by omega) o.out.2.size ?_;intro v4 x t l W;rw [Ue,Uk] at t;have O:bW w3 x:=⟨l.os,l.tape,l.output,l.size,λj C=>l.block j C (by simp [Value.ownBlock])⟩
      obtain ⟨la,lc,rfl⟩:=bx t;have p:=au t O;clear t l W O)
   | (at_builtin;refine ae _ rfl (Z1 59) (Z1 63) 41 41 rfl wr.heap.size 51 id _ 2 40 UT b E D B rfl (.slice la 0 lc) 0 [] rfl (ay p.out.1 (bA x _)) _ rfl 1 [Z0 name,.slice J n K] (r9 x name J n K) (by unfold maxLen;omega) (by omega) (TW o.out.2.size (TW p.out.2.size (bA x _).size)) ?_;intro v5 w5 F P X
      have ke:=mF f.out.2.1 o.out.1 o.out.2 p.out.1 p.out.2 P;obtain ⟨z,T⟩:=ke;have S:=(z.block r u).trans f.out.2.1.top;have c5:w5.cell? ⟨r,0,ZX⟩=ZW (Z5 ZX 0 0):=(by simp [World.cell?,S]);obtain ⟨ma,mc,rfl⟩:=bx F;have m:=aE F z T;clear F P X z T S)
   | (at_builtin;refine ae _ rfl (Z1 65) (Z1 71) 41 41 rfl wr.heap.size 51 id _ 2 40 UT b E D B rfl (.slice ma 1 mc) 1 _ rfl m.out.1 _ rfl 0 [] (Xp _ UT 0) (by unfold maxLen;omega) (by omega) m.out.2.1.size ?_;intro v6 w6 G Q Y
      have kf:=kT m.out.1 m.out.2.1 m.out.2.2 Q;obtain ⟨A,U⟩:=kf;have v:=(A.block r u).trans f.out.2.1.top;have c6:w6.cell? ⟨r,0,ZX⟩=ZW (Z5 ZX 0 0):=(by simp [World.cell?,v]);have f6:w6.frozen? ⟨r,0,ZX⟩=ZU:=(by simp [World.frozen?,v]);obtain ⟨na,nc,rfl⟩:=bx G;have q:=a5 G A U v;clear G Q Y A U v))
  all_goals (go_ret;exact oS (a:=0) (L:=[]) f.out.2.2 rfl q.out.1 q.out.2.1 q.out.2.2.1 q.out.2.2.2 u)
def F6 {L:List (ByteArray×ZS)} (h:oz w r base v L) (hl:L.length<=100000) (t:∀ o∈L,ju o.2) (name:ByteArray) (ao:Option ZQ) (c:Nat) (d:a8) (i:Bs w (.slice ao d.length c) d) (e:d.length<=1500) (f:eG name) (s:pS L name) :
 ZR ZN 35 #[Z6 (ZW ⟨r,0,ZX⟩),Z0 name,.slice ao d.length c] w (LZ w r L name d):=by
 rcases h.shape with ⟨rfl,rfl⟩|⟨g,cap,rfl,x,n,m⟩
 . exact L2 h name ao c d i e f
 . have p:g<w.heap.size:=by
    rcases h.own.2 with ⟨q,_⟩|⟨l,a,cur,b,u,k,_⟩
    . cases q
    . have j:g=l:=by
       simp only [Vt,UO,Yz] at b;exact b.1.1
      rw [j];exact (TX.1 k).1
   exact L0 h hl t name ao c d i e f s m p n
section
variable {X:ZT} {p:Nat} {A:fK} {F:aR}
def gT (f:Nat->a8) (nb:Nat):List ZS:=(YE (64*nb)).map λk=>Z7 .u8 (((f (k/64)).getD (k%64) 0:Nat):Int)
def gU (g:Nat->Bool) (nb:Nat):List ZS:=(YE nb).map λk=>Z2 (g k)
def uI (f:Nat->a8) (nb:Nat):(gT f nb).length=64*nb:=by unfold gT;rw [T7,UC]
def uJ (g:Nat->Bool) (nb:Nat):(gU g nb).length=nb:=by unfold gU;rw [T7,UC]
theorem ah.TS (h:ah X p A F) (i:Nat) (a:i<A.n) (f:Nat->a8) (hl:∀ j,(f j).length=64/\∀ x∈f j,x<256):ah (X.setCells (F.bb i) 0 (gT f A.nb)) p (A.RY i f) F:=by
 refine h.RY a ((fm (gT f A.nb) 0 X _ (h.blk i a)).congr λm c=>?_) (λk b=>aS _ _ _ _ _ b) hl;rw [if_pos ⟨T9 _,by rw [uI];omega⟩,X7,T5];unfold gT;rw [Un,Vw c];rfl
theorem ah.TP (h:ah X p A F) (i:Nat) (a:i<A.n) (g:Nat->Bool):ah (X.setCells (F.bd i) 0 (gU g A.nb)) p (A.R5 i g) F:=by
 refine h.R5 a ((fm (gU g A.nb) 0 X _ (h.bad i a)).congr λm c=>?_) (λk b=>aS _ _ _ _ _ b);rw [if_pos ⟨T9 _,by rw [uJ];omega⟩,X7,T5];unfold gU;rw [Un,Vw c];rfl
def kU (A:fK) (k:Nat):fK:=⟨A.n,A.nb,λi=>if i<k then A.lost i else ZU,λi=>if i<k then A.bad i else λ_=>ZU,λi=>if i<k then A.blk i else λ_=>zb⟩
theorem L3 (k:Nat) (f:Nat->α) (z:α):(λi=>if i=k then f k else if i<k then f i else z)=λi=>if i<k+1 then f i else z:=by
 funext i;by_cases e:i=k
 . subst e;simp
 . rw [if_neg e];by_cases q:i<k
   . rw [if_pos q,if_pos (by omega)]
   . rw [if_neg q,if_neg (by omega)]
def IP (A:fK):kU A 0=tE A.n A.nb:=by unfold kU tE;simp
def IQ (A:fK) (k:Nat):(({ kU A k with lost:=λi=>if i=k then A.lost k else (kU A k).lost i }:fK).RY k (A.blk k)).R5 k (A.bad k)=kU A (k+1):=by
 unfold kU fK.RY fK.R5;simp only [fK.mk.injEq,true_and];exact ⟨L3 k A.lost ZU,L3 k A.bad _,L3 k A.blk _⟩
def Tryz.Tn:(ZN.info? 105).map (·.size)=ZW 64:=by kernel_rfl
def Tryz.Tg:(ZN.info? 4).map (·.size)=ZW 1:=by kernel_rfl
def uK (h:w.rowIs b t n f):∃ cur:List ZS,aj w b t cur/\cur.length=n:=by
 obtain ⟨c,a,d,_⟩:=h;refine ⟨c.toList,?_,by simpa using d⟩;unfold aj;rw [a,Array.toArray_toList]
def L4 (h:ah w p A F) (k:ah w q B E) (i:Nat) (o:i<A.n) (r:i<B.n) (l:B.nb=A.nb) (f:ZO) :
 (Builtin.copy_ #[98,98] f #[Z5 (ZW ⟨E.bb i,0,ZX⟩) A.nb A.nb,Z5 (ZW ⟨F.bb i,0,ZX⟩) A.nb A.nb]).run ZN w=.ok (goInt A.nb) (w.setCells (E.bb i) 0 (gT (A.blk i) A.nb)):=by
 obtain ⟨cur,m,g⟩:=uK (k.blk i r);have b:=uI (A.blk i) A.nb;have d:Nat.min A.nb A.nb=A.nb:=Nat.min_self _;have:=dX (P:=ZN) w 98 98 f 105 64 (E.bb i) 0 A.nb A.nb (F.bb i) 0 A.nb A.nb 105 cur (gT (A.blk i) A.nb) underlying98 Tryz.Tn (by rw [b,d];omega) (λj v a=>by
  unfold gT at a;rw [Un] at a;by_cases c:j<64*A.nb
  . rw [Vw c] at a;rw [Ue,(h.blk i o).cell c];exact a
  . rw [VM (by rw [UC];omega)] at a;cases a) m (by rw [b,g,l];omega) (λv e=>by
  unfold gT at e;obtain ⟨x,_,rfl⟩:=T6.1 e;rfl)
 rw [d] at this;exact this
def L5 (h:ah w p A F) (k:ah w q B E) (i:Nat) (o:i<A.n) (r:i<B.n) (l:B.nb=A.nb) (f:ZO) :
 (Builtin.copy_ #[99,99] f #[Z5 (ZW ⟨E.bd i,0,ZX⟩) A.nb A.nb,Z5 (ZW ⟨F.bd i,0,ZX⟩) A.nb A.nb]).run ZN w=.ok (goInt A.nb) (w.setCells (E.bd i) 0 (gU (A.bad i) A.nb)):=by
 obtain ⟨cur,m,g⟩:=uK (k.bad i r);have b:=uJ (A.bad i) A.nb;have d:Nat.min A.nb A.nb=A.nb:=Nat.min_self _;have:=dX (P:=ZN) w 99 99 f 4 1 (E.bd i) 0 A.nb A.nb (F.bd i) 0 A.nb A.nb 4 cur (gU (A.bad i) A.nb) underlying99 Tryz.Tg (by rw [b,d];omega) (λj v a=>by
  unfold gU at a;rw [Un] at a;by_cases c:j<A.nb
  . rw [Vw c] at a;rw [Ue,(h.bad i o).cell c];exact a
  . rw [VM (by rw [UC];omega)] at a;cases a) m (by rw [b,g,l];omega) (λv e=>by
  unfold gU at e;obtain ⟨x,_,rfl⟩:=T6.1 e;rfl)
 rw [d] at this;exact this
structure L6 (w:ZT) (p c:Nat) (A B:fK) (F E:aR):Prop where
 a:ah w p A F
 b:ah w c B E
 n:B.n=A.n
 nb:B.nb=A.nb
 ap:∀ k,F.S k->¬ E.S k
def L6.facts (h:L6 w p c A B F E) (i:Nat) (o:i<A.n) :
 (w.cell? ⟨p,0,ZX⟩=ZW (Z5 (ZW ⟨F.g,0,ZX⟩) A.n F.cap)/\w.cell? ⟨c,0,ZX⟩=ZW (Z5 (ZW ⟨E.g,0,ZX⟩) A.n E.cap))/\(p≠E.g/\c≠E.g/\F.g≠E.g)/\(p≠E.bb i/\c≠E.bb i/\F.g≠E.bb i/\E.g≠E.bb i)/\(p≠E.bd i/\c≠E.bd i/\F.g≠E.bd i/\E.g≠E.bd i):=by
 obtain ⟨c0,_⟩:=h.a.RX;obtain ⟨c1,_⟩:=h.b.RX;rw [h.n] at c1;have d:i<B.n:=by rw [h.n];exact o
 have a:=(h.b.apart.2.1 i d);have j:=h.a.sp;have f:=h.a.sg;have k:=h.b.sb d;have l:=h.b.sd d;have m:=h.b.sg;exact ⟨⟨c0,c1⟩,⟨λe=>h.ap _ j (e▸m),h.b.apart.1,λe=>h.ap _ f (e▸m)⟩,⟨λe=>h.ap _ j (e▸k),V1 a.1,λe=>h.ap _ f (e▸k),V1 a.2.1⟩,⟨λe=>h.ap _ j (e▸l),V1 a.2.2.1,λe=>h.ap _ f (e▸l),V1 a.2.2.2⟩⟩
def CpR (w:ZT) (c:Nat) (A:fK) (E:aR) (i:ZS) (wr:ZT):Prop:=∃ k:Nat,k<=A.n/\i=Z7 Z9 (k:Nat)/\bW w wr/\ah wr c (kU A k) E
def aab (w:ZT) (A:fK) (e:ZP) (w':ZT):Prop:=∃ E:aR,e=Z3 (Z6 (ZW ⟨w.heap.size,0,ZX⟩))/\bW w w'/\ah w' w.heap.size (kU A A.n) E/\∀ k,E.S k->w.heap.size<=k
theorem CE (h:ah w p A F) (hn:0<A.n) :
 ZR ZN 26 #[Z6 (ZW ⟨p,0,ZX⟩)] w (aab w A):=by
 have V:=h.n;have ka:=h.nb;have l:=aE h V ka;clear h;go_enter func26,ntmps26;have q:=l.out.1.RX.1;have k7:=ku (l.out.1.keep (Y:=w.drew) λ_ _=>rfl) hn;have kb:=oy A.n A.nb w.drew hn V ka;go_upto_region 1 with fail;go_cut [3] from 5 to 72 (λv3 wx=>v3=Z6 (ZW ⟨w.heap.size,0,ZX⟩)/\KR A.n A.nb w.drew (Z3 (Z6 (ZW ⟨w.heap.size,0,ZX⟩))) wx)
 case first=>
  go_region_with (first|(go_at_call 42;refine k7.mono ?_;rintro e wz ⟨rfl,rfl⟩)|(go_at_call 14;refine kb.mono ?_;rintro e wz R;obtain ⟨rfl,_⟩:=id R;have HZ:=al R;clear R));all_goals (go_wp2_with fail;go_meet;case rel=>exact ⟨rfl,HZ.out⟩)
 case rest=>
 obtain ⟨rfl,ki,k5,E,x,C⟩:=hcut;clear ki k7 kb q;change ah _ w.heap.size (tE A.n A.nb) E at x;change ∀ k,E.S k->w.heap.size<=k at C;have I:bW w wc:=((TY _ w).drew).trans k5;have X:ah wc p A F:=l.out.1.below I lR;have q0:=X.RX.1;have Z:∀ k,F.S k->k<w.heap.size:=λk W=>l.out.1.RU W;obtain ⟨c,B⟩:=nM (w.heap.size);rw [<- IP] at x;rw [B] at x C;have f:=a6 x C I Z B;rw [B];clear x C k5 I X Z B;go_wp2_with fail;go_loopw [18] (λi wr=>CpR w c A E i wr) (λi _=>A.n-(intOf i).toNat)
 case atStart=>exact ⟨0,T9 _,rfl,f.out.2.2.1,f.out.1⟩
 case round=>
  obtain ⟨k,W,rfl,y,D⟩:=hrel;by_cases d:k<A.n
  . have kj:(k:Int)<(A.n:Int):=(by omega);have t:L6 wr p c A (kU A k) F E:=⟨l.out.1.below y lR,D,rfl,rfl,λj h1 h2=>by have:=f.out.2.2.2.1 j h1;have:=f.out.2.1 j h2;have:=f.out.2.2.2.2;omega⟩;obtain ⟨⟨q,z⟩,_,_,_⟩:=t.facts k d;have l0:=(t.a.Sd k d).1;have m0:=(t.b.Sd k d).1;have f0:=t.b.Su (k*4);have v:=au t y;clear y D t;go_wp2_with fail;go_region;clear q z l0 m0 f0;have s:ah (wr.setCell ⟨E.g,k*4,ZX⟩ (Z2 (A.lost k))).drew c ({ kU A k with lost:=λi=>if i=k then A.lost k else (kU A k).lost i }:fK) E:=(v.out.1.b.S6 k (A.lost k)).keep λ_ _=>rfl;have M:aa (λj=>j=E.g) wr (wr.setCell ⟨E.g,k*4,ZX⟩ (Z2 (A.lost k))).drew:=(aa.setCell (S:=λj=>j=E.g) wr ⟨E.g,k*4,ZX⟩ _ rfl).trans (aa.drew _);obtain ⟨w2,kc⟩:=nM ((wr.setCell ⟨E.g,k*4,ZX⟩ (Z2 (A.lost k))).drew);rw [kc] at s M ⊢;have G:∀ j,E.S j->w.heap.size<=j:=λj r=>by have:=f.out.2.1 j r;have:=f.out.2.2.2.2;omega
    have kg:=G _ s.sg;have k8:=G _ (s.sb d);have k9:=G _ (s.sd d);have P:bW w w2:=v.out.2.trans (M.below λj r=>⟨TZ r v.out.2.size,λe=>by omega⟩);have m:L6 w2 p c A ({ kU A k with lost:=λi=>if i=k then A.lost k else (kU A k).lost i }:fK) F E:=⟨l.out.1.below P lR,s,rfl,rfl,v.out.1.ap⟩;have J:=L4 (m.a.keep (Y:=w2.drew) λ_ _=>rfl) (m.b.keep (Y:=w2.drew) λ_ _=>rfl) k d d rfl;obtain ⟨⟨q,z⟩,_,_,_⟩:=m.facts k d;have l1:=(m.a.Sd k d).2.1;have m1:w2.cell? ⟨E.g,k*4+1,ZX⟩=ZW (Z5 (ZW ⟨E.bb k,0,ZX⟩) A.nb A.nb):=(m.b.Sd k d).2.1;have u:=a5 m P k8 k9;clear s M kc G kg k8 k9 P m;go_wp2_with fail;go_region;clear q z l1 m1 J;have K:ah (w2.drew.setCells (E.bb k) 0 (gT (A.blk k) A.nb)) c (({ kU A k with lost:=λi=>if i=k then A.lost k else (kU A k).lost i }:fK).RY k (A.blk k)) E:=(u.out.1.b.keep (Y:=w2.drew) λ_ _=>rfl).TS k d (A.blk k) (l.out.1.len k);have N:aa (λj=>j=E.bb k) w2 (w2.drew.setCells (E.bb k) 0 (gT (A.blk k) A.nb)):=(aa.drew w2).trans (aa.setCells _ _ _ _ rfl);obtain ⟨w3,ke⟩:=nM (w2.drew.setCells (E.bb k) 0 (gT (A.blk k) A.nb));rw [ke] at K N ⊢;have Q:bW w w3:=u.out.2.1.trans (N.below λj r=>⟨TZ r u.out.2.1.size,λe=>by have:=u.out.2.2.1;omega⟩);have o:L6 w3 p c A (({ kU A k with lost:=λi=>if i=k then A.lost k else (kU A k).lost i }:fK).RY k (A.blk k)) F E:=⟨l.out.1.below Q lR,K,rfl,rfl,v.out.1.ap⟩;have J:=L5 (o.a.keep (Y:=w3.drew) λ_ _=>rfl) (o.b.keep (Y:=w3.drew) λ_ _=>rfl) k d d rfl;obtain ⟨⟨q,z⟩,_,_,_⟩:=o.facts k d;have l2:=(o.a.Sd k d).2.2.1;have m2:w3.cell? ⟨E.g,k*4+2,ZX⟩=ZW (Z5 (ZW ⟨E.bd k,0,ZX⟩) A.nb A.nb):=(o.b.Sd k d).2.2.1;have H:=au o Q;clear K N ke Q o;go_wp2_with fail;go_region;clear q z l2 m2 J;have L:ah (w3.drew.setCells (E.bd k) 0 (gU (A.bad k) A.nb)) c (kU A (k+1)) E:=by
     have:=(H.out.1.b.keep (Y:=w3.drew) λ_ _=>rfl).TP k d (A.bad k);rw [IQ] at this;exact this
    have O:aa (λj=>j=E.bd k) w3 (w3.drew.setCells (E.bd k) 0 (gU (A.bad k) A.nb)):=(aa.drew w3).trans (aa.setCells _ _ _ _ rfl);obtain ⟨w4,kf⟩:=nM (w3.drew.setCells (E.bd k) 0 (gU (A.bad k) A.nb));rw [kf] at L O ⊢;have k6:bW w w4:=H.out.2.trans (O.below λj r=>⟨TZ r H.out.2.size,λe=>by have:=u.out.2.2.2;omega⟩);have U:CpR w c A E (Z7 Z9 ((k:Int)+1)) w4:=⟨k+1,by omega,rfl,k6,L⟩;have H4:=al U;clear L O kf k6 U;go_wp2;exact ⟨H4.out,by simp [intOf];omega⟩
  . have kh:k=A.n:=(by omega);subst kh;have T:=au y D;clear y D;go_wp2;go_ret;have e:=f.out.2.2.2.2;subst e;exact ⟨E,rfl,T.out.1,T.out.2,f.out.2.1⟩
def aaL (w:ZT) (A:aH) (e:ZP) (w':ZT):Prop:=∃ E:aR,e=Z3 (Z6 (ZW ⟨w.heap.size,0,ZX⟩))/\bW w w'/\aB w' w.heap.size A E/\∀ k,E.S k->w.heap.size<=k
theorem CG {A:aH} (h:aB w p A F) (hn:0<A.n) (hl:∀ i,A.n<=i->A.lost i=ZU) :
 ZR ZN 26 #[Z6 (ZW ⟨p,0,ZX⟩)] w (aaL w A):=by
 obtain ⟨R,f,a⟩:=h;refine (CE f (by rw [a.n];exact hn)).mono ?_;rintro e w' ⟨E,g,j,k,l⟩;refine ⟨E,g,j,⟨_,k,a.n,a.nb,?_,λi b c d=>?_⟩,l⟩
 . show (λi=>if i<R.n then R.lost i else ZU)=A.lost;funext i;rw [a.n,a.lost];split
   . rfl
   . exact (hl i (by omega)).symm
 . rw [<- a.rd i b c d];unfold fK.rd kU;rw [a.n];simp only [if_pos c]
end
