import Derived.Test.YtfbmmcnpjhmjaaaGreatDoorM47
import Derived.Test.YtfbmmcnpjhmjaaaGreatDoorM45
set_option maxRecDepth 100000
set_option maxHeartbeats 8000000
open Go.IntKind renaming i64 -> Z9
open Go.Value renaming int -> Z8, pointer -> Z7, slice -> Z6, string -> Z3
open Go.Obj renaming cells -> Z5
open Go.Ending renaming returned -> Z4
open Option renaming none -> Z2, some -> Z1
open Go renaming World -> Z0, Value -> ZZ, Calls -> ZX
open Go.RowKit renaming Below -> ZY
open List renaming getElem_mem -> Tm, getElem?_eq_getElem -> Tn, length_pos_iff -> Tq, length_take -> Tr, mem_append_left -> Ts, getElem_of_mem -> Tu, mem_singleton -> Tx, getElem?_map -> Ty
open Nat renaming lt_of_lt_of_le -> To, le_refl -> Tp
open Int.ofNat renaming inj -> Tt
open Int renaming natCast_add -> Tv
open Array renaming getElem?_eq_some_iff -> Tw
open Option renaming map_some -> Tz
open Option.some renaming injEq -> TA
open Prod.mk renaming injEq -> TB
open Go.Proofs.YtfbmmcnpjhmjaaaGreatDoor renaming pgs -> TC
open Go.Proofs.Tryz renaming prog -> ZW
namespace Go.Proofs.YtfbmmcnpjhmjaaaGreatDoor
open Go.RowKit Go.Deep Gf
variable {A:aB} {F:bx} {regs:Int} {ps:dD} {Dl:List (List Nat)} {P:List Nat} {b v ar p D L G t g N lost:Nat} {K:Nat->Prop} {f:Nat->ZZ} {xs:bg} {pg ob a c a' b' c':ZZ} {w w' w7 w8:Z0}
def tR (w:Z0) (b:Nat):Prop:=∀ off u,w.cell? ⟨b,off,Z2⟩=Z1 u->(∀ x,u≠Z8 Z9 x)/\∀ s,u≠Z3 s
theorem GM (a:w.heap[b]?=Z1 (Z5 #[.nilIface] 63 (0,0))):tR w b:=λoff u h=>by
 cases off with
 | zero=>simp [World.cell?,a] at h;subst h;exact ⟨λ_=>nofun,λ_=>nofun⟩
 | succ n=>simp [World.cell?,a] at h
theorem bK.aside {v:ZZ} {l:List Nat} (h:bK K w v l) (p:tR w b) (s:w.heap.size<=w'.heap.size) (r:∀ k,k≠b->k<w.heap.size->w'.heap[k]?=w.heap[k]?):bK K w' v l:=by
 obtain ⟨g,c,m,n,o⟩:=h;refine ⟨g,c,m,n,λa=>?_⟩;obtain ⟨b',off,t,u,d,f⟩:=o a;have j:b'≠b:=λe=>by
  subst e;exact (p _ _ (f 0 (Tq.2 a))).1 _ rfl
 exact ⟨b',off,t,u,To d s,λi q=>(World.cell?_of_block (r b' j d)).trans (f i q)⟩
theorem gz.aside {v:ZZ} {os:List Ob} (h:gz K w v os) (f:tR w b) (l:w.heap.size<=w'.heap.size) (g:∀ k,k≠b->k<w.heap.size->w'.heap[k]?=w.heap[k]?):gz K w' v os:=by
 obtain ⟨p,c,q,r,s⟩:=h;refine ⟨p,c,q,r,λj=>?_⟩;obtain ⟨b',off,x,y,m,n⟩:=s j;have t:b'≠b:=λe=>by
  subst e;obtain ⟨o,d,_⟩:=n 0 (Tq.2 j);exact (f _ _ d).2 _ rfl
 refine ⟨b',off,x,y,To m l,λi u=>?_⟩;obtain ⟨o,d,z,A,B⟩:=n i u;have a:=g b' t m;exact ⟨o,(World.cell?_of_block a).trans d,(World.cell?_of_block a).trans z,(World.cell?_of_block a).trans A,B.aside f l g⟩
theorem bf.aside {B:Nat} (h:bf w ar v p ps D L G t pg ob P xs A F) (f:tR w b) (i:¬ ps.bl b) (c:w.heap.size<=w'.heap.size) (a:∀ k,k≠b->k<w.heap.size->w'.heap[k]?=w.heap[k]?) (m:B<=b) (l:∀ k,F.has p A.n k->k<B) (q:v<B) (o:ar<B) (hK:3<=B):bf w' ar v p ps D L G t pg ob P xs A F:=by
 have k1:2<3:=by decide
 have k2:1<3:=by decide
 exact ⟨h.arc.keep (a _ (by omega) h.arc.lt),⟨h.vol.vol.keep (a _ (by omega) h.vol.vol.lt),h.vol.arr.keep λj g=>a j (by have:=l j g;omega) (h.vol.arr.has_lt g),h.vol.laid.keep (a _ (by omega) h.vol.laid.lt),h.vol.tab.keep (a _ (by omega) h.vol.tab.lt),Nat.le_trans h.vol.room c⟩,h.free,h.nar,h.vlt,h.arK,h.fit,h.par,h.disk,h.pgs.aside f c a,h.cat.aside f c a,h.nb,h.turn,ps.keep _ _ h.kit λk d=>a k (λe=>i (e▸d)) (ps.lt _ h.kit k d),h.apt⟩
theorem bf.notErr {cs:Array ZZ} (h:bf w ar v p ps D L G t pg ob P xs A F) (a:w.heap[b]?=Z1 (Z5 cs 63 (0,0))):¬ ps.bl b:=λq=>by
 rcases ps.kd _ h.kit b q _ _ _ a with k|k|k|k<;>exact absurd k (by decide)
def Ky (b:Nat) (w w':Z0):Prop:=w.heap[b]?=Z1 (Z5 #[.nilIface] 63 (0,0))/\w'.heap.size=w.heap.size/\∀ j,j≠b->w'.heap[j]?=w.heap[j]?
theorem DJ (h:bf w ar v p ps D L G t pg ob P xs A F) (k:FuncId) (first cap:Array ZZ) (U:∀ (args:Array ZZ) (w:Z0),(callFunc k args).run ZW w=.ok (.enter k args) w) (Q:ZZ->Nat->bg->aB->dD->Z0->Prop) (T:Nat->Prop) (R:∀ j,T j->j≠w.heap.size)
 (Z:∀ x g a B c w2 w',Ky w.heap.size w2 w'->Q x g a B c w2->Q x g a B c w')
 (V:∀ w1,ZY w.heap.size w w1->w1.heap.size=w.heap.size+1->ZX ZW k (first++cap) w1 λe w2=>∃ x g f d i a B c,e=Z4 x/\noCut x/\bf w2 ar v p c D L G g f d i a B F/\B.n=A.n/\(B.nb=A.nb/\B.lost=A.lost)/\aa (λj=>j=ar\/F.has p A.n j\/T j) w1 w2/\Q x g a B c w2) :
 ZX ZW 46 #[Z7 (Z1 ⟨ar,0,Z2⟩),.func (.func k) first cap] w λe w'=>∃ x g f d i a B c,e=Z4 x/\noCut x/\bf w' ar v p c D L G g f d i a B F/\B.n=A.n/\(B.nb=A.nb/\B.lost=A.lost)/\aa (λj=>j=ar\/F.has p A.n j\/T j) w w'/\Q x g a B c w':=by
 have M:=h.arc.lt;have hr:=h.vol.vol.lt;have H:∀ j,F.has p A.n j->j<w.heap.size:=λj m=>h.vol.arr.has_lt m;have K:=h.vol.room;have Y:=tP k first cap U w ar _ h.arc rfl (λw1 x w2=>ZY w.heap.size w w1/\w1.heap.size=w.heap.size+1/\w2.heap[w.heap.size]?=Z1 (Z5 #[.nilIface] 63 (0,0))/\∃ g f d i a B c,bf w2 ar v p c D L G g f d i a B F/\B.n=A.n/\(B.nb=A.nb/\B.lost=A.lost)/\aa (λj=>j=ar\/F.has p A.n j\/T j) w1 w2/\Q x g a B c w2)
  (λw1 q C W=>(V w1 q C).mono (by
   rintro e w2 ⟨x,g,f,d,i,a,B,c,rfl,E,l,r,u,y,z⟩;have I:=y;have J:w2.heap[w.heap.size]?=w1.heap[w.heap.size]?:=I.block _ (by omega) (λe=>by
    rcases e with e|e|e
    . omega
    . have:=H _ e;omega
    . exact R _ e rfl)
   exact ⟨x,rfl,E,⟨q,C,J.trans W,g,f,d,i,a,B,c,l,r,u,I,z⟩,J,_,l.arc,rfl⟩))
 refine Y.mono ?_;rintro e w' ⟨x,w1,w2,rfl,E,_,_,⟨q,C,s,g,f,d,i,a,B,c,l,r,u,y,z⟩,rfl⟩;have N:(w2.setCell ⟨w.heap.size,0,Z2⟩ x).heap[ar]?=Z1 (Z5 (mz v D L G g (i.getD 0 0) (aC a.os).length f d false) 121 (0,0)):=(blk_setCell_other _ _ _ _ (by show ar≠w.heap.size;omega)).trans l.arc;have O:=aj (j:=9) N (.bool false);have o:Ky w.heap.size w2 ((w2.setCell ⟨w.heap.size,0,Z2⟩ x).setCell ⟨ar,9,Z2⟩ (.bool false)):=by
  refine ⟨s,by simp [World.setCell],λj m=>?_⟩;by_cases e:j=ar
  . subst e;exact O.trans l.arc.symm
  . exact (blk_setCell_other _ _ _ _ e).trans (blk_setCell_other _ _ _ _ m)
 have X:=l.aside (w':=(w2.setCell ⟨w.heap.size,0,Z2⟩ x).setCell ⟨ar,9,Z2⟩ (.bool false)) (b:=w.heap.size) (B:=w.heap.size) (GM s) (l.notErr s) (by rw [o.2.1];exact Tp _) (λj m _=>o.2.2 j m) lR (by rw [r];exact H) hr M K;refine ⟨x,g,f,d,i,a,B,c,rfl,E,X,r,u,?_,Z _ _ _ _ _ _ _ o z⟩;have S:aa (λj=>j=ar\/F.has p A.n j\/T j) w w2:=(aa.of_all q _).trans y;exact S.later (T:=λj=>w.heap.size<=j) ⟨rfl,rfl,rfl,by rw [o.2.1];exact Tp _,λj _ m=>o.2.2 j (by omega)⟩ (λj h1 h2=>by omega)
theorem M1 (h:bf w ar v p ps D L G t pg ob P xs A F) (k:FuncId) (first cap:Array ZZ) (E:∀ (args:Array ZZ) (w:Z0),(callFunc k args).run ZW w=.ok (.enter k args) w) (Q:ZZ->Nat->bg->aB->Z0->Prop)
 (J:∀ x b a B w2 w',Ky w.heap.size w2 w'->Q x b a B w2->Q x b a B w')
 (H:∀ w1,ZY w.heap.size w w1->w1.heap.size=w.heap.size+1->ZX ZW k (first++cap) w1 λe w2=>∃ x b d c f a B,e=Z4 x/\noCut x/\bf w2 ar v p ps D L G b d c f a B F/\B.n=A.n/\(B.nb=A.nb/\B.lost=A.lost)/\aa (λj=>j=ar\/F.has p A.n j) w1 w2/\Q x b a B w2) :
 ZX ZW 46 #[Z7 (Z1 ⟨ar,0,Z2⟩),.func (.func k) first cap] w λe w'=>∃ x b d c f a B,e=Z4 x/\noCut x/\bf w' ar v p ps D L G b d c f a B F/\B.n=A.n/\(B.nb=A.nb/\B.lost=A.lost)/\aa (λj=>j=ar\/F.has p A.n j) w w'/\Q x b a B w':=by
 refine (DJ h k first cap E (λx b a B g w2=>g=ps/\Q x b a B w2) (λ_=>False) (λ_ e=>e.elim) (λx b a B g w2 w' I z=>⟨z.1,J x b a B w2 w' I z.2⟩) λw1 C K=>(H w1 C K).mono ?_).mono ?_
 . rintro e w2 ⟨x,b,d,c,f,a,B,i,l,m,o,r,s,u⟩;exact ⟨x,b,d,c,f,a,B,ps,i,l,m,o,r,s.mono λj _ y=>y.elim .inl (λq=>.inr (.inl q)),rfl,u⟩
 . rintro e w2 ⟨x,b,d,c,f,a,B,g,i,l,m,o,r,s,rfl,u⟩;exact ⟨x,b,d,c,f,a,B,i,l,m,o,r,s.mono λj _ y=>y.elim .inl (λq=>q.elim .inr (λq=>q.elim)),u⟩
theorem KB (h:bf w ar v p ps D L G t pg ob P xs A F) {n cnt pgn:Nat} (k:cnt=iM D n) (o:pgn=pL D (aC xs.os).length n) (c:(ai xs.os).length+cnt+2*pgn+2<=A.nb) :
 ZX ZW 82 #[Z7 (Z1 ⟨ar,0,Z2⟩),Z8 Z9 ((cnt:Int)+(pgn:Int))] w λe w'=>∃ g cap,e=Z4 (.tuple #[Z6 (Z1 ⟨g,0,Z2⟩) (cnt+pgn) cap,.bool true])/\w'.ownsRow w.heap.size 3 1 (Z6 (Z1 ⟨g,0,Z2⟩) (cnt+pgn) cap) (cnt+pgn) (zj ((bh (tk A.nb (P++ai xs.os)).1 A.nb).take (cnt+pgn)))/\((bh (tk A.nb (P++ai xs.os)).1 A.nb).take (cnt+pgn)).length=cnt+pgn/\cnt+pgn<=cap/\w.heap.size<=g/\g<w'.heap.size/\ZY w.heap.size w w':=by
 have j:=DB h.disk (count:=cnt) (pages:=pgn) (l:=19+4*iM D n) o c;have s:=h.nb;have r:1<=cnt:=by rw [k];unfold iM;omega
 have a:=lI h.arc h.vol.vol h.vol.arr h.fit h.n0 P xs.os h.pgs.any h.cat.any (cnt+pgn) (by omega);rw [decide_eq_true j,Tv] at a;have b:((bh (tk A.nb (P++ai xs.os)).1 A.nb).take (cnt+pgn)).length=cnt+pgn:=by rw [Tr];omega
 rw [b] at a;refine a.mono ?_;rintro e w' ⟨u,rfl,ho,d⟩;rcases ho.2 with ⟨_,q⟩|⟨g,cap,cur,rfl,f,m,i,_⟩
 . omega
 . exact ⟨g,cap,rfl,ho,b,i,f,(Tw.1 m).1,d⟩
theorem GN {q:Nat} {e:TypeId} {b:ZZ} (h:aw w q e [a,b,c]):aw (((w.setCell ⟨q,0,Z2⟩ a').setCell ⟨q,1,Z2⟩ b').setCell ⟨q,2,Z2⟩ c') q e [a',b',c']:=
 aw.set h 0 [a',b',c'] (by simp)
theorem GO {b:ZZ} (h:ZY w7.drew.heap.size w7.drew w8):∃ q,Value.pointer (Z1 ⟨w8.heap.size,0,Z2⟩)=Z7 (Z1 ⟨q,0,Z2⟩)/\aw (w8.alloc (Z5 #[a,b,c] 123)) q 123 [a,b,c]/\w7.heap.size<=q/\ZY w7.heap.size w7 (w8.alloc (Z5 #[a,b,c] 123)):=by
 have d:ZY w7.heap.size w7 w8:=(Below.refl _ w7).drew.trans h;exact ⟨_,rfl,heap_alloc_last w8 _,d.size,d.alloc d.size _⟩
theorem GP {b:ZZ} (h:ZY (w7.drew.alloc (Z5 #[a',b',c'] 123)).heap.size (w7.drew.alloc (Z5 #[a',b',c'] 123)) w8) (f:aw w8 w7.heap.size 123 [a',b',c']):∃ q,Value.pointer (Z1 ⟨w7.heap.size,0,Z2⟩)=Z7 (Z1 ⟨q,0,Z2⟩)/\aw (((w8.setCell ⟨w7.heap.size,0,Z2⟩ a).setCell ⟨w7.heap.size,1,Z2⟩ b).setCell ⟨w7.heap.size,2,Z2⟩ c) q 123 [a,b,c]/\w7.heap.size<=q/\ZY w7.heap.size w7 (((w8.setCell ⟨w7.heap.size,0,Z2⟩ a).setCell ⟨w7.heap.size,1,Z2⟩ b).setCell ⟨w7.heap.size,2,Z2⟩ c):=by
 have d:ZY w7.heap.size w7 (w7.drew.alloc (Z5 #[a',b',c'] 123)):=(Below.refl _ w7).drew.alloc lR _;have e:ZY w7.heap.size w7 w8:=d.trans (h.mono d.size);refine ⟨_,rfl,GN f,Tp _,?_⟩;exact Below.setCell (p:=⟨w7.heap.size,2,Z2⟩) (Below.setCell (p:=⟨w7.heap.size,1,Z2⟩) (Below.setCell (p:=⟨w7.heap.size,0,Z2⟩) e lR a) lR b) lR c
theorem OB (h:bf w ar v p ps D L G t pg ob P xs A F) (x:ByteArray) (b off c:Nat) (d:List Nat) (Z:∀ w',aa (F.has p A.n) w w'->Bs w' (Z6 (Z1 ⟨b,off,Z2⟩) d.length c) d) (kg:d.length<c) (hx:bB x=true) (qk:d.length<=1500) (hm:x∉xs.names) (M:(ai xs.os).length+iM D d.length+2*pL D (aC xs.os).length d.length+2<=A.nb) (qv:t+1<=1000000) :
 ZX ZW 70 #[Z7 (Z1 ⟨ar,0,Z2⟩),Z3 x,Z6 (Z1 ⟨b,off,Z2⟩) d.length c] w (Kz w ar v p ps D L G t xs A F x d):=by
 obtain ⟨n,i⟩:=nM (d.length);have HD:=hide4 Z i kg hm;have hn:n<=1500:=by omega
 rw [i] at M ⊢;clear Z i kg qk;obtain ⟨_,_,_,_,c8⟩:=h.arc.cells;have kv:=h.find x;obtain ⟨k,o⟩:=nM (aF xs.names x);rw [o,h.notThere hm] at kv;have qm:=hide o;have qx:¬ (1500:Int)<(n:Int):=by omega
 have ks:=h.par.d1;have qj:=h.par.d;have qn:=h.packL_le;have qi:=ru ks hn;have q8:pL D (aC xs.os).length n<=1000000:=yZ ks (by omega);have qg:=h.few.2.1;obtain ⟨len,hi⟩:=nM ((aC xs.os).length);obtain ⟨cnt,hf⟩:=nM (iM D n);obtain ⟨pgn,hj⟩:=nM (pL D len n);rw [hi] at q8 M qn;rw [hj] at q8 M;rw [hf] at qi M;have a:=hide5 h hf hj hi M;clear o h hm hi hf hj M;go_enter Tryz.func70,Tryz.ntmps70;go_wp2_with fail;refine kv.mono ?_;rintro e w1 ⟨rfl,hb⟩;have H:=hide hb;clear hb kv c8;go_wp2_with fail;refine (du x w1).mono ?_;rintro e w2 ⟨rfl,rfl⟩;rw [hx];dsimp only;have T:=a.out.1.below H.out;obtain ⟨d0,_,d6,_,_⟩:=T.arc.cells;rw [a.out.2.2.2.1] at d6;have q1:=dr T.vol.vol (by omega);obtain ⟨q,hq⟩:=nM (D*44);rw [hq] at q1;have q0:=mR n q (by omega) ⟨by omega,by omega⟩ w2;have q7:max 1 ((n+q-1)/q)=cnt:=by rw [<- a.out.2.1,<- hq];rfl
 rw [q7] at q0;have ky:=λW=>nu cnt (by omega) W;obtain ⟨pk,hp⟩:=nM (19+4*cnt);have q9:∀ W,W.heap=w2.heap->ZX ZW 83 #[Z7 (Z1 ⟨ar,0,Z2⟩),Z8 Z9 ((len:Int)+(pk:Int))] W λe w'=>e=Z4 (Z8 Z9 (pgn:Nat))/\w'=W:=λW hW=>by
  have:=iZ (w:=W) (T.arc.keep (by rw [hW])) (T.vol.vol.keep (by rw [hW])) ks (by omega) (len+(19+4*cnt)) (by omega);have e:TC D (len+(19+4*cnt))=pgn:=by rw [<- a.out.2.2.1,<- a.out.2.1];rfl
  rw [e,hp,Tv] at this;exact this
 rw [hp] at ky;have qq:pk<=200:=by omega
 have qz:IntKind.i64.wrap ((len:Int)+(pk:Int))=(len:Int)+(pk:Int):=by rw [IntKind.wrap_i64];omega
 have HP:=hide3 T ky q9;clear T ky q9 q7 hq hp;go_wp2_with fail;refine q1.mono ?_;rintro e w3 ⟨rfl,rfl⟩;clear q1;go_wp2_with fail;refine q0.mono ?_;rintro e w4 ⟨rfl,rfl⟩;clear q0;go_wp2_with fail;go_quiet (first|(go_at_call 101;refine Calls.quiet_of_same (HP.out.2.1 _))|(go_at_call 83;refine Calls.quiet_of_same (HP.out.2.2 _ rfl)));have kp:ZY w4.heap.size w4 (w4.drewN nq):=⟨rfl,rfl,rfl,Tp _,λ_ _=>rfl⟩;have J:=HP.out.1.below kp;have kj:=qG J.arc J.vol.vol J.vol.arr J.fit J.n0 xs.os J.cat.any (by omega) cnt pgn (by omega) (by omega);have kf:decide ((ai xs.os).length+cnt+2*pgn+2<=A.nb)=true:=decide_eq_true (a.out.2.2.2.2);rw [kf] at kj;have V:=hide2 J (H.out.trans (kp.mono H.out.size));clear kp J kf d0 d6;obtain ⟨w5,qf⟩:=nM (w4.drewN nq);rw [qf] at kj V ⊢;clear qf;go_wp2_with fail;refine kj.mono ?_;rintro e w6 ⟨rfl,ko⟩;have kx:=V.out.1.below ko;have qe:=KB kx (n:=n) (cnt:=cnt) (pgn:=pgn) a.out.2.1.symm (by rw [a.out.2.2.2.1];exact a.out.2.2.1.symm) a.out.2.2.2.2;have Q:=hide2 kx (V.out.2.trans (ko.mono V.out.2.size));clear ko kj V kx;dsimp only;have x3:IntKind.i64.wrap ((cnt:Int)+(pgn:Int))=(cnt:Int)+(pgn:Int):=by rw [IntKind.wrap_i64];omega
 go_wp2_with fail;refine qe.mono ?_;rintro e w7 ⟨g,cap,rfl,U,l,qh,kh,ki,R⟩;have HT:=hide6 U l kh ki R (Q.out.1.below R);clear qe U l kh ki R;have k1:cnt<=cap:=by omega
 have k2:cnt<=cnt+pgn:=by omega
 have k3:(cnt:Int)<=(cap:Int):=by omega
 dsimp only;go_upto_region 15 with fail;have qo:1<=x.size/\x.size<=16:=by have:=hx;unfold bB at this;exact of_decide_eq_true this
 have qc:=ts x w7.drew (by omega) (by omega);have qd:=ts x (w7.drew.alloc (Z5 #[.string ⟨#[]⟩,Z8 Z9 0,Z6 Z2 0 0] 123)) (by omega) (by omega);have q6:aw (w7.drew.alloc (Z5 #[.string ⟨#[]⟩,Z8 Z9 0,Z6 Z2 0 0] 123)) w7.heap.size 123 [.string ⟨#[]⟩,Z8 Z9 0,Z6 Z2 0 0]:=heap_alloc_last w7.drew _;have X:=hide3 qc qd q6;clear qc qd q6 qo;go_cut [13] from 72 to 80 (λqr wx=>∃ q,qr=Z7 (Z1 ⟨q,0,Z2⟩)/\aw wx q 123 [Z3 x,Z8 Z9 (n:Nat),Z6 (Z1 ⟨g,0,Z2⟩) cnt cnt]/\w7.heap.size<=q/\ZY w7.heap.size w7 wx)
 case first=>
  go_region_with (first
   | (go_at_call 103;refine X.out.1.mono ?_;rintro e w8 ⟨rfl,S⟩;have H8:=hide S;clear S)
   | (go_at_call 103;refine X.out.2.1.mono ?_;rintro e w8 ⟨rfl,S⟩;have I:aw w8 w7.heap.size 123 [.string ⟨#[]⟩,Z8 Z9 0,Z6 Z2 0 0]:=X.out.2.2.keep (S.block _ X.out.2.2.lt);have z0:=I.cell (j:=0) (u:=.string ⟨#[]⟩) rfl;have z1:=I.cell (j:=1) (u:=Z8 Z9 0) rfl;have z2:=I.cell (j:=2) (u:=Z6 Z2 0 0) rfl;have y0:=I.thaw 0;have y1:=I.thaw 1;have y2:=I.thaw 2;have H9:=hide2 S I;clear S I))
  all_goals first
   | (go_wp2_with fail;go_meet;case rel=>exact GO H8.out)
   | (go_wp2_with fail;go_meet;case rel=>exact GP H9.out.1 H9.out.2)
 case rest=>
  obtain ⟨q,rfl,C,qs,ka⟩:=hcut;have x0:=C.cell (j:=0) (u:=Z3 x) rfl;have x1:=C.cell (j:=1) (u:=Z8 Z9 (n:Nat)) rfl;have x2:=C.cell (j:=2) (u:=Z6 (Z1 ⟨g,0,Z2⟩) cnt cnt) rfl;obtain ⟨Y,K⟩:=nM ((bh (tk A.nb (P++ai xs.os)).1 A.nb).take (cnt+pgn));rw [K] at HT;obtain ⟨U,l,kh,ki,R,m⟩:=HT.out;have f:=m.below ka;have he:ZY w.heap.size w w7:=Q.out.2.trans (R.mono Q.out.2.size);have O:ZY w.heap.size w wc:=he.trans (ka.mono he.size);have hh:ar<g/\¬ F.has p A.n g/\¬ ps.bl g:=⟨by have:=Q.out.1.arc.lt;omega,λe=>by have:=Q.out.1.vol.arr.has_lt e;omega,λe=>by have:=ps.lt _ Q.out.1.kit _ e;omega⟩;have ke:¬ F.has p A.n q:=λe=>by have:=m.vol.arr.has_lt e;omega
  have qy:=m.nb;have kz:∀ c1,bK (λk=>ar<k/\¬ F.has p A.n k/\¬ ps.bl k) wc (Z6 (Z1 ⟨g,0,Z2⟩) cnt c1) (Y.take cnt):=λc1=>(wF U l hh (by have:=a.out.2.2.2.2;omega)).keep (eM.of_below ka);have kc:∀ c1,bK (λk=>ar<k/\¬ F.has p A.n k/\¬ ps.bl k) wc (Z6 (Z1 ⟨g,cnt,Z2⟩) pgn c1) (Y.drop cnt):=λc1=>(GL U l hh (by have:=a.out.2.2.2.2;omega)).keep (eM.of_below ka);have hs:(Y.take cnt).length=cnt:=by rw [Tr,l];omega
  have km:=nz m.disk.nod m.disk.inb (cnt+pgn);rw [K] at km;have B:=m.par;obtain ⟨Z,i,kg,hm⟩:=HD.out;have q4:=qR f.arc f.vol f.free f.nar f.fit f.disk.n B.r B.d1 B.d B.l1 B.l4 B.g B.div B.s f.disk.wait f.disk.lost x _ (Y.take cnt) ((kz cnt).widen λk o=>o.2.1) (λy hy=>(km.2 y (Ts _ (List.mem_of_mem_take hy))).2) b off c d (λw' hO=>Z w' ((aa.of_all O _).trans hO)) (by omega) kg (λk o=>by
   rw [hs,<- a.out.2.1] at o;rw [i];exact Bq B.d1 o)
  rw [hs,i] at q4;have H9:=hide10 f O C ke kz kc l K m i;have qp:1<=pgn:=by rw [<- a.out.2.2.1];unfold pL pgs;omega
  clear C ka U l kh ki R m f he O hh ke kz kc hs km B Z i K HT X HP H qs;go_wp2_with fail;refine q4.mono ?_;rintro e E ⟨rfl,k7,N⟩;obtain ⟨f,O,C,ke,qb,qa,l,K,m,i⟩:=H9.out;have h8:aw E q 123 _:=C.keep (N.block _ C.lt ke);have x6:=h8.cell (j:=0) (u:=Z3 x) rfl;have x7:=h8.cell (j:=1) (u:=Z8 Z9 (n:Nat)) rfl;have x8:=h8.cell (j:=2) (u:=Z6 (Z1 ⟨g,0,Z2⟩) cnt cnt) rfl;obtain ⟨_,_,_,_,y8⟩:=(f.arc.keep (N.block _ f.arc.lt f.nar)).cells;have q5:aa (F.has p A.n) w E.drew:=(aa.of_all O _).trans (N.trans (aa.drew _));have kk:eM (λk=>ar<k/\¬ F.has p A.n k/\¬ ps.bl k) wc E.drew:=⟨N.size,λk o hK=>N.block k o hK.2.1⟩;have kr:∀ z∈d,z<256:=by obtain ⟨_,_,_,_,_,q3,_⟩:=HD.out.1 w (aa.refl _ _);exact q3
  have h2:cU w E.drew ar v p ps D L G t pg ob P xs A F x d Y g cnt pgn (cap-cnt):=⟨a.out.1,q5,k7.keep λ_ _=>rfl,hx,HD.out.2.2.2,by rw [i];exact hn,kr,by rw [i];exact a.out.2.1.symm,by rw [i,a.out.2.2.2.1];exact a.out.2.2.1.symm,K.symm,l,a.out.2.2.2.2,(qb _).keep kk,(qa _).keep kk,qv⟩;have q2:=KA h2;rw [i,qm.out] at q2;have HR:=hide2 q2 h2;clear q2 h2 h8 q5 kk f O C ke qb qa l K m i k7 N q4 x0 x1 x2;have k4:¬ cap=cnt:=by omega
  go_wp2_with fail;go_region_with (first
   | (go_at_call 105;refine HR.out.1.mono ?_;rintro e x4 ⟨u,rfl,k8,k9⟩;have HC:=hide (DK HR.out.2 k8 k9);clear k8 k9)
   | (go_at_call 85;refine HC.out.mono ?_;rintro e x5 ⟨rfl,kb⟩;have HF:=hide kb;clear kb))
  all_goals (go_wp2;go_ret;exact ⟨rfl,HF.out⟩)
section
def KC (w:Z0) (ar v p:Nat) (ps:dD) (D L G t:Nat) (xs:bg) (A:aB) (F:bx) (k:Nat) (e:Ending) (w':Z0):Prop:=
 e=Z4 .nilIface/\∃ pg ob P' B,bf w' ar v p ps D L G (t+1) pg ob P' (xs.del k) B F/\B.n=A.n/\(B.nb=A.nb/\B.lost=A.lost)/\aa (λk=>k=ar\/F.has p A.n k) w w'
section
variable {w:Z0} {ar v p D L G t:Nat} {ps:dD} {pg ob:ZZ} {P:List Nat} {xs:bg} {A:aB} {F:bx}
theorem bf.del_le (h:bf w ar v p ps D L G t pg ob P xs A F) (k:Nat):(aC (xs.del k).os).length<=1000000:=Nat.le_trans (pG xs k) h.packL_le
theorem Mj (h:bf w ar v p ps D L G t pg ob P xs A F) (k:Nat) {pgn:Nat} (b:pgn=pgs D (aC (xs.del k).os).length) :
 ZX ZW 82 #[Z7 (Z1 ⟨ar,0,Z2⟩),Z8 Z9 (pgn:Nat)] w λe w'=>∃ g cap,e=Z4 (.tuple #[Z6 (Z1 ⟨g,0,Z2⟩) pgn cap,.bool true])/\w'.ownsRow w.heap.size 3 1 (Z6 (Z1 ⟨g,0,Z2⟩) pgn cap) pgn (zj ((bh (tk A.nb (P++ai xs.os)).1 A.nb).take pgn))/\((bh (tk A.nb (P++ai xs.os)).1 A.nb).take pgn).length=pgn/\w.heap.size<=g/\g<w'.heap.size/\ZY w.heap.size w w':=by
 have d:=tn h.disk k;rw [<- b] at d;have q:=h.nb;have o:1<=pgn:=by rw [b];unfold pgs;omega
 have j:=yZ (D:=D) h.par.d1 (m:=(aC (xs.del k).os).length) (by have:=h.del_le k;omega);rw [<- b] at j;have a:=lI h.arc h.vol.vol h.vol.arr h.fit h.n0 P xs.os h.pgs.any h.cat.any pgn (by omega);rw [decide_eq_true d] at a;have c:((bh (tk A.nb (P++ai xs.os)).1 A.nb).take pgn).length=pgn:=by rw [Tr];omega
 rw [c] at a;refine a.mono ?_;rintro e w' ⟨u,rfl,ho,f⟩;rcases ho.2 with ⟨_,n⟩|⟨g,cap,cur,rfl,i,l,r,_⟩
 . omega
 . exact ⟨g,cap,rfl,ho,c,i,(Tw.1 l).1,f⟩
theorem GQ (h:bf w ar v p ps D L G t pg ob P xs A F) (k:Nat) {w2:Z0} {u:ZZ} {pgn g cap:Nat} (V:pgn=pgs D (aC (xs.del k).os).length) (E:gz (λk=>ar<k/\¬ F.has p A.n k/\¬ ps.bl k) w2 u (xs.del k).os) (Q:ZY w.heap.size w w2)
 (J:bK (λk=>ar<k/\¬ F.has p A.n k/\¬ ps.bl k) w2 (Z6 (Z1 ⟨g,0,Z2⟩) pgn cap) ((bh (tk A.nb (P++ai xs.os)).1 A.nb).take pgn)) (i:((bh (tk A.nb (P++ai xs.os)).1 A.nb).take pgn).length=pgn) (k7:t+1<=1000000) :
 ZX ZW 85 #[Z7 (Z1 ⟨ar,0,Z2⟩),u,Z6 (Z1 ⟨g,0,Z2⟩) pgn cap] w2 (KC w ar v p ps D L G t xs A F k):=by
 obtain ⟨oo,oc,rfl,hol,_⟩:=id E;have a:=h.par;have l:=h.disk;have C:=nz l.nod l.inb pgn;obtain ⟨c,k0⟩:=nM ((bh (tk A.nb (P++ai xs.os)).1 A.nb).take pgn);rw [k0] at J i C;have k6:1<=pgn:=by rw [V];unfold pgs;omega
 have hs:c≠[]:=λe=>by rw [e] at i;simp at i;omega
 have N:∀ b∈c,b<A.nb:=λb hx=>(C.2 b (Ts _ hx)).2;have Y:=h.del_le k;have U:c.length=pgs D (aC (xs.del k).os).length:=by rw [i,V]
 have O:=kI xs k;have X:∀ o∈(xs.del k).os,o.fit:=λo ho=>by
  obtain ⟨y,hy,rfl⟩:=List.mem_map.1 ho;exact (l.fits y (O.subset hy)).fit
 have Z:(xs.del k).os.length<=10000:=by
  have h1:=O.length_le;have e:(xs.del k).os.length=(xs.del k).length:=by simp [bg.os]
  have h4:=h.few.1;have h5:xs.os.length=xs.length:=by simp [bg.os]
  omega
 have x:=h.below Q;have R:=nt (w:=w2) x.arc x.vol x.free x.nar x.fit l.n a.r a.d1 a.d a.l1 a.l4 a.g a.div a.s l.wait l.lost (by have:=h.turn;omega)
  oo _ oc (aC (xs.del k).os) (Br _) Y (sY E.any X Z) g 0 cap c (by rw [i];exact J.widen λk I=>I.2.1) hs N (λj hj=>Bp a.d1 (by rw [<- U];exact hj))
 rw [i] at R;refine R.mono ?_;rintro e W ⟨rfl,S,hv,H⟩;rw [i] at S;have K:aa (λk=>k=ar\/F.has p A.n k) w W:=(aa.of_all Q _).trans H;have T:eM (λk=>ar<k/\¬ F.has p A.n k/\¬ ps.bl k) w2 W:=⟨H.size,λk I hK=>H.block k I (λe=>e.elim (λq=>by have:=hK.1;omega) hK.2.1)⟩;have M:=Kf l k U C.1 C.2;rw [i] at M;have hz:c.getD 0 0<A.nb:=by
  rw [fD (by rw [i];omega)];exact N _ (Tm _)
 have k5:=tQ (B:=A) (t:=t+1) (f:=c.getD 0 0) (m:=(aC (xs.del k).os).length) h.fit a l.n (by omega) hz (by omega) c (aC (xs.del k).os) pgn;have z:=gX A D L G c (aC (xs.del k).os) pgn;exact ⟨rfl,_,_,c,_,wE h hv S K z.1 z.2.1 k5 M (J.keep T) (E.keep T) k7,z.1,⟨z.2.1,z.2.2.2⟩,K⟩
end
theorem Mk (h:bf w ar v p ps D L G t pg ob P xs A F) (x:ByteArray) (g:bB x=false) :
 ZX ZW 54 #[Z7 (Z1 ⟨ar,0,Z2⟩),Z3 x] w (nC w 6):=by
 obtain ⟨_,_,_,_,f⟩:=h.arc.cells;have a:=h.find x;obtain ⟨k,d⟩:=nM (aF xs.names x);obtain ⟨i,c⟩:=nM (lO xs.os x);rw [d,c] at a;clear d c h;go_enter Tryz.func54,Tryz.ntmps54;go_wp2_with fail;refine a.mono ?_;rintro e w1 ⟨rfl,b⟩;have H:=hide b;clear b a f;go_wp2_with fail;refine (du x w1).mono ?_;rintro e w2 ⟨rfl,rfl⟩;rw [g];dsimp only;go_wp2;go_ret;exact ⟨rfl,H.out⟩
theorem DL (h:bf w ar v p ps D L G t pg ob P xs A F) (x:ByteArray) (g:bB x=true) (f:x∉xs.names) :
 ZX ZW 54 #[Z7 (Z1 ⟨ar,0,Z2⟩),Z3 x] w (nC w 9):=by
 obtain ⟨_,_,_,_,d⟩:=h.arc.cells;have a:=h.find x;obtain ⟨k,c⟩:=nM (aF xs.names x);rw [c,h.notThere f] at a;clear c h;go_enter Tryz.func54,Tryz.ntmps54;go_wp2_with fail;refine a.mono ?_;rintro e w1 ⟨rfl,b⟩;have H:=hide b;clear b a d;go_wp2_with fail;refine (du x w1).mono ?_;rintro e w2 ⟨rfl,rfl⟩;rw [g];dsimp only;go_wp2;go_ret;exact ⟨rfl,H.out⟩
theorem PT (h:bf w ar v p ps D L G t pg ob P xs A F) (x:ByteArray) (hx:bB x=true) (J:x∈xs.names) (kg:t+1<=1000000) :
 ZX ZW 54 #[Z7 (Z1 ⟨ar,0,Z2⟩),Z3 x] w (KC w ar v p ps D L G t xs A F (aF xs.names x)):=by
 obtain ⟨_,_,_,_,c8⟩:=h.arc.cells;have N:=h.find x;have Q:aF xs.names x<xs.os.length:=by
  obtain ⟨q,_⟩:=sZ h.disk.up J;rwa [<- eu,bP] at q
 obtain ⟨k,I⟩:=nM (aF xs.names x);rw [I,h.there J] at N;rw [I] at Q ⊢;obtain ⟨pgn,hf⟩:=nM (pgs D (aC (xs.del k).os).length);obtain ⟨len,hc⟩:=nM ((aC (xs.del k).os).length);have f:=hide4 h Q hf hc;clear I h J Q hf hc;go_enter Tryz.func54,Tryz.ntmps54;go_wp2_with fail;refine N.mono ?_;rintro e w1 ⟨rfl,Z⟩;have H:=hide Z;clear Z N c8;go_wp2_with fail;refine (du x w1).mono ?_;rintro e w2 ⟨rfl,rfl⟩;rw [hx];dsimp only;have i:=f.out.1.below H.out;obtain ⟨_,_,_,_,d8⟩:=i.arc.cells;have T:=tB i.cat (by have:=i.few.1;omega) (λj hj=>⟨by have:=i.arc.lt;omega,λe=>by have:=i.vol.arr.has_lt e;omega,λe=>by have:=ps.lt _ i.kit _ e;omega⟩) f.out.2.1;rw [<- Kc] at T;have U:=hide i;clear i;go_wp2_with fail;refine T.mono ?_;rintro e w3 ⟨u,rfl,C,E⟩;have z:=U.out.below E;have X:∀ o∈(xs.del k).os,o.fit:=λo ho=>by
  obtain ⟨y,hy,rfl⟩:=List.mem_map.1 ho;exact (z.disk.fits y ((kI xs k).subset hy)).fit
 have he:(xs.del k).os.length<=10000:=by
  have W:=(kI xs k).length_le;have e:(xs.del k).os.length=(xs.del k).length:=by simp [bg.os]
  have h4:=z.few.1;have h5:xs.os.length=xs.length:=by simp [bg.os]
  omega
 have R:=sX C X he;have kf:=z.del_le k;rw [f.out.2.2.2] at R kf;have r:=hide3 z C (H.out.trans (E.mono H.out.size));clear T C E z X he d8 U;dsimp only;go_wp2_with fail;refine R.mono ?_;rintro e w4 ⟨rfl,B⟩;have c:=r.out.1.below B;have S:=iZ c.arc c.vol.vol c.par.d1 (by have:=c.par.d;omega) len (by omega);have s:pgs D len=pgn:=by rw [<- f.out.2.2.2];exact f.out.2.2.1
 rw [s] at S;have kb:=Mj c k f.out.2.2.1.symm;have l:ZY w.heap.size w w4:=r.out.2.2.trans (B.mono r.out.2.2.size);have V:=hide3 c (r.out.2.1.keep (eM.of_below B)) l;clear c B l s R r;dsimp only;go_wp2_with fail;refine S.mono ?_;rintro e hd ⟨rfl,rfl⟩;clear S;dsimp only;go_wp2_with fail;refine kb.mono ?_;rintro e w5 ⟨g,cap,rfl,k8,O,kc,ke,M⟩;obtain ⟨c,k6,l⟩:=V.out;have Y:ar<g/\¬ F.has p A.n g/\¬ ps.bl g:=⟨by have:=c.arc.lt;omega,λe=>by have:=c.vol.arr.has_lt e;omega,λe=>by have:=ps.lt _ c.kit _ e;omega⟩;have k9:=yZ (D:=D) c.par.d1 (m:=(aC (xs.del k).os).length) (by have:=c.del_le k;omega);rw [f.out.2.2.1] at k9;have hs:pgn<=1000:=by
  have W:=tn c.disk k;rw [f.out.2.2.1] at W;have h2:=lM c.disk.nod c.disk.inb;have h3:=c.nb;omega
 have ka:bK (λk=>ar<k/\¬ F.has p A.n k/\¬ ps.bl k) w5 (Z6 (Z1 ⟨g,0,Z2⟩) pgn cap) ((bh (tk A.nb (P++ai xs.os)).1 A.nb).take pgn):=by
  have:=wF (K:=λk=>ar<k/\¬ F.has p A.n k/\¬ ps.bl k) (a:=pgn) (b:=0) (c1:=cap) k8 O Y (by omega);rwa [List.take_of_length_le (by omega)] at this
 have k7:=GQ f.out.1 k f.out.2.2.1.symm (k6.keep (eM.of_below M)) (l.trans (M.mono l.size)) ka O kg;clear c k6 l Y k9 hs ka kb k8 O kc ke M V;dsimp only;go_wp2_with fail;refine k7.mono ?_;rintro e w6 ⟨rfl,hp⟩;have HF:=hide hp;clear hp k7;dsimp only;go_wp2;go_ret;exact ⟨rfl,HF.out⟩
end
structure M2 (w wx:Z0) (O:List (Int×Nat×Nat×List Nat)) (gg:Nat):Prop where
 ge:w.heap.size<=gg
 lt:gg<wx.heap.size
 cells:∀ i (hi:i<O.length),wx.cell? ⟨gg,i*2,Z2⟩=Z1 (Z8 Z9 O[i].1)/\wx.cell? ⟨gg,i*2+1,Z2⟩=Z1 (lg O[i].2)
 row:∀ q∈O,w.heap.size<=q.2.1/\aM wx q.2.1 q.2.2.2/\q.2.2.1<=q.2.2.2.length/\∀ x∈q.2.2.2,x<256
 below:ZY w.heap.size w wx
theorem KK {vp:ZZ} {P:List St} {Ms:List (Int×List Nat)} (D:Ps .u8 w vp P) (z:∀ s∈P,xQ s) (x:In w g Dl lost) (B:g<w.heap.size) (y:Dl.length=N) (o:∀ l∈Dl,l.length<=100000) (C:P.length<=5000) (u:iB regs P N) (r:gu P Dl lost) (ho:dj P Dl (eL regs.toNat (er P Dl)) P.length=Ms) (i:Ms≠[]) :
 ZX ZW 152 #[.agg #[Z8 Z9 regs,vp],Z6 (Z1 ⟨g,0,Z2⟩) N N] w λe w'=>∃ O b cap,e=Z4 (.tuple #[Z6 (Z1 ⟨b,0,Z2⟩) O.length cap,.nilIface])/\O.map (λq=>(q.1,q.2.2.2.take q.2.2.1))=Ms/\M2 w w' O b:=by
 subst y;refine (Mv regs vp P g Dl.length Dl lost w D z x B o C).mono ?_;rintro e w' ⟨n,_,_,A⟩;obtain ⟨v,O,rfl,f,c⟩:=n u r;rw [ho] at c;rcases f.cases with ⟨d,_⟩|⟨b,cap,rfl,j⟩
 . rw [d] at c;exact absurd c.symm i
 . have p:O≠[]:=λq=>i (by rw [<- c,q];rfl);have t:b<w'.heap.size:=block_lt_of_cell (j 0 (Tq.2 p)).1;refine ⟨O,b,cap,rfl,c,?_,t,j,λq E=>?_,A⟩
   . rcases f.own.2 with ⟨d,_⟩|⟨G,F,cur,a,h,_⟩
     . cases d
     . injection a with a;injection a with a;injection a with a;omega
   . obtain ⟨a,h,k,_,m⟩:=f.row q E;exact ⟨a,h,k,m⟩
def Fd (f0 f:Nat->ZZ) (O:List (Int×Nat×Nat×List Nat)) (k:Nat):Prop:=(∀ i:Nat,(∀ q∈O.take k,q.1≠(i:Int))->f i=f0 i)/\∀ i:Nat,(∃ q∈O.take k,q.1=(i:Int))->∃ q∈O,q.1=(i:Int)/\f i=lg q.2
def QO (w2:Z0) (r v b g N gone sp:Nat) (f0:Nat->ZZ) (O:List (Int×Nat×Nat×List Nat)) (iv:ZZ) (wr:Z0):Prop:=∃ k:Nat,k<=O.length/\iv=Z8 Z9 k/\∃ f,wr.rowIs g 34 N f/\Fd f0 f O k/\ef wr r v b g N gone sp/\aa (λk=>k=g) w2 wr
theorem Fd.step {f0:Nat->ZZ} {O:List (Int×Nat×Nat×List Nat)} {k d:Nat} (h:Fd f0 f O k) (g:k<O.length) (c:O[k].1=(d:Int)):Fd f0 (λi=>if i=d then lg O[k].2 else f i) O (k+1):=by
 have j:O.take (k+1)=O.take k++[O[k]]:=by rw [List.take_add_one,Tn g];rfl
 constructor
 . intro i b;rw [j] at b;have l:i≠d:=λe=>b O[k] (List.mem_append_right _ (Tx.2 rfl)) (by rw [c,e]);show (if i=d then _ else f i)=f0 i;rw [if_neg l];exact h.1 i λq a=>b q (Ts _ a)
 . rintro i ⟨q,a,e⟩;show ∃ q∈O,q.1=(i:Int)/\(if i=d then lg O[k].2 else f i)=lg q.2;by_cases b:i=d
   . rw [if_pos b];exact ⟨O[k],Tm g,by rw [c,b],rfl⟩
   . rw [if_neg b];rw [j] at a;rcases List.mem_append.1 a with a|a
     . exact h.2 i ⟨q,a,e⟩
     . rw [Tx] at a;rw [a,c] at e;exact absurd (Tt e).symm b
structure OH (w:Z0) (r v b g N gone sp:Nat) (f:Nat->ZZ) (M:List Nat) (R:Nat->List Nat) (w':Z0):Prop where
 rd:ef w' r v b g N gone sp
 row:∃ f',w'.rowIs g 34 N f'/\(∀ i,i∉M->f' i=f i)/\∀ i,i∈M->∃ bl m l,f' i=Z6 (Z1 ⟨bl,0,Z2⟩) m l.length/\w.heap.size<=bl/\m<=l.length/\aM w' bl l/\l.take m=R i/\∀ x∈l,x<256
 out:aa (λk=>k=g) w w'
theorem KL {P:List St} {ao:Option Addr} {pm pc:Nat} {r gone sp:Nat} {M:List Nat} {R:Nat->List Nat} (hr:ef w r v b g N gone sp) (K:w.rowIs g 34 N f) (kz:r≠g) (hp:Ps .u8 w (.slice ao pm pc) P) (hP:∀ s∈P,xQ s) (hI:In w g Dl lost) (hN:Dl.length=N) (k6:∀ l∈Dl,l.length<=100000) (hl:P.length<=5000) (J:iB regs P N) (kj:gu P Dl lost) (ho:dj P Dl (eL regs.toNat (er P Dl)) P.length=M.map (λd:Nat=>((d:Int),R d))) (hM:M≠[]) (km:∀ d∈M,d<N) (q4:M.length<=16) :
 ZX ZW 128 #[Z7 (Z1 ⟨r,0,Z2⟩),.agg #[Z8 Z9 regs,.slice ao pm pc]] w λe w'=>e=Z4 .nilIface/\OH w r v b g N gone sp f M R w':=by
 obtain ⟨w1,ke⟩:=nM (w.alloc (Z5 #[Z8 Z9 regs,.slice ao pm pc] 210));have a:ZY w.heap.size w w1:=by rw [<- ke];exact bA w _
 have kf:w1.heap[w.heap.size]?=Z1 (Z5 #[Z8 Z9 regs,.slice ao pm pc] 210 (0,0)):=by rw [<- ke];exact blk_alloc_new _ _
 have k0:w1.cell? ⟨w.heap.size,0,Z2⟩=Z1 (Z8 Z9 regs):=by simp [World.cell?,kf]
 have k1:w1.cell? ⟨w.heap.size,1,Z2⟩=Z1 (.slice ao pm pc):=by simp [World.cell?,kf]
 have E:=hr.keep (a.block _ hr.lt);have I:=K.of_block (a.block _ K.lt);have cs:=E.cells.2.2.1;have k7:=KK (w:=w1.drew) (hp.mono a.drew) hP (hI.mono a.drew) (To K.lt a.size) hN k6 hl J kj ho (λq=>hM (List.map_eq_nil_iff.1 q));have HG:=hide (show g<w1.heap.size from To K.lt a.size);have H:=hide4 a E I k7;clear hr K hp hI a kf E I k7 J kj ho k6 hP hM;go_enter Tryz.func128,Tryz.ntmps128;go_upto_region 1 with fail;go_cut [5,6] from 9 to 17 (λv5 v6 wx=>∃ O n cap,v5=Z6 (Z1 ⟨n,0,Z2⟩) O.length cap/\v6=.nilIface/\O.map (λq=>(q.1,q.2.2.2.take q.2.2.1))=M.map (λd:Nat=>((d:Int),R d))/\M2 w1.drew wx O n)
 case first=>
  go_region_with (go_at_call 152;refine H.out.2.2.2.mono ?_;rintro e w2 ⟨O,n,cap,rfl,u,z⟩;have c:=hide2 u z;clear u z);all_goals (go_wp2_with fail;go_meet;case rel=>exact ⟨O,n,cap,rfl,rfl,c.out.1,c.out.2⟩)
 case rest=>
  rename Z0=>w2;clear k0 k1 cs ke;obtain ⟨O,n,cap,rfl,rfl,u,z⟩:=hcut;obtain ⟨a,E,I,_⟩:=H.out;have U:ZY w1.heap.size w1 w2:=((Below.refl _ w1).drew).trans z.below;have kk:=E.keep (U.block _ E.lt);have hf:=I.of_block (U.block _ I.lt);have kg:O.length=M.length:=by have:=congrArg List.length u;simpa using this
  have q5:O.length<=16:=by omega
  have Q:∀ k (Z:k<O.length),∃ d,d∈M/\O[k].1=(d:Int)/\O[k].2.2.2.take O[k].2.2.1=R d:=λk Z=>by
   have e:=congrArg (λl=>l[k]?) u;simp only [Ty,Tn Z,Tn (show k<M.length by omega),Tz,TA,TB] at e;exact ⟨M[k],Tm _,e.1,e.2⟩
  have c:=hide7 z kk hf (a.trans (U.mono a.size)) u kg Q;clear z a E I U kk hf u Q;go_wp2;go_loopw [20] (λiv wr=>QO w2 r v b g N gone sp f O iv wr) (λiv _=>O.length-(intOf iv).toNat)
  case atStart=>exact ⟨0,Nat.zero_le _,rfl,f,c.out.2.2.1,⟨λ_ _=>rfl,λi ⟨q,L,_⟩=>by cases L⟩,c.out.2.1,aa.refl _ _⟩
  case round=>
   rename Z0=>wo;obtain ⟨k,Z,rfl,fk,y,o,F,B⟩:=hrel;by_cases kc:k<O.length
   . obtain ⟨d,ka,D,_⟩:=c.out.2.2.2.2.2.2 k kc;have kp:=km d ka;obtain ⟨q0,q1⟩:=c.out.1.cells k kc;have kh:=HG.out;have kr:n≠g:=(by have:=c.out.1.ge;have:w1.drew.heap.size=w1.heap.size:=rfl;omega);have k5:=c.out.1.lt;have J:=B.block n k5 kr;have d0:wo.cell? ⟨n,k*2,Z2⟩=Z1 (Z8 Z9 (d:Int)):=(World.cell?_of_block J).trans (by rw [q0,D]);have d1:wo.cell? ⟨n,k*2+1,Z2⟩=Z1 (lg O[k].2):=(World.cell?_of_block J).trans q1;have C:=o.step kc D;obtain ⟨hv,kb⟩:=nM (lg O[k].2);rw [kb] at d1 C;obtain ⟨p,x,t,q2⟩:∃ p x t,hv=.slice p x t:=⟨_,_,_,kb.symm⟩;subst q2;have V:ZY wo.heap.size wo (wo.alloc (Z5 #[Z8 Z9 (d:Int),.slice p x t] 252)):=bA wo _;have G:(wo.alloc (Z5 #[Z8 Z9 (d:Int),.slice p x t] 252)).heap[wo.heap.size]?=Z1 (Z5 #[Z8 Z9 (d:Int),.slice p x t] 252 (0,0)):=blk_alloc_new _ _;have m:=F.keep (V.block _ F.lt);have h:=y.of_block (V.block _ y.lt);have A:aa (λk=>k=g) w2 (wo.alloc (Z5 #[Z8 Z9 (d:Int),.slice p x t] 252)):=B.trans (aa.of_all V _);obtain ⟨W,S⟩:=nM (wo.alloc (Z5 #[Z8 Z9 (d:Int),.slice p x t] 252));have q6:=y.lt;have T:=hide6 m h A G C S;clear o C q0 q1 J kb V G m h A F y B D kh k5 S;go_wp2;obtain ⟨m,h,A,G,C,S⟩:=T.out;rw [S] at m h A G ⊢;have k0:W.cell? ⟨wo.heap.size,0,Z2⟩=Z1 (Z8 Z9 d):=(by simp [World.cell?,G]);have k1:W.cell? ⟨wo.heap.size,1,Z2⟩=Z1 (.slice p x t):=(by simp [World.cell?,G]);have cs:=m.cells.2.2.1;have cg:=h.cell (i:=d) kp;have fg:=h.frozen d;have H4:=hide4 m h A C;clear m h A G C S T d0 d1;go_region;go_wp2;go_roundw
     case rel=>
      obtain ⟨m,h,A,C⟩:=H4.out;have hO:aa (λk=>k=g) W (W.setCell ⟨g,d,Z2⟩ (.slice p x t)):=aa.setCell _ _ _ rfl;exact ⟨k+1,by omega,by go_num,_,h.set d _,C,m.keep (hO.block _ m.lt kz),A.trans (hO.trans (aa.drew _))⟩
     case measure=>simp [intOf]<;>omega
   . have kv:k=O.length:=(by omega);subst kv;have T:=hide4 y o F B;clear y o F B;go_wp2;go_ret;obtain ⟨y,o,F,B⟩:=T.out;obtain ⟨z,_,_,ko,u,kg,Q⟩:=c.out;unfold Fd at o;rw [List.take_length] at o;have q3:=H.out.1.size;refine ⟨rfl,F,⟨fk,y,λi X=>o.1 i λq L e=>?_,λi X=>?_⟩,(aa.of_all ko _).trans B⟩
     . obtain ⟨j,Y,rfl⟩:=Tu L;obtain ⟨d,ka,D,_⟩:=Q j Y;rw [D] at e;exact X (Tt e▸ka)
     . obtain ⟨j,Y,rfl⟩:=Tu X;have ks:j<O.length:=(by omega);have kx:O[j].1=((M[j]:Nat):Int):=by
        have e:=congrArg (λl=>l[j]?) u;simp only [Ty,Tn ks,Tn Y,Tz,TA,TB] at e;exact e.1
       obtain ⟨q,L,e1,e2⟩:=o.2 M[j] ⟨O[j],Tm _,kx⟩;obtain ⟨j2,ki,rfl⟩:=Tu L;obtain ⟨d,_,D,ky⟩:=Q j2 ki;rw [D] at e1;obtain ⟨r1,r2,r3,r4⟩:=z.row _ (Tm ki);have kh:=HG.out;have q7:w1.drew.heap.size=w1.heap.size:=rfl;exact ⟨_,_,_,e2,by omega,r3,World.rowIs.of_block r2 (B.block _ (aM.lt r2) (by omega)),by rw [ky,Tt e1],r4⟩
theorem ME (a:∀ i,A.lost i=false) {d:Nat} (b:d<A.n):bS (A.setLost d true) (List.range A.n)=2^d:=by
 refine Nat.eq_of_testBit_eq λi=>?_;rw [Nat.testBit_two_pow,Bool.eq_iff_iff,Bv,List.mem_range,decide_eq_true_eq];show i<A.n/\(if i=d then true else A.lost i)=true↔d=i;by_cases h:i=d
 . rw [if_pos h];exact ⟨λ_=>h.symm,λ_=>⟨by omega,rfl⟩⟩
 . rw [if_neg h,a i];constructor
   . rintro ⟨_,q⟩;cases q
   . intro q;exact absurd q.symm h
theorem bf.lose (h:bf w ar v p ps D L G t pg ob P xs A F) (J:∀ i,A.lost i=false) {d:Nat} (I:d<A.n) (a:aa (F.has p A.n) w w') (E:aq w' p (A.setLost d true) F):bf w' ar v p ps D L G t pg ob P xs (A.setLost d true) F:=by
 have K:=h.disk.n;have H:iH (A.setLost d true) D L G:=λ_=>by
  rw [show (A.setLost d true).n=A.n from rfl,ME J I,sA h.par.d h.par.g h.par.s,AB (by omega) h.par.s];exact AC h.par.div (by omega)
 have hK:eM (λk=>ar<k/\¬ F.has p A.n k/\¬ ps.bl k) w w':=⟨a.size,λk b C=>a.block k b C.2.1⟩;obtain ⟨o,q,_,r,u,x,y,z,B,c,e,f,j,l,m⟩:=h.disk;exact ⟨h.arc.keep (a.block _ h.arc.lt h.nar),h.vol.turn h.free a E,h.free,h.nar,h.vlt,h.arK,⟨h.fit.n,h.fit.nb,h.fit.len,h.fit.byt⟩,h.par,⟨o,q,H,r,u,x,y,z,B,c,e,f,j,l,m⟩,h.pgs.keep hK,h.cat.keep hK,h.nb,h.turn,ps.keep _ _ h.kit λk b=>a.block k (ps.lt _ h.kit k b) (h.apt k b).2.2.2,h.apt⟩
end Go.Proofs.YtfbmmcnpjhmjaaaGreatDoor
