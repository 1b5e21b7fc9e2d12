import Derived.Test.YtmpnnokoodjllaaGreatDoorM08
set_option maxRecDepth 100000
set_option linter.all false
set_option maxHeartbeats 8000000
open Go.IntKind renaming i64 -> Z9, u64 -> Z8
open Go.Value renaming int -> Z7, pointer -> Z6, slice -> Z5, bool -> Z1, string -> ZZ, tuple -> ZY
open Go.Obj renaming cells -> Z4
open Go.Ending renaming returned -> Z3
open Go.Operand renaming tmp -> Z0
open Option renaming none -> ZX, some -> ZW
open Bool renaming true -> ZV, false -> ZU
open Go renaming World -> ZT, Value -> ZS, Calls -> ZR, Ending -> ZQ, Boxed -> ZP
open List renaming range -> YC
open Nat renaming zero_min -> YD, pow_pos -> YE
open ByteArray renaming empty -> YF
open Go.Proofs.Tryz renaming prog -> ZO
open Go.Proofs.Tryz
namespace Go.Proofs.YtmpnnokoodjllaaGreatDoor
def XV:=@Nat.zero_testBit
def abA:=@Nat.exists_testBit_of_ne_zero
end Go.Proofs.YtmpnnokoodjllaaGreatDoor
namespace Go.Proofs.YtmpnnokoodjllaaGreatDoor
open Go.RowKit Go.Deep Gf Go.Shelf
variable {off:Bool} {C:Ck} {e:ZQ} {F E:aR} {room z:Int} {es:List (Nat×Nat×Nat)} {l P l2 page:a9} {os:List Ob} {qs:List Pq} {cs:List ZS} {b v ar p D L G t ps B s S lost m c r g N gone sp ho k base size sb l1 x f b0 q sz n y pb po sk n1 f1 D1 L1 G1 t1 D' L' G' nn sa q1 q2:Nat} {rs:Nat->Int} {R:Nat->Option bx} {K:Nat->Prop} {f0 sv:Nat->ZS} {xs:bP} {ao:Option Addr} {pg ob u er v7 up uq cv rv:ZS} {w w' wx w1 w3 w2 w0 w6 wr w7 w5:ZT}
def vh (w:ZT) (b:Nat):Prop:=∀ off u,w.cell? ⟨b,off,ZX⟩=ZW u->(∀ x,u≠Z7 Z9 x)/\∀ s,u≠ZZ s
def yG (a:w.heap[b]?=ZW (Z4 #[.nilIface] 42 (0,0))):vh w b:=λoff u h=>by
 cases off with
 | zero=>simp [World.cell?,a] at h;subst h;exact ⟨λ_=>nofun,λ_=>nofun⟩
 | succ n=>simp [World.cell?,a] at h
def bp.aside {v:ZS} (h:bp K w v l) (o:vh w b) (r:w.heap.size<=w'.heap.size) (q:∀ k,k≠b->k<w.heap.size->w'.heap[k]?=w.heap[k]?):bp K w' v l:=by
 obtain ⟨ao,c,j,m,n⟩:=h;refine ⟨ao,c,j,m,λhl=>?_⟩;obtain ⟨a,off,q1,q2,d,f⟩:=n hl;have g:a≠b:=λe=>by
  subst e;exact (o _ _ (f 0 (Xl.2 hl))).1 _ rfl
 exact ⟨a,off,q1,q2,TY d r,λi p=>(Uh (q a g d)).trans (f i p)⟩
def fa.aside {v:ZS} (h:fa K w v os) (g:vh w b) (l:w.heap.size<=w'.heap.size) (j:∀ k,k≠b->k<w.heap.size->w'.heap[k]?=w.heap[k]?):fa K w' v os:=by
 obtain ⟨ao,c,o,p,q⟩:=h;refine ⟨ao,c,o,p,λhl=>?_⟩;obtain ⟨a,off,q1,q2,m,n⟩:=q hl;have r:a≠b:=λe=>by
  subst e;obtain ⟨sv,f,_⟩:=n 0 (Xl.2 hl);exact (g _ _ f).2 _ rfl
 refine ⟨a,off,q1,q2,TY m l,λi s=>?_⟩;obtain ⟨sv,f,t,u,x⟩:=n i s;have d:=j a r m;exact ⟨sv,(Uh d).trans f,(Uh d).trans t,(Uh d).trans u,x.aside g l j⟩
def aO.aside {ps:aN} {A:aA} (h:aO w ar v p ps D L G t pg ob P xs A F) (f:vh w b) (i:¬ ps.bl b) (c:w.heap.size<=w'.heap.size) (a:∀ k,k≠b->k<w.heap.size->w'.heap[k]?=w.heap[k]?) (m:B<=b) (l:∀ k,F.has p A.n k->k<B) (hv:v<B) (o:ar<B) (hK:3<=B):aO w' ar v p ps D L G t pg ob P xs A F:=by
 exact ⟨h.R3.keep (a _ eb h.R3.lt),⟨h.vol.vol.keep (a _ eb h.vol.vol.lt),h.vol.arr.keep λj g=>a j (eT (l j g)) (h.vol.arr.RQ g),h.vol.laid.keep (a _ eb h.vol.laid.lt),h.vol.RZ.keep (a _ eb h.vol.RZ.lt),TU h.vol.room c⟩,h.free,h.Si,h.Sf,h.arK,h.fit,h.par,h.RV,h.pgs.aside f c a,h.cat.aside f c a,h.nb,h.turn,ps.keep _ _ h.kit λk d=>a k (λe=>i (e▸d)) (ps.lt _ h.kit k d),h.apt⟩
def aO.TJ {ps:aN} {A:aA} {cs:Array ZS} (h:aO w ar v p ps D L G t pg ob P xs A F) (a:w.heap[b]?=ZW (Z4 cs 42 (0,0))):¬ ps.bl b:=λq=>by
 exact absurd (ps.kd _ h.kit b q _ _ _ a) vf
def L8 (b:Nat) (w w':ZT):Prop:=w.heap[b]?=ZW (Z4 #[.nilIface] 42 (0,0))/\w'.heap.size=w.heap.size/\∀ j,j≠b->w'.heap[j]?=w.heap[j]?
def Ag {ps:aN} {A:aA} (h:aO w ar v p ps D L G t pg ob P xs A F) (k:FuncId) (first cap:Array ZS) (R:∀ (args:Array ZS) (w:ZT),(callFunc k args).run ZO w=.ok (.enter k args) w) (Q:ZS->Nat->bP->aA->aN->ZT->Prop) (T:Nat->Prop) (N:∀ j,T j->j≠w.heap.size)
 (X:∀ x f a B ps' w2 w',L8 w.heap.size w2 w'->Q x f a B ps' w2->Q x f a B ps' w')
 (S:∀ w1,bW w w1->w1.heap.size=w.heap.size+1->ZR ZO k (first++cap) w1 λe w2=>∃ x f d c g a B ps',e=Z3 x/\fJ x/\aO w2 ar v p ps' D L G f d c g a B F/\B.n=A.n/\(B.nb=A.nb/\B.lost=A.lost)/\aa (λj=>j=ar\/F.has p A.n j\/T j) w1 w2/\Q x f a B ps' w2) :
 ZR ZO 45 #[Z6 (ZW ⟨ar,0,ZX⟩),.func (.func k) first cap] w λe w'=>∃ x f d c g a B ps',e=Z3 x/\fJ x/\aO w' ar v p ps' D L G f d c g a B F/\B.n=A.n/\(B.nb=A.nb/\B.lost=A.lost)/\aa (λj=>j=ar\/F.has p A.n j\/T j) w w'/\Q x f a B ps' w':=by
 have J:=h.R3.lt;have hr:=h.vol.vol.lt;have C:∀ j,F.has p A.n j->j<w.heap.size:=λj i=>h.vol.arr.RQ i;have I:=h.vol.room;have W:=mb k first cap R w ar _ h.R3 rfl (λw1 x w2=>bW w w1/\w1.heap.size=w.heap.size+1/\w2.heap[w.heap.size]?=ZW (Z4 #[.nilIface] 42 (0,0))/\∃ f d c g a B ps',aO w2 ar v p ps' D L G f d c g a B F/\B.n=A.n/\(B.nb=A.nb/\B.lost=A.lost)/\aa (λj=>j=ar\/F.has p A.n j\/T j) w1 w2/\Q x f a B ps' w2)
  (λw1 m y U=>(S w1 m y).mono (by
   rintro e w2 ⟨x,f,d,c,g,a,B,ps',rfl,z,hl,o,r,s,u⟩;have E:=s;have H:w2.heap[w.heap.size]?=w1.heap[w.heap.size]?:=E.block _ eb (λe=>by
    rcases e with e|e|e
    . omega
    . have:=C _ e;omega
    . exact N _ e rfl)
   exact ⟨x,rfl,z,⟨m,y,H.trans U,f,d,c,g,a,B,ps',hl,o,r,E,u⟩,H,_,hl.R3,rfl⟩))
 refine W.mono ?_;rintro e w' ⟨x,w1,w2,rfl,z,_,_,⟨m,y,q,f,d,c,g,a,B,ps',hl,o,r,s,u⟩,rfl⟩;have K:(w2.setCell ⟨w.heap.size,0,ZX⟩ x).heap[ar]?=ZW (Z4 (lL v D L G f (g.getD 0 0) (aG a.os).length d c ZU) 115 (0,0)):=(T7 _ _ _ _ (by show ar≠w.heap.size;omega)).trans hl.R3;have M:=ai (j:=9) K (Z1 ZU);have l:L8 w.heap.size w2 ((w2.setCell ⟨w.heap.size,0,ZX⟩ x).setCell ⟨ar,9,ZX⟩ (Z1 ZU)):=by
  refine ⟨q,l7,λj i=>?_⟩;by_cases e:j=ar
  . subst e;exact M.trans hl.R3.symm
  . exact (T7 _ _ _ _ e).trans (T7 _ _ _ _ i)
 have V:=hl.aside (w':=(w2.setCell ⟨w.heap.size,0,ZX⟩ x).setCell ⟨ar,9,ZX⟩ (Z1 ZU)) (b:=w.heap.size) (B:=w.heap.size) (yG q) (hl.TJ q) (by rw [l.2.1];exact TV _) (λj i _=>l.2.2 j i) lR (by rw [o];exact C) hr J I;refine ⟨x,f,d,c,g,a,B,ps',rfl,z,V,o,r,?_,X _ _ _ _ _ _ _ l u⟩;have O:aa (λj=>j=ar\/F.has p A.n j\/T j) w w2:=(aa.RO m _).trans s;exact O.later (T:=λj=>w.heap.size<=j) ⟨rfl,rfl,rfl,by rw [l.2.1];exact TV _,λj _ i=>l.2.2 j eb⟩ (λj Y Z=>eb)
def OX {ps:aN} {A:aA} (h:aO w ar v p ps D L G t pg ob P xs A F) (k:FuncId) (first cap:Array ZS) (C:∀ (args:Array ZS) (w:ZT),(callFunc k args).run ZO w=.ok (.enter k args) w) (Q:ZS->Nat->bP->aA->ZT->Prop)
 (I:∀ x b a B w2 w',L8 w.heap.size w2 w'->Q x b a B w2->Q x b a B w')
 (E:∀ w1,bW w w1->w1.heap.size=w.heap.size+1->ZR ZO k (first++cap) w1 λe w2=>∃ x b d c f a B,e=Z3 x/\fJ x/\aO w2 ar v p ps D L G b d c f a B F/\B.n=A.n/\(B.nb=A.nb/\B.lost=A.lost)/\aa (λj=>j=ar\/F.has p A.n j) w1 w2/\Q x b a B w2) :
 ZR ZO 45 #[Z6 (ZW ⟨ar,0,ZX⟩),.func (.func k) first cap] w λe w'=>∃ x b d c f a B,e=Z3 x/\fJ x/\aO w' ar v p ps D L G b d c f a B F/\B.n=A.n/\(B.nb=A.nb/\B.lost=A.lost)/\aa (λj=>j=ar\/F.has p A.n j) w w'/\Q x b a B w':=by
 refine (Ag h k first cap C (λx b a B ps' w2=>ps'=ps/\Q x b a B w2) (λ_=>False) (λ_ e=>e.elim) (λx b a B ps' w2 w' H y=>⟨y.1,I x b a B w2 w' H y.2⟩) λw1 z J=>(E w1 z J).mono ?_).mono ?_
 . rintro e w2 ⟨x,b,d,c,f,a,B,g,i,l,m,o,r,s⟩;exact ⟨x,b,d,c,f,a,B,ps,g,i,l,m,o,r.mono λj _ u=>u.elim .inl (λq=>.inr (.inl q)),rfl,s⟩
 . rintro e w2 ⟨x,b,d,c,f,a,B,ps',g,i,l,m,o,r,rfl,s⟩;exact ⟨x,b,d,c,f,a,B,g,i,l,m,o,r.mono λj _ u=>u.elim .inl (λq=>q.elim .inr (λq=>q.elim)),s⟩
def b8 {ps:aN} (a:ps.S w) {k:Nat} {cs:Array ZS} {T:TypeId} {z:Nat×Nat} (h:w.heap[k]?=ZW (Z4 cs T z)) (b:¬ jP T):¬ ps.bl k:=λc=>b (ps.kd w a k c cs T z h)
def qP:¬ jP 217:=vf
def pA:¬ jP 31:=vf
def Ah {v:ZS} (h:w.ownsRow 0 288 4 v (di D L G s C).length (dW .u8 (di D L G s C))) (hl:(di D L G s C).length<=4398046511104):Ps .u8 w v (di D L G s C):=Ni h hl
def aal (a b:Nat) (c:a<65536) (d:b<65536):bits .or .u64 (a:Int) (b:Int)=((a|||b:Nat):Int):=YB a b eb eb
theorem ID {l:Nat} (h:S &&& l=0) {i:Nat} (a:S.testBit i=ZV):l.testBit i=ZU:=by
 have:=congrArg (λx=>x.testBit i) h;simp only [Xb,a,Bool.true_and,XV] at this;exact this
structure Dd (D L G:Nat) (Kind:aN->Prop) (ps ps':aN) (lost s:Nat) (C:Ck) (ao:Option Addr) (m c B:Nat) (wx:ZT):Prop where
 kind:Kind ps'
 Tl:ps'.ps=ps.ps
 hoE:ps'.ho=ps.ho
 kit:ps'.S wx
 bl:∀ k,ps'.bl k->ps.bl k\/B<=k
 ob:∀ k,(Value.slice ao m c).ownBlock=ZW k->ps.bl k\/B<=k
 own:wx.ownsRow 0 288 4 (.slice ao m c) (di D L G s C).length (dW .u8 (di D L G s C))
 Th:∀ i,lost.testBit i=ZV->s.testBit i=ZV
 told:tells (lS D L G) (ae (aC (D+L+G) s))=ZW C
def Dd.keep {Kind:aN->Prop} {ps ps':aN} {wy:ZT} (h:Dd D L G Kind ps ps' lost s C ao m c B wx) {T:Nat->Prop} (d:aa T wx wy) (f:∀ k,T k->k<B/\¬ ps.bl k):Dd D L G Kind ps ps' lost s C ao m c B wy:=
 ⟨h.kind,h.Tl,h.hoE,ps'.keep _ _ h.kit λk a=>d.block k (ps'.lt _ h.kit k a) (λq=>by
  have b:=f k q;rcases h.bl k a with e|e
  . exact b.2 e
  . omega),h.bl,h.ob,bZ h.own d (λk a q=>by
  have b:=f k q;rcases h.ob k a with e|e
  . exact b.2 e
  . omega),h.Th,h.told⟩
def Dd.mono {Kind:aN->Prop} {ps ps':aN} {B':Nat} (h:Dd D L G Kind ps ps' lost s C ao m c B wx) (b:B'<=B):Dd D L G Kind ps ps' lost s C ao m c B' wx:=
 ⟨h.kind,h.Tl,h.hoE,h.kit,λk a=>(h.bl k a).imp id λq=>TU b q,λk a=>(h.ob k a).imp id λq=>TU b q,h.own,h.Th,h.told⟩
def C5 (r v ps D L G:Nat) (w:ZT):Prop:=w.cell? ⟨r,0,ZX⟩=ZW (Z6 (ZW ⟨v,0,ZX⟩))/\w.cell? ⟨v,1,ZX⟩=ZW (Z7 Z9 (D:Int))/\w.cell? ⟨v,2,ZX⟩=ZW (Z7 Z9 (L:Int))/\w.cell? ⟨v,3,ZX⟩=ZW (Z7 Z9 (G:Int))/\w.cell? ⟨v,4,ZX⟩=ZW (Z6 (ZW ⟨ps,0,ZX⟩))
def L9 (hr:cP w r v b g N gone sp) (hv:bk w v p D L G ps ho):C5 r v ps D L G w:=by
 obtain ⟨_,q1,q2,a,c,_⟩:=hv.cells;exact ⟨hr.cells.1,q1,q2,a,c⟩
def vk (h:k<=16):ae (2^k-1)=YC k:=oL h
def CG (R:Nat->a9):∀ m,(∀ i,i<m->(R i).length=44)->((YC m).map R).flatten.length=44*m
 | 0,_=>rfl
 | m+1,h=>by
  rw [Vl,Uu,List.flatten_append,T5,CG R m λi a=>h i eb];simp [h m eb];omega
theorem Qx {M:Nat} {fl:a9} (h:w.ownsRow base 5 1 u M (aJ fl)) (y:fl.length=M) (v:∀ x∈fl,x<256) (hs:size<=M) (z:M<=1000000):∃ ao cp,u=.slice ao M cp/\M<=cp/\cp<=9223372036854775807/\(ao=ZX->M=0/\cp=0)/\(∀ a,ao=ZW a->base<=a.block)/\Bs w (.slice ao size size) (fl.take size):=by
 have hl:(fl.take size).length=size:=KP
 rcases h.2 with ⟨d,e⟩|⟨b,cp,cur,d,m,n,o,p,A,r⟩
 . have s:size=0:=eb;subst s;exact ⟨ZX,0,by rw [d,e],eb,eb,λ_=>⟨e,rfl⟩,λa h=>Bf,by rw [VQ];exact ⟨ZX,0,rfl,TV _,ec,λ_ h=>Bf,λh=>absurd rfl h⟩⟩
 . have j:cp<=9223372036854775807:=(by unfold maxLen at p;omega);refine ⟨ZW ⟨b,0,ZX⟩,cp,d,o,j,λh=>Bf,λa h=>(by cases h;exact m),ZW ⟨b,0,ZX⟩,size,by rw [hl],by rw [hl];exact TV _,?_,λx t=>v x (US t),λ_=>⟨b,0,rfl,λk g=>?_⟩⟩
   . rw [hl];omega
   . rw [hl] at g;have f:k<fl.length:=eb;have q:cur[k]?=ZW (Z7 .u8 ((fl[k]:Nat):Int)):=by
      have c:=congrArg (λl=>l[k]?) r;simp only [VW,aJ] at c;rw [VP eb,Yc,Ul,T2 f] at c;exact c
     have i:(fl.take size).getD k 0=fl[k]:=(by simp [T6,g,f]);rw [i];simp [World.cell?,n,q]
theorem qQ (D L G:Int) (w:ZT) (a:0<=D/\D<=100) (b:0<=L/\L<=100) (c:0<=G/\G<=100):ZR ZO 8 #[.agg #[Z7 Z9 D,Z7 Z9 L,Z7 Z9 G]] w λe w'=>e=Z3 (Z7 Z9 (D+L+G))/\w'=w.alloc (Z4 #[Z7 Z9 D,Z7 Z9 L,Z7 Z9 G] 26):=by
 obtain ⟨d,f⟩:=a;obtain ⟨b1,b2⟩:=b;obtain ⟨c1,g⟩:=c;go_enter func8,ntmps8;go_wp2;go_ret;exact ⟨rfl,rfl⟩
theorem qR (h:bk w v p D L G ps ho) (hD:D<=12) (hL:L<=4) (hG:G<=4) {N:Nat} (l:N=D+L+G):ZR ZO 81 #[Z6 (ZW ⟨v,0,ZX⟩)] w λe w'=>e=Z3 (Z6 (ZW ⟨w.heap.size+2,0,ZX⟩))/\cP w' (w.heap.size+2) v 0 (w.heap.size+1) N 0 0/\w'.rowIs (w.heap.size+1) 31 N (λ_=>Z5 ZX 0 0)/\bW w w':=by
 obtain ⟨_,c1,g,i,_⟩:=h.cells;go_enter func81,ntmps81;go_wp2_with fail;refine (qQ (D:Int) (L:Int) (G:Int) w ⟨eb,eb⟩ ⟨eb,eb⟩ ⟨eb,eb⟩).mono ?_;rintro e w5 ⟨rfl,c⟩;rw [(eb:((D:Int)+(L:Int)+(G:Int))=(N:Int))];have m:N<=20:=eb
 have a:bW w w5:=by rw [c];exact bA w _
 have b:w5.heap.size=w.heap.size+1:=by rw [c];simp
 have f:=au a b;clear a c1 g i h l c b;go_wp2_with (at_make;refine vR _ rfl (Z0 8) (Z0 8) rfl _ N rfl rfl rfl eb ?_;intro w6 d k n);go_ret;obtain ⟨a,b⟩:=f.out;have j:w6.heap.size=w.heap.size+2:=eb
 rw [b] at d ⊢;refine ⟨rfl,?_,?_,?_⟩
 . have:=T9 w6 (Z4 (Rw v 0 (w.heap.size+1) N 0 0) 217);rw [j] at this;exact this
 . exact d.of_block (Ut _ _ _ eb)
 . exact (a.trans (k.mono a.size)).alloc eb _
def CH {qs':List Pq} (h:∀ p,p∈qs'↔p∈qs) (c:N6 sb qs' k):N6 sb qs k:=by
 rcases c with e|e|⟨q,a,e⟩
 . exact .inl e
 . obtain ⟨q,a,b⟩:=T1.1 e;exact .inr (.inl (T1.2 ⟨q,(h q).1 a,b⟩))
 . exact .inr (.inr ⟨q,(h q).1 a,e⟩)
def gJ.cell (h:gJ w sb room D L G es qs):w.cell? ⟨sb+1+1+1,0,ZX⟩=ZW (Z6 (ZW ⟨sb+1+1,0,ZX⟩)):=by
 have a:=h.Sc;simp [World.cell?,a]
theorem Ma (t:gJ w sb room D L G es qs) {lost:Nat} (T:lost∈cC es):∃ q d,q∈qs/\q.lost=lost/\(∀ p,p∈d↔p∈qs)/\ZR ZO 154 #[Z6 (ZW ⟨sb+1+1+1,0,ZX⟩),bH D L G (dP lost:Nat) (fC lost)] w λe w'=>kT D L G q.s q.ao q.m q.c e/\gJ w' sb room D L G es d/\aa (pt sb qs) w w':=by
 obtain ⟨q,d,S,hr,B,E⟩:=Qp t T;refine ⟨q,d,S,hr,B,?_⟩;obtain ⟨s,hs⟩:=nM (q.s);obtain ⟨ao,Q⟩:=nM (q.ao);obtain ⟨m,P⟩:=nM (q.m);obtain ⟨c,K⟩:=nM (q.c);rw [hs,Q,P,K] at E ⊢;clear hs Q P K;have f:=wg.new w D L G (dP lost:Nat) (fC lost);obtain ⟨w2,k0⟩:=nM ((w.alloc (Z4 #[Z7 Z9 (D:Int),Z7 Z9 (L:Int),Z7 Z9 (G:Int),Z7 Z8 ((dP lost:Nat):Int),Z1 (fC lost)] 186)).alloc (Z4 #[Z7 Z9 0,Z5 ZX 0 0] 189));rw [k0] at f;obtain ⟨V,c1,W,X,Y⟩:=f.cells;have j:∀ k,N6 sb qs k->k<w.heap.size:=t.blt;have g:∀ k,N6 sb d k->k<w.heap.size:=λk b=>j k (CH B b);have u:=t.keep λk b=>f.below.block k (j k b);have hy:=u.cell;obtain ⟨z,i⟩:∃ z:Int,1+((ae (aC (D+L+G) s)).length:Int)=z:=⟨_,rfl⟩;have J:∀ w',bW w2 w'->ZR ZO 170 #[Z6 (ZW ⟨sb+1+1,0,ZX⟩),bH D L G (dP lost:Nat) (fC lost)] w' λe o=>e=Z3 (ZY #[.agg #[Z7 Z9 z,.slice ao m c],Z1 ZV])/\gJ o sb room D L G es d/\aa (pt sb qs) w' o:=λw' hb=>by
  rw [<- i];exact E w' (u.keep λk b=>hb.block k (TY (j k b) f.below.size))
 have C:bW w2 (w2.alloc (Z4 #[Z7 Z9 0,Z5 ZX 0 0] 189)):=bA w2 _;obtain ⟨Z,d1,d2,d3,d4⟩:=(f.mono C).cells;have dp:=(u.keep λk b=>C.block k (TY (j k b) f.below.size)).cell;have k6:=f.size;have O:∀ k,pt sb qs k->k<w.heap.size:=λk b=>j k (Cx b);have M:=al O;have H:=a5 f g i J;clear f J C t u g j O E B S hr T;unfold bH at H ⊢;unfold kT;rw [i];clear i;go_enter func154,ntmps154;go_upto_region 1 with fail;go_cut [6,7] from 10 to 18 (λv6 v7 wx=>v7=Z1 ZV/\∃ r,v6=Z6 (ZW ⟨r,0,ZX⟩)/\w2.heap.size<=r/\wx.heap[r]?=ZW (Z4 #[Z7 Z9 z,.slice ao m c] 189 (0,0))/\gJ wx sb room D L G es d/\aa (pt sb qs) w2 wx)
 case first=>
  go_region_with (go_at_call 170;refine (H.out.2.2.2 _ ?_).mono ?_;(first|exact (TX _ _).drew|exact ((TX _ _).drew).alloc lR _);rintro e w3 ⟨rfl,h,a⟩;(try (have F:w3.heap[w2.heap.size]?=ZW (Z4 #[Z7 Z9 0,Z5 ZX 0 0] 189 (0,0)):=(a.block w2.heap.size ek (λq=>eT (M.out _ q))).trans (T9 w2.drew _);obtain ⟨r0,r1,g1,g0⟩:=az F;have U:=al F;clear F));have I:aa (pt sb qs) w2 w3:=(by first|exact (aa.drew w2).trans a|exact aa.after ((bA w2 _).drew) a);have x:=au h I;clear h a I);all_goals (go_wp2_with fail;go_meet;case rel=>(
   obtain ⟨h,a⟩:=x.out;have g:=H.out.2.1;have hg:=a.size;first
    | (refine ⟨rfl,w2.heap.size,rfl,TV _,gE (y':=.slice ao m c) (gD (x':=Z7 Z9 z) U.out),h.keep λk b=>(eN w3 w2.heap.size 0 1 _ _).block k (eT (g k b)) (eT (g k b)),?_⟩
       have n:=eN w3 w2.heap.size 0 1 (Z7 Z9 z) (.slice ao m c);exact ⟨n.os.trans a.os,n.tape.trans a.tape,n.output.trans a.output,TU a.size n.size,λk y A=>(n.block k eb eb).trans (a.block k y A)⟩)
    | exact ⟨rfl,w3.heap.size,rfl,hg,T9 _ _,h.keep λk b=>Ut _ _ _ (eT (g k b)),a.os,a.tape,a.output,by rw [Ua];omega,λk y A=>(Ut _ _ _ eb).trans (a.block k y A)⟩))
 case rest=>
  clear V c1 W X Y Z d1 d2 d3 d4 dp hy;rename ZT=>w3;obtain ⟨rfl,r,rfl,k5,R,h,a⟩:=hcut;obtain ⟨f,g,i,_⟩:=H.out;have l:=(a.block (w.heap.size+1) eb (λq=>eT (M.out _ q))).trans f.res;obtain ⟨q0,q1,g1,g0⟩:=az l;obtain ⟨r0,r1,_,_⟩:=az R;have x:=aE l h a;clear l h a R f g i;go_wp2;obtain ⟨l,h,a⟩:=x.out;obtain ⟨f,g,i,_⟩:=H.out;obtain ⟨n0,n1,_⟩:=az (gE (y':=.slice ao m c) (gD (x':=Z7 Z9 z) l));have N:aa (λk=>k=w.heap.size+1) w3 ((w3.setCell ⟨w.heap.size+1,0,ZX⟩ (Z7 Z9 z)).setCell ⟨w.heap.size+1,1,ZX⟩ (.slice ao m c)):=eN w3 (w.heap.size+1) 0 1 _ _;refine Uf (v:=ZY #[.agg #[Z7 Z9 z,.slice ao m c],.nilIface]) Zk rfl ?_;exact ⟨rfl,h.keep λk b=>N.block k (by have:=g k b;have:=a.size;omega) (eT (g k b)),(aa.after f.below a).later N (λk b q=>eb)⟩
section
def Mc:¬ jP 233:=vf
section
variable {w':ZT} {D L G:Nat} {Kind:aN->Prop} {ps:aN}
def Qy (D L G:Nat) (Kind:aN->Prop) (ps:aN) (l1:Nat) (w1:ZT) (v6 v7:ZS) (wx:ZT):Prop:=v7=.nilIface/\∃ gb ps' s C ao m c,v6=Z6 (ZW ⟨gb,0,ZX⟩)/\w1.heap.size<=gb/\wx.heap[gb]?=ZW (Z4 #[Z7 Z9 (1+((ae (aC (D+L+G) s)).length:Int)),.slice ao m c] 189 (0,0))/\Dd D L G Kind ps ps' l1 s C ao m c w1.heap.size wx/\aa ps.bl w1 wx
def IE {ps':aN} (e:Dd D L G Kind ps ps' l1 s C ao m c w1.heap.size w3) (d:bW w1 w') (b:aa ps.bl w' w3) :
 Qy D L G Kind ps l1 w1 (Z6 (ZW ⟨w3.heap.size,0,ZX⟩)) .nilIface (w3.alloc (Z4 #[Z7 Z9 (1+((ae (aC (D+L+G) s)).length:Int)),.slice ao m c] 189)):=by
 have a:bW w3 (w3.alloc (Z4 #[Z7 Z9 (1+((ae (aC (D+L+G) s)).length:Int)),.slice ao m c] 189)):=bA _ _;exact ⟨rfl,_,ps',s,C,ao,m,c,rfl,TU d.size b.size,T9 _ _,e.keep (T:=λ_=>False) (aa.RO a _) (λ_ q=>q.elim),(aa.after d b).trans (aa.RO a _)⟩
def EP {ps':aN} (n:Dd D L G Kind ps ps' l1 s C ao m c (w1.heap.size+1) w3) (hl:∀ k,ps.bl k->k<w1.heap.size) (r:w2.heap.size=w1.heap.size) (o:bW w1 w2) (g:aa ps.bl (w2.alloc (Z4 #[Z7 Z9 0,Z5 ZX 0 0] 189)) w3) :
 Qy D L G Kind ps l1 w1 (Z6 (ZW ⟨w1.heap.size,0,ZX⟩)) .nilIface ((w3.setCell ⟨w1.heap.size,0,ZX⟩ (Z7 Z9 (1+((ae (aC (D+L+G) s)).length:Int)))).setCell ⟨w1.heap.size,1,ZX⟩ (.slice ao m c)):=by
 have p:w3.heap[w1.heap.size]?=ZW (Z4 #[Z7 Z9 0,Z5 ZX 0 0] 189 (0,0)):=(g.block w1.heap.size (by rw [Ua];omega) (λq=>eT (hl _ q))).trans (by rw [<- r];exact T9 _ _);have b:=eN w3 w1.heap.size 0 1 (Z7 Z9 (1+((ae (aC (D+L+G) s)).length:Int))) (.slice ao m c);have j:Dd D L G Kind ps ps' l1 s C ao m c w1.heap.size ((w3.setCell ⟨w1.heap.size,0,ZX⟩ (Z7 Z9 (1+((ae (aC (D+L+G) s)).length:Int)))).setCell ⟨w1.heap.size,1,ZX⟩ (.slice ao m c)):=by
  have h:=n.keep b (λk (q:k=w1.heap.size)=>⟨eb,λe=>eT (hl k e)⟩);exact ⟨h.kind,h.Tl,h.hoE,h.kit,λk d=>(h.bl k d).imp id eb,λk d=>(h.ob k d).imp id eb,h.own,h.Th,h.told⟩
 have l:bW w1 (w2.alloc (Z4 #[Z7 Z9 0,Z5 ZX 0 0] 189)):=o.alloc eb _;have a:=aa.after l g;exact ⟨rfl,_,ps',s,C,ao,m,c,rfl,TV _,gE (gD p),j,b.os.trans a.os,b.tape.trans a.tape,b.output.trans a.output,TU a.size b.size,λk f i=>(b.block k (TY f a.size) eb).trans (a.block k f i)⟩
end
end
section
section
variable (D L G lost:Nat) (hr:cJ D L G=ZV) (hD1:1<=D) (hD:D<=12) (hL:1<=L) (hL4:L<=4) (hG:G<=4) (hdiv:D%L=0) (h16:D+L+G<=16) (hl:lost<2^(D+L+G))
include hr hD1 hD hL hL4 hG hdiv h16 hl
theorem IF (rd:Bool) (w:ZT) (g:aK w) (i:3<=w.heap.size):ZR ZO 171 #[bH D L G lost rd] w (Qk D L G lost w):=by
 have a:=wg.new w D L G lost rd;obtain ⟨w2,n⟩:=nM ((w.alloc (Z4 #[Z7 Z9 (D:Int),Z7 Z9 (L:Int),Z7 Z9 (G:Int),Z7 Z8 (lost:Int),Z1 rd] 186)).alloc (Z4 #[Z7 Z9 0,Z5 ZX 0 0] 189));rw [n] at a;obtain ⟨r,c1,t,u,x⟩:=a.cells;have l:=Ce D L G lost hr hD1 hD hL hL4 hG hdiv h16 hl w2 (g.mono eb a.below) (TU i a.below.size);have j:=rE D L G lost hr hD1 hD hL hL4 hG hdiv h16 hl w2 (g.mono eb a.below) (TU i a.below.size);have H:=aE a l j;clear a j l g;unfold bH;cases rd;all_goals (
  go_enter func171,ntmps171;go_wp2_with fail;first|refine H.out.2.1.mono ?_|refine H.out.2.2.mono ?_
  rintro e w3 ⟨z,ao,m,c,er,rfl,b,f⟩;have a:=H.out.1;have hs:=a.size;have d:=(b.block (w.heap.size+1) eb).trans a.res;obtain ⟨I,J,g1,F⟩:=az d;have o:=a5 f b d hs;clear f b d r c1 t u x n a;go_wp2;obtain ⟨f,b,d,hs⟩:=o.out;obtain ⟨n0,n1,_⟩:=az (gE (y':=.slice ao m c) (gD (x':=Z7 Z9 z) d));refine Uf (v:=ZY #[.agg #[Z7 Z9 z,.slice ao m c],er]) (by simp [results,results171,go_sem,n0,n1]) rfl ?_;have y:bW w w3:=H.out.1.below.trans (b.mono H.out.1.below.size);refine ⟨z,ao,m,c,er,rfl,(y.setCell (p:=⟨w.heap.size+1,0,ZX⟩) eP _).setCell (p:=⟨w.heap.size+1,1,ZX⟩) eP _,?_⟩;rcases f with q|⟨B,s,C,q1,q2,E,k⟩
  . exact .inl q
  . have h:(Value.slice ao m c).ownBlock≠ZW (w.heap.size+1):=λe=>by have:=jI k e;omega
    have A:=(k.kept (cT w3 (w.heap.size+1) 0 (Z7 Z9 z)) (.inr h)).kept (cT _ (w.heap.size+1) 1 (.slice ao m c)) (.inr h);exact .inr ⟨B,s,C,q1,q2,E,fW A eb⟩)
end
def PlA (sb:Nat) (room:Int) (D L G x:Nat) (qs:List Pq) (w w':ZT) (z:Int) (ao:Option Addr) (m c:Nat) (er:ZS):Prop:=(er=.iface 54 (Z7 Z9 3)/\z=0/\ao=ZX/\m=0/\c=0/\bW w w')\/(er=.nilIface/\∃ s C es' qs',(∀ i,(dP x).testBit i=ZV->s.testBit i=ZV)/\tells (lS D L G) (ae (aC (D+L+G) s))=ZW C/\z=1+((ae (aC (D+L+G) s)).length:Int)/\w'.ownsRow w.heap.size 288 4 (.slice ao m c) (di D L G s C).length (dW .u8 (di D L G s C))/\gJ w' sb room D L G es' qs'/\(∀ q∈qs',q∈qs\/(w.heap.size<=q.nb/\∀ k,(Value.slice q.ao q.m q.c).ownBlock=ZW k->w.heap.size<=k))/\aa (λk=>pt sb qs k\/k=sb+1) w w')
section
variable (D L G x:Nat) (hr:cJ D L G=ZV) (hD1:1<=D) (hD:D<=12) (hL:1<=L) (hL4:L<=4) (hG:G<=4) (hdiv:D%L=0) (h16:D+L+G<=16) (hl:dP x<2^(D+L+G))
include hr hD1 hD hL hL4 hG hdiv h16 hl
theorem Md (V:gJ w sb room D L G es qs) (hx:x∉cC es) (hT:aK w) (h2:3<=w.heap.size):ZR ZO 154 #[Z6 (ZW ⟨sb+1+1+1,0,ZX⟩),bH D L G (dP x:Nat) (fC x)] w λe w'=>∃ z ao m c er,e=Z3 (ZY #[.agg #[Z7 Z9 z,.slice ao m c],er])/\PlA sb room D L G x qs w w' z ao m c er:=by
 have j:=wg.new w D L G (dP x:Nat) (fC x);obtain ⟨w2,q2⟩:=nM ((w.alloc (Z4 #[Z7 Z9 (D:Int),Z7 Z9 (L:Int),Z7 Z9 (G:Int),Z7 Z8 ((dP x:Nat):Int),Z1 (fC x)] 186)).alloc (Z4 #[Z7 Z9 0,Z5 ZX 0 0] 189));rw [q2] at j;obtain ⟨Q,c1,R,S,U⟩:=j.cells;have g:=V.keep λk a=>j.below.block k (V.blt k a);have k8:=g.list;obtain ⟨n,k9⟩:=g.map;have kz:=g.cell;have k0:∀ w',bW w2 w'->ZR ZO 170 #[Z6 (ZW ⟨sb+1+1,0,ZX⟩),bH D L G (dP x:Nat) (fC x)] w' λe hd=>e=Z3 (ZY #[.agg #[Z7 Z9 0,Z5 ZX 0 0],Z1 ZU])/\bW w' hd:=λw' hb=>Ew ((hb.block _ (TW.1 k8).1).trans k8) ((hb.block _ (TW.1 k9).1).trans k9) hx;have kb:bW w2 (w2.alloc (Z4 #[Z7 Z9 0,Z5 ZX 0 0] 189)):=bA w2 _;obtain ⟨d0,d1,d2,d3,d4⟩:=(j.mono kb).cells;have dp:=(g.keep λk a=>kb.block k (g.blt k a)).cell;have kf:=aE (TW.1 V.Sc).1 (λk (a:pt sb qs k)=>V.blt k (Cx a)) hx;have q5:=j.size;have H:=aE j g k0;clear j g k0 k8 k9 V kb hx;unfold bH at H ⊢;go_enter func154,ntmps154;go_upto_region 1 with fail;go_cut [6,7] from 10 to 18 (λv6 v7 wx=>v7=Z1 ZU/\bW w2 wx)
 case first=>
  go_region_with (go_at_call 170;refine (H.out.2.2 _ ?_).mono ?_;(first|exact (TX _ _).drew|exact ((TX _ _).drew).alloc lR _);rintro e w3 ⟨rfl,y⟩;(try (have q3:w3.heap[w2.heap.size]?=ZW (Z4 #[Z7 Z9 0,Z5 ZX 0 0] 189 (0,0)):=(y.block w2.heap.size ek).trans (T9 w2.drew _);obtain ⟨r0,r1,g1,g0⟩:=az q3;clear q3));have hy:bW w2 w3:=(by first|exact ((TX _ w2).drew).trans y|exact ((bA w2 _).drew).trans (y.mono ek));have N:=al hy;clear y hy);all_goals (go_wp2_with fail;go_meet;case rel=>(refine ⟨rfl,?_⟩;first|exact N.out.alloc N.out.size _|exact (N.out.setCell (p:=⟨w2.heap.size,0,ZX⟩) lR _).setCell (p:=⟨w2.heap.size,1,ZX⟩) lR _))
 case rest=>
  clear Q c1 R S U d0 d1 d2 d3 d4 dp kz;rename ZT=>w3;obtain ⟨rfl,y⟩:=hcut;obtain ⟨j,g,_⟩:=H.out;have f:=j.mono y;have I:=g.keep λk a=>y.block k (g.blt k a);obtain ⟨Q,c1,R,S,U⟩:=f.cells;have kc:=IF D L G (dP x) hr hD1 hD hL hL4 hG hdiv h16 hl (fC x) w3 (hT.mono eb f.below) (TU h2 f.below.size);unfold bH at kc;have N:=aE f I kc;clear j g f I kc y hT;go_wp2_with fail;refine N.out.2.2.mono ?_;rintro e d ⟨z,ao,m,c,er,rfl,J,ks⟩;clear Q c1 R S U;obtain ⟨f,I,_⟩:=N.out;have q4:=f.size;rcases ks with ⟨rfl,rfl,rfl,rfl,rfl⟩|⟨rfl,s,C,K,F,M,kj⟩
  . have E:bW d (d.alloc (Z4 #[Z7 Z9 0,Z5 ZX 0 0] 189)):=bA d _;have r:=J.trans (E.mono J.size);have W:=(r.block (w.heap.size+1) eb).trans f.res;have h:(d.alloc (Z4 #[Z7 Z9 0,Z5 ZX 0 0] 189)).heap[d.heap.size]?=ZW (Z4 #[Z7 Z9 0,Z5 ZX 0 0] 189 (0,0)):=T9 _ _;obtain ⟨q0,q1,g1,g0⟩:=az W;obtain ⟨r0,r1,_,_⟩:=az h;have Z:bW w (d.alloc (Z4 #[Z7 Z9 0,Z5 ZX 0 0] 189)):=f.below.trans (r.mono f.below.size);have P:=au W Z;clear J E r W h Z f I;go_wp2;obtain ⟨W,Z⟩:=P.out;obtain ⟨n0,n1,_⟩:=az (gE (y':=Z5 ZX 0 0) (gD (x':=Z7 Z9 0) W));refine Uf (v:=ZY #[.agg #[Z7 Z9 0,Z5 ZX 0 0],.iface 54 (Z7 Z9 3)]) Zk rfl ⟨0,ZX,0,0,_,rfl,.inl ⟨rfl,rfl,rfl,rfl,rfl,?_⟩⟩;exact (Z.setCell (p:=⟨w.heap.size+1,0,ZX⟩) eP _).setCell (p:=⟨w.heap.size+1,1,ZX⟩) eP _
  have kp:=al (show w.heap.size+2<=w3.heap.size/\w3.heap.size<=d.heap.size from ⟨f.size,J.size⟩);have E:bW d (d.alloc (Z4 #[Z7 Z9 z,.slice ao m c] 189)):=bA d _;have r:=J.trans (E.mono J.size);have i:=f.mono r;have u:=I.keep λk a=>r.block k (I.blt k a);have kk:=u.cell;have h:(d.alloc (Z4 #[Z7 Z9 z,.slice ao m c] 189)).heap[d.heap.size]?=ZW (Z4 #[Z7 Z9 z,.slice ao m c] 189 (0,0)):=T9 _ _;have t:=aB kj E;obtain ⟨w5,ke⟩:=nM (d.alloc (Z4 #[Z7 Z9 z,.slice ao m c] 189));rw [ke] at E r i u kk h t;obtain ⟨Q,c1,R,S,U⟩:=i.cells;obtain ⟨r0,r1,_,_⟩:=az h;have Y:=Qq (w:=w5.drew) (u.keep λ_ _=>rfl) kf.out.2.2 (show w5.drew.ownsRow 0 288 4 (.slice ao m c) (di D L G s C).length (dW .u8 (di D L G s C)) from fW (aB t (TX _ w5).drew) (T3 _)) K F;rw [<- M] at Y;unfold bH at Y;have P:=hide8 i u h t Y K F M;clear kj J E r i u h t Y f I K F M;go_upto_region 6 with fail;go_cut [34] from 28 to 33 (λ_v wx=>(∃ l b,gJ wx sb room D L G l b/\∀ q∈b,q∈qs\/q=⟨x,w5.drew.heap.size+1+1,s,C,ao,m,c⟩)/\aa (λk=>pt sb qs k\/k=sb+1) w5.drew wx)
  case first=>
   go_region_with (go_at_call 172;refine P.out.2.2.2.2.1.mono ?_;rintro e w6 ⟨rfl,o,hs⟩;have H6:=au o hs;clear o hs);all_goals (go_wp2_with fail;go_meet;case rel=>exact H6.out)
  case rest=>
   rename ZT=>w6;clear Q c1 R S U r0 r1 kk;obtain ⟨⟨l,b,o,k6⟩,hs⟩:=hcut;obtain ⟨i,u,h,t,_,K,F,M⟩:=P.out;have B:aa (λk=>pt sb qs k\/k=sb+1) w5 w6:=(aa.drew w5).trans hs;obtain ⟨ko,kh,_⟩:=kf.out;have km:=i.size;have ky:d.heap.size<w5.heap.size:=(TW.1 h).1;have kg:=kp.out;have k7:∀ k,w.heap.size<=k->¬ (pt sb qs k\/k=sb+1):=λk h1 q=>by
    rcases q with q|q
    . have:=kh k q;omega
    . omega
   have A:=(B.block (w.heap.size+1) eb (k7 _ eb)).trans i.res;have ki:=(B.block d.heap.size ky (k7 _ eb)).trans h;have O:w6.ownsRow w3.heap.size 288 4 (.slice ao m c) (di D L G s C).length (dW .u8 (di D L G s C)):=bZ t B (λk a q=>k7 k (eT (dX t a)) q);obtain ⟨q0,q1,g1,g0⟩:=az A;obtain ⟨r0,r1,_,_⟩:=az ki;have q6:w5.drew.heap.size=w5.heap.size:=rfl;have X:∀ q∈b,q∈qs\/(w.heap.size<=q.nb/\∀ k,(Value.slice q.ao q.m q.c).ownBlock=ZW k->w.heap.size<=k):=λq hq=>(k6 q hq).imp id λe=>by
    subst e;exact ⟨by show w.heap.size<=w5.drew.heap.size+1+1;omega,λk a=>eT (dX O a)⟩
   have H6:=hide9 A o O B X km ko kg u.blt;clear o k6 X hs i u h t B A ki O K F M kh k7;go_wp2;obtain ⟨A,o,O,B,X,km,ko,kg,kr⟩:=H6.out;obtain ⟨n0,n1,_⟩:=az (gE (y':=.slice ao m c) (gD (x':=Z7 Z9 z) A));have ka:aa (λk=>k=w.heap.size+1) w6 ((w6.setCell ⟨w.heap.size+1,0,ZX⟩ (Z7 Z9 z)).setCell ⟨w.heap.size+1,1,ZX⟩ (.slice ao m c)):=eN w6 (w.heap.size+1) 0 1 _ _;refine Uf (v:=ZY #[.agg #[Z7 Z9 z,.slice ao m c],.nilIface]) Zk rfl ?_;obtain ⟨i,_,_,_,_,K,F,M⟩:=P.out;have kv:∀ k,N6 sb b k->k≠w.heap.size+1:=λk a e=>by
    obtain ⟨cs,T,zz,kx⟩:∃ cs T zz,w6.heap[k]?=ZW (Z4 cs T zz):=⟨_,_,_,by rw [e];exact A⟩;rw [e,A] at kx;have:=(nu sb room D L G l b 0).kd w6 o k a _ _ _ (by rw [e];exact A);exact absurd this vf
   exact ⟨z,ao,m,c,_,rfl,.inr ⟨rfl,s,C,l,b,K,F,M,fW (bZ O ka (λk a q=>eT (dX O a))) eb,o.keep λk a=>ka.block k (o.blt k a) (kv k a),X,(aa.after i.below B).later ka (λk a q=>eb)⟩⟩
end
end
section
def PnA (D L G:Nat) (Kind:aN->Prop) (ps:aN) (lost:Nat) (w:ZT) (e:ZQ) (w':ZT):Prop:=(e=qM/\bW w w')\/∃ (ps':aN) (s:Nat) (C:Ck) (ao:Option Addr) (m c:Nat),kT D L G s ao m c e/\Dd D L G Kind ps ps' lost s C ao m c w.heap.size w'/\aa ps.bl w w'
section
variable (D L G:Nat) (hr:cJ D L G=ZV) (hD1:1<=D) (hD:D<=12) (hL:1<=L) (hL4:L<=4) (hG:G<=4) (hdiv:D%L=0) (h16:D+L+G<=16)
include hr hD1 hD hL hL4 hG hdiv h16
def CJ (hl:dP x<2^(D+L+G)) {w:ZT} {sb:Nat} {room:Int} {ps:aN} (hK:lg sb room D L G ps) (A:ps.S w) (B:aK w) (b:3<=w.heap.size):ZR ZO 154 #[Z6 (ZW ⟨ps.ps,0,ZX⟩),bH D L G (dP x:Nat) (fC x)] w (PnA D L G (lg sb room D L G) ps (dP x) w):=by
 obtain ⟨es,qs,ho,rfl⟩:=hK;have r:gJ w sb room D L G es qs:=A;by_cases t:x∈cC es
 . obtain ⟨q,a,g,E,l,H⟩:=Ma r t;refine H.mono ?_;rintro e w' ⟨u,b,h⟩;have i:=(l q).2 g;exact .inr ⟨nu sb room D L G es a ho,q.s,q.C,q.ao,q.m,q.c,u,⟨⟨es,a,ho,rfl⟩,rfl,rfl,b,λk d=>.inl (CH l d),λk d=>.inl (.inr (.inr ⟨q,g,d⟩)),b.own q i,E▸b.Th q i,b.told q i⟩,h.mono λk _ e=>Cx e⟩
 . refine (Md D L G x hr hD1 hD hL hL4 hG hdiv h16 hl r t B b).mono ?_;rintro e w' ⟨z,ao,m,c,er,rfl,⟨rfl,rfl,rfl,rfl,rfl,F⟩|⟨rfl,s,C,f,a,b,h,rfl,n,v,o,y⟩⟩
   . exact .inl ⟨rfl,F⟩
   refine .inr ⟨nu sb room D L G f a ho,s,C,ao,m,c,rfl,⟨⟨f,a,ho,rfl⟩,rfl,rfl,v,λk d=>?_,λk d=>.inr (dX n d),fW n (T3 _),b,h⟩,y.mono λk _ e=>?_⟩
   . rcases d with q|q|⟨q,g,q1⟩
     . exact .inl (.inl q)
     . obtain ⟨p,I,j⟩:=T1.1 q;rcases o p I with q2|q2
       . exact .inl (.inr (.inl (T1.2 ⟨p,q2,j⟩)))
       . exact .inr (j▸q2.1)
     . rcases o q g with q2|q2
       . exact .inl (.inr (.inr ⟨q,q2,q1⟩))
       . exact .inr (q2.2 k q1)
   . rcases e with e|e
     . exact Cx e
     . exact .inl eb
theorem IG {ps:aN} (hK:lg sb room D L G ps) {w:ZT} (I:ps.S w) (Q:aK w) (f:3<=w.heap.size) {l:Nat} (T:l<2^(D+L+G)):ZR ZO 148 #[Z6 (ZW ⟨ps.ps,0,ZX⟩),.agg #[Z7 Z9 D,Z7 Z9 L,Z7 Z9 G],Z7 Z8 l] w (PnA D L G (lg sb room D L G) ps l w):=by
 have a:=CI.new w D L G;have g:((w.alloc (Z4 #[Z7 Z9 (D:Int),Z7 Z9 (L:Int),Z7 Z9 (G:Int)] 26)).alloc (Z4 #[Z7 Z9 0,Z5 ZX 0 0] 189)).heap.size=w.heap.size+2:=ek
 obtain ⟨w2,N⟩:=nM ((w.alloc (Z4 #[Z7 Z9 (D:Int),Z7 Z9 (L:Int),Z7 Z9 (G:Int)] 26)).alloc (Z4 #[Z7 Z9 0,Z5 ZX 0 0] 189));rw [N] at a g;obtain ⟨O,c1,P⟩:=eu a.par;have J:=CJ D L G hr hD1 hD hL hL4 hG hdiv h16 (x:=2*l+1) (by rw [(ab3:dP (2*l+1)=l)];exact T) hK (ps.keep _ _ I λk b=>a.below.block k (ps.lt _ I k b)) (Q.mono eb a.below) (TU f a.below.size);rw [(ab3:dP (2*l+1)=l),show fC (2*l+1)=ZV from decide_eq_true eb] at J;unfold bH at J;have H:=a5 a g J (ps.lt _ I);clear a g J I Q T;go_enter func148,ntmps148;go_wp2_with fail;refine H.out.2.2.1.mono ?_;rintro e w3 (⟨rfl,r⟩|⟨ps',s,C,ao,m,c,R,W,o⟩)
 . unfold qM;obtain ⟨a,g,_,t⟩:=H.out;have d:=(r.block (w.heap.size+1) eb).trans a.res;obtain ⟨Z,r1,g1,V⟩:=az d;have K:=au d (a.below.trans (r.mono a.below.size));clear r d O c1 P N a;go_wp2;obtain ⟨d,r⟩:=K.out;obtain ⟨n0,n1,_⟩:=az (gE (y':=Z5 ZX 0 0) (gD (x':=Z7 Z9 0) d));refine Uf (v:=ZY #[.agg #[Z7 Z9 0,Z5 ZX 0 0],.iface 54 (Z7 Z9 3)]) (by simp [results,results148,go_sem,n0,n1]) rfl (.inl ⟨rfl,?_⟩);exact (r.setCell (p:=⟨w.heap.size+1,0,ZX⟩) eP _).setCell (p:=⟨w.heap.size+1,1,ZX⟩) eP _
 . obtain ⟨y,f,A,i,j,n,B,E,F⟩:=W;unfold kT at R;subst R;obtain ⟨z,u⟩:∃ z:Int,1+((ae (aC (D+L+G) s)).length:Int)=z:=⟨_,rfl⟩;rw [u];obtain ⟨a,g,_,t⟩:=H.out;have d:=(o.block (w.heap.size+1) eb (λq=>eT (t _ q))).trans a.res;obtain ⟨Z,r1,g1,V⟩:=az d;have K:=hide12 y f A i j n B E F o d u;clear y f A i j n B E F o d O c1 P N u a;go_wp2;obtain ⟨y,f,A,i,j,n,B,E,F,o,d,u⟩:=K.out;obtain ⟨a,g,_,t⟩:=H.out;obtain ⟨n0,n1,_⟩:=az (gE (y':=.slice ao m c) (gD (x':=Z7 Z9 z) d));have M:aa (λk=>k=w.heap.size+1) w3 ((w3.setCell ⟨w.heap.size+1,0,ZX⟩ (Z7 Z9 z)).setCell ⟨w.heap.size+1,1,ZX⟩ (.slice ao m c)):=eN w3 (w.heap.size+1) 0 1 _ _;have Y:∀ k,ps'.bl k->k≠w.heap.size+1:=λk b=>by rcases j k b with q|q;have:=t k q;omega;omega
   refine Uf (v:=ZY #[.agg #[Z7 Z9 z,.slice ao m c],.nilIface]) (by simp [results,results148,go_sem,n0,n1]) rfl ?_;have h:=(o.mono λ_ _ q=>(.inl q:_\/_)).trans (M.mono λk _ q=>(.inr q:ps.bl k\/_));refine .inr ⟨ps',s,C,ao,m,c,by unfold kT;rw [u],⟨y,f,A,ps'.keep _ _ i λk b=>M.block k (ps'.lt _ i k b) (Y k b),λk b=>?_,λk b=>?_,bZ B M λk b q=>?_,E,F⟩,⟨h.os.trans a.below.os,h.tape.trans a.below.tape,h.output.trans a.below.output,TU a.below.size h.size,λk b X=>(h.block k (eT a.below.size) (λq=>q.elim X eb)).trans (a.below.block k b)⟩⟩
   . rcases j k b with q|q
     . exact .inl q
     . exact .inr eb
   . rcases n k b with q|q
     . exact .inl q
     . exact .inr eb
   . rcases n k b with U|U
     . have:=t k U;omega
     . omega
theorem IH {ps:aN} (hK:lg sb room D L G ps) {w:ZT} (I:ps.S w) (Q:aK w) (f:3<=w.heap.size) {l:Nat} (T:l<2^(D+L+G)):ZR ZO 127 #[Z6 (ZW ⟨ps.ps,0,ZX⟩),.agg #[Z7 Z9 D,Z7 Z9 L,Z7 Z9 G],Z7 Z8 l] w (PnA D L G (lg sb room D L G) ps l w):=by
 have a:=CI.new w D L G;have g:((w.alloc (Z4 #[Z7 Z9 (D:Int),Z7 Z9 (L:Int),Z7 Z9 (G:Int)] 26)).alloc (Z4 #[Z7 Z9 0,Z5 ZX 0 0] 189)).heap.size=w.heap.size+2:=ek
 obtain ⟨w2,N⟩:=nM ((w.alloc (Z4 #[Z7 Z9 (D:Int),Z7 Z9 (L:Int),Z7 Z9 (G:Int)] 26)).alloc (Z4 #[Z7 Z9 0,Z5 ZX 0 0] 189));rw [N] at a g;obtain ⟨O,c1,P⟩:=eu a.par;have J:=CJ D L G hr hD1 hD hL hL4 hG hdiv h16 (x:=2*l) (by rw [(ab3:dP (2*l)=l)];exact T) hK (ps.keep _ _ I λk b=>a.below.block k (ps.lt _ I k b)) (Q.mono eb a.below) (TU f a.below.size);rw [(ab3:dP (2*l)=l),show fC (2*l)=ZU from decide_eq_false eb] at J;unfold bH at J;have H:=a5 a g J (ps.lt _ I);clear a g J I Q T;go_enter func127,ntmps127;go_wp2_with fail;refine H.out.2.2.1.mono ?_;rintro e w3 (⟨rfl,r⟩|⟨ps',s,C,ao,m,c,R,W,o⟩)
 . unfold qM;obtain ⟨a,g,_,t⟩:=H.out;have d:=(r.block (w.heap.size+1) eb).trans a.res;obtain ⟨Z,r1,g1,V⟩:=az d;have K:=au d (a.below.trans (r.mono a.below.size));clear r d O c1 P N a;go_wp2;obtain ⟨d,r⟩:=K.out;obtain ⟨n0,n1,_⟩:=az (gE (y':=Z5 ZX 0 0) (gD (x':=Z7 Z9 0) d));refine Uf (v:=ZY #[.agg #[Z7 Z9 0,Z5 ZX 0 0],.iface 54 (Z7 Z9 3)]) (by simp [results,results127,go_sem,n0,n1]) rfl (.inl ⟨rfl,?_⟩);exact (r.setCell (p:=⟨w.heap.size+1,0,ZX⟩) eP _).setCell (p:=⟨w.heap.size+1,1,ZX⟩) eP _
 . obtain ⟨y,f,A,i,j,n,B,E,F⟩:=W;unfold kT at R;subst R;obtain ⟨z,u⟩:∃ z:Int,1+((ae (aC (D+L+G) s)).length:Int)=z:=⟨_,rfl⟩;rw [u];obtain ⟨a,g,_,t⟩:=H.out;have d:=(o.block (w.heap.size+1) eb (λq=>eT (t _ q))).trans a.res;obtain ⟨Z,r1,g1,V⟩:=az d;have K:=hide12 y f A i j n B E F o d u;clear y f A i j n B E F o d O c1 P N u a;go_wp2;obtain ⟨y,f,A,i,j,n,B,E,F,o,d,u⟩:=K.out;obtain ⟨a,g,_,t⟩:=H.out;obtain ⟨n0,n1,_⟩:=az (gE (y':=.slice ao m c) (gD (x':=Z7 Z9 z) d));have M:aa (λk=>k=w.heap.size+1) w3 ((w3.setCell ⟨w.heap.size+1,0,ZX⟩ (Z7 Z9 z)).setCell ⟨w.heap.size+1,1,ZX⟩ (.slice ao m c)):=eN w3 (w.heap.size+1) 0 1 _ _;have Y:∀ k,ps'.bl k->k≠w.heap.size+1:=λk b=>by rcases j k b with q|q;have:=t k q;omega;omega
   refine Uf (v:=ZY #[.agg #[Z7 Z9 z,.slice ao m c],.nilIface]) (by simp [results,results127,go_sem,n0,n1]) rfl ?_;have h:=(o.mono λ_ _ q=>(.inl q:_\/_)).trans (M.mono λk _ q=>(.inr q:ps.bl k\/_));refine .inr ⟨ps',s,C,ao,m,c,by unfold kT;rw [u],⟨y,f,A,ps'.keep _ _ i λk b=>M.block k (ps'.lt _ i k b) (Y k b),λk b=>?_,λk b=>?_,bZ B M λk b q=>?_,E,F⟩,⟨h.os.trans a.below.os,h.tape.trans a.below.tape,h.output.trans a.below.output,TU a.below.size h.size,λk b X=>(h.block k (eT a.below.size) (λq=>q.elim X eb)).trans (a.below.block k b)⟩⟩
   . rcases j k b with q|q
     . exact .inl q
     . exact .inr eb
   . rcases n k b with q|q
     . exact .inl q
     . exact .inr eb
   . rcases n k b with U|U
     . have:=t k U;omega
     . omega
end
end
section
structure rU (w:ZT) (r v b g N p D L G:Nat) (Kind:aN->Prop) (ps:aN) (A:aA) (F:aR):Prop where
 vol:∃ rr,rp w v p D L G ps.ps ps.ho (A.rd rr) F
 free:m8 F p A.n v
 fit:A.fit
 n:A.n=D+L+G
 nN:N=D+L+G
 wait:A.wait≠0
 here:∀ i,A.lost i=ZU
 par:uM D L G
 hol:ps.ho<2^N
 kit:ps.S w
 kind:Kind ps
 apt:∀ k,ps.bl k->3<=k/\k≠v/\¬ F.has p A.n k
 vr:v≠r
 vg:v≠g
 rg:r≠g
 gF:¬ F.has p A.n g
 rF:¬ F.has p A.n r
 rK:3<=r
 vK:3<=v
 gK:3<=g
structure qS (w0:ZT) (r v b g N p D L G:Nat) (A:aA) (F:aR) (Kind:aN->Prop) (ps ps1:aN) (sp gone hl:Nat) (ds:a9) (f:Nat->ZS) (w:ZT):Prop where
 rd:cP w r v b g N gone sp
 vol:∃ rr,rp w v p D L G ps.ps hl (A.rd rr) F
 row:w.rowIs g 31 N f
 kn:Kn w w0.heap.size vX f (Ab A b) ds
 kit:ps1.S w
 kind:Kind ps1
 Tl:ps1.ps=ps.ps
 bl:∀ k,ps1.bl k->ps.bl k\/w0.heap.size<=k
 out:aa (λk=>k=g\/k=r\/k=v\/F.has p A.n k\/ps.bl k) w0 w
 Tz:∀ i∈ds,gnB A b i=ZU/\i<N
 gol:gone<2^N
 hll:hl<2^N
 spl:sp<2^N
section
variable {w0 w w':ZT} {r v b g N p D L G:Nat} {Kind:aN->Prop} {ps ps1:aN} {A:aA} {F:aR} {sp gone hl:Nat} {ds:a9} {f:Nat->ZS}
def qS.apart (h:qS w0 r v b g N p D L G A F Kind ps ps1 sp gone hl ds f w) (hs:rU w0 r v b g N p D L G Kind ps A F) (hr:r<w0.heap.size) (i:g<w0.heap.size) (c:¬ ps.bl r) (a:¬ ps.bl g) (k:Nat) (d:ps1.bl k):3<=k/\k≠v/\k≠r/\k≠g/\¬ F.has p A.n k:=by
 obtain ⟨j,hv⟩:=hs.vol;rcases h.bl k d with q|q
 . exact ⟨(hs.apt k q).1,(hs.apt k q).2.1,λe=>c (e▸q),λe=>a (e▸q),(hs.apt k q).2.2⟩
 . have:=hv.vol.lt;have:=hv.room;exact ⟨eb,eb,eb,eb,λe=>eT (hv.arr.RQ e)⟩
def qS.SQ (h:qS w0 r v b g N p D L G A F Kind ps ps1 sp gone hl ds f w) (c:∀ k,ps1.bl k->3<=k/\k≠v/\k≠r/\k≠g/\¬ F.has p A.n k) {ps2:aN} (a:aa ps1.bl w w') (d:ps2.S w') (hK:Kind ps2) (s:ps2.ps=ps1.ps) (t:∀ k,ps2.bl k->ps1.bl k\/w.heap.size<=k):qS w0 r v b g N p D L G A F Kind ps ps2 sp gone hl ds f w':=by
 have x:=h.out.size;obtain ⟨y,hv⟩:=h.vol;refine ⟨h.rd.keep (a.block _ h.rd.lt λq=>(c _ q).2.2.1 rfl),⟨y,⟨hv.vol.keep (a.block _ hv.vol.lt λq=>(c _ q).2.1 rfl),hv.arr.keep (λk d=>a.block k (hv.arr.RQ d) λq=>(c k q).2.2.2.2 d),hv.laid.keep (a.block _ hv.laid.lt λq=>eT ((c _ q).1)),hv.RZ.keep (a.block _ hv.RZ.lt λq=>eT ((c _ q).1)),TU hv.room a.size⟩⟩,h.row.of_block (a.block _ h.row.lt λq=>(c _ q).2.2.2.1 rfl),⟨h.kn.1,λi u=>?_⟩,d,hK,s.trans h.Tl,λk q=>(t k q).elim (h.bl k) λe=>.inr (TU x e),h.out.later (a.mono λk _ q=>h.bl k q) ?_,h.Tz,h.gol,h.hll,h.spl⟩
 . obtain ⟨bl,m,o,j,l⟩:=h.kn.2 i u;exact ⟨bl,m,o,TY j a.size,(a.block bl j (b8 h.kit l Mc)).trans l⟩
 . intro k d q;rcases q with q|q
   . exact .inr (.inr (.inr (.inr q)))
   . omega
theorem yH (q:Nat->Bool) (l:a9) (h:∀ d∈l,d<N):nU q l<2^N:=by
 unfold nU;suffices ∀ (l:a9) (s:Nat),(∀ d∈l,d<N)->s<2^N->l.foldl (λs d=>if q d=ZV then s|||2^d else s) s<2^N from this l 0 h (YE ec)
 intro l;induction l with
 | nil=>intro s _ hs;exact hs
 | cons d l ih=>
  intro s a hs;refine ih _ (λx b=>a x abQ) ?_;show (if q d=ZV then s|||2^d else s)<2^N;split
  . exact V0 hs (VC ec (a d ek))
  . exact hs
theorem sE (q:Nat->Bool) (i:Nat):∀ (l:a9),(nU q l).testBit i=ZV↔i∈l/\q i=ZV:=by
 intro l;suffices ∀ (l:a9) (s:Nat),(l.foldl (λs d=>if q d=ZV then s|||2^d else s) s).testBit i=ZV↔s.testBit i=ZV\/(i∈l/\q i=ZV) by
  have h:=this l 0;rw [XV] at h;unfold nU;rw [h];simp
 intro l;induction l with
 | nil=>intro s;simp
 | cons d l ih=>
  intro s;rw [Wf,ih];by_cases b:q d=ZV
  . rw [if_pos b,VA,Bool.or_eq_true,Xz,decide_eq_true_iff,Un];constructor
    . rintro ((h|h)|h)
      . exact .inl h
      . subst h;exact .inr ⟨.inl rfl,b⟩
      . exact .inr ⟨.inr h.1,h.2⟩
    . rintro (h|⟨h|h,a⟩)
      . exact .inl (.inl h)
      . exact .inl (.inr h.symm)
      . exact .inr ⟨h,a⟩
  . rw [if_neg b,Un];constructor
    . rintro (h|h)
      . exact .inl h
      . exact .inr ⟨.inr h.1,h.2⟩
    . rintro (h|⟨h|h,a⟩)
      . exact .inl h
      . subst h;exact absurd a b
      . exact .inr ⟨h,a⟩
def nX (h:qS w0 r v b g N p D L G A F Kind ps ps1 sp gone hl ds f w) (hs:rU w0 r v b g N p D L G Kind ps A F) (hr:r<w0.heap.size) (o:g<w0.heap.size) (S:¬ ps.bl r) (R:¬ ps.bl g) (T:Nat) (P:T<65536) (j:∀ i,i∈ae T->i<N) :
 ZR ZO 126 #[Z6 (ZW ⟨r,0,ZX⟩),Z7 Z8 T] w λe w'=>e=Z3 (ZY #[])/\∃ B,qS w0 r v b g N p D L G A F Kind ps ps1 sp (gone|||nU (gnB A b) (Qr T gone sp ds)) (hl|||nU (Cf A b) (Qr T gone sp ds)) (ds++Cg A b (Qr T gone sp ds)) B w'/\aa (λk=>k=g\/k=r\/k=v\/F.has p A.n k) w w':=by
 have Q:=h.apart hs hr o S R;have:=hs.n;have O:=hs.nN;have H:N<=16:=by rw [O];exact hs.par.s
 have:2^N<=65536:=je H;have I:=h.gol;have J:=h.hll;have M:=h.spl;obtain ⟨rr,hv⟩:=h.vol;obtain ⟨X,m⟩:=hs.vol;have l:∀ i∈Qr T gone sp ds,i<N:=λi c=>j i ((sA eb eb).1 c).1;refine (Ip (ds:=ds) hv hs.here hs.free hs.fit h.rd h.row h.kn T P eb eb (λi c=>⟨j i c,eT (j i c)⟩) hs.wait eb hs.vr hs.rK hs.vK hs.gF hs.rF hs.rg hs.vg hs.gK h.out.size o hr m.vol.lt (λk d=>m.arr.RQ d)).mono ?_;rintro e w' ⟨rfl,U,V,⟨f1,E,K⟩,⟨W,C⟩,a⟩;refine ⟨rfl,f1,⟨U,⟨W,⟨V,C,hv.laid.keep (a.block _ hv.laid.lt λq=>?_),hv.RZ.keep (a.block _ hv.RZ.lt λq=>?_),TU hv.room a.size⟩⟩,E,K,ps1.keep _ _ h.kit λk d=>a.block k (ps1.lt _ h.kit k d) (λq=>?_),h.kind,h.Tl,h.bl,h.out.trans (a.mono λk _ q=>?_),λi c=>?_,V0 I (yH _ _ l),V0 J (yH _ _ l),M⟩,a⟩
 . rcases q with q|q|q|q
   . have:=hs.gK;omega
   . have:=hs.rK;omega
   . have:=hs.vK;omega
   . exact hs.free.g q
 . rcases q with q|q|q|q
   . have:=hs.gK;omega
   . have:=hs.rK;omega
   . have:=hs.vK;omega
   . exact hs.free.t q
 . obtain ⟨_,u,x,y,z⟩:=Q k d;rcases q with q|q|q|q
   . exact y q
   . exact x q
   . exact u q
   . exact z q
 . rcases q with q|q|q|q
   . exact .inl q
   . exact .inr (.inl q)
   . exact .inr (.inr (.inl q))
   . exact .inr (.inr (.inr (.inl q)))
 . rcases Ub.1 c with q|q
   . exact h.Tz i q
   . exact ⟨(mW.1 q).2,l i (mW.1 q).1⟩
end
end
section
def aA.asL (A:aA) (b:Nat):aA:={ A with lost:=gnB A b }
def wh (A:aA) (b N sp gone:Nat):Nat:=(if sp=0 then 0 else 17)+lh (A.asL b) N gone
def Me (f:FuncId) (D L G:Nat) (Kind:aN->Prop):Prop:=∀ (ps:aN),Kind ps->∀ (w:ZT),ps.S w->aK w->3<=w.heap.size->∀ lost:Nat,lost<2^(D+L+G) ->
 ZR ZO f #[Z6 (ZW ⟨ps.ps,0,ZX⟩),.agg #[Z7 Z9 D,Z7 Z9 L,Z7 Z9 G],Z7 Z8 lost] w (PnA D L G Kind ps lost w)
def pB (D L G:Nat) (Kind:aN->Prop):Prop:=Me 148 D L G Kind/\Me 127 D L G Kind
theorem jw {A:aA} (a:A.fit) {b i:Nat} (h:gnB A b i=ZU):(Ab A b i).length=44/\∀ x∈Ab A b i,x<256:=by
 obtain ⟨l,hl⟩:=LH h;have e:Ab A b i=l:=by unfold Ab OT;rw [hl];rfl
 rw [e];unfold aA.R9 at hl;split at hl
 . exact (DX (a.len i b) (a.byt i b) hl).1
 . cases hl
structure Od (w:ZT) (r v b g N p D L G:Nat) (Kind:aN->Prop) (ps:aN) (A:aA) (F:aR) (M:a9) (e:ZQ) (w':ZT):Prop where
 rd:∃ gone sp,cP w' r v b g N gone sp
 row:∃ f,w'.rowIs g 31 N f/\((e=Z3 .nilIface/\∀ i∈M,∃ bl c l,f i=Z5 (ZW ⟨bl,0,ZX⟩) 44 c/\w.heap.size<=bl/\bl<w'.heap.size/\l.length=44/\(∀ x∈l,x<256)/\w'.rangeAt bl 0 (aJ l))\/e=Z3 (.iface 54 (Z7 Z9 3)))
 kit:∃ (ps1:aN) (hl:Nat),Kind ps1/\ps1.ps=ps.ps/\ps1.S w'/\bk w' v p D L G ps.ps hl/\hl<2^N/\∀ k,ps1.bl k->ps.bl k\/w.heap.size<=k
 arr:∃ rr,aj w' p (A.rd rr) F
 out:aa (λk=>k=g\/k=r\/k=v\/F.has p A.n k\/ps.bl k) w w'
def Oe (D L G:Nat) (Kind:aN->Prop) (ps:aN) (l1:Nat) (w1:ZT) (v6 v7:ZS) (wx:ZT):Prop:=(v7=.iface 54 (Z7 Z9 3)/\bW w1 wx)\/Qy D L G Kind ps l1 w1 v6 v7 wx
def C2A (D L G:Nat) (Kind:aN->Prop) (ps1:aN) (l1:Nat) (w' w3:ZT) (z:Int) (ao:Option Addr) (m c:Nat) (er:ZS):Prop:=(er=.iface 54 (Z7 Z9 3)/\bW w' w3)\/(er=.nilIface/\∃ ps' s C,z=1+((ae (aC (D+L+G) s)).length:Int)/\Dd D L G Kind ps1 ps' l1 s C ao m c w'.heap.size w3/\aa ps1.bl w' w3)
def vl {Kind:aN->Prop} {ps1:aN} (h:(e=qM/\bW w' w3)\/∃ ps' s C ao m c,kT D L G s ao m c e/\Dd D L G Kind ps1 ps' l1 s C ao m c w'.heap.size w3/\aa ps1.bl w' w3) :
 ∃ z ao m c er,e=Z3 (ZY #[.agg #[Z7 Z9 z,.slice ao m c],er])/\aa ps1.bl w' w3/\Hid (C2A D L G Kind ps1 l1 w' w3 z ao m c er):=by
 rcases h with ⟨b,a⟩|⟨ps',s,C,ao,m,c,b,a,d⟩
 . exact ⟨0,ZX,0,0,_,b,aa.RO a _,al (.inl ⟨rfl,a⟩)⟩
 . exact ⟨_,ao,m,c,_,b,d,al (.inr ⟨rfl,ps',s,C,rfl,a,d⟩)⟩
def yI {Kind:aN->Prop} {ps1:aN} (h:C2A D L G Kind ps1 l1 w' w3 z ao m c er) (a:bW w1 w') (e:w'.heap.size=w1.heap.size):Oe D L G Kind ps1 l1 w1 (Z6 (ZW ⟨w3.heap.size,0,ZX⟩)) er (w3.alloc (Z4 #[Z7 Z9 z,.slice ao m c] 189)):=by
 rcases h with ⟨rfl,h⟩|⟨rfl,ps',s,C,rfl,b,d⟩
 . exact .inl ⟨rfl,(a.trans (h.mono a.size)).alloc (eT h.size) _⟩
 . exact .inr (IE (b.mono eb) a d)
def vq {Kind:aN->Prop} {ps1:aN} (h:C2A D L G Kind ps1 l1 (w2.alloc (Z4 #[Z7 Z9 0,Z5 ZX 0 0] 189)) w3 z ao m c er) (hl:∀ k,ps1.bl k->k<w1.heap.size) (f:w2.heap.size=w1.heap.size) (b:bW w1 w2):Oe D L G Kind ps1 l1 w1 (Z6 (ZW ⟨w1.heap.size,0,ZX⟩)) er ((w3.setCell ⟨w1.heap.size,0,ZX⟩ (Z7 Z9 z)).setCell ⟨w1.heap.size,1,ZX⟩ (.slice ao m c)):=by
 have a:bW w1 (w2.alloc (Z4 #[Z7 Z9 0,Z5 ZX 0 0] 189)):=b.alloc eb _;rcases h with ⟨rfl,h⟩|⟨rfl,ps',s,C,rfl,d,e⟩
 . exact .inl ⟨rfl,((a.trans (h.mono a.size)).setCell (p:=⟨w1.heap.size,0,ZX⟩) lR _).setCell (p:=⟨w1.heap.size,1,ZX⟩) lR _⟩
 . exact .inr (EP (d.mono (by rw [Ua];omega)) hl f b e)
def KnG (w0:ZT) (r v b g N p D L G:Nat) (A:aA) (F:aR) (Kind:aN->Prop) (ps:aN) (wr:ZT):Prop:=
 ∃ sp gone hl ds f ps1,qS w0 r v b g N p D L G A F Kind ps ps1 sp gone hl ds f wr
def qS.SO {Kind:aN->Prop} {ps ps1:aN} {A:aA} {hl:Nat} {ds:a9} {f:Nat->ZS} (h:qS w0 r v b g N p D L G A F Kind ps ps1 sp gone hl ds f w) (hs:rU w0 r v b g N p D L G Kind ps A F) (hr:r<w0.heap.size) (t:g<w0.heap.size) (o:¬ ps.bl r) (n:¬ ps.bl g):qS w0 r v b g N p D L G A F Kind ps ps1 0 gone hl ds f (w.setCell ⟨r,4,ZX⟩ (Z7 Z8 0)):=by
 have s:=h.apart hs hr t o n;have:=hs.rK;have a:aa (λk=>k=r) w (w.setCell ⟨r,4,ZX⟩ (Z7 Z8 0)):=aa.setCell _ _ _ rfl;obtain ⟨x,hv⟩:=h.vol;refine ⟨ai (j:=4) h.rd _,⟨x,⟨hv.vol.keep (a.block _ hv.vol.lt hs.vr),hv.arr.keep (λk c=>a.block k (hv.arr.RQ c) λq=>hs.rF (q▸c)),hv.laid.keep (a.block _ hv.laid.lt λq=>eb),hv.RZ.keep (a.block _ hv.RZ.lt λq=>eb),TU hv.room a.size⟩⟩,h.row.of_block (a.block _ h.row.lt λq=>hs.rg q.symm),⟨h.kn.1,λi u=>?_⟩,ps1.keep _ _ h.kit λk c=>a.block k (ps1.lt _ h.kit k c) λq=>(s k c).2.2.1 q,h.kind,h.Tl,h.bl,h.out.trans (a.mono λk _ q=>.inr (.inl q)),h.Tz,h.gol,h.hll,YE ec⟩;obtain ⟨bl,e,l,d,m⟩:=h.kn.2 i u;exact ⟨bl,e,l,TY d a.size,(a.block bl d eb).trans m⟩
section
variable {w:ZT} {r v b g N p D L G:Nat} {Kind:aN->Prop} {ps:aN} {A:aA} {F:aR} (hs:rU w r v b g N p D L G Kind ps A F) (hSh:pB D L G Kind)
include hs hSh
theorem Mf (hr:cP w r v b g N 0 ps.ho) (ke:w.rowIs g 31 N vX) (S:Nat) (hS:S<65536) (xd:∀ i,i∈ae S->i<D) :
 ZR ZO 114 #[Z6 (ZW ⟨r,0,ZX⟩),Z7 Z8 S] w λe w'=>Od w r v b g N p D L G Kind ps A F (ae S) e w':=by
 have qi:N<=16:=abP
 have ye:2^N<=65536:=je qi;have xv:∀ i,i∈ae S->i<N:=λi J=>by have:=xd i J;rw [hs.nN];omega
 have B:=b8 hs.kit hr qP;have u:¬ ps.bl g:=by obtain ⟨cs,h1,_⟩:=ke;exact b8 hs.kit h1 pA
 have h0:KnG w r v b g N p D L G A F Kind ps w:=⟨ps.ho,0,ps.ho,[],vX,ps,⟨hr,hs.vol,ke,Kn.nil _ _ _ _,hs.kit,hs.kind,rfl,λk q=>.inl q,aa.refl _ _,λi q=>(by cases q),YE ec,hs.hol,hs.hol⟩⟩;have Y:=hide7 hs hSh hr.lt ke.lt B u h0;clear hs hSh hr ke B u h0;go_enter func114,ntmps114;go_wp2_with fail;go_loopw [5] (λ_ wr=>KnG w r v b g N p D L G A F Kind ps wr) (λ_ wr=>wh A b N (intOf ((wr.cell? ⟨r,4,ZX⟩).getD undef)).toNat (intOf ((wr.cell? ⟨r,3,ZX⟩).getD undef)).toNat)
 case atStart=>exact Y.out.2.2.2.2.2.2
 case round=>
  obtain ⟨sp,gone,hl,ds,f0,ps1,hM⟩:=hrel;obtain ⟨hs,hSh,H,I,B,u,_⟩:=Y.out;have qo:=nX hM hs H I B u S hS xv;have q8:wh A b N (intOf ((wr.cell? ⟨r,4,ZX⟩).getD undef)).toNat (intOf ((wr.cell? ⟨r,3,ZX⟩).getD undef)).toNat=wh A b N sp gone:=by
   obtain ⟨_,_,_,d3,d4⟩:=hM.rd.cells;rw [d3,d4];simp [intOf]
  have y6:=hM.gol;have x6:=hM.spl;have HM:=al q8;obtain ⟨nw,qy⟩:=nM (Qr S gone sp ds);rw [qy] at qo;have HN:=al qy;clear q8 hM qy hs hSh H I B u;go_wp2_with fail;refine qo.mono ?_;rintro e w1 ⟨rfl,f1,a,_⟩;clear qo;obtain ⟨d1,qn⟩:=nM (ds++Cg A b nw);obtain ⟨g1,Z⟩:=nM (gone|||nU (gnB A b) nw);obtain ⟨h1,xg⟩:=nM (hl|||nU (Cf A b) nw);rw [qn,Z,xg] at a;have V:∀ i,i∈ae S->(g1|||sp).testBit i=ZU->i∈d1:=λi J hb=>by
   rw [VA,Yl,<- Z,VA,Yl] at hb;rw [<- qn];by_cases q:i∈ds
   . exact UN _ q
   . have xi:i∈nw:=(by rw [<- HN.out];exact (sA eb eb).2 ⟨J,hb.1.1,hb.2,q⟩);refine Wn _ (mW.2 ⟨xi,?_⟩);cases hq:gnB A b i
     . rfl
     . rw [(sE _ i nw).2 ⟨xi,hq⟩] at hb;cases hb.1.2
  have qp:=a.gol;have hf:wh A b N sp g1<=wh A b N sp gone:=by
   have q:=N7 (A.asL b) N gone (nU (gnB A b) nw);rw [Z] at q;unfold wh;omega
  have ya:=aal g1 sp eb eb;have kj:g1|||sp<2^N:=V0 qp x6;obtain ⟨e0,_,_,e3,e4⟩:=a.rd.cells;obtain ⟨l1,X⟩:=nM (g1|||sp);rw [X] at ya kj V;have qj:=gh S l1 eb eb;have H1:=a7 a V hf X Z;clear a V hf X qn Z xg;by_cases hz:S &&& l1=0
  . have xn:bits .and .u64 (S:Int) (l1:Int)=0:=(by rw [qj,hz];rfl);go_wp2_with fail;go_region;go_wp2;go_ret;obtain ⟨a,V,_⟩:=H1.out;obtain ⟨rr,hv⟩:=a.vol;refine ⟨⟨_,_,a.rd⟩,⟨f1,a.row,.inl ⟨rfl,λi J=>?_⟩⟩,⟨ps1,h1,a.kind,a.Tl,ps1.keep _ _ a.kit (λ_ _=>rfl),hv.vol,a.hll,a.bl⟩,⟨rr,hv.arr.keep λ_ _=>rfl⟩,a.out.trans (aa.drew _)⟩;have K:=V i J (ID hz (bS.1 J).2);obtain ⟨bl,q1,q2,O,q4⟩:=a.kn.2 i K;exact ⟨bl,44,_,q1,q2,O,(jw Y.out.1.fit (a.Tz i K).1).1,(jw Y.out.1.fit (a.Tz i K).1).2,jh q4⟩
  . have xn:(bits .and .u64 (S:Int) (l1:Int)==0)=ZU:=by
     rw [qj];generalize S &&& l1=q at hz;simp;omega
    have y7:l1≠0:=λe=>hz (by rw [e,Nat.and_zero]);have xm:∀ w',bW w1 w'->ZR ZO 148 #[Z6 (ZW ⟨ps.ps,0,ZX⟩),.agg #[Z7 Z9 D,Z7 Z9 L,Z7 Z9 G],Z7 Z8 l1] w' λe qr=>(e=qM/\bW w' qr)\/∃ ps' s C ao m c,kT D L G s ao m c e/\Dd D L G Kind ps1 ps' l1 s C ao m c w'.heap.size qr/\aa ps1.bl w' qr:=λw' hb=>by
     obtain ⟨a,_⟩:=H1.out;obtain ⟨hs,hSh,H,I,B,u,_⟩:=Y.out;obtain ⟨rr,hv⟩:=a.vol;have h:=hSh.1 ps1 a.kind w' (ps1.keep _ _ a.kit λk W=>hb.block k (ps1.lt _ a.kit k W)) (hv.RZ.keep (hb.block _ hv.RZ.lt)) (TU hv.room hb.size) l1 (by rw [<- hs.nN];exact kj);rw [a.Tl] at h;exact h
    have HB:=au xm (λk (W:ps1.bl k)=>ps1.lt _ H1.out.1.kit k W);obtain ⟨rr,qg⟩:=H1.out.1.vol;obtain ⟨_,y1,y2,y3,y4,_⟩:=qg.vol.cells;have qm:bW w1 (w1.alloc (Z4 #[Z7 Z9 0,Z5 ZX 0 0] 189)):=bA w1 _;obtain ⟨_,x1,x2,x3,x4,_⟩:=(qg.vol.keep (qm.block _ qg.vol.lt)).cells;obtain ⟨x0,_,_,_,_⟩:=(H1.out.1.rd.keep (qm.block _ H1.out.1.rd.lt)).cells;clear qm xm qg;have HY:Hid (∀ (w' w3:ZT),bW w1 w'->aa ps1.bl w' w3->C5 r v ps.ps D L G w3/\(∀ o:Obj,C5 r v ps.ps D L G (w3.alloc o))/\(∀ k x y,w1.heap.size<=k->C5 r v ps.ps D L G ((w3.setCell ⟨k,0,ZX⟩ x).setCell ⟨k,1,ZX⟩ y))):=al λw' w3 hb hO=>by
     have xc:=aa.after hb hO;have hM:=H1.out.1;obtain ⟨hs,_,H,I,B,u,_⟩:=Y.out;have ha:=hM.apart hs H I B u;obtain ⟨rr,hv⟩:=hM.vol;have qb:=hM.rd.keep (xc.block _ hM.rd.lt λq=>(ha _ q).2.2.1 rfl);have hv3:=hv.vol.keep (xc.block _ hv.vol.lt λq=>(ha _ q).2.1 rfl);have H:=hM.rd.lt;have yi:=hv.vol.lt;exact ⟨L9 qb hv3,λo=>L9 (qb.keep (Ut _ _ _ qb.lt)) (hv3.keep (Ut _ _ _ hv3.lt)),λk x y W=>L9 (qb.keep ((eN w3 k 0 1 x y).block _ qb.lt eb)) (hv3.keep ((eN w3 k 0 1 x y).block _ hv3.lt eb))⟩
    go_wp2_with fail;go_region;go_upto_region 5 with fail;have xo:(((S &&& l1:Nat):Int)==0)=ZU:=by
     rw [<- qj];exact xn
    simp only [xo];clear xo;go_cut [6,7] from 24 to 42 (λv6 v7 wx=>Oe D L G Kind ps1 l1 w1 v6 v7 wx)
    case first=>
     go_region_held3 (λw'=>w'.cell? ⟨r,0,ZX⟩=ZW (Z6 (ZW ⟨v,0,ZX⟩))/\w'.cell? ⟨v,1,ZX⟩=ZW (Z7 Z9 (D:Int))/\w'.cell? ⟨v,2,ZX⟩=ZW (Z7 Z9 (L:Int))/\w'.cell? ⟨v,3,ZX⟩=ZW (Z7 Z9 (G:Int))/\w'.cell? ⟨v,4,ZX⟩=ZW (Z6 (ZW ⟨ps.ps,0,ZX⟩))) (first|exact ⟨e0,y1,y2,y3,y4⟩|exact ⟨x0,x1,x2,x3,x4⟩|exact Y0.out|exact Y1.out _|exact Y2.out _ _ _ lR|go_keep)
      (first|(go_at_call 148;refine (HB.out.1 _ ?_).mono ?_;(first|exact ((TX _ _).drew).drew|exact (((TX _ _).drew).drew).alloc lR _);rintro e w3 qa;obtain ⟨z,ao,m,c,er,he,k6,H3⟩:=vl qa;subst he;clear qa;(try (have O:w3.heap[w1.heap.size]?=ZW (Z4 #[Z7 Z9 0,Z5 ZX 0 0] 189 (0,0)):=(k6.block w1.heap.size ek (λq=>eT (HB.out.2 _ q))).trans (T9 w1.drew.drew _);obtain ⟨r0,r1,g1,g0⟩:=az O;clear O));obtain ⟨Y0,Y1,Y2⟩:Hid (C5 r v ps.ps D L G w3)/\Hid (∀ o:Obj,C5 r v ps.ps D L G (w3.alloc o))/\Hid (∀ k x y,w1.heap.size<=k->C5 r v ps.ps D L G ((w3.setCell ⟨k,0,ZX⟩ x).setCell ⟨k,1,ZX⟩ y)):=HY.out _ w3 (by first|exact ((TX _ w1).drew).drew|exact (((TX _ w1).drew).drew).alloc lR _) k6;clear k6))
     all_goals (go_wp2_with fail;go_meet;case rel=>first|(refine yI (w':=w1.drew.drew) H3.out ?_ rfl;exact ((TX _ _).drew).drew)|(refine vq (w2:=w1.drew.drew) H3.out HB.out.2 rfl ?_;exact ((TX _ _).drew).drew))
    case rest=>
     clear e0 e3 e4 y1 y2 y3 y4 x0 x1 x2 x3 x4 HY HB;rename ZT=>w3;rcases hcut with ⟨rfl,qk⟩|hcut
     . obtain ⟨a,V,hf,X,Z⟩:=H1.out;obtain ⟨hs,hSh,H,I,B,u,_⟩:=Y.out;have E:=a.SQ (a.apart hs H I B u) (aa.RO qk _) (ps1.keep _ _ a.kit λk W=>qk.block k (ps1.lt _ a.kit k W)) a.kind rfl (λk q=>.inl q);obtain ⟨_,_,_,e3,e4⟩:=E.rd.cells;have f4:w3.frozen? ⟨r,4,ZX⟩=ZU:=by
        have h':w3.heap[r]?=_:=E.rd;simp [World.frozen?,h']
       have H3:=al E;clear E a V X Z hs hSh H I B u qk;by_cases x5:sp=0
       . subst x5;clear f4;go_wp2;go_ret;have E:=H3.out;obtain ⟨rr,hv⟩:=E.vol;exact ⟨⟨_,_,E.rd⟩,⟨f1,E.row,.inr rfl⟩,⟨ps1,h1,E.kind,E.Tl,E.kit,hv.vol,E.hll,E.bl⟩,⟨rr,hv.arr⟩,E.out⟩
       . have yh:((sp:Int)==0)=ZU:=en;have HQ:=au x5 hf;clear x5 hf;go_wp2;go_roundw
         case rel=>
          obtain ⟨hs,_,H,I,B,u,_⟩:=Y.out;exact ⟨0,g1,h1,d1,f1,ps1,H3.out.SO hs H I B u⟩
         case measure=>
          obtain ⟨hs,_,H,I,B,u,_⟩:=Y.out;obtain ⟨_,_,_,O,q4⟩:=(H3.out.SO hs H I B u).rd.cells;rw [HM.out,O,q4];have q:=HQ.out.2;have q5:=It (A.asL b) N g1;unfold wh at q ⊢;rw [if_neg HQ.out.1] at q ⊢;simp [intOf];omega
     . obtain ⟨rfl,gb,Q,s,C,ao,m,c,rfl,hp,k7,U,k6⟩:=hcut;obtain ⟨a,V,hf,X,Z⟩:=H1.out;obtain ⟨hs,hSh,H,I,B,u,_⟩:=Y.out;have E:=a.SQ (a.apart hs H I B u) k6 U.kit U.kind U.Tl U.bl;have k8:=hs.par;have hh:=KZ k8.d k8.l4 k8.g k8.s U.told;have hj:=BJ k8.d k8.g k8.s U.told;have hg:(di D L G s C).length<=2000:=hh.1.2.2;have kb:∀ t∈di D L G s C,t.k=0->0<=t.b/\t.b<16:=λt ht h0=>by
        obtain ⟨i,q1,q2,_⟩:=tZ k8.s ht h0;have:=k8.s;omega
       have qv:=GX (1+((ae (aC (D+L+G) s)).length:Int)) (Ah U.own eb) kb eb;obtain ⟨z,kf⟩:∃ z:Int,1+((ae (aC (D+L+G) s)).length:Int)=z:=⟨_,rfl⟩;rw [kf] at k7 hh qv;obtain ⟨k0,k1,_,_⟩:=az k7;have H3:=hide11 E U k7 hh hj hg kb qv kf k6 hp;clear E U k7 hh hj hg kb qv kf k6 hp k8 a V hf X Z hs hSh H I B u;go_wp2_with fail;refine H3.out.2.2.2.2.2.2.2.1.mono ?_;rintro e w4 ⟨rfl,k9⟩;clear k0 k1;obtain ⟨E,U,k7,hh,hj,hg,kb,_,kf,k6,hp⟩:=H3.out;obtain ⟨hs,hSh,H,I,B,u,_⟩:=Y.out;have xa:=E.SQ (E.apart hs H I B u) (aa.RO k9 _) (Q.keep _ _ E.kit λk W=>k9.block k (Q.lt _ E.kit k W)) E.kind rfl (λk q=>.inl q);obtain ⟨T,hT⟩:=nM (Bk (di D L G s C));have ks:T<65536:=by rw [<- hT];exact KA λt ht h0=>eT (kb t ht h0)
       have xe:∀ i,T.testBit i=ZV->i<N/\s.testBit i=ZU:=λi J=>by
        rw [<- hT] at J;obtain ⟨t,ht,h0,yd⟩:=(oQ _ _).1 J;obtain ⟨j,q1,q2,O⟩:=tZ hs.par.s ht h0;have:j=i:=by rw [<- yd,q1];rfl
        subst this;exact ⟨by rw [hs.nN];exact q2,O⟩
       have kg:∀ i,i∈ae T->i<N/\s.testBit i=ZU:=λi J=>xe i (bS.1 J).2;have kx:=nX xa hs H I B u T ks (λi J=>(kg i J).1);have ko:=(k9.block gb (TW.1 k7).1).trans k7;have H4:=a5 kg hT ko k9;clear kg xa ko k9 E U k7 hh hj hg kb kf k6 hp hs hSh H I B u xe;rw [hT];clear hT;go_wp2_with fail;refine kx.mono ?_;rintro e w5 ⟨rfl,f5,f,qe⟩;clear kx;obtain ⟨kg,hT,ko,k9⟩:=H4.out;obtain ⟨E,U,k7,hh,hj,hg,kb,_,kf,k6,hp⟩:=H3.out;obtain ⟨a,V,hf,X,Z⟩:=H1.out;obtain ⟨hs,hSh,H,I,B,u,_⟩:=Y.out;obtain ⟨yn,km⟩:=hs.vol;obtain ⟨P,kc⟩:=nM (Qr T g1 sp d1);rw [kc] at f;have hm:∀ i,i∈P↔i∈ae T/\g1.testBit i=ZU/\sp.testBit i=ZU/\i∉d1:=λi=>by rw [<- kc];exact sA eb eb
       obtain ⟨d2,kh⟩:=nM (d1++Cg A b P);obtain ⟨g2,kk⟩:=nM (g1|||nU (gnB A b) P);obtain ⟨h2,qq⟩:=nM (h1|||nU (Cf A b) P);rw [kh,kk,qq] at f;have y0:=f.gol;have yb:=aal g2 sp eb eb;have x8:=k9.size;have qd:=a.out.size;have x7:=(qe.block gb (TY (TW.1 k7).1 x8) (λq=>by
        rcases q with q|q|q|q
        . omega
        . omega
        . have:=km.vol.lt;omega
        . have:=km.arr.RQ q;omega)).trans ko
       obtain ⟨_,_,_,e3,e4⟩:=f.rd.cells;obtain ⟨k0,k1,_,_⟩:=az x7;by_cases ky:g2|||sp=l1
       . have q9:∀ i∈P,gnB A b i=ZU:=λi J=>by
          cases hq:gnB A b i
          . rfl
          . have q:=(sE (gnB A b) i P).2 ⟨J,hq⟩;have q2:(g2|||sp).testBit i=ZV:=(by rw [VA,<- kk,VA,q,Bool.or_true,Bool.true_or]);obtain ⟨_,O,q4,_⟩:=(hm i).1 J;rw [ky,<- X,VA,O,q4] at q2;cases q2
         have kv:=a.apart hs H I B u;have ka:Dd D L G Kind ps1 Q l1 s C ao m c w1.heap.size w5:=(U.keep (T:=λ_=>False) (aa.RO k9 _) (λ_ q=>q.elim)).keep qe (λk q=>by
          rcases q with q|q|q|q
          . subst q;exact ⟨eb,λe=>(kv _ e).2.2.2.1 rfl⟩
          . subst q;exact ⟨eb,λe=>(kv _ e).2.2.1 rfl⟩
          . subst q;exact ⟨eT km.vol.lt,λe=>(kv _ e).2.1 rfl⟩
          . exact ⟨eT (km.arr.RQ q),λe=>(kv _ e).2.2.2.2 q⟩)
         obtain ⟨i0,q7⟩:∃ i,l1.testBit i=ZV:=abA y7;have ki:i0<N:=by
          by_cases q:i0<N
          . exact q
          . rw [Wt (TY kj (Vm ec eb))] at q7;cases q7
         have qf:∀ i∈d2,(Ab A b i).length=44/\∀ x∈Ab A b i,x<256:=λi J=>jw hs.fit (f.Tz i J).1;obtain ⟨kz,RR,kr,q0⟩:=BY (x:=LD N d2) (Dl:=vZ N d2 (Ab A b)) hs.par.d1 hs.par.d hs.par.g hs.par.div hs.par.s ka.told (by rw [<- hs.nN];exact ki) (ka.Th i0 q7) (λi J=>by
          rw [hT] at J;have qs:i<16:=by
           by_cases q:i<16
           . exact q
           . rw [Wt (TY ks (Vm (n:=2) (i:=16) ec eb))] at J;cases J
          have xh:i∈ae T:=bS.2 ⟨qs,J⟩;obtain ⟨q1,q2⟩:=kg i xh;have K:i∈d2:=by
           rw [<- kh];by_cases q:i∈d1
           . exact UN _ q
           . have qx:l1.testBit i=ZU:=qK λe=>by rw [ka.Th i e] at q2;cases q2
             rw [<- X,VA,Yl] at qx;have O:=(hm i).2 ⟨xh,qx.1,qx.2,q⟩;exact Wn _ (mW.2 ⟨O,q9 i O⟩)
          rw [uF q1,if_pos K];exact ⟨(qf i K).1,qK λe=>((ph N d2 i).1 e).2 K⟩)
         have xb:(ae (aC (D+L+G) s)).length<=16:=(by have:=xW (D+L+G) s hs.par.s;have:=hs.par.s;omega);have kp:ae (aC (D+L+G) s)≠[]:=λq=>by
          have:i0∈ae (aC (D+L+G) s):=(cZ hs.par.s).2 ⟨by rw [<- hs.nN];exact ki,ka.Th i0 q7⟩;rw [q] at this;cases this
         have xp:z.toNat=1+(ae (aC (D+L+G) s)).length:=(by rw [<- kf];omega);have xf:=Cw (w:=w5.drew) (M:=ae (aC (D+L+G) s)) (R:=RR) (show cP w5.drew r v b g N g2 sp from f.rd) (show w5.drew.rowIs g 31 N f5 from f.row) hs.rg ((Ah ka.own eb).mono (TX _ w5).drew) hj ((OS f.row qf f.kn).mono (TX _ w5).drew) (uE N d2 (Ab A b)) (xY qf) eb (by rw [<- hs.nN] at hh;exact hh) kz (by rw [xp];exact q0) kp (λd hd=>by rw [hs.nN];exact ((cZ hs.par.s).1 hd).1) xb;have H5:=a7 xf f ka kh kr;clear xf ka qf kz q0 kr xb kp xp x7 f qe kg hT ko k9 E U k7 hh hj hg kb kf k6 hp a V X Z hs hSh H I B u kc hm kh kk qq x8 qd q7 ki q9 kv km hf;go_wp2_with fail;go_region;go_wp2_with fail;refine H5.out.1.mono ?_;rintro e w6 ⟨rfl,hF⟩;clear e3 e4 k0 k1;have H6:=al hF;clear hF;go_wp2;go_ret;obtain ⟨yc,⟨f6,qc,xz,y5⟩,xq⟩:=H6.out;obtain ⟨_,f,ka,kh,kr⟩:=H5.out;obtain ⟨hs,hSh,H,I,B,u,_⟩:=Y.out;obtain ⟨a,V,_,X,Z⟩:=H1.out;have hy:aa (λk=>k=g) w5 w6:=(aa.drew w5).trans xq;have xx:=f.apart hs H I B u;have yj:=f.out.size;obtain ⟨ym,qh⟩:=f.vol;refine ⟨⟨_,_,yc⟩,⟨f6,qc,.inl ⟨rfl,λi J=>?_⟩⟩,⟨Q,h2,f.kind,f.Tl,Q.keep _ _ f.kit (λk W=>hy.block k (Q.lt _ f.kit k W) (λq=>(xx k W).2.2.2.1 q)),qh.vol.keep (hy.block _ qh.vol.lt hs.vg),f.hll,f.bl⟩,⟨ym,qh.arr.keep (λk W=>hy.block k (qh.arr.RQ W) λq=>hs.gF (q▸W))⟩,f.out.trans (hy.mono λk _ q=>.inl q)⟩;have yf:=xd i J;by_cases qz:s.testBit i=ZV
         . obtain ⟨bl,mm,l,q1,q2,O,q4,q5,q6⟩:=y5 i ((cZ hs.par.s).2 ⟨eT hs.nN,qz⟩);obtain ⟨h1,h2⟩:=xZ q4 O q5;have x9:=(kr i).1;rw [x9] at h2;subst h2;have yk:w5.drew.heap.size=w5.heap.size:=rfl;exact ⟨bl,l.length,RR i,q1,eb,aM.lt q4,x9,(kr i).2,h1⟩
         . have y9:i∉ae (aC (D+L+G) s):=λq=>qz ((cZ hs.par.s).1 q).2;have K:i∈d2:=by
            rw [<- kh];exact UN _ (V i J (qK λe=>qz (ka.Th i e)))
           obtain ⟨bl,q1,q2,O,q4⟩:=f.kn.2 i K;have xy:bl≠g:=eb;exact ⟨bl,44,_,by rw [xz i y9];exact q1,q2,TY O hy.size,(jw hs.fit (f.Tz i K).1).1,(jw hs.fit (f.Tz i K).1).2,jh ((hy.block bl O xy).trans q4)⟩
       . have xj:lh (A.asL b) N g2<lh (A.asL b) N g1:=by
          have q1:=EL (A:=A.asL b) (N:=N) (g1:=g1) (sp:=sp) (x:=nU (gnB A b) P) (λi q=>by
           obtain ⟨q2,O⟩:=(sE (gnB A b) i P).1 q;exact ⟨(kg i ((hm i).1 q2).1).1,O⟩) (by rw [kk,X];exact ky)
          rw [kk] at q1;exact q1
         have hR:KnG w r v b g N p D L G A F Kind ps w5.drew:=⟨sp,g2,h2,d2,f5,Q,f.SQ (f.apart hs H I B u) (aa.drew _) (Q.keep _ _ f.kit λ_ _=>rfl) f.kind rfl (λk q=>.inl q)⟩;have xk:wh A b N (intOf ((w5.drew.cell? ⟨r,4,ZX⟩).getD undef)).toNat (intOf ((w5.drew.cell? ⟨r,3,ZX⟩).getD undef)).toNat=wh A b N sp g2:=by
          rw [show w5.drew.cell? ⟨r,3,ZX⟩=w5.cell? ⟨r,3,ZX⟩ from rfl,show w5.drew.cell? ⟨r,4,ZX⟩=w5.cell? ⟨r,4,ZX⟩ from rfl,e3,e4];simp [intOf]
         have yg:((g2|||sp:Nat):Int)≠(l1:Int):=eb;have y8:((((g2|||sp:Nat):Int))==(l1:Int))=ZU:=en;have H5:=a5 hR xj xk hf;clear hR xj xk x7 f qe kg hT ko k9 E U k7 hh hj hg kb kf k6 hp a V X Z hs hSh H I B u kc hm kh kk qq x8 qd km hf;go_wp2_with fail;go_region;go_wp2;go_roundw
         case rel=>exact H5.out.1
         case measure=>
          rw [H5.out.2.2.1,HM.out];have q1:=H5.out.2.1;have q2:=H5.out.2.2.2;unfold wh at q2 ⊢;omega
end
def yJ (hr:cJ D L G=ZV) (a:uM D L G) {sb:Nat} {room:Int} (f:1<=L):pB D L G (lg sb room D L G):=
 ⟨λ_ hK _ c e b _ hl=>IG D L G hr a.d1 a.d f a.l4 a.g a.div a.s hK c e b hl,λ_ hK _ c e b _ hl=>IH D L G hr a.d1 a.d f a.l4 a.g a.div a.s hK c e b hl⟩
end
structure gq (w:ZT) (r v b g N p D L G:Nat) (Kind:aN->Prop) (ps:aN) (A:aA) (F:aR) (size:Nat) (e:ZQ) (w':ZT):Prop where
 rd:∃ gone sp,cP w' r v b g N gone sp
 row:∃ f,w'.rowIs g 31 N f
 kit:∃ (ps1:aN) (hl:Nat),Kind ps1/\ps1.ps=ps.ps/\ps1.S w'/\bk w' v p D L G ps.ps hl/\hl<2^N/\∀ k,ps1.bl k->ps.bl k\/w.heap.size<=k
 arr:∃ rr,aj w' p (A.rd rr) F
 out:aa (λk=>k=g\/k=r\/k=v\/F.has p A.n k\/ps.bl k) w w'
 ans:(∃ u l,e=Z3 (ZY #[u,.nilIface])/\l.length=size/\Bs w' u l/\(∀ k,u.ownBlock=ZW k->w.heap.size<=k)/\∃ ao n,u=.slice ao n n)\/e=Z3 (ZY #[Z5 ZX 0 0,.iface 54 (Z7 Z9 3)])
def rU.turn {Kind:aN->Prop} {ps:aN} {A:aA} (h:rU w r v b g N p D L G Kind ps A F) (hr:¬ ps.bl r) (d:¬ ps.bl g) (c:aa (λk=>k=r\/k=g) w w'):rU w' r v b g N p D L G Kind ps A F:=by
 have:=h.rK;have:=h.gK;obtain ⟨f,hv⟩:=h.vol;exact { h with
  vol:=⟨f,⟨hv.vol.keep (c.block _ hv.vol.lt (λq=>q.elim h.vr h.vg)),hv.arr.keep (λk a=>c.block k (hv.arr.RQ a) (λq=>q.elim (λe=>h.rF (e▸a)) (λe=>h.gF (e▸a)))),hv.laid.keep (c.block _ hv.laid.lt (λq=>eb)),hv.RZ.keep (c.block _ hv.RZ.lt (λq=>eb)),TU hv.room c.size⟩⟩
  kit:=ps.keep _ _ h.kit λk a=>c.block k (ps.lt _ h.kit k a) (λq=>q.elim (λe=>hr (e▸a)) (λe=>d (e▸a))) }
theorem CK {Kind:aN->Prop} {ps:aN} {A:aA} (hs:rU w r v b g N p D L G Kind ps A F) (kf:pB D L G Kind) (hr:cP w r v b0 g N gone sp) (Y:w.rowIs g 31 N f0) (size:Nat) (m:Nat) (hm:m=(size+43)/44) (ky:m<=D) :
 ZR ZO 82 #[Z6 (ZW ⟨r,0,ZX⟩),Z7 Z9 b,Z7 Z9 size] w λe w'=>gq w r v b g N p D L G Kind ps A F size e w':=by
 obtain ⟨hb,km⟩:=hs.vol;have ko:N<=16:=abP
 have q2:D<=N:=by rw [hs.nN];omega
 have X:m<=16:=eb
 have q7:size<=704:=eb
 have Q:ae (2^m-1)=YC m:=vk X;have W:2^m-1<65536:=by
  have:2^m<=2^16:=Vm ec X;omega
 obtain ⟨S,k0⟩:=nM (2^m-1);rw [k0] at Q W;have kk:=Fs hr km.vol Y (eT hs.par.d1) (λe=>hs.rg e.symm) hs.vg b;have ke:=b8 hs.kit hr qP;have kc:¬ ps.bl g:=by obtain ⟨cs,h1,_⟩:=Y;exact b8 hs.kit h1 pA
 have C:=a5 hs kf ke kc;have e1:((size:Nat):Int)+44-1=((size+43:Nat):Int):=eb
 clear hr Y hs kf ke kc km;go_enter func82,ntmps82;go_wp2_with fail;refine kk.mono ?_;rintro e w1 ⟨rfl,ki,hc,Z⟩;have kj:=C.out.1.turn C.out.2.2.1 C.out.2.2.2 Z;have kh:=Mf kj C.out.2.1 ki hc S W (λi d=>by rw [Q,Uq] at d;omega);have H:=au kh Z;clear kk ki hc Z kj kh;go_wp2_with fail;rw [(eb:((size:Int)+43)/44=(m:Int))];refine (mH m X w1).mono ?_;rw [k0];rintro e w2 ⟨rfl,rfl⟩;clear e1;go_wp2_with fail;refine H.out.1.mono ?_;rintro e w3 ⟨⟨V,hd,o⟩,⟨f,j,kz⟩,K,J,hy⟩;have z:=H.out.2.size;have t:aa (λk=>k=g\/k=r\/k=v\/F.has p A.n k\/ps.bl k) w w3:=(H.out.2.mono λ_ _ q=>q.elim (λe=>.inr (.inl e)) .inl).trans hy;rcases kz with ⟨rfl,k9⟩|rfl;rotate_left
 . have I:=a8 o j K J t z;clear o j K J hy t z;go_wp2;go_ret2;obtain ⟨o,j,⟨ps',hl,k1,k2,k3,k4,k5,k6⟩,⟨rr,U⟩,t,z⟩:=I.out;exact ⟨⟨_,_,o⟩,⟨_,j⟩,⟨ps',hl,k1,k2,k3,k4,k5,λk B=>(k6 k B).imp id λq=>TU z q⟩,⟨rr,U⟩,t,.inr rfl⟩
 rw [Q] at k9;obtain ⟨R,hz⟩:∃ R:Nat->a9,∀ i,i<m->(∃ bl c,f i=Z5 (ZW ⟨bl,0,ZX⟩) 44 c/\bl<w3.heap.size/\w3.rangeAt bl 0 (aJ (R i)))/\(R i).length=44/\∀ x∈R i,x<256:=by
  have h:∀ i,∃ l:a9,i<m->(∃ bl c,f i=Z5 (ZW ⟨bl,0,ZX⟩) 44 c/\bl<w3.heap.size/\w3.rangeAt bl 0 (aJ l))/\l.length=44/\∀ x∈l,x<256:=λi=>by
   by_cases d:i<m
   . obtain ⟨bl,c,l,q1,_,q3,q4,q5,q6⟩:=k9 i (Uq.2 d);exact ⟨l,λ_=>⟨⟨bl,c,q1,q3,q6⟩,q4,q5⟩⟩
   . exact ⟨[],λq=>absurd q d⟩
  exact ⟨λi=>Classical.choose (h i),λi=>abp (h i)⟩
 have P:∀ i,i<m->(R i).length=44/\∀ x∈R i,x<256:=λi d=>(hz i d).2;obtain ⟨_,_,d2,_,_⟩:=o.cells;have E:((YC m).map R).length=m:=ek
 have hn:Kf w3 0 g ((YC m).map R):=by
  refine ⟨T3 _,j.lt,λi d=>?_⟩;rw [E] at d;obtain ⟨⟨bl,c,q1,q3,q4⟩,_⟩:=hz i d;have cg:=j.cell (i:=i) eb;rw [q1] at cg;have e:((YC m).map R)[i]'(by rw [E];exact d)=R i:=ek
  rw [e];exact ⟨bl,0,c,cg,T3 _,q3,q4,(P i d).1,(P i d).2⟩
 have k7:=GU (c:=N) hn (by rw [E];omega);rw [E] at k7;have I:=hide7 o j K J t k7 z;clear o j hz k9 K J hy k7 t hn E z;go_wp2_with fail;rw [show (size+43)/44=m from hm.symm];refine I.out.2.2.2.2.2.1.mono ?_;rintro e w4 ⟨u,rfl,hj,y⟩;have k8:((YC m).map R).flatten.length=44*m:=CG R m (λi d=>(P i d).1);have kg:∀ x∈((YC m).map R).flatten,x<256:=λx hx=>by
  obtain ⟨l,kv,kx⟩:=Yk.1 hx;obtain ⟨i,ks,rfl⟩:=T1.1 kv;exact (P i (Uq.1 ks)).2 x kx
 have ka:size<=44*m:=eb
 have kb:=al k8;obtain ⟨ao,cp,rfl,hh,kp,kr,O,T⟩:=Qx hj k8 kg ka eb;have H4:=aE y T O;clear k8 kg;obtain ⟨M,hM⟩:=nM (44*m);rw [hM] at kb ka hh ⊢;have q0:size<=cp:=TU ka hh;clear y T O hj hM hm d2 C Q k0 W H ky;go_wp2;go_ret2;obtain ⟨o,j,⟨ps',hl,k1,k2,k3,k4,k5,k6⟩,⟨rr,U⟩,t,_,z⟩:=I.out;obtain ⟨y,T,O⟩:=H4.out;refine ⟨⟨_,_,o.keep (y.block _ o.lt)⟩,⟨_,j.of_block (y.block _ j.lt)⟩,⟨ps',hl,k1,k2,ps'.keep _ _ k3 (λk B=>y.block k (ps'.lt _ k3 k B)),k4.keep (y.block _ k4.lt),k5,λk B=>(k6 k B).imp id λq=>TU z q⟩,⟨rr,U.below y lR⟩,t.trans (aa.RO y _),.inl ⟨_,_,rfl,?_,T,λk B=>?_,⟨_,_,rfl⟩⟩⟩
 . rw [Ud,kb.out];omega
 cases ao with
 | none=>simp [Value.ownBlock] at B
 | some a=>
  simp [Value.ownBlock] at B;have h1:=O a rfl;have h2:=t.size;omega
def II {v:ZS} (h:Bs w v l):Src ZO 1 31 v l.length (aJ l) w:=by
 obtain ⟨ao,c,rfl,m,n,o,g⟩:=h;have i:∀ u∈aJ l,u.oneCell'=ZV:=λu a=>by unfold aJ at a;rw [T1] at a;obtain ⟨x,_,rfl⟩:=a;rfl
 by_cases hl:l=[]
 . subst hl;cases ao with
   | none=>exact Xm w Ui c
   | some f=>exact U8 w Ui f 0 c [] rfl (λj u d=>by simp at d) (λu a=>ZH)
 . obtain ⟨b,off,rfl,k⟩:=g hl;refine U8 w Ui ⟨b,off,ZX⟩ l.length c (aJ l) (by rw [aW,VW]) (λj u d=>?_) i;rw [Vj];have e:j<l.length:=(by obtain ⟨q,_⟩:=UT.1 d;rwa [aW] at q);rw [k j e,<- d];unfold aJ;rw [Ul,T2 e,T6,T2 e];rfl
def Ai (w:ZT) (n:Int) (e:ZQ) (w':ZT):Prop:=e=Z3 (ZY #[Z5 ZX 0 0,iS n])/\bW w w'
theorem Mg {ps:aN} {A:aA} (h:aO w ar v p ps D L G t pg ob P xs A F) (x:ByteArray) (g:de x=ZU) :
 ZR ZO 55 #[Z6 (ZW ⟨ar,0,ZX⟩),ZZ x] w (Ai w 6):=by
 obtain ⟨_,_,_,_,f⟩:=h.R3.cells;have a:=h.find x;obtain ⟨k,d⟩:=nM (aI xs.names x);obtain ⟨i,c⟩:=nM (mq xs.os x);rw [d,c] at a;clear d c h;go_enter func55,ntmps55;go_wp2_with fail;refine a.mono ?_;rintro e w1 ⟨rfl,b⟩;have H:=al b;clear b a f;go_wp2_with fail;refine (dg x w1).mono ?_;rintro e w2 ⟨rfl,rfl⟩;rw [g];dsimp only;go_wp2;go_ret2;exact ⟨rfl,H.out⟩
theorem CL {ps:aN} {A:aA} (h:aO w ar v p ps D L G t pg ob P xs A F) (x:ByteArray) (g:de x=ZV) (f:x∉xs.names) :
 ZR ZO 55 #[Z6 (ZW ⟨ar,0,ZX⟩),ZZ x] w (Ai w 9):=by
 obtain ⟨_,_,_,_,d⟩:=h.R3.cells;have a:=h.find x;obtain ⟨k,c⟩:=nM (aI xs.names x);rw [c,h.Sr f] at a;clear c h;go_enter func55,ntmps55;go_wp2_with fail;refine a.mono ?_;rintro e w1 ⟨rfl,b⟩;have H:=al b;clear b a d;go_wp2_with fail;refine (dg x w1).mono ?_;rintro e w2 ⟨rfl,rfl⟩;rw [g];dsimp only;go_wp2;go_ret2;exact ⟨rfl,H.out⟩
def lu (w:ZT) (v p D L G:Nat) (Kind:aN->Prop) (ps:aN) (N:Nat) (ps':aN) (wr:ZT):Prop:=Kind ps'/\ps'.ps=ps.ps/\ps'.S wr/\bk wr v p D L G ps.ps ps'.ho/\ps'.ho<2^N/\∀ k,ps'.bl k->ps.bl k\/w.heap.size<=k
def aN.SH (ps:aN) (h:Nat):aN:={ ps with ho:=h }
structure mu (D L G:Nat) (Kind:aN->Prop) (ps:aN) (N:Nat):Prop where
 sh:pB D L G Kind
 re:∀ ps h,Kind ps->Kind (ps.SH h)
 kind:Kind ps
 hol:ps.ho<2^N
structure GtG (w:ZT) (q v p r g N sz n D L G:Nat) (Kind:aN->Prop) (ps:aN) (A:aA) (F:aR) (cs:List ZS) (k:Nat) (u:ZS) (wr:ZT):Prop where
 pk:∃ l:a9,l.length=min (k*sz) n/\(∀ x∈l,x<256)/\wr.ownsRow w.heap.size 5 1 u (min (k*sz) n) (aJ l)
 rd:∃ b gone sp,cP wr r v b g N gone sp
 row:∃ f,wr.rowIs g 31 N f
 kit:∃ ps',lu w v p D L G Kind ps N ps' wr
 arr:∃ rs,aj wr p (A.rd rs) F
 out:aa (λj=>F.has p A.n j\/j=v\/ps.bl j) w wr
 box:ay wr q 130 cs
def aaU (w:ZT) (q v p r g N sz n D L G:Nat) (Kind:aN->Prop) (ps:aN) (A:aA) (F:aR) (cs:List ZS) (K:Nat) (u i:ZS) (wr:ZT):Prop:=∃ k:Nat,k<=K/\i=Z7 Z9 (k:Nat)/\GtG w q v p r g N sz n D L G Kind ps A F cs k u wr
def pC:¬ jP 5:=vf
def IJ:¬ jP 130:=vf
def Of {ks:Nat} {ps:aN} {A:aA} (a:w.ownsRow base 5 1 u ks (aJ l)) (f:cP w r v b0 g N gone sp) (c:w.rowIs g 31 N f0) (hv:bk w v p D L G ps.ps ps.ho) (j:ps.S w) (i:aa (λk=>k=g\/k=r\/k=v\/F.has p A.n k\/ps.bl k) w w6) (d:∀ k,F.has p A.n k->k<base):w6.ownsRow base 5 1 u ks (aJ l):=bZ a i λq b h=>by
 rcases h with h|h|h|h|h
 . subst h;obtain ⟨cs,e,_⟩:=c;exact bF a e ec b
 . subst h;exact bF a f ec b
 . subst h;exact bF a hv ec b
 . have:=d q h;have:=dX a b;omega
 . obtain ⟨cur,m⟩:=bL a b;exact b8 j m pC h
def gq.kitG {Kind:aN->Prop} {ps:aN} {A:aA} (h:gq w r v b g N p D L G Kind ps A F size e w') (re:∀ ps h,Kind ps->Kind (ps.SH h)):∃ ps',lu w v p D L G Kind ps N ps' w':=by
 obtain ⟨ps1,hl,k1,k2,k3,k4,a,c⟩:=h.kit;exact ⟨ps1.SH hl,re _ _ k1,k2,k3,k4,a,c⟩
def gq.tup {Kind:aN->Prop} {ps:aN} {A:aA} (h:gq w r v b g N p D L G Kind ps A F size e w'):∃ u x,e=Z3 (ZY #[u,x])/\((x=.nilIface/\∃ l,l.length=size/\Bs w' u l)\/(u=Z5 ZX 0 0/\x=iS 3)):=by
 rcases h.ans with ⟨u,l,rfl,a,c,_⟩|rfl
 . exact ⟨u,_,rfl,.inl ⟨rfl,l,a,c⟩⟩
 . exact ⟨_,_,rfl,.inr ⟨rfl,rfl⟩⟩
def Mh {Kind:aN->Prop} {ps ps':aN} {A:aA} (b:GtG w q v p r g N sz n D L G Kind ps A F cs k u wr) (hK:lu w v p D L G Kind ps N ps' wr) (hD:gq wr.drew r v y g N p D L G Kind ps' (A.rd rs) F size e w6) (re:∀ ps h,Kind ps->Kind (ps.SH h)) (hr:w.heap.size<=r) (s:w.heap.size<=g):aa (λj=>F.has p A.n j\/j=v\/ps.bl j) w w6/\(∃ a,lu w v p D L G Kind ps N a w6)/\∃ rs,aj w6 p (A.rd rs) F:=by
 have:w.heap.size<=wr.heap.size:=b.out.size;have:wr.drew.heap.size=wr.heap.size:=rfl;refine ⟨(b.out.trans (aa.drew _)).later hD.out λj c h=>?_,?_,?_⟩
 . rcases h with h|h|h|h|h
   . omega
   . omega
   . exact .inr (.inl h)
   . exact .inl h
   . rcases hK.2.2.2.2.2 j h with q|q
     . exact .inr (.inr q)
     . omega
 . obtain ⟨a,k1,k2,k3,k4,f,i⟩:=hD.kitG re;refine ⟨a,k1,k2.trans hK.2.1,k3,by rw [<- hK.2.1];exact k4,f,λj c=>?_⟩;rcases i j c with q|q
   . exact hK.2.2.2.2.2 j q
   . exact .inr eb
 . obtain ⟨l,d⟩:=hD.arr;exact ⟨l,d⟩
def Mi {Kind:aN->Prop} {ps ps':aN} {A:aA} (o:GtG w q v p r g N sz n D L G Kind ps A F cs k u wr) (hK:lu w v p D L G Kind ps N ps' wr) (hD:gq wr.drew r v y g N p D L G Kind ps' (A.rd rs) F size e w6) (re:∀ ps h,Kind ps->Kind (ps.SH h))
 (M:w7.ownsRow w.heap.size 5 1 v7 (min ((k+1)*sz) n) (aJ l++aJ l2)) (hll:l.length+l2.length=min ((k+1)*sz) n) (K:∀ x∈l,x<256) (I:∀ x∈l2,x<256) (b:w6.grownBy w7 u.ownBlock) (s:w6.ownsRow w.heap.size 5 1 u (k*sz) (aJ l)) (C:∀ k,F.has p A.n k->k<w.heap.size) (X:v<w.heap.size) (Y:w.heap.size<=q) (Q:q≠r) (P:q≠g) (hr:w.heap.size<=r) (O:w.heap.size<=g):GtG w q v p r g N sz n D L G Kind ps A F cs (k+1) v7 w7:=by
 obtain ⟨E,⟨c,k1,k2,k3,k4,S,U⟩,⟨V,H⟩⟩:=Mh o hK hD re hr O;have m:∀ {j:Nat} {cs:Array ZS} {T:TypeId},w6.heap[j]?=ZW (Z4 cs T (0,0))->5≠T->w7.heap[j]?=w6.heap[j]?:=by
  intro j cs T a i;exact b.block j (TW.1 a).1 (λe=>bF s a i e.symm)
 have z:∀ j,j<w.heap.size->w7.heap[j]?=w6.heap[j]?:=λj a=>b.block j (TY a E.size) (λe=>eT (dX s e.symm));have t:ay w6 q 130 cs:=o.box.keep (hD.out.block _ o.box.lt (λh=>by
  rcases h with h|h|h|h|h
  . exact P h
  . exact Q h
  . omega
  . have d:=C _ h;omega
  . exact b8 hK.2.2.1 o.box IJ h))
 obtain ⟨gone,sp,B⟩:=hD.rd;refine ⟨⟨l++l2,by rw [T5];exact hll,λx R=>(Ub.1 R).elim (K x) (I x),by rw [bK];exact M⟩,⟨y,gone,sp,B.keep (m B ec)⟩,?_,⟨c,k1,k2,c.keep _ _ k3 (λj a=>b.block j (c.lt _ k3 j a) (λe=>by obtain ⟨cur,J⟩:=bL s e.symm;exact b8 k3 J pC a)),k4.keep (m k4 ec),S,U⟩,⟨V,H.keep λj a=>z j (C j a)⟩,?_,t.keep (m t ec)⟩
 . obtain ⟨f,cs,d,i⟩:=hD.row;exact ⟨f,cs,(m d ec).trans d,i⟩
 . exact E.later (T:=λj=>w.heap.size<=j) ⟨b.os,b.tape,b.output,b.size,λj _ W=>z j eb⟩ (λj d i=>eb)
theorem aO.got {Kind:aN->Prop} {ps ps':aN} {A:aA} (h:aO w ar v p ps D L G t pg ob P xs A F) (a:aa (λj=>F.has p A.n j\/j=v\/ps.bl j) w w') (rs:Nat->Int) (y:aj w' p (A.rd rs) F) (hK:lu w v p D L G Kind ps A.n ps' w'):aO w' ar v p ps' D L G t pg ob P xs (A.rd rs) F:=by
 obtain ⟨k1,k2,k3,k4,z,r⟩:=hK;have s:2<3:=ec
 have u:1<3:=ec
 have:=h.Sf;have d:∀ k,k<3->¬ F.has p A.n k->k<w.heap.size->w'.heap[k]?=w.heap[k]?:=λk f i l=>a.block k l (λq=>by
  rcases q with q|q|q
  . exact i q
  . omega
  . have:=(h.apt k q).1;omega)
 have m:dN (λk=>ar<k/\¬ F.has p A.n k/\¬ ps.bl k/\¬ ps'.bl k) w w':=⟨a.size,λk c b=>a.block k c (λq=>by
  rcases q with q|q|q
  . exact b.2.1 q
  . have:=b.1;omega
  . exact b.2.2.1 q)⟩
 have o:∀ k,(ar<k/\¬ F.has p A.n k/\¬ ps.bl k)->k<w.heap.size->(ar<k/\¬ F.has p A.n k/\¬ ps.bl k/\¬ ps'.bl k):=λk q f=>⟨q.1,q.2.1,q.2.2,λe=>(r k e).elim q.2.2 eb⟩;have x:∀ k,ps'.bl k->3<=k/\k≠ar/\k≠v/\¬ F.has p A.n k:=λk c=>by
  rcases r k c with q|q
  . exact h.apt k q
  . have:=h.R3.lt;have:=h.vol.vol.lt;have:=h.arK;exact ⟨eb,eb,eb,λe=>eT (h.vol.arr.RQ e)⟩
 exact ⟨h.R3.keep (a.block _ h.R3.lt λq=>by
  rcases q with q|q|q
  . exact h.Si q
  . omega
  . exact (h.apt _ q).2.1 rfl),⟨by rw [k2];exact k4,y,h.vol.laid.keep (d _ s h.free.g h.vol.laid.lt),h.vol.RZ.keep (d _ u h.free.t h.vol.RZ.lt),TU h.vol.room a.size⟩,h.free,h.Si,h.Sf,h.arK,⟨h.fit.n,h.fit.nb,h.fit.len,h.fit.byt⟩,h.par,h.RV.congr rfl rfl rfl rfl,((h.pgs.wk o).keep m).wk λk q _=>⟨q.1,q.2.1,q.2.2.2⟩,((h.cat.wk o).keep m).wk λk q _=>⟨q.1,q.2.1,q.2.2.2⟩,h.nb,h.turn,k3,x⟩
def Aj (base:Nat) (u r:ZS) (w:ZT):Prop:=fJ r/\∃ l:a9,l.length<=1500/\(∀ x∈l,x<256)/\w.ownsRow base 5 1 u l.length (aJ l)
def Qz (w:ZT) (ar v p:Nat) (Kind:aN->Prop) (ps:aN) (D L G t:Nat) (pg ob:ZS) (P:a9) (xs:bP) (A:aA) (F:aR) (rs:Nat->Int) (ps':aN) (w':ZT):Prop:=aO w' ar v p ps' D L G t pg ob P xs (A.rd rs) F/\Kind ps'/\ps'.ho<2^A.n/\ps'.ps=ps.ps/\(∀ k,ps'.bl k->ps.bl k\/w.heap.size<=k)
def m3 (w:ZT) (ar v p:Nat) (Kind:aN->Prop) (ps:aN) (D L G t:Nat) (pg ob:ZS) (P:a9) (xs:bP) (A:aA) (F:aR) (e:ZQ) (w':ZT):Prop:=
 ∃ u r rs ps',e=Z3 (ZY #[u,r])/\Qz w ar v p Kind ps D L G t pg ob P xs A F rs ps' w'/\aa (λj=>F.has p A.n j\/j=v\/ps.bl j) w w'/\Aj w.heap.size u r w'
theorem Og {Kind:aN->Prop} {ps:aN} {A:aA} (h:aO w ar v p ps D L G t pg ob P xs A F) (hv:mu D L G Kind ps A.n) (x:ByteArray) (hx:de x=ZV) (m:Nat) (x8:m<xs.length) (hm:xs[m].1.name=x) :
 ZR ZO 55 #[Z6 (ZW ⟨ar,0,ZX⟩),ZZ x] w (m3 w ar v p Kind ps D L G t pg ob P xs A F):=by
 obtain ⟨_,_,_,_,c8⟩:=h.R3.cells;have ky:=h.find x;have xh:xs.names.length=xs.length:=by rw [<- ea,bG];simp [bP.os]
 have qf:xs.names[m]' eb=x:=by simp [bP.names,hm,aZ,bP.os]
 have km:x∈xs.names:=by rw [<- qf];exact T4 _
 have x4:aI xs.names x=m:=oY h.RV.up eb qf;rw [x4,h.there km] at ky;have k8:=h.RV.fits _ (T4 x8);obtain ⟨oo,oc,rfl,hol,_⟩:=id h.cat;have qg:xs.os.length=xs.length:=YZ
 have kc:∀ hh:m<xs.os.length,xs.os[m]=xs[m].1:=λhh=>YZ
 obtain ⟨X,hX⟩:=nM (xs[m]);rw [hX] at k8 hm kc;obtain ⟨nn,x0⟩:=nM (xs.os.length);have qo:X∈xs:=by rw [<- hX];exact T4 _
 have B:=a8 h k8 trivial kc x0 qo;have HV:=al hv;have qd:m<nn:=eb
 have x9:(m:Int)<(nn:Int):=eb
 rw [x0] at ky c8;clear h hv xh qf km x4 k8 kc qg hol hX qo;go_enter func55,ntmps55;go_wp2_with fail;refine ky.mono ?_;rintro e w1 ⟨rfl,hb⟩;have H:=al hb;clear hb ky c8;go_wp2_with fail;refine (dg x w1).mono ?_;rintro e w2 ⟨rfl,rfl⟩;rw [hx];dsimp only;have a:=B.out.1.below H.out;obtain ⟨d0,_,_,_,d8⟩:=a.R3.cells;rw [B.out.2.2.2.2.1] at d8;obtain ⟨sq,off,sv,rfl,xi,xj,r1,r2,r3,r4⟩:=a.cat.at' (k:=m) (by rw [B.out.2.2.2.2.1];exact qd);rw [B.out.2.2.2.1 _] at r1 r2 r4;rw [hm] at r1;obtain ⟨n,hn⟩:=nM (X.1.size);rw [hn] at r2;obtain ⟨sa,K,rfl,x6,_⟩:=id r4;obtain ⟨S,hS⟩:=nM (X.1.RM);rw [hS] at r3 r4 x6;have Y:=a5 a r4 hn hS;clear a r4 hn hS;have qb:bW w2 (w2.alloc (Z4 #[ZZ x,Z7 Z9 (n:Nat),.slice sa S.length K] 130)):=bA w2 _;have kv:ay (w2.alloc (Z4 #[ZZ x,Z7 Z9 (n:Nat),.slice sa S.length K] 130)) w2.heap.size 130 [ZZ x,Z7 Z9 (n:Nat),.slice sa S.length K]:=UG w2 _;have qi:(w2.alloc (Z4 #[ZZ x,Z7 Z9 (n:Nat),.slice sa S.length K] 130)).heap.size=w2.heap.size+1:=ek
 have xf:n<=1500:=by rw [<- Y.out.2.2.1];exact B.out.2.1.fit.size
 obtain ⟨w3,xn⟩:=nM (w2.alloc (Z4 #[ZZ x,Z7 Z9 (n:Nat),.slice sa S.length K] 130));rw [xn] at qb kv qi;have y1:=kv.cell (j:=1) (u:=Z7 Z9 (n:Nat)) rfl;obtain ⟨ib,qv,ki,kj,kk⟩:=Ur Tryz.SI;have H3:=aE qb kv qi;clear qb kv qi;go_wp2_with (at_make;refine abe w3 rfl (.const (Z7 Z9 0)) (Z0 41) 31 rfl w2.heap.size 5 ib (Z7 .u8 0) 1 Ui qv ki kj .i64 .i64 _ n l3 l3 rfl (by rw [kk];omega) eD (by exact H3.out.1.size) ?_;intro w4 x1 qc;have qa:bW w2 w4:=H3.out.1.grown qc H3.out.1.size (λk e=>Za);have e0:=(qa.cell (p:=⟨ar,0,ZX⟩) Y.out.1.R3.lt).trans d0;have Z:=aE x1 qc qa;clear x1 qc qa);have U:=Y.out.1.below Z.out.2.2;have J:=qR U.vol.vol U.par.d U.par.l4 U.par.g U.RV.n;have q2:=al U;clear U d8 r1 r2 r3 y1;refine J.mono ?_;rintro e w5 ⟨rfl,q7,hf,kg⟩;have kz:=q2.out.below kg;have q6:ay w4 w2.heap.size 130 _:=H3.out.2.1.keep (Z.out.2.1.block _ H3.out.2.1.lt ek);have hc:ay w5 w2.heap.size 130 _:=q6.keep (kg.block _ q6.lt);have x2:=hc.cell (j:=2) (u:=.slice sa S.length K) rfl;have kf:bW w2 w5:=Z.out.2.2.trans (kg.mono Z.out.2.2.size);obtain ⟨sz,ke⟩:=nM (D*44);have kx:S.length=nV D n:=by rw [<- Y.out.2.2.2,B.out.2.1.st,Y.out.2.2.1];rfl
 obtain ⟨r,hr⟩:=nM (w4.heap.size+2);obtain ⟨g,hg⟩:=nM (w4.heap.size+1);have xz:=Z.out.2.2.size;rw [hr,hg] at q7;rw [hg] at hf;have x5:GtG w2 w2.heap.size v p r g A.n sz n D L G Kind ps A F [ZZ x,Z7 Z9 (n:Nat),.slice sa S.length K] 0 (Z5 (ZW ⟨w3.heap.size,0,ZX⟩) 0 n) w5:=
  ⟨⟨[],by rw [Xe,YD];rfl,(λx hx=>by cases hx),by rw [Xe,YD];exact aB Z.out.1 kg⟩,⟨_,_,_,q7⟩,⟨_,hf⟩,⟨ps,HV.out.kind,rfl,kz.kit,kz.vol.vol,HV.out.hol,λ_ q=>.inl q⟩,⟨A.reads,kz.vol.arr⟩,aa.RO kf _,hc⟩
 have H5:=aE x5 ke kx;have xk:r≠g:=eb
 have xp:w2.heap.size<g:=eb
 have xy:w2.heap.size<r:=eb
 rw [hr];clear x5 ke kx q7 hf hc q6 kz kf J kg hr hg;have xm:44<=sz/\sz<=528:=by rw [<- H5.out.2.1];have:=q2.out.par.d1;have:=q2.out.par.d;omega
 go_wp2_with fail;go_loopw [9,51] (λu i wr=>aaU w2 w2.heap.size v p r g A.n sz n D L G Kind ps A F [ZZ x,Z7 Z9 (n:Nat),.slice sa S.length K] S.length u i wr) (λ_ i _=>S.length-(intOf i).toNat)
 case atStart=>exact ⟨0,T3 _,rfl,H5.out.1⟩
 case round=>
  clear x2 e0;obtain ⟨k,xq,rfl,E⟩:=hrel;by_cases q0:k<S.length
  . obtain ⟨⟨l,hll,W,c⟩,⟨b0,gone,sp,J⟩,⟨f0,he⟩,⟨ps',b⟩,⟨rs,ha⟩,O,kh⟩:=id E;obtain ⟨_,ke,kx⟩:=H5.out;obtain ⟨a,qn,xg,qm⟩:=Y.out;have hr:=a.par;have qx:k*sz<=n:=(by rw [<- ke];exact Cv hr.d1 eb);have o:∀ j,F.has p A.n j->j<w2.heap.size:=λj f=>a.vol.arr.RQ f;rw [VV qx] at c hll;obtain ⟨pa,pc,rfl⟩:=bM c;obtain ⟨s,N⟩:=nM (k*sz);have kp:=a.Sf;have qj:dN (λk=>ar<k/\¬ F.has p A.n k/\¬ ps.bl k) w2 wr:=⟨O.size,λj f hK=>O.block j f (λq=>by rcases q with q|q|q;exact hK.2.1 q;omega;exact hK.2.2 q)⟩;obtain ⟨sb,so,y0,e1,qp⟩:=sn (qn.keep qj) (λe=>by rw [e] at q0;simp at q0);simp only [Vt] at e1;obtain ⟨rfl,_,rfl⟩:=e1;have g1:=qp k q0;obtain ⟨y,hy⟩:=nM (S[k]);rw [hy] at g1;have xo:y<A.nb:=by
     refine (a.RV.inb y (Wn _ ?_)).2;unfold an;refine XP.2 ⟨X.1,List.mem_map_of_mem B.out.2.2.2.2.2,?_⟩;rw [qm,<- hy];exact T4 q0
    have V:=a.got O rs ha b;have q8:rp wr.drew v p D L G ps'.ps ps'.ho (A.rd rs) F:=V.vol.below ((TX _ wr).drew) lR;obtain ⟨ca,_⟩:=V.R3.cells;have cz:=kh.cell (j:=1) (u:=Z7 Z9 (n:Nat)) rfl;have qh:=cG q8.vol (eT hr.d);rw [ke] at qh;obtain ⟨z,qe⟩:=nM (min (n-s) sz);have xc:∀ hd ty w,(Builtin.min_ hd ty #[Z7 Z9 ((n:Int)-(s:Int)),Z7 Z9 (sz:Nat)]).run ZO w=.ok (Z7 Z9 (z:Nat)) w:=λhd ty w=>by
     rw [gy];by_cases h1:((sz:Nat):Int)<(n:Int)-(s:Int)
     . rw [if_pos h1,(eb:z=sz)]
     . rw [if_neg h1,(eb:(z:Int)=(n:Int)-(s:Int))]
    have kr:=a.RV.n;have qz:(z+43)/44<=D:=eb;have ko:rU wr.drew r v y g A.n p D L G Kind ps' (A.rd rs) F:=
     { vol:=⟨rs,q8⟩,free:=a.free,fit:=V.fit,n:=kr,nN:=kr,wait:=by have:=a.RV.wait;show A.wait≠0;omega,here:=a.RV.here,par:=hr,hol:=b.2.2.2.2.1,kit:=ps'.keep _ _ b.2.2.1 (λ_ _=>rfl),kind:=b.1,apt:=λj f=>⟨(V.apt j f).1,(V.apt j f).2.2.1,(V.apt j f).2.2.2⟩,vr:=λe=>eT a.vol.vol.lt,vg:=λe=>eT a.vol.vol.lt,rg:=xk,gF:=λe=>eT (o _ e),rF:=λe=>eT (o _ e),rK:=eT a.vol.room,vK:=a.Sf.1,gK:=by have:=a.vol.room;omega }
    have qq:=CK ko HV.out.sh (J.keep rfl) (he.of_block rfl) z ((z+43)/44) rfl qz;have M:=hide14 E J he c qq qh o N b kr a.vol.vol.lt hll W qe;rw [N] at qx c hll ⊢;have xb:z<=528:=eb;have xv:IntKind.i64.wrap ((k:Int)+1)=(k:Int)+1:=iE;have xx:IntKind.i64.wrap ((n:Int)-(s:Int))=(n:Int)-(s:Int):=iE;clear E b V ko kp J he c qq qh o N q8 qj qp hy O kh ha ke kx a qn xg qm hr qe qz kr hll W xo;go_wp2;go_region_with (first
     | (go_at_call 83;refine M.out.2.2.2.2.2.1.mono ?_;rintro e wq ⟨rfl,rfl⟩)
     | (go_at_call 82;refine M.out.2.2.2.2.1.mono ?_;rintro e w6 I;obtain ⟨u2,x2,x7,q1⟩:=I.tup;have H6:=au I q1;subst x7;clear I q1))
    all_goals (
     obtain ⟨I,q1⟩:=H6.out;rcases q1 with ⟨rfl,l2,a,k7⟩|⟨rfl,rfl⟩;rotate_left
     . obtain ⟨E,_,_,_,_,_,o,_,b,_,kp,_⟩:=M.out;obtain ⟨qk,⟨qr,Q⟩,⟨rr,a6⟩⟩:=Mh E b I HV.out.re eb eb;have T:aa (λj=>F.has p A.n j\/j=v\/ps.bl j) w w6:=(aa.RO H.out _).trans qk;have R:lu w v p D L G Kind ps A.n qr w6:=⟨Q.1,Q.2.1,Q.2.2.1,Q.2.2.2.1,Q.2.2.2.2.1,λj f=>(Q.2.2.2.2.2 j f).imp id λq=>TU H.out.size q⟩;have HF:=aE T (B.out.1.got T _ a6 R) R;clear E o b kp qk Q a6 T R I H6 M;unfold iS;go_wp2;go_ret2;obtain ⟨h2,h3,C⟩:=HF.out;exact ⟨_,_,_,qr,rfl,⟨h3,C.1,C.2.2.2.2.1,C.2.1,C.2.2.2.2.2⟩,h2,.inr ⟨3,ec,rfl⟩,[],T3 _,(λx hx=>by cases hx),UB _ _ _ _⟩
     have hp:w6.ownsRow w2.heap.size 5 1 (.slice pa s pc) s (aJ l):=by
      obtain ⟨_,J,he,c,_,_,o,N,b,_⟩:=M.out;rw [N] at c;exact Of (A:=A) (aB c ((TX _ wr).drew)) (J.keep rfl) (he.of_block rfl) (by rw [b.2.1];exact b.2.2.2.1) (ps'.keep _ _ b.2.2.1 (λ_ _=>rfl)) I.out o
     have hs:Src ZO 1 31 u2 z (aJ l2) w6:=by
      have:=II k7;rwa [a] at this
     have HO:=a7 hp hs (TU M.out.1.out.size I.out.size) a k7;clear hp hs I a k7;go_wp2_with (at_builtin;refine af _ rfl (Z0 75) (Z0 76) 31 31 rfl w2.heap.size 5 ib (Z7 .u8 0) 1 1 Ui qv ki kj kk rfl (.slice pa s pc) s (aJ l) l3 (by exact HO.out.1) _ l3 z (aJ l2) (by exact HO.out.2.1) eD eb (by exact HO.out.2.2.1) ?_;intro v7 w7 x3 qs q9;have H7:=au x3 qs;clear x3 qs q9);go_roundw
     case rel=>
      obtain ⟨E,_,_,_,_,_,o,N,b,_,kp,hll,W,qe⟩:=M.out;obtain ⟨_,_,_,q3,q4⟩:=HO.out;obtain ⟨_,_,_,_,_,q5,_⟩:=id q4;subst N;have xe:(k+1)*sz=k*sz+sz:=Wz k sz;have xd:min ((k+1)*sz) n=k*sz+z:=eb;exact ⟨k+1,eb,e8,Mi E b H6.out.1 HV.out.re (l:=l) (l2:=l2) (by rw [xd];exact H7.out.1) eb W q5 H7.out.2 HO.out.1 o kp lR eb eb eb eb⟩
     case measure=>simp only [intOf];omega)
  . have xa:k=S.length:=eb;subst xa;obtain ⟨⟨l,hll,W,c⟩,_,_,⟨ps',b⟩,⟨rs,ha⟩,O,_⟩:=E;have qy:l.length<=1500:=eb;rw [<- hll] at c;have T:aa (λj=>F.has p A.n j\/j=v\/ps.bl j) w wr:=(aa.RO H.out _).trans O;have R:lu w v p D L G Kind ps A.n ps' wr:=⟨b.1,b.2.1,b.2.2.1,b.2.2.2.1,b.2.2.2.2.1,λj f=>(b.2.2.2.2.2 j f).imp id λq=>TU H.out.size q⟩;have HF:=a7 (And.intro (cE c H.out.size) T) (B.out.1.got T _ ha R) R qy W;clear c ha O T b R hll qy W;go_wp2;go_ret2;obtain ⟨⟨h1,h2⟩,h3,C,h7,h8⟩:=HF.out;exact ⟨_,_,rs,ps',rfl,⟨h3,C.1,C.2.2.2.2.1,C.2.1,C.2.2.2.2.2⟩,h2,.inl rfl,l,h7,h8,h1⟩
def Oh {Kind:aN->Prop} {ps:aN} {A:aA} (h:aO w ar v p ps D L G t pg ob P xs A F) (hv:mu D L G Kind ps A.n) (x:ByteArray) :
 ZR ZO 55 #[Z6 (ZW ⟨ar,0,ZX⟩),ZZ x] w (m3 w ar v p Kind ps D L G t pg ob P xs A F):=by
 have c:∀ n:Int,n≠13->∀ e w',Ai w n e w'->m3 w ar v p Kind ps D L G t pg ob P xs A F e w':=by
  rintro n f e w' ⟨rfl,b⟩;exact ⟨_,_,A.reads,ps,rfl,⟨h.below b,hv.kind,hv.hol,rfl,λ_ q=>.inl q⟩,aa.RO b _,.inr ⟨n,f,rfl⟩,[],T3 _,(λx a=>by cases a),UB _ _ _ _⟩
 cases a:de x with
 | false=>exact (Mg h x a).mono (c 6 ec)
 | true=>
  by_cases d:x∈xs.names
  . obtain ⟨g,j,e⟩:=Va d;have:xs.names.length=xs.length:=(by rw [<- ea,bG];simp [bP.os]);exact Og h hv x a g eb (by rw [<- e];simp [bP.names,aZ,bP.os])
  . exact (CL h x a d).mono (c 9 ec)
section
structure oe (w:ZT) (ar v p:Nat) (ps:aN) (D L G:Nat) (A:aA) (F:aR):Prop where
 vol:rp w v p D L G ps.ps ps.ho A F
 free:m8 F p A.n v
 Si:¬ F.has p A.n ar
 Sf:3<=v/\v<ar
 Tr:ar<w.heap.size
 fit:A.fit
 par:uM D L G
 n:A.n=D+L+G
 wait:A.wait<0
 here:∀ i,A.lost i=ZU
 kit:ps.S w
 apt:∀ k,ps.bl k->3<=k/\k≠ar/\k≠v/\¬ F.has p A.n k
section
variable {w w':ZT} {ar v p D L G:Nat} {ps ps':aN} {A:aA} {F:aR}
def oe.below (h:oe w ar v p ps D L G A F) (a:bW w w'):oe w' ar v p ps D L G A F:=
 ⟨h.vol.below a lR,h.free,h.Si,h.Sf,TY h.Tr a.size,h.fit,h.par,h.n,h.wait,h.here,ps.keep _ _ h.kit λk b=>a.block k (ps.lt _ h.kit k b),h.apt⟩
def oe.got (h:oe w ar v p ps D L G A F) {Kind:aN->Prop} (a:aa (λj=>F.has p A.n j\/j=v\/ps.bl j) w w') {rs:Nat->Int} (m:aj w' p (A.rd rs) F) (hK:lu w v p D L G Kind ps A.n ps' w'):oe w' ar v p ps' D L G (A.rd rs) F:=by
 obtain ⟨k1,k2,k3,k4,s,r⟩:=hK;have i:2<3:=ec
 have l:1<3:=ec
 have:=h.Sf;have b:∀ k,k<3->¬ F.has p A.n k->k<w.heap.size->w'.heap[k]?=w.heap[k]?:=λk d f c=>a.block k c (λq=>by
  rcases q with q|q|q
  . exact f q
  . omega
  . have:=(h.apt k q).1;omega)
 exact ⟨⟨by rw [k2];exact k4,m,h.vol.laid.keep (b _ i h.free.g h.vol.laid.lt),h.vol.RZ.keep (b _ l h.free.t h.vol.RZ.lt),TU h.vol.room a.size⟩,h.free,h.Si,h.Sf,TY h.Tr a.size,⟨h.fit.n,h.fit.nb,h.fit.len,h.fit.byt⟩,h.par,h.n,h.wait,h.here,k3,λk o=>by
  rcases r k o with q|q
  . exact h.apt k q
  . have:=h.Tr;have:=h.vol.room;exact ⟨eb,eb,eb,λe=>eT (h.vol.arr.RQ e)⟩⟩
def oe.stp (h:oe w ar v p ps D L G A F) {Kind:aN->Prop} (c:Kind ps) (b:ps.ho<2^A.n) {r g y:Nat} (vr:v≠r) (vg:v≠g) (rg:r≠g) (gF:¬ F.has p A.n g) (rF:¬ F.has p A.n r) (rK:3<=r) (gK:3<=g):rU w r v y g A.n p D L G Kind ps A F:=
 { vol:=⟨A.reads,h.vol⟩,free:=h.free,fit:=h.fit,n:=h.n,nN:=h.n,wait:=eT h.wait,here:=h.here,par:=h.par,hol:=b,kit:=h.kit,kind:=c,apt:=λj a=>⟨(h.apt j a).1,(h.apt j a).2.2.1,(h.apt j a).2.2.2⟩,vr:=vr,vg:=vg,rg:=rg,gF:=gF,rF:=rF,rK:=rK,vK:=h.Sf.1,gK:=gK }
def oe.R3 (h:oe w ar v p ps D L G A F) (a:aa (λj=>F.has p A.n j\/j=v\/ps.bl j) w w') {D' L' G' t f n:Nat} {pg ob:ZS} {off:Bool} (b:bf w ar v D' L' G' t f n pg ob off):bf w' ar v D' L' G' t f n pg ob off:=
 b.keep (a.block _ h.Tr λq=>by
  rcases q with q|q|q
  . exact h.Si q
  . have:=h.Sf;omega
  . exact (h.apt _ q).2.1 rfl)
end
def Oi (e:1<=D) {k:Nat} (d:k<pgs D n):k*(D*44-4)<=n:=by
 unfold pgs at d;by_cases a:k=0
 . subst a;omega
 . have b:k<(n+(D*44-4)-1)/(D*44-4):=eb;have hs:0<D*44-4:=eb;have c:=(abu hs).1 (Nat.succ_le_of_lt b);rw [Wz] at c;omega
def FY (c:1<=D):n<=pgs D n*(D*44-4):=by
 have hs:0<D*44-4:=eb
 have a:(n+(D*44-4)-1)/(D*44-4)<=pgs D n:=Nat.le_max_right _ _;have:=Xd (D*44-4) a;have b:=Nat.div_add_mod (n+(D*44-4)-1) (D*44-4);have:=V6 (n+(D*44-4)-1) hs;rw [WB] at b;omega
def IK (w:ZT) (pb po n:Nat) (page:a9):Prop:=∀ q,q<n->w.cell? ⟨pb,po+q,ZX⟩=ZW (Z7 .u8 ((page.getD q 0:Nat):Int))
def IK.grown {row:Option Nat} (h:IK w pb po n page) (b:w.grownBy w' row) (a:row≠ZW pb):IK w' pb po n page:=λq c=>b.cell (h q c) (λe=>a e.symm)
def IK.alloc (h:IK w pb po n page) (o:Obj):IK (w.alloc o) pb po n page:=h.grown (abo w o ZX) (λe=>Za)
theorem IK.src (h:IK w pb po (4+sk) page) (hl:page.length=4+sk):Src ZO 1 31 (Z5 (ZW ⟨pb,po+4,ZX⟩) sk sk) sk (aJ (page.drop 4)) w:=by
 refine U8 w Ui ⟨pb,po+4,ZX⟩ sk sk (aJ (page.drop 4)) (by rw [aW,Ue,hl];omega) (λq u a=>?_) (λu f=>by obtain ⟨x,_,rfl⟩:=T1.1 f;rfl);have g:q<sk:=by
  have:=(UT.1 a).1;rw [aW,Ue,hl] at this;omega
 have d:=h (4+q) eb;have e:(Value.int .u8 ((page.getD (4+q) 0:Nat):Int))=u:=by
  unfold aJ at a;rw [Ul,VM,T2 eb] at a;simp at a;rw [<- a];simp [T6,(eb:4+q<page.length)]
 have b:w.cell? ⟨pb,po+4+q,ZX⟩=ZW u:=by rw [<- e,Vb];exact d
 unfold Addr.add;split
 . rename_i c;subst c;exact b
 . exact b
def IK.src0:Src ZO 1 31 (Z5 (ZW ⟨pb,po,ZX⟩) 0 0) 0 [] w:=U8 w Ui ⟨pb,po,ZX⟩ 0 0 [] rfl (λq u a=>ZH) (λu b=>ab0)
def IK.head (h:IK w pb po n page) (g:4<=n) (e:4<=c) (hl:page.length=n) (f:∀ x∈page,x<256):Bs w (Z5 (ZW ⟨pb,po,ZX⟩) 4 c) (page.take 4):=by
 have a:(page.take 4).length=4:=KP
 refine ⟨ZW ⟨pb,po,ZX⟩,c,by rw [a],by rw [a];exact e,ZC,λx d=>f x (US d),λ_=>⟨pb,po,rfl,λq b=>?_⟩⟩;rw [a] at b;rw [h q eb];have:(page.take 4).getD q 0=page.getD q 0:=by
  rw [T6,T6,VP b]
 rw [this]
structure RpG (w:ZT) (v p r g N sz n1 f1 D L G:Nat) (Kind:aN->Prop) (ps:aN) (A:aA) (F:aR) (D1 L1 G1 t1 k:Nat) (up uq:ZS) (x:Nat) (wr:ZT):Prop where
 pk:∃ l:a9,l.length=min (k*sz) n1/\(∀ x∈l,x<256)/\wr.ownsRow w.heap.size 5 1 up (min (k*sz) n1) (aJ l)
 pg:∃ P:a9,P.length=k/\(0<k->P.getD 0 0=f1)/\wr.ownsRow w.heap.size 3 1 uq k (jJ P)
 nx:x<4294967296/\(k=0->x=f1)
 rd:∃ b gone sp,cP wr r v b g N gone sp
 row:∃ f,wr.rowIs g 31 N f
 kit:∃ ps',lu w v p D L G Kind ps N ps' wr
 arr:∃ rs,aj wr p (A.rd rs) F
 out:aa (λj=>F.has p A.n j\/j=v\/ps.bl j) w wr
 box:wr.heap[w.heap.size]?=ZW (Z4 (av D1 L1 G1 t1 f1 n1) 110 (0,0))
def aaV (w:ZT) (v p r g N sz n1 f1 D L G:Nat) (Kind:aN->Prop) (ps:aN) (A:aA) (F:aR) (D1 L1 G1 t1 K:Nat) (up uq nx i:ZS) (wr:ZT):Prop:=∃ k x:Nat,k<=K/\i=Z7 Z9 k/\nx=Z7 Z9 x/\RpG w v p r g N sz n1 f1 D L G Kind ps A F D1 L1 G1 t1 k up uq x wr
def ER:¬ jP 3:=vf
def Oj:¬ jP 110:=vf
def Mj {Kind:aN->Prop} {ps ps':aN} {A:aA} (a:RpG w v p r g N sz n1 f1 D L G Kind ps A F D1 L1 G1 t1 k up uq x wr) (hK:lu w v p D L G Kind ps N ps' wr) (hD:gq wr.drew r v y g N p D L G Kind ps' (A.rd rs) F size e w5) (re:∀ ps h,Kind ps->Kind (ps.SH h)) (i:∀ k,F.has p A.n k->k<w.heap.size) (J:v<w.heap.size) (hr:w.heap.size<r) (O:w.heap.size<g):aa (λj=>F.has p A.n j\/j=v\/ps.bl j) w w5/\(∃ b,lu w v p D L G Kind ps N b w5)/\(∃ rs,aj w5 p (A.rd rs) F)/\w5.heap[w.heap.size]?=ZW (Z4 (av D1 L1 G1 t1 f1 n1) 110 (0,0))/\(∀ {T:TypeId} {s n:Nat} {u:ZS} {xs:List ZS},wr.ownsRow w.heap.size T s u n xs->¬ jP T->T≠217->T≠31->w5.ownsRow w.heap.size T s u n xs):=by
 have:w.heap.size<=wr.heap.size:=a.out.size;have:wr.drew.heap.size=wr.heap.size:=rfl;obtain ⟨_,_,_,B⟩:=a.rd;obtain ⟨f0,o⟩:=a.row;refine ⟨(a.out.trans (aa.drew _)).later hD.out λj l h=>?_,?_,?_,?_,?_⟩
 . rcases h with h|h|h|h|h
   . omega
   . omega
   . exact .inr (.inl h)
   . exact .inl h
   . rcases hK.2.2.2.2.2 j h with q|q
     . exact .inr (.inr q)
     . omega
 . obtain ⟨b,k1,k2,k3,k4,E,H⟩:=hD.kitG re;refine ⟨b,k1,k2.trans hK.2.1,k3,by rw [<- hK.2.1];exact k4,E,λj l=>?_⟩;rcases H j l with q|q
   . exact hK.2.2.2.2.2 j q
   . exact .inr eb
 . obtain ⟨I,m⟩:=hD.arr;exact ⟨I,m⟩
 . refine (hD.out.block _ (TW.1 a.box).1 (λh=>?_)).trans a.box;rcases h with h|h|h|h|h
   . omega
   . omega
   . omega
   . have:=i _ h;omega
   . exact b8 hK.2.2.1 a.box Oj h
 . intro T s n u xs ho d f t;refine bZ (show wr.drew.ownsRow w.heap.size T s u n xs from ho) hD.out λq c h=>?_;rcases h with h|h|h|h|h
   . subst h;obtain ⟨cs,z,_⟩:=o;exact bF ho z t c
   . subst h;exact bF ho B f c
   . subst h;have:=dX ho c;omega
   . have d:=i q h;have:=dX ho c;omega
   . obtain ⟨cur,C⟩:=bL ho c;exact b8 hK.2.2.1 C d h
theorem CM {x' pl:Nat} {Kind:aN->Prop} {ps ps':aN} {A:aA} {v6:ZS} {o:Obj} (J:RpG w v p r g N sz n1 f1 D L G Kind ps A F D1 L1 G1 t1 k up uq x wr) (hK:lu w v p D L G Kind ps N ps' wr) (hD:gq wr.drew r v y g N p D L G Kind ps' (A.rd rs) F size e w5) (re:∀ ps h,Kind ps->Kind (ps.SH h)) (Q:∀ k,F.has p A.n k->k<w.heap.size) (ke:v<w.heap.size) (hr:w.heap.size<r) (W:w.heap.size<g)
 (hy:P.length=k) (hz:0<k->P.getD 0 0=f1) (K:w5.ownsRow w.heap.size 3 1 uq k (jJ P)) (hs:w6.ownsRow w.heap.size 3 1 v6 (k+1) (jJ P++[Z7 Z9 (x:Int)])) (i:(w5.alloc o).grownBy w6 uq.ownBlock) (C:w6.ownsRow w.heap.size 5 1 up pl (aJ l)) (ka:w7.ownsRow w.heap.size 5 1 v7 (pl+sk) (aJ l++aJ l2)) (c:w6.grownBy w7 up.ownBlock)
 (kb:k*sz=pl) (hl:l.length=pl) (k7:l2.length=sk) (k8:∀ x∈l,x<256) (Y:∀ x∈l2,x<256) (ki:min (n1-pl) sz=sk) (kg:pl<=n1) (kf:x'<4294967296):RpG w v p r g N sz n1 f1 D L G Kind ps A F D1 L1 G1 t1 (k+1) v7 v6 x' w7:=by
 obtain ⟨R,⟨m,k1,k2,k3,k4,k5,k6⟩,⟨rr,U⟩,H,_⟩:=Mj J hK hD re Q ke hr W;have kj:w.heap.size<=w5.heap.size:=R.size;have kk:w5.heap.size+1<=w6.heap.size:=by have:=i.size;simp at this;omega
 have M:=K.alloc o;have B:∀ {q:Nat} {cs:Array ZS} {T:TypeId} {z:Nat×Nat},w5.heap[q]?=ZW (Z4 cs T z)->3≠T->5≠T->w7.heap[q]?=w5.heap[q]?:=by
  intro q cs T z s t u;have kc:q<w5.heap.size:=(TW.1 s).1;have b:(w5.alloc o).heap[q]?=w5.heap[q]?:=Ut _ _ _ kc;have d:w6.heap[q]?=(w5.alloc o).heap[q]?:=i.block q en (λe=>by
   obtain ⟨cur,a⟩:=bL M e.symm;rw [b.trans s] at a;simp only [UC,U1] at a;exact t a.2.1.symm)
  refine (c.block q eb (λe=>?_)).trans (d.trans b);obtain ⟨cur,a⟩:=bL C e.symm;rw [(d.trans b).trans s] at a;simp only [UC,U1] at a;exact u a.2.1.symm
 have I:∀ q,q<w.heap.size->w7.heap[q]?=w5.heap[q]?:=λq s=>by
  have b:(w5.alloc o).heap[q]?=w5.heap[q]?:=Ut _ _ _ eb;have d:w6.heap[q]?=(w5.alloc o).heap[q]?:=i.block q en (λe=>eT (dX M e.symm));exact (c.block q eb (λe=>eT (dX C e.symm))).trans (d.trans b)
 have k9:(k+1)*sz=pl+sz:=by rw [Wz,kb]
 have S:min ((k+1)*sz) n1=pl+sk:=eb
 obtain ⟨gone,sp,O⟩:=hD.rd;refine ⟨⟨l++l2,by rw [T5,S,hl,k7],λx hx=>(Ub.1 hx).elim (k8 x) (Y x),by rw [S,bK];exact ka⟩,⟨P++[x],by rw [T5,hy];rfl,λ_=>?_,?_⟩,⟨kf,λe=>eb⟩,⟨y,gone,sp,O.keep (B O ec ec)⟩,?_,⟨m,k1,k2,m.keep _ _ k3 (λj E=>?_),k4.keep (B k4 ec ec),k5,k6⟩,⟨rr,U.keep λq s=>I q (Q q s)⟩,?_,(B H ec ec).trans H⟩
 . by_cases Z:0<k
   . have:=hz Z;rwa [show (P++[x]).getD 0 0=P.getD 0 0 by rw [T6,T6,U7 (eb:0<P.length)]]
   . have V:P=[]:=Wk.1 eb;subst V;exact J.nx.2 eb
 . have e:jJ (P++[x])=jJ P++[Z7 Z9 (x:Int)]:=(by unfold jJ;rw [Uu];rfl);rw [e];refine hs.kept c ?_;cases h8:v6.ownBlock with
   | none=>exact .inl rfl
   | some q=>
    refine .inr λe=>?_;obtain ⟨cur,X⟩:=bL hs h8;exact bF C X ec e.symm
 . obtain ⟨f,cs,t,u⟩:=hD.row;exact ⟨f,cs,(B t ec ec).trans t,u⟩
 . have k0:=m.lt _ k3 j E;have b:(w5.alloc o).heap[j]?=w5.heap[j]?:=Ut _ _ _ k0;have d:w6.heap[j]?=(w5.alloc o).heap[j]?:=i.block j en (λe=>by
    obtain ⟨cur,a⟩:=bL K e.symm;exact b8 k3 a ER E)
   refine (c.block j eb (λe=>?_)).trans (d.trans b);obtain ⟨cur,a⟩:=bL C e.symm;rw [d.trans b] at a;exact b8 k3 a pC E
 . exact R.later (T:=λq=>w.heap.size<=q) ⟨c.os.trans (i.os.trans rfl),c.tape.trans (i.tape.trans rfl),c.output.trans (i.output.trans rfl),eT c.size,λq _ kh=>I q eb⟩ (λq t u=>eb)
structure Ol (w:ZT) (v p D L G n1 f1:Nat) (Kind:aN->Prop) (ps:aN) (A:aA) (F:aR) (e:ZQ) (w':ZT):Prop where
 kit:∃ ps',lu w v p D L G Kind ps A.n ps' w'
 arr:∃ rs,aj w' p (A.rd rs) F
 out:aa (λj=>F.has p A.n j\/j=v\/ps.bl j) w w'
 ans:(∃ up uq l P,e=Z3 (ZY #[up,uq,.nilIface])/\l.length=n1/\Bs w' up l/\w'.ownsRow w.heap.size 3 1 uq P.length (jJ P)/\P.length=pgs D n1/\P.getD 0 0=f1/\P.length<=A.nb)\/e=Z3 (ZY #[Z5 ZX 0 0,Z5 ZX 0 0,iS 3])
structure RpD (w w4 w5:ZT) (r v y g N p D L G:Nat) (Kind:aN->Prop) (ps':aN) (A:aA) (F:aR) (sk pl k sz f1 x' pb po pc:Nat) (pa:Option Addr) (u5:ZS) (page l P:a9) (e:ZQ):Prop where
 dt:gq w4 r v y g N p D L G Kind ps' A F (4+sk) e w5
 pk5:w5.ownsRow w.heap.size 5 1 (.slice pa pl pc) pl (aJ l)
 pg5:w5.ownsRow w.heap.size 3 1 u5 k (jJ P)
 cell:IK w5 pb po (4+sk) page
 len:page.length=4+sk
 byt:∀ z∈page,z<256
 num:dh (page.take 4)=x'
 xlt:x'<4294967296
 bq:(Value.slice pa pl pc).ownBlock=ZX\/(Value.slice pa pl pc).ownBlock≠u5.ownBlock
 pq:u5.ownBlock≠ZW pb
 pp:(Value.slice pa pl pc).ownBlock≠ZW pb
 P1:P.length=k
 P2:0<k->P.getD 0 0=f1
 mul:k*sz=pl
 ll:l.length=pl
 lx:∀ z∈l,z<256
def Om (h:4<=page.length) (a:∀ z∈page,z<256):dh (page.take 4)<4294967296:=by
 have e:page.take 4=[page.getD 0 0,page.getD 1 0,page.getD 2 0,page.getD 3 0]:=by
  refine U4 (by rw [Ud];simp;omega) λi k b=>?_;have c:i<4:=vE b
  match i,c with
  | 0,_|1,_|2,_|3,_=>simp [WW,T6,T2 (eb:0<page.length),T2 (eb:1<page.length),T2 (eb:2<page.length),T2 (eb:3<page.length)]
 have:=bh a 0;have:=bh a 1;have:=bh a 2;have:=bh a 3;rw [e];unfold dh;simp only [Wf,List.foldl_nil];omega
theorem wt {Kind:aN->Prop} {ps:aN} {A:aA} (ho:oe w ar v p ps D L G A F) (C:bf w ar v D' L' G' t f nn pg ob off) (hv:mu D L G Kind ps A.n) (xo:A.nb<=1000) (xg:f1<4294967296) (y4:n1<4294967296) :
 ZR ZO 134 #[Z6 (ZW ⟨ar,0,ZX⟩),.agg (av D1 L1 G1 t1 f1 n1)] w (Ol w v p D L G n1 f1 Kind ps A F):=by
 obtain ⟨ib,x2,kp,kr,ks⟩:=Ur Tryz.Sj;obtain ⟨ii,x3,kv,kx,ky⟩:=Ur Tryz.SF;have q4:=ho.par.d1;have qb:=ho.par.d;have U:=ho.vol.vol.lt;have x7:=ho.vol.room;have b:∀ k,F.has p A.n k->k<w.heap.size:=λk hk=>ho.vol.arr.RQ hk;have M:(w.alloc (Z4 (av D1 L1 G1 t1 f1 n1) 110)).heap[w.heap.size]?=ZW (Z4 (av D1 L1 G1 t1 f1 n1) 110 (0,0)):=T9 _ _;have c:bW w (w.alloc (Z4 (av D1 L1 G1 t1 f1 n1) 110)):=bA w _;have q8:(w.alloc (Z4 (av D1 L1 G1 t1 f1 n1) 110)).heap.size=w.heap.size+1:=ek
 obtain ⟨w1,qp⟩:=nM (w.alloc (Z4 (av D1 L1 G1 t1 f1 n1) 110));rw [qp] at M c q8;have cl:w1.cell? ⟨w.heap.size,5,ZX⟩=ZW (Z7 Z9 n1):=by simp [World.cell?,M,av]
 have cf:w1.cell? ⟨w.heap.size,4,ZX⟩=ZW (Z7 Z9 f1):=by simp [World.cell?,M,av]
 have Y:=C.keep (c.block _ C.lt);have E:=ho.below c;obtain ⟨d0,_⟩:=Y.cells;have qi:=gG Y E.vol.vol q4 eb n1 eb;have qa:=jt E.vol.vol E.vol.arr E.fit (eT ho.n);obtain ⟨K,hK⟩:=nM (pgs D n1);obtain ⟨NB,I⟩:=nM (A.nb);rw [I] at xo;rw [hK] at qi;rw [I] at qa;have H:=hide9 Y E M c q8 qi qa hK I;have xy:w.alloc (Z4 #[Z7 Z9 D1,Z7 Z9 L1,Z7 Z9 G1,Z7 Z8 t1,Z7 Z9 f1,Z7 Z9 n1] 110)=w1:=qp;have HV:=a5 ho C b U;clear ho C M c Y E qi qa q8 qp hK I b;unfold av;go_enter func134,ntmps134;go_wp2_with fail;refine H.out.2.2.2.2.2.1.mono ?_;rintro e w2 ⟨rfl,B⟩;obtain rfl:w1=w2:=B.symm;clear B;go_wp2_with fail;refine H.out.2.2.2.2.2.2.1.mono ?_;rintro e w2 ⟨rfl,B⟩;obtain rfl:w1=w2:=B.symm;clear B;by_cases y1:NB<K
 . have xc:(K:Int)>(NB:Int):=eb;go_wp2;go_ret3
   obtain ⟨ho,_⟩:=HV.out;have c:=H.out.2.2.2.1;exact ⟨⟨ps,hv.kind,rfl,ps.keep _ _ ho.kit (λk hk=>c.block k (ps.lt _ ho.kit k hk)),ho.vol.vol.keep (c.block _ ho.vol.vol.lt),hv.hol,λ_ q=>.inl q⟩,⟨A.reads,ho.vol.arr.below c lR⟩,aa.RO c _,.inr rfl⟩
 have xc:¬ (K:Int)>(NB:Int):=eb
 have q2:=qR (H.out.2.1.vol.vol.keep (w':=w1.drew) rfl) qb H.out.2.1.par.l4 H.out.2.1.par.g H.out.2.1.n;go_upto_region 4 with fail;go_cut [8,9] from 25 to 31 (λv8 v9 wx=>v8=Z7 Z9 (f1:Int)/\v9=Z6 (ZW ⟨w1.heap.size+2,0,ZX⟩)/\cP wx (w1.heap.size+2) v 0 (w1.heap.size+1) A.n 0 0/\wx.rowIs (w1.heap.size+1) 31 A.n vX/\bW w1 wx)
 case first=>
  go_region_with (go_at_call 81;refine q2.mono ?_;rintro e w3 ⟨rfl,x5,W,R⟩;have V:=aE x5 W R;clear x5 W R;have qr:w3.cell? ⟨w.heap.size,4,ZX⟩=ZW (Z7 Z9 f1):=(V.out.2.2.cell (p:=⟨w.heap.size,4,ZX⟩) (T8 cf)).trans cf);all_goals (go_wp2_with fail;go_meet;case rel=>exact ⟨rfl,rfl,V.out.1,V.out.2.1,(TX _ w1).drew.trans V.out.2.2⟩)
 case rest=>
  obtain ⟨rfl,rfl,ke,W,R⟩:=hcut;rename ZT=>w3;obtain ⟨Y,E,M,c,q8,xz,y0,hK,I⟩:=H.out;clear xz y0 q2;have km:=(R.block _ eb).trans M;obtain ⟨ho,C,b,_⟩:=HV.out;have qx:aa (λj=>F.has p A.n j\/j=v\/ps.bl j) w w3:=aa.RO (c.trans (R.mono eb)) _;have q6:=E.below R;obtain ⟨r,qk⟩:=nM (w1.heap.size+2);obtain ⟨g,qc⟩:=nM (w1.heap.size+1);rw [qk,qc] at ke;rw [qc] at W;rw [qk];have xh:r≠g:=eb
  have y2:w.heap.size+1<g:=eb
  have y5:w.heap.size+1<r:=eb
  obtain ⟨sz,qm⟩:=nM (D*44-4);have qv:RpG w v p r g A.n sz n1 f1 D L G Kind ps A F D1 L1 G1 t1 0 (Z5 ZX 0 0) (Z5 ZX 0 0) f1 w3:=
   ⟨⟨[],by rw [Xe,YD];rfl,(λx hx=>by cases hx),by rw [Xe,YD];exact UB _ _ _ _⟩,⟨[],rfl,λh=>absurd h (Nat.lt_irrefl _),UB _ _ _ _⟩,⟨xg,λ_=>rfl⟩,⟨0,0,0,ke⟩,⟨_,W⟩,⟨ps,hv.kind,rfl,q6.kit,q6.vol.vol,hv.hol,λ_ q=>.inl q⟩,⟨A.reads,q6.vol.arr⟩,qx,km⟩
  have V:=al qv;have xd:K<=1000:=eb
  have qn:40<=sz/\sz<=524:=eb
  have X:=FY (n:=n1) q4;rw [hK,qm] at X;have kz:∀ k,k<K->k*sz<=n1:=λk hk=>by
   have:=Oi (n:=n1) q4 (k:=k) eb;rw [qm] at this;exact this
  have xn:n1<=524000:=TU X (TU (WT xd qn.2) ec);have HK:=a5 hK I X kz;clear Y E M c ke W q6 km qx R qv cl cf d0 qk qc hK I X kz ho C b;go_wp2_with fail;go_loopw [4,5,8,33] (λup uq nx i wr=>aaV w v p r g A.n sz n1 f1 D L G Kind ps A F D1 L1 G1 t1 K up uq nx i wr) (λ_ _ _ i _=>K-(intOf i).toNat)
  case atStart=>exact ⟨0,f1,T3 _,rfl,rfl,V.out⟩
  case round=>
   obtain ⟨k,x,y3,rfl,rfl,o⟩:=hrel;by_cases xk:k<K
   . have q5:=HK.out.2.2.2 k xk;obtain ⟨⟨l,hll,T,hr⟩,⟨P,J,hs,q7⟩,x4,⟨b0,gone,sp,x6⟩,⟨f0,q3⟩,⟨ps',kj⟩,⟨rs,hi⟩,hO,kk⟩:=id o;rw [VV q5] at hr hll;obtain ⟨pa,pc,rfl⟩:=bM hr;obtain ⟨pl,Z⟩:=nM (k*sz);obtain ⟨ho,C,b,_⟩:=HV.out;have qh:=ho.got hO hi kj;have q9:=ho.R3 hO C;obtain ⟨ca,_⟩:=q9.cells;have cn:wr.cell? ⟨w.heap.size,5,ZX⟩=ZW (Z7 Z9 n1):=(by simp [World.cell?,kk,av]);have qj:=j9 (w:=wr.drew) (q9.keep rfl) (qh.vol.vol.keep rfl) q4 eb;rw [qm] at qj;obtain ⟨sk,x8⟩:=nM (min (n1-pl) sz);rw [Z] at q5 hr hll ⊢;have qg:∀ hb ty w,(Builtin.min_ hb ty #[Z7 Z9 ((n1:Int)-(pl:Int)),Z7 Z9 (sz:Nat)]).run ZO w=.ok (Z7 Z9 (sk:Nat)) w:=λhb ty w=>by
      rw [gy];by_cases h1:((sz:Nat):Int)<(n1:Int)-(pl:Int)
      . rw [if_pos h1,(eb:sk=sz)]
      . rw [if_neg h1,(eb:(sk:Int)=(n1:Int)-(pl:Int))]
     have xp:IntKind.i64.wrap ((n1:Int)-(pl:Int))=(n1:Int)-(pl:Int):=iE;have x9:=(qh.below ((TX _ wr).drew)).stp (Kind:=Kind) kj.1 kj.2.2.2.2.1 (r:=r) (g:=g) (y:=x) eb eb xh (λe=>eT (b _ e)) (λe=>eT (b _ e)) eb eb;have x0:=CK x9 hv.sh (x6.keep rfl) (q3.of_block rfl) (4+sk) ((4+sk+43)/44) rfl eb;have Q:=a5 o kj b U;have HR:=hide9 x0 hr q7 hll T J hs Z qj;clear o kj b x0 hr q7 hll T J hs Z qj x9 qh q9 ho C x6 q3 hi hO kk x4;go_upto_region 7 with fail;go_cut [10] from 35 to 42 (λv10 wx=>v10=Z7 Z9 (sk:Int)/\wx=wr.drew)
     case first=>
      go_region_with (go_at_call 121;refine HR.out.2.2.2.2.2.2.2.2.mono ?_;rintro e wq ⟨rfl,rfl⟩);all_goals (go_wp2_with fail;go_meet;case rel=>exact ⟨rfl,rfl⟩)
     case rest=>
      obtain ⟨rfl,rfl⟩:=hcut;clear ca cn qg xp;have y7:IntKind.i64.wrap ((4:Int)+(sk:Int))=(4:Int)+(sk:Int):=iE;go_wp2_with fail;rw [(eb:(4:Int)+(sk:Int)=((4+sk:Nat):Int))];refine HR.out.1.mono ?_;intro e w5 ki;have hg:=Mj Q.out.1 Q.out.2.1 ki hv.re Q.out.2.2.1 U eb eb;rcases ki.ans with ⟨u,page,rfl,hf,qz,x1,ko⟩|rfl;rotate_left
      . have HF:=al hg;clear hg ki;go_wp2;go_ret3
        obtain ⟨xe,xi,xf,_⟩:=HF.out;exact ⟨xi,xf,xe,.inr rfl⟩
      obtain ⟨ao,uc,N,xa,_,k6,h5⟩:=id qz;rw [hf] at N xa h5;obtain ⟨pb,po,rfl,hq⟩:=h5 (λe=>by rw [e] at hf;have h0:(0:Nat)=4+sk:=hf;omega);subst N;have qo:uc=4+sk:=by
       obtain ⟨hd,n',xm⟩:=ko;injection xm with h1 h2 h3;omega
      subst qo;obtain ⟨qy,_,_,_,qf⟩:=hg;obtain ⟨_,kb,k9,hll,T,J,hs,Z,_⟩:=HR.out;have xq:wr.heap.size<=pb:=x1 pb rfl;have kc:=qf kb pC ec ec;have ka:=qf k9 ER ec ec;have y9:=qy.size;obtain ⟨x',qq⟩:=nM (dh (page.take 4));have xb:=Om (page:=page) eb k6;rw [qq] at xb;have a:Hid (RpD w wr.drew w5 r v x g A.n p D L G Kind ps' (A.rd rs) F sk pl k sz f1 x' pb po pc pa u5 page l P _):=al ⟨ki,kc,ka,hq,hf,k6,qq,xb,by
       cases h8:(Value.slice pa pl pc).ownBlock with
       | none=>exact .inl rfl
       | some q=>
        refine .inr λe=>?_;obtain ⟨cur,hc⟩:=bL kc h8;exact bF ka hc ec e.symm,λe=>by
       obtain ⟨cur,hc⟩:=bL k9 e;have:=(TW.1 hc).1;omega,λe=>by
       obtain ⟨cur,hc⟩:=bL kb e;have:=(TW.1 hc).1;omega,J,hs,Z,hll,T⟩
      clear ki kc ka hq hf k6 qq qy qf kb k9 hll T J hs Z qz h5 x1 ko xa HR;have y8:IntKind.i64.wrap (x':Int)=(x':Int):=iE;have xx:sk<=1000000:=eb;by_cases xv:sk=0
      . subst xv;go_wp2_with (first
         | (show wpList _ _ _ ({ dst:=ZW 57,op:=_,type:=_,pos:=_,after:=_,guard:=_ }::_) _ _;refine XX _ rfl (Z0 54) (Z0 56) 111 rfl w.heap.size 3 ii (Z7 Z9 0) 1 8 XM x3 kv kx ky rfl ec u5 k (jJ P) rfl (by exact a.out.pg5.alloc _) ⟨w5.heap.size,0,ZX⟩ 1 1 _ rfl rfl (lD w5 _ _) (by intro u N;simp at N;subst N;rfl) eD eb en ?_;intro v6 w6 q0 s qd hy;have m:=a5 q0 s ((a.out.pk5.alloc _).kept s a.out.bq) ((a.out.cell.alloc _).grown s a.out.pq);have qs:=s.size;clear q0 s qd hy)
         | (show wpList _ _ _ ({ dst:=ZW 61,op:=_,type:=_,pos:=_,after:=_,guard:=_ }::_) _ _;refine af _ rfl (Z0 58) (Z0 60) 31 31 rfl w.heap.size 5 ib (Z7 .u8 0) 1 1 Ui x2 kp kr ks rfl (.slice pa pl pc) pl (aJ l) l3 abD _ l3 0 ([]) (by exact IK.src0) eD eb (by simp at qs;omega) ?_;intro v7 w7 q1 S k0;have O:=aE q1 S (m.out.2.2.2.grown S a.out.pp);clear q1 S k0))
        refine (pN _ (page.take 4) w7 (O.out.2.2.head eb eb a.out.len a.out.byt)).mono ?_;rintro e w8 ⟨rfl,B⟩;obtain rfl:w7=w8:=B.symm;clear B;rw [a.out.num];go_wp2;go_roundw
        case rel=>
         obtain ⟨o,hK,b,U⟩:=Q.out;rw [a.out.mul] at o;exact ⟨k+1,x',eb,e8,rfl,CM (l2:=page.drop 4) o hK a.out.dt hv.re b U eb eb a.out.P1 a.out.P2 a.out.pg5 m.out.1 m.out.2.1 m.out.2.2.1 (by have h9:=O.out.1;rw [show page.drop 4=[] from Wk.1 (by rw [Ue,a.out.len])];exact h9) O.out.2.1 a.out.mul a.out.ll (by have:=a.out.len;rw [Ue];omega) a.out.lx (λz hz=>a.out.byt z (UV hz)) x8 q5 a.out.xlt⟩
        case measure=>simp [intOf];omega
      . have y6:¬ 4+sk-4=0:=eb;go_wp2_with (first
         | (show wpList _ _ _ ({ dst:=ZW 57,op:=_,type:=_,pos:=_,after:=_,guard:=_ }::_) _ _;refine XX _ rfl (Z0 54) (Z0 56) 111 rfl w.heap.size 3 ii (Z7 Z9 0) 1 8 XM x3 kv kx ky rfl ec u5 k (jJ P) rfl (by exact a.out.pg5.alloc _) ⟨w5.heap.size,0,ZX⟩ 1 1 _ rfl rfl (lD w5 _ _) (by intro u N;simp at N;subst N;rfl) eD eb en ?_;intro v6 w6 q0 s qd hy;have m:=a5 q0 s ((a.out.pk5.alloc _).kept s a.out.bq) ((a.out.cell.alloc _).grown s a.out.pq);have qs:=s.size;clear q0 s qd hy)
         | (show wpList _ _ _ ({ dst:=ZW 61,op:=_,type:=_,pos:=_,after:=_,guard:=_ }::_) _ _;refine af _ rfl (Z0 58) (Z0 60) 31 31 rfl w.heap.size 5 ib (Z7 .u8 0) 1 1 Ui x2 kp kr ks rfl (.slice pa pl pc) pl (aJ l) l3 abD _ l3 sk (aJ (page.drop 4)) (by exact m.out.2.2.2.src a.out.len) eD eb (by simp at qs;omega) ?_;intro v7 w7 q1 S k0;have O:=aE q1 S (m.out.2.2.2.grown S a.out.pp);clear q1 S k0))
        refine (pN _ (page.take 4) w7 (O.out.2.2.head eb eb a.out.len a.out.byt)).mono ?_;rintro e w8 ⟨rfl,B⟩;obtain rfl:w7=w8:=B.symm;clear B;rw [a.out.num];go_wp2;go_roundw
        case rel=>
         obtain ⟨o,hK,b,U⟩:=Q.out;rw [a.out.mul] at o;exact ⟨k+1,x',eb,e8,rfl,CM (l2:=page.drop 4) o hK a.out.dt hv.re b U eb eb a.out.P1 a.out.P2 a.out.pg5 m.out.1 m.out.2.1 m.out.2.2.1 O.out.1 O.out.2.1 a.out.mul a.out.ll (by have:=a.out.len;rw [Ue];omega) a.out.lx (λz hz=>a.out.byt z (UV hz)) x8 q5 a.out.xlt⟩
        case measure=>simp [intOf];omega
   . have xj:k=K:=eb;subst xj;have Q:=al o;clear o;go_wp2;go_ret3
     obtain ⟨⟨l,hll,T,hr⟩,⟨P,J,hs,q7⟩,x4,_,_,qe,hi,hO,_⟩:=Q.out;obtain ⟨hK,I,X,_⟩:=HK.out;rw [Nat.min_eq_right X] at hll hr;refine ⟨qe,hi,hO,.inl ⟨_,_,l,P,rfl,hll,Bs.Sq hr T eb,by rw [J];exact q7,by rw [J,hK],hs (by rw [<- hK];unfold pgs;omega),eb⟩⟩
end
theorem Bs.TN {v:ZS} (h:w.ownsRow base 5 1 v n (aJ l)) (c:∀ x∈l,x<256) (hl:l.length<=1000000000):Bs w v l:=by
 have i:l.length=n:=by have:=h.1;rw [aW] at this;omega
 rcases h.2 with ⟨rfl,q⟩|⟨g,cap,cur,rfl,j,d,m,o,p,e⟩
 . have:l=[]:=Wk.1 eb;subst this;exact ⟨ZX,0,rfl,TV _,ec,c,λh=>absurd rfl h⟩
 . refine ⟨ZW ⟨g,0,ZX⟩,cap,by rw [i],eb,eb,c,λ_=>⟨g,0,rfl,λk b=>?_⟩⟩;have a:=congrArg (λl=>l[k]?) e;simp only [VW,aJ] at a;rw [VP eb,Yc,Ul,T2 b] at a;have f:l.getD k 0=l[k]:=(by simp [T6,b]);rw [f];simp only [Uc,World.cell?,d];exact a
def sF (os:List Ob) (sv:Nat->ZS) (k:Nat):List ZS:=(YC k).flatMap λi=>[ZZ (os.getD i sq).name,Z7 Z9 ((os.getD i sq).size:Nat),sv i]
def FZ (os:List Ob) (sv:Nat->ZS):∀ k,(sF os sv k).length=k*3
 | 0=>rfl
 | k+1=>by
  unfold sF;rw [Vl,Wx,T5];have:=FZ os sv k;unfold sF at this;rw [this];simp;omega
def jO (os:List Ob) (sv:Nat->ZS) (k:Nat):sF os sv (k+1)=sF os sv k++[ZZ (os.getD k sq).name,Z7 Z9 ((os.getD k sq).size:Nat),sv k]:=by
 unfold sF;rw [Vl,Wx];simp
def IL {sv':Nat->ZS} (h:∀ i,i<k->sv i=sv' i):sF os sv k=sF os sv' k:=by
 induction k with
 | zero=>rfl
 | succ k ih=>rw [jO,jO,ih (λi a=>h i eb),h k eb]
def ES (os:List Ob) (sv:Nat->ZS):∀ (k i:Nat),i<k->(sF os sv k)[i*3]?=ZW (ZZ (os.getD i sq).name)/\(sF os sv k)[i*3+1]?=ZW (Z7 Z9 ((os.getD i sq).size:Nat))/\(sF os sv k)[i*3+2]?=ZW (sv i)
 | k+1,i,hi=>by
  have hl:=FZ os sv k;rw [jO];by_cases h:i<k
  . obtain ⟨a,b,c⟩:=ES os sv k i h;rw [U7 eb,U7 eb,U7 eb];exact ⟨a,b,c⟩
  . have e:i=k:=eb;subst e;rw [Vp eb,Vp eb,Vp eb,hl,(eb:i*3-i*3=0),(eb:i*3+1-i*3=1),(eb:i*3+2-i*3=2)];exact ⟨rfl,rfl,rfl⟩
def ET {v:ZS} (h:w.ownsRow base 130 3 v os.length (sF os sv os.length)) (hl:os.length<=1000000) (hK:∀ k,base<=k->K k) (q:∀ i (a:i<os.length),bp K w (sv i) os[i].RM):fa K w v os:=by
 rcases h.2 with ⟨o,p⟩|⟨g,cap,cur,f,m,n,_⟩
 . have:os=[]:=Wk.1 p;subst this;rw [o];exact fa.nil _ _
 . refine ⟨ZW ⟨g,0,ZX⟩,cap,f,hl,λ_=>⟨g,0,rfl,hK g m,(TW.1 n).1,λi a=>?_⟩⟩;obtain ⟨c,d,l⟩:=ES os sv os.length i a;have e:os.getD i sq=os[i]:=(by simp [T6,a]);rw [e] at c d;have b:∀ j u,(sF os sv os.length)[j]?=ZW u->w.cell? ⟨g,j,ZX⟩=ZW u:=λj u r=>by
    have:=h.cells (g:=g) (by rw [f];rfl) j u r;rwa [jU] at this
   refine ⟨sv i,?_,?_,?_,q i a⟩
   . rw [Uc];exact b _ _ c
   . rw [Uc];exact b _ _ d
   . rw [Uc];exact b _ _ l
def packL_le:∀ {l:List Ob},(∀ o∈l,o.fit)->(aG l).length<=l.length*5000
 | [],_=>by simp [aG]
 | o::l,h=>by
  have:=packL_le (l:=l) (λx b=>h x (Ux _ b));have a:=h o (UO ..);have:=a.len;have e:aG (o::l)=gT o++aG l:=rfl;rw [e,T5,fY a,Um];omega
structure Q1 (w:ZT) (os:List Ob) (k:Nat) (rs:a9) (cv rv:ZS) (sv:Nat->ZS) (wr:ZT):Prop where
 rest:Bs w rv rs
 own:wr.ownsRow w.heap.size 130 3 cv k (sF os sv k)
 ints:∀ i (hi:i<os.length),i<k->bp (λb=>w.heap.size<=b/\cv.ownBlock≠ZW b) wr (sv i) os[i].RM
 below:bW w wr
def On {w4:ZT} {rs rs':a9} {sc:Nat} {v5 bv:ZS} {nm:ByteArray} {sa:Option Addr} (G:k<os.length) (g:Q1 w os k rs cv rv sv wr) (v:bW wr w2) (F:bp (λb=>wr.heap.size<=b) w2 (.slice sa m sc) os[k].RM) (E:Bs w bv rs')
 (x:bW w2 w4) (H:os[k].name=nm) (J:os[k].size=sz) (I:w5.ownsRow w.heap.size 130 3 v5 (k+1) (sF os sv k++[ZZ nm,Z7 Z9 (sz:Int),.slice sa m sc])) (f:(w4.alloc (Z4 #[ZZ nm,Z7 Z9 (sz:Int),.slice sa m sc] 130)).grownBy w5 cv.ownBlock)
 (s:v5.ownBlock=cv.ownBlock\/v5.ownBlock=ZW (w4.alloc (Z4 #[ZZ nm,Z7 Z9 (sz:Int),.slice sa m sc] 130)).heap.size):Q1 w os (k+1) rs' v5 bv (λi=>if i=k then .slice sa m sc else sv i) w5:=by
 have C:bW w4 (w4.alloc (Z4 #[ZZ nm,Z7 Z9 (sz:Int),.slice sa m sc] 130)):=bA w4 _;have:(w4.alloc (Z4 #[ZZ nm,Z7 Z9 (sz:Int),.slice sa m sc] 130)).heap.size=w4.heap.size+1:=ek
 have K:=v.size;have L:=x.size;have M:=g.below.size;have t:bW w2 (w4.alloc (Z4 #[ZZ nm,Z7 Z9 (sz:Int),.slice sa m sc] 130)):=x.trans (C.mono L);have u:bW wr (w4.alloc (Z4 #[ZZ nm,Z7 Z9 (sz:Int),.slice sa m sc] 130)):=v.trans (t.mono K);have y:∀ b,cv.ownBlock=ZW b->b<wr.heap.size:=λb a=>by
  obtain ⟨cur,D⟩:=bL g.own a;exact (TW.1 D).1
 have e:os.getD k sq=os[k]:=by simp [T6,G]
 refine ⟨E,?_,λi A hr=>?_,?_⟩
 . rw [jO,e,H,J,if_pos rfl];rw [IL (sv':=sv) (λi A=>if_neg eb)];exact I
 . by_cases z:i=k
   . subst z;rw [if_pos rfl];have l:bp (λb=>wr.heap.size<=b/\b<w2.heap.size) w2 (.slice sa m sc) os[i].RM:=by
      obtain ⟨ao,c,q1,q2,n⟩:=F;refine ⟨ao,c,q1,q2,λhl=>?_⟩;obtain ⟨b,off,o,p,j,r⟩:=n hl;exact ⟨b,off,o,⟨p,j⟩,j,r⟩
     refine (l.keep (w':=w5) ⟨eT f.size,λb a d=>?_⟩).weaken λb d=>⟨eb,λq=>?_⟩
     . exact (f.block b eb (λq=>eT (y b q.symm))).trans (t.block b a)
     . rcases s with h|h
       . rw [h] at q;have:=y b q;omega
       . rw [h] at q;have:=UA q;omega
   . rw [if_neg z];have l:=g.ints i A eb;have B:bp (λb=>(w.heap.size<=b/\cv.ownBlock≠ZW b)/\b<wr.heap.size) wr (sv i) os[i].RM:=by
      obtain ⟨ao,c,q1,q2,n⟩:=l;refine ⟨ao,c,q1,q2,λhl=>?_⟩;obtain ⟨b,off,o,p,j,r⟩:=n hl;exact ⟨b,off,o,⟨p,j⟩,j,r⟩
     refine (B.keep (w':=w5) ⟨eT f.size,λb a d=>?_⟩).weaken λb d=>⟨d.1.1,λq=>?_⟩
     . exact (f.block b eb (λq=>d.1.2 q.symm)).trans (u.block b a)
     . rcases s with h|h
       . rw [h] at q;exact d.1.2 q
       . rw [h] at q;have:=UA q;omega
 . exact (g.below.trans (u.mono M)).grown f eb (λb a=>dX g.own a)
def CN (os:List Ob) (o:Ob) (sv:Nat->ZS):∀ k,k<=os.length->sF (os++[o]) sv k=sF os sv k
 | 0,_=>rfl
 | k+1,h=>by
  rw [jO,jO,CN os o sv k eb,show (os++[o]).getD k sq=os.getD k sq by simp [T6,U7 (eb:k<os.length)]]
def CO (os:List Ob) (o:Ob) (sv:Nat->ZS):sF (os++[o]) sv os.length=sF os sv os.length:=CN os o sv _ lR
def Q1.more {rs:a9} (h:Q1 w os os.length rs cv rv sv wr) (o:Ob):Q1 w (os++[o]) os.length rs cv rv sv wr:=by
 refine ⟨h.rest,?_,λi b a=>?_,h.below⟩
 . rw [CO];exact h.own
 . rw [WZ a];exact h.ints i a a
def UpR (w:ZT) (ss M:Nat) (cv rv:ZS) (wr:ZT):Prop:=∃ (os:List Ob) (rs:a9) (sv:Nat->ZS),Q1 w os os.length rs cv rv sv wr/\(∀ o∈os,o.fit/\o.RM.length=max 1 ((o.size+ss-1)/ss))/\ui os/\os.length*19+rs.length<=M
def EU (w:ZT) (x y z:ZS) (t:TypeId):∀ j u,[x,y,z][j]?=ZW u->(w.alloc (Z4 #[x,y,z] t)).cell? ((⟨w.heap.size,0,ZX⟩:Addr).add j)=ZW u:=by
 intro j u h;rw [jU];match j,h with
 | 0,h=>simp at h;subst h;simp only [World.cell?,T9 w (Z4 #[x,y,z] t)];rfl
 | 1,h=>simp at h;subst h;simp only [World.cell?,T9 w (Z4 #[x,y,z] t)];rfl
 | 2,h=>simp at h;subst h;simp only [World.cell?,T9 w (Z4 #[x,y,z] t)];rfl
 | j+3,h=>simp at h
def QA (w:ZT) (l:a9) (ss:Nat) (e:ZQ) (w':ZT):Prop:=bW w w'/\((∃ o os,e=Z3 (ZY #[o,Z1 ZV])/\aG os=l/\(∀ o∈os,o.fit/\o.RM.length=max 1 ((o.size+ss-1)/ss))/\ui os/\fa (λk=>w.heap.size<=k) w' o os)\/e=Z3 (ZY #[Z5 ZX 0 0,Z1 ZU]))
def QB:ZS->Nat
 | .slice _ n _=>n
 | _=>0
def CP {o:Ob} (h:ui os) (hl:os≠[]->QY o.name (os.getD (os.length-1) sq).name=ZU):ui (os++[o]):=by
 intro i d;have:i+1<os.length+1:=vE d
 by_cases e:i+1<os.length
 . have b:=h i e;rwa [show (os++[o]).getD i sq=os.getD i sq by simp [T6,U7 (eb:i<os.length)],show (os++[o]).getD (i+1) sq=os.getD (i+1) sq by simp [T6,U7 e]]
 . have a:i+1=os.length:=eb;have c:os≠[]:=λq=>by rw [q] at a;simp at a
   have b:=hl c;rw [(eb:os.length-1=i)] at b;rw [show (os++[o]).getD i sq=os.getD i sq by simp [T6,U7 (eb:i<os.length)],show (os++[o]).getD (i+1) sq=o by rw [a];simp [T6]];exact b
theorem EV {v:ZS} (d:Nat) (k9:44<=d/\d<=1000000) (hB:Bs w v l) (hl:l.length<=190000) :
 ZR ZO 135 #[v,Z7 Z9 d] w λe w'=>QA w l d e w':=by
 have qe:1<=d/\d<=1000000:=eb
 obtain ⟨ao,c,hv,_,_,qh,_⟩:=id hB;obtain ⟨M,hM⟩:=nM (l.length);rw [hM] at hv hl;subst hv;have Z:=aE hB hM qh;clear hB hM qh;go_enter func135,ntmps135;go_wp2_with fail;go_loopw [6,7] (λcv rv wr=>UpR w d M cv rv wr) (λ_ rv _=>QB rv)
 case atStart=>exact ⟨[],l,λ_=>Z5 ZX 0 0,⟨Z.out.1,UB _ _ _ _,λi _ h=>absurd h (Nat.not_lt_zero _),TX _ _⟩,λo h=>Bf,λi h=>(by simp at h),by rw [Z.out.2.1];simp⟩
 case round=>
  obtain ⟨os,rs,sv,f,s,A,kf⟩:=hrel;by_cases q6:0<rs.length
  . have U:=f.rest;have C:Bs wr _ rs:=f.rest.mono f.below;obtain ⟨R,rc,t,k7,k8,q8,hh⟩:=id C;obtain ⟨rb,ro,rfl,_⟩:=hh (Xl.1 q6);obtain ⟨bl,E⟩:=nM (rs.length);rw [E] at t q6 kf;rw [t] at C;obtain ⟨z,cc,F⟩:=bM f.own;obtain ⟨k,r⟩:=nM (os.length);rw [r] at F kf;by_cases q2:bl<19\/rs.getD 0 0<1\/16<rs.getD 0 0\/1500<dh ((rs.drop 17).take 2)\/bl<19+4*max 1 ((dh ((rs.drop 17).take 2)+d-1)/d)
    . have Q:=rT d C E.symm q6 eb qe q2;have a:=au f Q;clear f s A C U k7 k8 hh q8 E q2 Q r;subst t F;go_wp2_with fail;refine a.out.2.mono ?_;rintro e w2 ⟨rfl,q⟩;have j:=al q;clear q;unfold aai;go_wp2_with fail;go_quiet (fail);go_wp2;go_ret2;have qm:∀ (X:ZT) (n:Nat),bW X (X.drewN n):=λX n=>⟨rfl,rfl,rfl,TV _,λ_ _=>rfl⟩;have qk:=((TX _ w2).alloc lR (Z4 #[.string ⟨#[]⟩,Z7 Z9 0,Z5 ZX 0 0] 130)).trans ((qm _ nq).mono ek);exact ⟨(a.out.1.below.trans (j.out.mono a.out.1.below.size)).trans (qk.mono (TU a.out.1.below.size j.out.size)),.inr rfl⟩
    . have x4:19<=bl:=eb;have hz:max 1 ((dh ((rs.drop 17).take 2)+d-1)/d)<=1000:=by
       have h1:=LC d (dh ((rs.drop 17).take 2)) eb;have h2:dh ((rs.drop 17).take 2)/d<=1500/44:=TU (XS eb) (XU k9.1 ec);omega
      obtain ⟨o,rest,V,L,hol,qb⟩:=Qt q8 (m:=max 1 ((dh ((rs.drop 17).take 2)+d-1)/d)) ⟨eb,eb⟩ eb hz (by rw [E];omega);rw [<- qb] at hol;have Q:=rS d C E.symm V L qe hol (eT V.len);have km:rest.length+19<=bl:=(eT V.len);rw [t] at U;have a:=hide8 f Q U s A r L hol;clear f s A C U k7 k8 hh q8 E q2 Q r V L hol qb hz;subst t F;go_wp2_with fail;refine a.out.2.1.mono ?_;rintro e w2 ⟨⟨sa,B,bv,rfl,kc,hy⟩,q⟩;have hs:=hy w a.out.2.2.1;clear hy;have j:=aE kc hs q;obtain ⟨qr,bc,qa,_⟩:=id hs;obtain ⟨bn,kk⟩:=nM (rest.length);rw [kk] at qa km;subst qa;have qi:=al kk;clear kc hs q kk;have kh:bW w2 (w2.alloc (Z4 #[ZZ o.name,Z7 Z9 (o.size:Nat),.slice sa o.RM.length B] 130)):=bA w2 _;have O:(w2.alloc (Z4 #[ZZ o.name,Z7 Z9 (o.size:Nat),.slice sa o.RM.length B] 130)).heap[w2.heap.size]?=ZW (Z4 #[ZZ o.name,Z7 Z9 (o.size:Nat),.slice sa o.RM.length B] 130 (0,0)):=T9 _ _;obtain ⟨w3,qf⟩:=nM (w2.alloc (Z4 #[ZZ o.name,Z7 Z9 (o.size:Nat),.slice sa o.RM.length B] 130));rw [qf] at kh O;obtain ⟨nm,G⟩:=nM (o.name);obtain ⟨sz,P⟩:=nM (o.size);obtain ⟨m,K⟩:=nM (o.RM.length);rw [G,P,K] at qf O ⊢;have q0:w3.cell? ⟨w2.heap.size,0,ZX⟩=ZW (ZZ nm):=Zj;have HO:=aE G P K;have I:=au kh O;clear G P K kh O;obtain ⟨io,qp,kx,ky,kz⟩:=Ur Tryz.R7;go_upto_region 5 with fail;go_cut [40] from 22 to 40 (λhd wx=>∃ bad:Bool,hd=Z1 bad/\(bad=ZU->0<k->QY nm (os.getD (k-1) sq).name=ZU)/\∃ nq,wx=w3.drewN nq)
      case first=>
       by_cases qq:k=0
       . subst qq;go_quiet (fail);go_wp2_with fail;go_meet
         case rel=>exact ⟨ZU,rfl,λ_ h=>absurd h (Nat.lt_irrefl _),_,rfl⟩
       . have x6:((k:Nat):Int)>0:=eb;have x7:0<k:=eb;obtain ⟨pv,q5⟩:=nM ((os.getD (k-1) sq).name);obtain ⟨J,qn,kp⟩:∃ J,z=ZW ⟨J,0,ZX⟩/\wr.cell? ⟨J,(k-1)*3,ZX⟩=ZW (ZZ pv):=by
          rcases a.out.1.own.2 with ⟨_,h0⟩|⟨g,cap,cur,T,_⟩
          . have:=a.out.2.2.2.2.2.1;omega
          . injection T with T _ _;refine ⟨g,T,?_⟩;have h1:=(ES os sv os.length (k-1) (eT a.out.2.2.2.2.2.1)).1;have h2:=a.out.1.own.cells (g:=g) (by rw [T];rfl) _ _ h1;rw [jU,q5] at h2;exact h2
         subst qn;have kr:w3.cell? ⟨J,(k-1)*3,ZX⟩=ZW (ZZ pv):=((j.out.2.2.trans (I.out.1.mono j.out.2.2.size)).cell (p:=⟨J,(k-1)*3,ZX⟩) (T8 kp)).trans kp;have qv:((k:Nat):Int)-1=((k-1:Nat):Int):=eb;have qx:(((k-1:Nat)):Int).toNat=k-1:=eb;obtain ⟨k1,q1⟩:=nM (k-1);have HL:=al q5;rw [q1] at kr qv qx;have qs:k1<k:=eb;clear kp q5;go_quiet (fail);go_wp2_with fail;go_meet
         case rel=>exact ⟨QY nm pv,rfl,λh _=>by rw [HL.out];exact h,_,rfl⟩
      case rest=>
       clear q0;obtain ⟨bad,rfl,hc,nq,rfl⟩:=hcut;have hr:bW w3 (w3.drewN nq):=⟨rfl,rfl,rfl,TV _,λ_ _=>rfl⟩;obtain ⟨y,qg⟩:=nM (w3.drewN nq);rw [qg] at hr ⊢;have D:bW w2 y:=I.out.1.trans (hr.mono I.out.1.size);cases bad with
       | true=>
        have HF:=al (a.out.1.below.trans ((j.out.2.2.trans (D.mono j.out.2.2.size)).mono a.out.1.below.size));clear hr D hc;go_wp2;go_ret2;exact ⟨HF.out,.inr rfl⟩
       | false=>
        have W:=(hr.block _ (TW.1 I.out.2).1).trans I.out.2;have r0:y.cell? ⟨w2.heap.size,0,ZX⟩=ZW (ZZ nm):=ab1;have r1:y.cell? ⟨w2.heap.size,1,ZX⟩=ZW (Z7 Z9 (sz:Int)):=ab1;have r2:y.cell? ⟨w2.heap.size,2,ZX⟩=ZW (.slice sa m B):=ab1;have he:bW wr (y.alloc (Z4 #[ZZ nm,Z7 Z9 (sz:Int),.slice sa m B] 130)):=(j.out.2.2.trans (D.mono j.out.2.2.size)).alloc (TU j.out.2.2.size D.size) _;have h6:=bZ a.out.1.own (aa.RO he (λ_=>False)) (λ_ _ h=>h);rw [a.out.2.2.2.2.2.1] at h6;have x3:w.heap.size<=(y.alloc (Z4 #[ZZ nm,Z7 Z9 (sz:Int),.slice sa m B] 130)).heap.size:=TU a.out.1.below.size he.size;have Y:=aE h6 D (hc rfl);clear h6 hr qg W D he hc;go_wp2_with (show wpList _ _ _ ({ dst:=ZW 44,op:=_,type:=_,pos:=_,after:=_,guard:=_ }::_) _ _;refine XX _ rfl (Z0 41) (Z0 43) 113 rfl w.heap.size 130 io (.agg #[ZZ YF,Z7 Z9 0,Z5 ZX 0 0]) 3 48 Vk qp kx ky kz rfl ec (.slice z k cc) k (sF os sv k) rfl (by exact Y.out.1) ⟨y.heap.size,0,ZX⟩ 1 1 _ rfl rfl (EU y _ _ _ _) (by intro u hu;simp at hu;rcases hu with rfl|rfl|rfl<;>rfl) eD eb (by exact x3) ?_;intro v5 w5 x0 qo x5 kg);obtain ⟨f,_,_,s,A,r,L,hol⟩:=a.out;obtain ⟨kc,hs,q⟩:=j.out;obtain ⟨G,P,K⟩:=HO.out;have qj:=f.more o;have qy:os.length<(os++[o]).length:=ek;have kv:(os++[o])[os.length]=o:=ek;have q3:sF (os++[o]) sv os.length=sF os sv k:=by
         have e:sF (os++[o]) sv os.length=sF os sv os.length:=CO os o sv;rw [e,r]
        have x2:=On (sz:=sz) (nm:=nm) (m:=m) qy qj q (by rw [kv,<- K];exact kc) hs Y.out.2.1 (by rw [kv];exact G) (by rw [kv];exact P) (by rw [q3,r];exact x0) qo kg;refine ⟨⟨os++[o],rest,_,by rw [T5];exact x2,λx hx=>?_,CP A (λqz=>by rw [G,r];exact Y.out.2.2 (eT (Xl.2 qz))),?_⟩,?_⟩
        . rcases Ub.1 hx with h|h
          . exact s x h
          . rw [U9] at h;rw [h];exact ⟨L,hol⟩
        . have:=qi.out;simp;omega
        . show bn<bl;omega
  . have x1:rs=[]:=Wk.1 eb;subst x1;obtain ⟨R,rc,t,_⟩:=f.rest;have q7:u7=.slice R 0 rc:=t;have q4:os.length<=10000:=(by simp at kf;omega);have hg:∀ o∈os,o.fit:=λo ho=>(s o ho).1;have hf:fa (λk=>w.heap.size<=k) wr u6 os:=ET f.own eb (λk r=>r) (λi hi=>(f.ints i hi hi).weaken λb hb=>hb.1);have qc:=xQ hf hg q4;obtain ⟨z,cc,F⟩:=bM f.own;obtain ⟨N,hN⟩:=nM (os.length);rw [hN] at F;have qd:(aG os).length<=1000000000:=(eT (packL_le hg));obtain ⟨pl,k5⟩:=nM ((aG os).length);have H:=hide7 hf f.below qc qd k5 s A;clear hf qc f t hN qd k5 s A hg;subst q7 F;go_wp2_with fail;refine H.out.2.2.1.mono ?_;rintro e w5 ⟨g,cap,rfl,h9,ki⟩;have q9:=Bs.TN h9 (uS os) H.out.2.2.2.1;have ko:bW w w5:=H.out.2.1.trans (ki.mono H.out.2.1.size);have q:=Z.out.1.mono ko;have ks:=Iu q9 q;rw [H.out.2.2.2.2.1] at ks ⊢;have S:=aE ks ki ko;clear q9 q ks h9 ki ko;go_wp2_with fail;refine S.out.1.mono ?_;rintro e w6 ⟨⟨bb,rfl,kj⟩,rfl⟩;cases bb with
    | false=>
     clear kj;go_wp2;go_ret2;exact ⟨S.out.2.2,.inr rfl⟩
    | true=>
     have HQ:=al (kj rfl);clear kj;go_wp2;go_ret2;exact ⟨S.out.2.2,.inl ⟨_,os,rfl,HQ.out,H.out.2.2.2.2.2.1,H.out.2.2.2.2.2.2,H.out.1.keep (dN.RN S.out.2.1)⟩⟩
def pD (nb:Nat):∀ (l:a9) (s:(Nat->Bool)×Bool),(l.foldl (eU nb) s).2=ZV->s.2=ZV/\l.Nodup/\∀ x∈l,2<=x/\x<nb/\s.1 x=ZU
 | [],s,h=>⟨h,List.nodup_nil,λx b=>ab0⟩
 | y::l,s,h=>by
  rw [Wf] at h;obtain ⟨c,k,g⟩:=pD nb l (eU nb s y) h;by_cases f:y<2\/nb<=y\/s.1 y=ZV
  . exfalso;unfold eU at c;rw [if_pos f] at c;cases c
  . have e:eU nb s y=(λj=>if j=y then ZV else s.1 j,s.2):=(by unfold eU;rw [if_neg f]);rw [e] at c g;have b:∀ x∈l,x≠y/\2<=x/\x<nb/\s.1 x=ZU:=λx b=>by
     obtain ⟨q1,q2,m⟩:=g x b;have d:(if x=y then ZV else s.1 x)=ZU:=m;by_cases a:x=y
     . rw [if_pos a] at d;cases d
     . rw [if_neg a] at d;exact ⟨a,q1,q2,d⟩
    refine ⟨c,UF.2 ⟨λq=>(b y q).1 rfl,k⟩,λx i=>?_⟩;rcases Un.1 i with q|q
    . subst q;refine ⟨eb,eb,?_⟩;cases q:s.1 x
      . rfl
      . exact absurd (.inr (.inr q)) f
    . exact (b x q).2
def Oo {nb:Nat} (h:(tk nb l).2=ZV):l.Nodup/\∀ x∈l,2<=x/\x<nb:=by
 obtain ⟨_,c,a⟩:=pD nb l (λ_=>ZU,ZV) h;exact ⟨c,λx b=>⟨(a x b).1,(a x b).2.1⟩⟩
def IM (os:List Ob):bP:=os.map λo=>(o,List.replicate o.size 0)
def QC (os:List Ob):(IM os).os=os:=by unfold IM bP.os;rw [Xg];exact (VZ λ_ _=>rfl).trans (List.map_id os)
def Oq (h:∀ o∈os,o.fit/\o.RM.length=max 1 ((o.size+D*44-1)/(D*44))):∀ x∈IM os,uB D x:=λx a=>by
 unfold IM at a;obtain ⟨o,ho,rfl⟩:=T1.1 a;exact ⟨(h o ho).1,(h o ho).2,ek,λb c=>by rw [Vn c];decide⟩
def IN (h:w.ownsRow base 3 1 u n (jJ l)) (hll:l.length<=1000000) {K:Nat->Prop} (hK:∀ k,u.ownBlock=ZW k->K k):bp K w u l:=by
 have e:n=l.length:=by have:=h.1;unfold jJ at this;rw [TZ,VW] at this;omega
 rcases h.2 with ⟨c,j⟩|⟨g,cap,cur,a,f,b,_⟩
 . have:l=[]:=UK eb;subst this;rw [c];exact ⟨ZX,0,rfl,T3 _,λh=>absurd rfl h⟩
 . refine ⟨ZW ⟨g,0,ZX⟩,cap,by rw [a,e],hll,λ_=>⟨g,0,rfl,hK g Zw,(TW.1 b).1,λi d=>?_⟩⟩;have:=h.cells (g:=g) Zw i (Z7 Z9 ((l[i]:Nat):Int)) (by unfold jJ;simp [d]);rw [jU] at this;rw [Uc];exact this
structure Ot (w:ZT) (ar v p D L G t1:Nat) (Kind:aN->Prop) (ps:aN) (A:aA) (F:aR) (e:ZQ) (w':ZT):Prop where
 out:aa (λj=>F.has p A.n j\/j=v\/ps.bl j\/j=ar) w w'
 ans:∃ ps' rs,(Kind ps'/\∀ k,ps'.bl k->ps.bl k\/w.heap.size<=k)/\ps'.ho<2^A.n/\((e=Z3 .nilIface/\∃ pg ob P xs,aO w' ar v p ps' D L G t1 pg ob P xs (A.rd rs) F)\/(e=Z3 (iS 3)/\aj w' p (A.rd rs) F/\∃ D' L' G' t f n pg ob,bf w' ar v D' L' G' t f n pg ob ZU))
theorem rV {Kind:aN->Prop} {ps:aN} {A:aA} (ho:oe w ar v p ps D L G A F) (T:bf w ar v D' L' G' t f nn pg ob ZU) (hv:mu D L G Kind ps A.n) (x1:A.nb<=300) (qx:t1<18446744073709551616) (qm:f1<4294967296) (qq:n1<4294967296) :
 ZR ZO 97 #[Z6 (ZW ⟨ar,0,ZX⟩),.agg (av D L G t1 f1 n1)] w (Ot w ar v p D L G t1 Kind ps A F):=by
 have kc:∀ k,F.has p A.n k->k<w.heap.size:=λk c=>ho.vol.arr.RQ c;have qi:=ho.Tr;have qj:=ho.par.d1;have qk:=ho.par.d;have X:(w.alloc (Z4 (av D L G t1 f1 n1) 110)).heap[w.heap.size]?=ZW (Z4 (av D L G t1 f1 n1) 110 (0,0)):=T9 _ _;have N:bW w (w.alloc (Z4 (av D L G t1 f1 n1) 110)):=bA w _;have kx:(w.alloc (Z4 (av D L G t1 f1 n1) 110)).heap.size=w.heap.size+1:=ek
 obtain ⟨w1,q5⟩:=nM (w.alloc (Z4 (av D L G t1 f1 n1) 110));rw [q5] at X N kx;have U:=T.keep (N.block _ T.lt);have R:=ho.below N;have qd:=wt (D1:=D) (L1:=L) (G1:=G) (t1:=t1) R U hv eb qm qq;have S:=a8 U R X N kx qd;have qy:w.alloc (Z4 #[Z7 Z9 D,Z7 Z9 L,Z7 Z9 G,Z7 Z8 t1,Z7 Z9 f1,Z7 Z9 n1] 110)=w1:=q5;have HV:=aE ho T kc;clear ho T X N U R kx q5 qd kc;show ZR ZO 97 #[Z6 (ZW ⟨ar,0,ZX⟩),.agg #[Z7 Z9 D,Z7 Z9 L,Z7 Z9 G,Z7 Z8 t1,Z7 Z9 f1,Z7 Z9 n1]] w _;go_enter func97,ntmps97;go_wp2_with (show wpList _ _ _ ({ dst:=ZW 14,op:=_,type:=_,pos:=_,after:=_,guard:=_ }::_) _ _;refine kM (D:=D) (L:=L) (G:=G) (t:=t1) (f:=f1) (n:=n1) (b:=w.heap.size) rfl (Z0 3) rfl rfl l3 (by exact S.out.2.2.1) ?_);refine S.out.2.2.2.2.2.mono ?_;intro e w2 z;obtain ⟨U,R,X,N,kx,hx⟩:=S.out;clear hx;obtain ⟨rs,C⟩:=z.arr;obtain ⟨ps',g⟩:=z.kit;have i:=R.got z.out C g;have u:=R.R3 z.out U;have ky:aa (λj=>F.has p A.n j\/j=v\/ps.bl j) w w2:=(aa.RO N _).trans z.out;have B:aa (λj=>F.has p A.n j\/j=v\/ps.bl j\/j=ar) w w2:=ky.mono λj _ q=>by
  rcases q with q|q|q
  . exact .inl q
  . exact .inr (.inl q)
  . exact .inr (.inr (.inl q))
 rcases z.ans with ⟨up,uq,l,P,rfl,hll,q0,x,H,M,Q⟩|rfl;rotate_left
 . have HF:=a5 B g C u;clear U R X N kx C g i u ky B z;unfold iS;go_wp2;go_ret;obtain ⟨h1,O,h3,h4⟩:=HF.out;exact ⟨h1,ps',rs,⟨O.1,λk c=>(O.2.2.2.2.2 k c).imp id λq=>eT S.out.2.2.2.2.1⟩,O.2.2.2.2.1,.inr ⟨rfl,h3,_,_,_,_,_,_,_,_,h4⟩⟩
 have J:w2.heap[w.heap.size]?=ZW (Z4 (av D L G t1 f1 n1) 110 (0,0)):=(z.out.block _ eb (λq=>by
  rcases q with q|q|q
  . have:=HV.out.2.2 _ q;omega
  . have:=HV.out.1.vol.vol.lt;omega
  . have:=ps.lt _ HV.out.1.kit _ q;omega)).trans X
 obtain ⟨d0,_⟩:=u.cells;have q2:=cG i.vol.vol eb;have qa:l.length<=190000:=by
  have h1:=FY (n:=n1) qj;rw [<- H] at h1;have O:P.length*(D*44-4)<=300*524:=WT eb eb;omega
 have q3:=EV (D*44) ⟨eb,eb⟩ q0 qa;obtain ⟨hb,hi⟩:=nM (D*44);rw [hi] at q2 q3;have x3:=z.out.size;obtain ⟨hd,uc,ks,_⟩:=id q0;rw [hll] at ks;obtain ⟨m,qc,kv⟩:=bM x;obtain ⟨Z,K⟩:=nM (P.length);rw [K] at kv;have Y:=hide15 u i J q2 q3 x B C g hll H M Q K hi;clear U R X N z u i J q2 q3 ky B C g hll H M Q K x q0 qa;subst ks;subst kv;go_wp2_with fail;refine Y.out.2.2.2.1.mono ?_;rintro e w3 ⟨rfl,qg⟩;obtain rfl:w2=w3:=qg.symm;clear qg;go_wp2_with fail;refine Y.out.2.2.2.2.1.mono ?_;rintro e w3 ⟨hr,kz⟩;obtain ⟨u,i,J,q7,q8,x,B,C,g,hll,H,M,Q,K,hi⟩:=Y.out;clear q7 q8;have kk:=u.keep (hr.block _ u.lt);have a:=i.below hr;have V:aa (λj=>F.has p A.n j\/j=v\/ps.bl j\/j=ar) w w3:=B.trans (aa.RO hr _);rcases kz with ⟨o,os,rfl,hp,ki,kj,hm⟩|rfl;rotate_left
 . have HF:=a5 V g a.vol.arr kk;clear u i J x B C g hll H M Q K kk a V hr d0;go_wp2;go_ret;obtain ⟨h1,O,h3,h4⟩:=HF.out;exact ⟨h1,ps',rs,⟨O.1,λk c=>(O.2.2.2.2.2 k c).imp id λq=>eT S.out.2.2.2.2.1⟩,O.2.2.2.2.1,.inr ⟨rfl,h3,_,_,_,_,_,_,_,_,h4⟩⟩
 obtain ⟨y,oc,qv,_⟩:=id hm;have km:=(hr.block _ (TW.1 J).1).trans J;have qe:=kk.there;have W:=BP (D:=D) (L:=L) (G:=G) (t:=t1) (f:=f1) (n:=n1) kk;have hj:aa (λk=>k=ar) w3 (w3.setCells ar 1 (av D L G t1 f1 n1).toList):=aa.setCells _ ar 1 _ rfl;obtain ⟨w8,q6⟩:=nM (w3.setCells ar 1 (av D L G t1 f1 n1).toList);rw [q6] at W hj;obtain ⟨c7,f7,c8,f8⟩:=W.tail;have x0:=hr.size;have H3:=hide12 W hj qe km q6 V hm a hr hp ki kj;clear u i J x B C g hll H M Q K kk a km V qe W hj q6 hm hr d0 hp ki kj;subst qv;go_wp2_with (first|(show wpList _ _ _ ({ dst:=ZW 38,op:=_,type:=_,pos:=_,after:=_,guard:=_ }::_) _ _;refine kM (D:=D) (L:=L) (G:=G) (t:=t1) (f:=f1) (n:=n1) (b:=w.heap.size) rfl (Z0 3) rfl rfl l3 (by exact H3.out.2.2.2.1) ?_)|(show wpList _ _ _ ({ dst:=ZX,op:=Op.store 110 (Z0 42) (Z0 38),type:=_,pos:=_,after:=_,guard:=_ }::_) _ _;refine wpList_store_mid rfl 110 (Z0 42) (Z0 38) rfl ar 1 (av D L G t1 f1 n1) l3 l3 (by exact H3.out.2.2.1) (kL _ _ _ _ _ _) (qI _ _ _ _ _ _) ?_;rw [H3.out.2.2.2.2.1]));obtain ⟨W,hj,q7,q8,qz,V,hm,a,hr,hp,ki,kj⟩:=H3.out;clear q7 q8 qz;obtain ⟨u,i,J,_,_,x,B,C,g,hll,H,M,Q,K,hi⟩:=Y.out;obtain ⟨ho,T,kc⟩:=HV.out;have E:=W.late (.slice m Z qc) (.slice y os.length oc);have h:aa (λk=>k=ar) w3 ((w8.setCell ⟨ar,7,ZX⟩ (.slice m Z qc)).setCell ⟨ar,8,ZX⟩ (.slice y os.length oc)):=(hj.trans (aa.setCell _ _ _ rfl)).trans (aa.setCell _ _ _ rfl);obtain ⟨w9,qf⟩:=nM ((w8.setCell ⟨ar,7,ZX⟩ (.slice m Z qc)).setCell ⟨ar,8,ZX⟩ (.slice y os.length oc));rw [qf] at E h ⊢;have q4:v≠ar:=eT ho.Sf
 have I:oe w9 ar v p ps' D L G (A.rd rs) F:=by
  have x2:=a.Sf;exact ⟨⟨a.vol.vol.keep (h.block _ a.vol.vol.lt q4),a.vol.arr.keep λk c=>h.block k (a.vol.arr.RQ c) (λe=>a.Si (e▸c)),a.vol.laid.keep (h.block _ a.vol.laid.lt eb),a.vol.RZ.keep (h.block _ a.vol.RZ.lt eb),TU a.vol.room h.size⟩,a.free,a.Si,a.Sf,TY a.Tr h.size,a.fit,a.par,a.n,a.wait,a.here,ps'.keep _ _ a.kit λk c=>h.block k (ps'.lt _ a.kit k c) (a.apt k c).2.1,a.apt⟩
 have kp:bp (λk=>w.heap.size<k/\¬ ps'.bl k) w2 (.slice m Z qc) P:=IN x eb (λk c=>⟨eT (dX x c),by obtain ⟨cur,hc⟩:=bL x c;exact b8 i.kit hc ER⟩);have hs:bp (λk=>w.heap.size<k/\¬ ps'.bl k) w9 (.slice m Z qc) P:=kp.keep ⟨TU x0 h.size,λk c qp=>(h.block k eb (λe=>eb)).trans (hr.block k c)⟩;have hh:fa (λk=>w2.heap.size<=k) w9 (.slice y os.length oc) os:=hm.keep ⟨h.size,λk c qp=>h.block k c (λe=>eb)⟩;have kh:aa (λj=>F.has p A.n j\/j=v\/ps.bl j\/j=ar) w w9:=V.trans (h.mono λ_ _ q=>.inr (.inr (.inr q)));have k8:=xK E I.vol.vol I.vol.arr I.fit (eT I.n) P os hs.ltS hh.ltS;rw [show (A.rd rs).nb=A.nb from rfl] at k8;obtain ⟨tb,kr⟩:=nM ((tk A.nb (P++an os)).2);rw [kr] at k8;have H9:=hide7 k8 E I hs hh kh kr;clear W hj V hm a hr E h qf I hs hh kh k8 c7 f7 c8 f8 u i J x B C g hll H M Q K ho T kc kr kp hp ki kj;refine H9.out.1.mono ?_;rintro e qr ⟨gt,rfl,qn,q1,r⟩;have q9:=al r;clear r q1 qn;obtain ⟨NB,qh⟩:=nM (A.nb);rw [qh];cases tb with
 | false=>
  go_wp2;go_ret;obtain ⟨_,E,I,_,_,kh,_⟩:=H9.out;obtain ⟨_,_,_,_,_,_,_,_,g,_⟩:=Y.out;have r:=q9.out;exact ⟨kh.trans (aa.RO r _),ps',rs,⟨g.1,λk c=>(g.2.2.2.2.2 k c).imp id λq=>eT S.out.2.2.2.2.1⟩,g.2.2.2.2.1,.inr ⟨rfl,I.vol.arr.below r lR,_,_,_,_,_,_,_,_,E.keep (r.block _ E.lt)⟩⟩
 | true=>
  go_wp2;go_ret;obtain ⟨_,E,I,hs,hh,kh,kr⟩:=H9.out;obtain ⟨_,i,_,_,_,_,_,_,g,hll,H,M,Q,K,hi⟩:=Y.out;obtain ⟨_,_,_,_,_,_,_,_,_,hp,ki,kj⟩:=H3.out;obtain ⟨ho,T,kc⟩:=HV.out;have r:=q9.out;obtain ⟨qs,qo⟩:=Oo kr;have s:=I.below r;have ko:=QC os;have qb:(aG (IM os).os).length=n1:=by rw [ko,hp,hll]
  refine ⟨kh.trans (aa.RO r _),ps',rs,⟨g.1,λk c=>(g.2.2.2.2.2 k c).imp id λq=>eT S.out.2.2.2.2.1⟩,g.2.2.2.2.1,.inl ⟨rfl,.slice m Z qc,.slice y os.length oc,P,IM os,⟨?_,s.vol,s.free,s.Si,s.Sf,eT s.Sf,s.fit,s.par,⟨s.n,s.wait,s.here,?_,?_,?_,?_,?_⟩,?_,?_,by show A.nb<=1000;omega,qx,s.kit,s.apt⟩⟩⟩
  . rw [M,qb];exact E.keep (r.block _ E.lt)
  . rw [qb];exact H
  . rw [ko];exact qs
  . rw [ko];exact qo
  . exact Oq (by rw [hi];exact ki)
  . rw [<- ea,ko];exact zT kj
  . exact (hs.wk λk c _=>⟨eb,λe=>eT (kc _ e),c.2⟩).keep (dN.RN r)
  . rw [ko];exact (hh.wk λk c _=>⟨eb,λe=>eT (kc _ e),λe=>eT (ps'.lt _ i.kit _ e)⟩).keep (dN.RN r)
structure nv (A B:aA):Prop where
 n:B.n=A.n
 nb:B.nb=A.nb
 wait:B.wait=A.wait
 lost:B.lost=A.lost
 fit:B.fit
def nv.refl {A:aA} (h:A.fit):nv A A:=⟨rfl,rfl,rfl,rfl,h⟩
def nv.rd {A:aA} (h:A.fit) (rs:Nat->Int):nv A (A.rd rs):=⟨rfl,rfl,rfl,rfl,⟨h.n,h.nb,h.len,h.byt⟩⟩
def nv.trans {A B C:aA} (h:nv A B) (a:nv B C):nv A C:=⟨a.n.trans h.n,a.nb.trans h.nb,a.wait.trans h.wait,a.lost.trans h.lost,a.fit⟩
def nv.put {A:aA} (h:A.fit) (ds:a9) (b:Nat) {f:Nat->a9} (a:∀ i∈ds,(f i).length=64/\∀ x∈f i,x<256):nv A (A.putAt ds b f):=⟨rfl,rfl,rfl,rfl,h.putAt _ _ _ a⟩
theorem aO.alk {ps:aN} {A B:aA} (h:aO w ar v p ps D L G t pg ob P xs A F) (b:aa (F.has p A.n) w w') (d:aj w' p B F) (a:nv A B):aO w' ar v p ps D L G t pg ob P xs B F:=by
 have hK:dN (λk=>ar<k/\¬ F.has p A.n k/\¬ ps.bl k) w w':=⟨b.size,λk c q=>b.block k c q.2.1⟩;refine ⟨h.R3.keep (b.block _ h.R3.lt h.Si),h.vol.turn h.free b d,by rw [a.n];exact h.free,by rw [a.n];exact h.Si,h.Sf,h.arK,a.fit,h.par,h.RV.congr a.n a.nb a.wait a.lost,by rw [a.n];exact h.pgs.keep hK,by rw [a.n];exact h.cat.keep hK,by rw [a.nb];exact h.nb,h.turn,ps.keep _ _ h.kit λk c=>b.block k (ps.lt _ h.kit k c) (h.apt k c).2.2.2,by rw [a.n];exact h.apt⟩
structure EX (w:ZT) (ar v p D L G:Nat) (Kind:aN->Prop) (ps:aN) (A:aA) (F:aR) (e:ZQ) (w':ZT):Prop where
 out:aa (λj=>F.has p A.n j\/j=v\/ps.bl j\/j=ar) w w'
 ans:∃ ps' B,(Kind ps'/\∀ k,ps'.bl k->ps.bl k\/w.heap.size<=k)/\ps'.ho<2^A.n/\nv A B/\((e=Z3 .nilIface/\∃ t pg ob P xs,aO w' ar v p ps' D L G t pg ob P xs B F)\/∃ n:Int,(n=1\/n=3)/\e=Z3 (iS n)/\aj w' p B F/\∃ D' L' G' t f n pg ob,bf w' ar v D' L' G' t f n pg ob ZU)
def m4 (h:bf w ar v D L G t f n pg ob off):w.cell? ⟨ar,0,ZX⟩=ZW (Z6 (ZW ⟨v,0,ZX⟩)):=h.cells.1
def Ak (h:bk w v p D L G ps ho):w.cell? ⟨v,5,ZX⟩=ZW (Z7 Z8 ho)/\w.frozen? ⟨v,5,ZX⟩=ZU:=by
 have a:w.heap[v]?=ZW (Z4 #[Z6 (ZW ⟨p,0,ZX⟩),Z7 Z9 D,Z7 Z9 L,Z7 Z9 G,Z6 (ZW ⟨ps,0,ZX⟩),Z7 Z8 ho] 137 (0,0)):=h;simp [World.cell?,World.frozen?,a]
def aam (h:bk w v p D L G ps ho) (x:Nat):bk (w.setCell ⟨v,5,ZX⟩ (Z7 Z8 x)) v p D L G ps x:=ai (j:=5) h (Z7 Z8 x)
def oe.SH {ps:aN} {A:aA} (h:oe w ar v p ps D L G A F) (x:Nat):oe (w.setCell ⟨v,5,ZX⟩ (Z7 Z8 x)) ar v p (ps.SH x) D L G A F:=by
 have:=h.Sf;have a:aa (λk=>k=v) w (w.setCell ⟨v,5,ZX⟩ (Z7 Z8 x)):=aa.setCell _ _ _ rfl;exact ⟨⟨aam h.vol.vol x,h.vol.arr.keep λk b=>a.block k (h.vol.arr.RQ b) (λe=>h.free.v (e▸b)),h.vol.laid.keep (a.block _ h.vol.laid.lt eb),h.vol.RZ.keep (a.block _ h.vol.RZ.lt eb),TU h.vol.room a.size⟩,h.free,h.Si,h.Sf,TY h.Tr a.size,h.fit,h.par,h.n,h.wait,h.here,ps.keep _ _ h.kit λk b=>a.block k (ps.lt _ h.kit k b) (h.apt k b).2.2.1,h.apt⟩
def qT (h:S<2^N) {i:Nat} (a:i∈ae S):i<N:=by
 by_cases q:i<N
 . exact q
 . have q2:=(bS.1 a).2;rw [Wt (TY h (Vm ec eb))] at q2;cases q2
theorem EY {Kind:aN->Prop} {ps:aN} {A:aA} (ho:oe w ar v p ps D L G A F) (z:bf w ar v D' L' G' t f nn pg ob ZU) (hv:mu D L G Kind ps A.n) (qc:A.nb<=300) (kr:0<A.nb) (q8:t1<18446744073709551616) (q0:f1<4294967296) (q4:n1<4294967296) (c:w.rowIs g 195 A.n (λi=>eV (R i))) (I:¬ F.has p A.n g) :
 ZR ZO 68 #[Z6 (ZW ⟨ar,0,ZX⟩),.agg (av D L G t1 f1 n1),Z5 (ZW ⟨g,0,ZX⟩) A.n A.n] w (EX w ar v p D L G Kind ps A F):=by
 have E:∀ k,F.has p A.n k->k<w.heap.size:=λk W=>ho.vol.arr.RQ W;have qa:=ho.Tr;have km:=ho.par.d;have kp:A.n<=16:=by rw [ho.n];exact ho.par.s
 have H:(w.alloc (Z4 (av D L G t1 f1 n1) 110)).heap[w.heap.size]?=ZW (Z4 (av D L G t1 f1 n1) 110 (0,0)):=T9 _ _;have l:bW w (w.alloc (Z4 (av D L G t1 f1 n1) 110)):=bA w _;have O:(w.alloc (Z4 (av D L G t1 f1 n1) 110)).heap.size=w.heap.size+1:=ek
 obtain ⟨w1,kv⟩:=nM (w.alloc (Z4 (av D L G t1 f1 n1) 110));rw [kv] at H l O;have C:=z.keep (l.block _ z.lt);have a:=ho.below l;have N:=a.below ((TX _ w1).drew);have q7:=iR N.vol N.free N.fit 1 N.n km N.par.l4 N.par.g (eT N.wait);have ca:=m4 C;have qd:w.alloc (Z4 #[Z7 Z9 D,Z7 Z9 L,Z7 Z9 G,Z7 Z8 t1,Z7 Z9 f1,Z7 Z9 n1] 110)=w1:=kv;have o:=a8 C a H l O q7;have HV:=a7 ho z E c I;clear z H l C a N O kv q7 E c I ho;show ZR ZO 68 #[Z6 (ZW ⟨ar,0,ZX⟩),.agg #[Z7 Z9 D,Z7 Z9 L,Z7 Z9 G,Z7 Z8 t1,Z7 Z9 f1,Z7 Z9 n1],Z5 (ZW ⟨g,0,ZX⟩) A.n A.n] w _;go_enter func68,ntmps68;go_upto_region 1 with fail;go_cut [19] from 8 to 18 (λ_v wx=>∃ X x,wx=X.setCell ⟨v,5,ZX⟩ (Z7 Z8 (x:Nat))/\x<2^A.n/\(∃ rs,aj X p (A.rd rs) F)/\aa (F.has p A.n) w1 X)
 case first=>
  go_region_with (first
   | (go_at_call 65;refine o.out.2.2.2.2.2.mono ?_;rintro e w2 ⟨g2,rfl,qb,k6,hc,ki⟩;have H2:=aE k6 hc ki;have hd:=m4 (o.out.1.keep (ki.block _ o.out.1.lt o.out.2.1.Si));clear k6 hc ki qb)
   | (go_at_call 70;refine (uA (λi=>A.R9 i 1) eb H2.out.1).mono ?_;rintro e w3 ⟨rfl,kk⟩;have kg:aa (F.has p A.n) w1.drew w3:=H2.out.2.2.trans (aa.RO kk _);have qe:=m4 (o.out.1.keep (kg.block _ o.out.1.lt o.out.2.1.Si));obtain ⟨qf,qg⟩:=Ak (o.out.2.1.vol.vol.keep (kg.block _ o.out.2.1.vol.vol.lt o.out.2.1.free.v));have H3:=au kk kg;clear kk kg))
  all_goals (go_wp2_with fail;go_meet;case rel=>(
   obtain ⟨_,⟨rs,hc⟩,_⟩:=H2.out;exact ⟨w3,_,rfl,kO _ _ eb,⟨rs,hc.below H3.out.1 lR⟩,(aa.drew w1).trans H3.out.2⟩))
 case rest=>
  obtain ⟨X,x,rfl,hx,⟨rs,k5⟩,hr⟩:=hcut;obtain ⟨C,a,H,l,O,_⟩:=o.out;obtain ⟨ho,z,E,c,I⟩:=HV.out;have hn:aa (λj=>F.has p A.n j\/j=v\/ps.bl j) w1 X:=hr.mono λ_ _ q=>.inl q;have ky:lu w1 v p D L G Kind ps A.n ps X:=⟨hv.kind,rfl,ps.keep _ _ a.kit λk W=>hr.block k (ps.lt _ a.kit k W) (a.apt k W).2.2.2,a.vol.vol.keep (hr.block _ a.vol.vol.lt a.free.v),hv.hol,λ_ q=>.inl q⟩;have q5:=a.got hn k5 ky;have ks:=q5.SH x;have kb:aa (λk=>k=v) X (X.setCell ⟨v,5,ZX⟩ (Z7 Z8 x)):=aa.setCell _ _ _ rfl;have ke:v≠ar:=eT ho.Sf
  have kh:=a.R3 hn C;have kf:=kh.keep (kb.block _ kh.lt (λe=>ke e.symm));have M:(X.setCell ⟨v,5,ZX⟩ (Z7 Z8 x)).heap[w.heap.size]?=ZW (Z4 (av D L G t1 f1 n1) 110 (0,0)):=(kb.block _ (eT hr.size) (eT ho.vol.vol.lt)).trans ((hr.block _ eb (λe=>eT (E _ e))).trans H);have K:aa (λj=>F.has p A.n j\/j=v\/ps.bl j) w1 (X.setCell ⟨v,5,ZX⟩ (Z7 Z8 x)):=hn.trans (kb.mono λ_ _ q=>.inr (.inl q));have J:(X.setCell ⟨v,5,ZX⟩ (Z7 Z8 x)).rowIs g 195 A.n (λi=>eV (R i)):=((c.of_block (l.block _ c.lt)).of_block (hr.block _ (eT c.lt) I)).of_block (kb.block _ (by have:=c.lt;have:=hr.size;omega) (λe=>by
   obtain ⟨cs,Q,_⟩:=c;have h2:=ho.vol.vol;rw [<- e] at h2;have h:w.heap[g]?=ZW (Z4 #[Z6 (ZW ⟨p,0,ZX⟩),Z7 Z9 D,Z7 Z9 L,Z7 Z9 G,Z6 (ZW ⟨ps.ps,0,ZX⟩),Z7 Z8 ps.ho] 137 (0,0)):=h2;rw [Q] at h;simp only [UC,U1] at h;exact absurd h.2.1 ec))
  obtain ⟨Y,hY⟩:=nM (X.setCell ⟨v,5,ZX⟩ (Z7 Z8 x));rw [hY] at ks kf M K J ⊢;have q3:=rV (t1:=t1) (f1:=f1) (n1:=n1) ks kf (⟨hv.sh,hv.re,hv.re _ _ hv.kind,hx⟩:mu D L G Kind (ps.SH x) A.n) qc q8 q0 q4;have HL:=a7 q3 M K J kf;clear C a H l O ho z E c I hn ky q5 ks kb kh kf M K q3 ca hY k5 hr J ke;go_wp2_with (show wpList _ _ _ ({ dst:=ZW 21,op:=_,type:=_,pos:=_,after:=_,guard:=_ }::_) _ _;refine kM (D:=D) (L:=L) (G:=G) (t:=t1) (f:=f1) (n:=n1) (b:=w.heap.size) rfl (Z0 4) rfl rfl l3 (by exact HL.out.2.1) ?_);refine HL.out.1.mono ?_;rintro e m ⟨k9,S,T,ko,q2,kj⟩;obtain ⟨_,M,K,J,_⟩:=HL.out;obtain ⟨ho,z,E,c,I⟩:=HV.out;obtain ⟨C,a,H,l,O,_⟩:=o.out;have U:aa (λj=>F.has p A.n j\/j=v\/ps.bl j\/j=ar) w m:=((aa.RO l _).trans (K.mono λj _ q=>by
   rcases q with q|q|q
   . exact .inl q
   . exact .inr (.inl q)
   . exact .inr (.inr (.inl q)))).trans k9
  have V:=nv.rd (A:=A) ho.fit T;have kx:Hid (∀ k,S.bl k->ps.bl k\/w.heap.size<=k):=al λk W=>(ko.2 k W).imp id λq=>TU (TU l.size K.size) q;rcases kj with ⟨rfl,qi,qh,P4,qj,kc⟩|⟨rfl,hz,hs⟩;rotate_left
  . have HF:=a5 U hz hs V;clear M K J ho z E c I C a H l O U hz hs k9 V;unfold iS;go_wp2;go_ret;obtain ⟨h1,h2,h,h4⟩:=HF.out;exact ⟨h1,S,A.rd T,⟨ko.1,kx.out⟩,q2,h4,.inr ⟨3,.inr rfl,rfl,h2,h⟩⟩
  have q1:m.rowIs g 195 A.n (λi=>eV (R i)):=J.of_block (k9.block _ J.lt (λq=>by
   rcases q with q|q|q|q
   . exact I q
   . obtain ⟨cs,Q,_⟩:=c;have h:w.heap[v]?=ZW (Z4 #[Z6 (ZW ⟨p,0,ZX⟩),Z7 Z9 D,Z7 Z9 L,Z7 Z9 G,Z6 (ZW ⟨ps.ps,0,ZX⟩),Z7 Z8 ps.ho] 137 (0,0)):=ho.vol.vol;rw [<- q,Q] at h;simp only [UC,U1] at h;exact absurd h.2.1 ec
   . obtain ⟨cs,Q,_⟩:=c;exact b8 ho.kit Q vf q
   . obtain ⟨cs,Q,_⟩:=c;have h:w.heap[ar]?=ZW (Z4 _ 115 (0,0)):=z;rw [<- q,Q] at h;simp only [UC,U1] at h;exact absurd h.2.1 ec))
  have P:m.heap[w.heap.size]?=ZW (Z4 (av D L G t1 f1 n1) 110 (0,0)):=(k9.block _ (TW.1 M).1 (λq=>by
   rcases q with q|q|q|q
   . have:=E _ q;omega
   . have:=ho.vol.vol.lt;omega
   . have q':ps.bl w.heap.size:=q;have:=ps.lt _ ho.kit _ q';omega
   . omega)).trans M
  have q9:=uJ (w:=m.drew) (R:=R) (r:=.root D L G t1 f1 n1) eb trivial (q1.of_block rfl);have q6:(bx.root D L G t1 f1 n1).ok:=by
   have:=ho.par.d;have:=ho.par.l4;have:=ho.par.g;exact ⟨eb,eb,eb,q8,q0,q4⟩
  have z0:m.cell? ⟨w.heap.size,0,ZX⟩=ZW (Z7 Z9 D):=Y7
  have z1:m.cell? ⟨w.heap.size,1,ZX⟩=ZW (Z7 Z9 L):=Y7
  have z2:m.cell? ⟨w.heap.size,2,ZX⟩=ZW (Z7 Z9 G):=Y7
  have z3:m.cell? ⟨w.heap.size,3,ZX⟩=ZW (Z7 Z8 t1):=Y7
  have z4:m.cell? ⟨w.heap.size,4,ZX⟩=ZW (Z7 Z9 f1):=Y7
  have z5:m.cell? ⟨w.heap.size,5,ZX⟩=ZW (Z7 Z9 n1):=Y7
  have hb:=m4 kc.R3;have u:=a7 kc q9 q6 U V;clear M K J ho z E c I C a H l O U k9 V q1 P q9 q6 kc;go_upto_region 5 with fail;go_cut [36] from 26 to 35 (λ_v wx=>∃ B,nv (A.rd T) B/\aj wx p B F/\aa (F.has p A.n) m wx)
  case first=>
   go_region_with (first
    | (go_at_call 99;refine u.out.2.1.mono ?_;rintro e w5 ⟨y,rfl,hy,rfl⟩;have HY:=al hy;clear hy)
    | (go_at_call 98;refine (eL (u.out.1.vol.below ((TX _ m).drew) lR) u.out.1.free u.out.1.fit 0 y kr (TY HY.out (je kp)) (λi hi=>qT HY.out hi) u.out.1.RV.wait u.out.1.RV.here (.root D L G t1 f1 n1) u.out.2.2.1 (qA u.out.2.2.1)).mono ?_;rintro e w6 ⟨rfl,k0,kz⟩;have H6:=au k0 kz;clear k0 kz))
   all_goals (go_wp2_with fail;go_meet;case rel=>exact ⟨_,nv.put u.out.1.fit _ _ (λi _=>⟨dJ u.out.2.2.1,fO u.out.2.2.1⟩),H6.out.1,(aa.drew m).trans H6.out.2⟩)
  case rest=>
   obtain ⟨B,Z,he,ka⟩:=hcut;have HF:=aE Z he ka;clear Z he ka hb;go_wp2;go_ret;obtain ⟨Z,he,ka⟩:=HF.out;obtain ⟨kc,_,_,U,V⟩:=u.out;exact ⟨U.trans (ka.mono λ_ _ q=>.inl q),S,B,⟨ko.1,kx.out⟩,q2,V.trans Z,.inl ⟨rfl,t1,_,_,_,_,kc.alk ka he Z⟩⟩
def pE:∀ k,(∀ i,i<k->R i=ZW .blank)->bt R k=⟨0,0,0,0,0,0⟩
 | 0,_=>rfl
 | k+1,h=>by
  show me (bt R k) (R k)=_;rw [h k eb,pE k λi a=>h i eb];rfl
def QD (k:Nat):(2^k-1)|||2^k=2^(k+1)-1:=by
 refine WD λi=>?_;rw [VA,Ws,Ws,Xz];by_cases h:k=i
 . subst h;simp
 . by_cases a:i<k
   . simp [a];omega
   . simp [h,a];omega
def ny:∀ k,(∀ i,i<k->R i=ZW .blank)->ew R k=2^k-1
 | 0,_=>rfl
 | k+1,h=>by
  show Lr (ew R k) k (R k)=_;rw [h k eb,ny k λi a=>h i eb];exact QD k
def IP (hD:D<=12) (hG:G<=4) (h:∀ i,i<D+L+G->lost/2^i%2=0):Nv D L G lost:=
 Dg.units (oh (λl hl=>oT D L G hD hG l (tE _ _ _ abK l hl)) 0) λj a=>bg.mem (sI j) ((Kp _ _ _ _).2 ⟨j,eb,h j eb,by rw [Kr D L G j a,Kq D j a]⟩)
def IQ {i:Nat} (c:n<=60) (b:i<n):(18446744073709551615-(2^n-1))/2^i%2=0:=by
 have a:18446744073709551615-(2^n-1)=2^(i+1)*(2^(63-i)-2^(n-i-1)):=by
  rw [Nat.mul_sub,<- Nat.pow_add,<- Nat.pow_add,(eb:i+1+(63-i)=64),(eb:i+1+(n-i-1)=n)];have:0<2^n:=VH n;omega
 rw [a,W0,Nat.mul_assoc,Nat.mul_div_cancel_left _ (VH i),Nat.mul_mod_right]
def Ou (x:Nat) (h:x<2^64):(2^64-1)^^^x=2^64-1-x:=by
 refine WD λi=>?_;rw [Yq,Ws,(eb:2^64-1-x=2^64-(x+1)),Xw h];by_cases a:i<64
 . simp [a]
 . have:x.testBit i=ZU:=Wt (TY h (Vm ec eb));simp [a,this]
def Ov (x:Nat) (h:x<18446744073709551616):bits .xor .u64 IntKind.u64.max (x:Int)=((18446744073709551615-x:Nat):Int):=by
 have:=bits_xor_u64_nat 18446744073709551615 x ec h;rw [(ec:(18446744073709551615:Nat)=2^64-1),Ou x eb] at this;exact this
theorem yK (h:∀ i r,R i=ZW r->r.ok):∀ k,(bt R k).t<18446744073709551616/\(bt R k).f<4294967296/\(bt R k).n<4294967296
 | 0=>⟨by show 0<_;decide,by show 0<_;decide,by show 0<_;decide⟩
 | k+1=>by
  have ih:=yK h k;show (me (bt R k) (R k)).t<_/\(me (bt R k) (R k)).f<_/\(me (bt R k) (R k)).n<_;cases hr:R k with
  | none=>exact ih
  | some r=>
   have a:=h k r hr;cases r with
   | root D L G t f n=>
    show (if _ then _ else _:Rt).t<_/\(if _ then _ else _:Rt).f<_/\(if _ then _ else _:Rt).n<_;split
    . exact ⟨a.2.2.2.1,a.2.2.2.2.1,a.2.2.2.2.2⟩
    . exact ih
   | blank=>exact ih
   | filled=>exact ih
   | shard l=>exact ih
theorem QE {A:aA} (a:A.fit) {d b:Nat} {r:bx} (h:A.R9 d b=ZW r):r.ok:=by
 unfold aA.R9 at h;split at h
 . exact (DX (a.len d b) (a.byt d b) h).1
 . cases h
def EZ {ps:aN} {A:aA} (ho:oe w ar v p ps D L G A F) (m:3<=A.nb) (l:A.nb<=300) (h:aj w' p (nQ A D L G) F) (i:bf w' ar v D L G 1 2 0 u (Z5 ZX 0 0) ZU) (j:bp (λk=>w.heap.size<=k) w' u [2]) (a:aa (λk=>k=ar\/F.has p A.n k) w w') (d:(nQ A D L G).fit):aO w' ar v p ps D L G 1 u (Z5 ZX 0 0) [2] [] (nQ A D L G) F:=by
 have hv:=ho.Sf;have f:pgs D 0=1:=by
  unfold pgs;have:=ho.par.d1;rw [Uc,Xq eb];rfl
 refine ⟨i,⟨ho.vol.vol.keep (a.block _ ho.vol.vol.lt (λe=>e.elim eb ho.free.v)),h,ho.vol.laid.keep (a.block _ ho.vol.laid.lt (λe=>e.elim eb ho.free.g)),ho.vol.RZ.keep (a.block _ ho.vol.RZ.lt (λe=>e.elim eb ho.free.t)),TU ho.vol.room a.size⟩,ho.free,ho.Si,ho.Sf,eb,d,ho.par,⟨ho.n,ho.wait,ho.here,f.symm,ec,λx c=>?_,(λx c=>by cases c),List.Pairwise.nil⟩,j.wk λk b _=>⟨eT ho.Tr,λe=>by have:=ho.vol.arr.RQ (k:=k) e;omega,λe=>eT (ps.lt _ ho.kit _ e)⟩,fa.nil _ _,by show A.nb<=1000;omega,ec,ps.keep _ _ ho.kit λk b=>a.block k (ps.lt _ ho.kit k b) (λe=>e.elim (ho.apt k b).2.1 (ho.apt k b).2.2.2),ho.apt⟩;have:x=2:=by simpa [an,bP.os] using c
 rw [this];show 2<=2/\2<A.nb;omega
def E0 {A:aA} (h:A.fit) {D L G:Nat} (hD:D<=12) (hL:L<=4) (hG:G<=4) (b:A.n=D+L+G):(nQ A D L G).fit:=by
 have a:(bx.filled).ok:=trivial;have hr:(bx.root D L G 1 2 0).ok:=⟨eb,eb,eb,ec,ec,ec⟩;exact (gH (h.putAt _ _ _ λ_ _=>⟨dJ a,fO a⟩) hD hG b [2] [] 1).putAt _ _ _ λ_ _=>⟨dJ hr,fO hr⟩
theorem Mk {Kind:aN->Prop} {ps:aN} {A:aA} (ho:oe w ar v p ps D L G A F) (Z:bf w ar v 0 0 0 0 0 0 (Z5 ZX 0 0) (Z5 ZX 0 0) ZU) (hv:mu D L G Kind ps A.n) (qd:3<=A.nb) (kh:A.nb<=300) :
 ZR ZO 46 #[Z6 (ZW ⟨ar,0,ZX⟩)] w λe w'=>EX w ar v p D L G Kind ps A F e w'/\((∀ i,i<A.n->A.R9 i 0=ZW .blank)->e=Z3 .nilIface):=by
 obtain ⟨c0,_⟩:=Z.cells;have hr:=ho.par;have kz:A.n<=16:=by rw [ho.n];exact hr.s
 have ka:∀ k,F.has p A.n k->k<w.heap.size:=λk hk=>ho.vol.arr.RQ hk;have qe:=iR ho.vol ho.free ho.fit 0 ho.n hr.d hr.l4 hr.g (eT ho.wait);have HV:=aE ho Z ka;clear ho Z ka;go_enter func46,ntmps46;go_wp2_with fail;refine qe.mono ?_;rintro e w1 ⟨g,rfl,hg,S,⟨rs,q4⟩,P⟩;obtain ⟨ho,Z,ka⟩:=HV.out;have hx:aa (λj=>F.has p A.n j\/j=v\/ps.bl j) w w1:=P.mono λ_ _ q=>.inl q;have q5:lu w v p D L G Kind ps A.n ps w1:=⟨hv.kind,rfl,ps.keep _ _ ho.kit λk hk=>P.block k (ps.lt _ ho.kit k hk) (ho.apt k hk).2.2.2,ho.vol.vol.keep (P.block _ ho.vol.vol.lt ho.free.v),hv.hol,λ_ q=>.inl q⟩;have ki:=ho.got hx q4 q5;have k6:=ho.R3 hx Z;have U:¬ F.has p A.n g:=λe=>eT (ka _ e)
 have k9:=zY (N:=A.n) (λi=>A.R9 i 0) eb (w:=w1) S;have J:=yK (R:=λi=>A.R9 i 0) (λi r h=>QE ho.fit h) A.n;have x:(∀ i,i<A.n->A.R9 i 0=ZW .blank)->bt (λi=>A.R9 i 0) A.n=⟨0,0,0,0,0,0⟩/\ew (λi=>A.R9 i 0) A.n=2^A.n-1:=λh=>⟨pE _ h,ny _ h⟩;obtain ⟨⟨a,l,c,rt,M,O⟩,qf⟩:∃ r,bt (λi=>A.R9 i 0) A.n=r:=⟨_,rfl⟩;rw [qf] at k9 J x;rw [show Ib ⟨a,l,c,rt,M,O⟩=av a l c rt M O from rfl] at k9;obtain ⟨N,y⟩:=nM (A.n);have H1:=hide9 k6 ki P S k9 y x J U;rw [y] at k9 kz;clear k6 ki P S q4 qe hx q5 ho Z ka x J U qf;rw [y];clear y;go_wp2_with fail;refine k9.mono ?_;rintro e w2 ⟨rfl,ks⟩;have qk:=xN;obtain ⟨k6,ki,P,S,_,y,x,J,U⟩:=H1.out;have k8:bW w1 (fE w2 a l c rt M O):=ks.trans ((eK w2 a l c rt M O).mono ks.size);have hs:=k6.keep (k8.block _ k6.lt);have V:=ki.below k8;have T:=S.of_block (k8.block g S.lt);have H:=uz w2 a l c rt M O;obtain ⟨w3,q3⟩:=nM (fE w2 a l c rt M O);rw [q3] at k8 hs V T H;have x0:w3.cell? ⟨w2.heap.size,0,ZX⟩=ZW (Z7 Z9 a):=Zy
 have x1:w3.cell? ⟨w2.heap.size,1,ZX⟩=ZW (Z7 Z9 l):=Zy
 have x2:w3.cell? ⟨w2.heap.size,2,ZX⟩=ZW (Z7 Z9 c):=Zy
 have x3:w3.cell? ⟨w2.heap.size,3,ZX⟩=ZW (Z7 Z8 rt):=Zy
 obtain ⟨d0,_⟩:=hs.cells;have kb:aa (F.has p A.n) w w3:=P.trans (aa.RO k8 _);have qg:=iq (w:=w3.drew) (V.vol.vol.keep rfl);have H3:=hide7 hs V T kb q3 H qg;clear k6 ki P S ks k8 hs V T H kb q3 c0 y x J U k9 qg;have qj:∀ w:ZT,(binOp .neq 26 (.agg #[Z7 Z9 a,Z7 Z9 l,Z7 Z9 c]) (.agg #[Z7 Z9 D,Z7 Z9 L,Z7 Z9 G])).run ZO w=.ok (Z1 (!decide ((a:Int)=D/\(l:Int)=L/\(c:Int)=G))) w:=λw=>by
  have h:=Lo a l c D L G w;simp only [binOp];simp [Op.equal,Op.maxDepth,h]
 have qa:Hid (Value.bool (!decide ((a:Int)=D) || (!decide ((l:Int)=L) || !decide ((c:Int)=G)))=Value.bool (!decide ((a:Int)=D/\(l:Int)=L/\(c:Int)=G))):=by
  refine al ?_;by_cases h1:(a:Int)=D<;>by_cases h2:(l:Int)=L<;>by_cases h3:(c:Int)=G<;>simp [h1,h2,h3]
 go_upto_region 3 with (show wpList _ _ _ ({ dst:=ZX,op:=Op.store 110 (Z0 4) (Z0 11),type:=_,pos:=_,after:=_,guard:=_ }::_) _ _;refine nT (w:=w2) (D:=a) (L:=l) (G:=c) (t:=rt) (f:=M) (n:=O) rfl (Z0 4) (Z0 11) rfl l3 l3 ?_;rw [H3.out.2.2.2.2.1]);simp only [Act.put];go_cut [12] from 13 to 25 (λhd wx=>bW w3 wx/\((0<rt/\hd=Z1 (!decide ((a:Int)=D/\(l:Int)=L/\(c:Int)=G)))\/(rt=0/\hd=Z1 ZU)))
 case first=>
  by_cases h0:rt=0
  . have qn:w3.cell? ⟨w2.heap.size,3,ZX⟩=ZW (Z7 Z8 0):=(by rw [x3,h0];rfl);clear x3;go_quiet (fail);go_wp2_with fail;go_meet
    case rel=>exact ⟨⟨rfl,rfl,rfl,TV _,λ_ _=>rfl⟩,.inr ⟨h0,rfl⟩⟩
  . have q0:(rt:Int)>0:=eb;have kj:0<rt:=eb;have kr:Hid (w2.heap.size<w3.drew.heap.size):=al (T8 x0);go_region_with (go_at_call 67;refine H3.out.2.2.2.2.2.2.mono ?_;rintro e K ⟨rfl,ke,_,_⟩;have I:=al ke;have y0:K.cell? ⟨w2.heap.size,0,ZX⟩=ZW (Z7 Z9 a):=(ke.cell (p:=⟨w2.heap.size,0,ZX⟩) kr.out).trans x0;have y1:K.cell? ⟨w2.heap.size,1,ZX⟩=ZW (Z7 Z9 l):=(ke.cell (p:=⟨w2.heap.size,1,ZX⟩) kr.out).trans x1;have y2:K.cell? ⟨w2.heap.size,2,ZX⟩=ZW (Z7 Z9 c):=(ke.cell (p:=⟨w2.heap.size,2,ZX⟩) kr.out).trans x2;clear ke);all_goals (go_wp2_with fail;go_meet;case rel=>exact ⟨(TX _ w3).drew.trans I.out,.inl ⟨kj,qa.out⟩⟩)
 case rest=>
  rename ZT=>K;obtain ⟨Y,q2⟩:=hcut;obtain ⟨hs,V,T,kb,_,H,_⟩:=H3.out;have o:=hs.keep (Y.block _ hs.lt);have z:=V.below Y;have E:=T.of_block (Y.block g T.lt);have q6:aa (F.has p A.n) w K:=kb.trans (aa.RO Y _);have kk:=(Y.block _ (TW.1 H).1).trans H;have c3:K.cell? ⟨w2.heap.size,3,ZX⟩=ZW (Z7 Z8 rt):=by simp [World.cell?,kk,av]
  obtain ⟨d4,_⟩:=o.cells;have C:aa (λj=>F.has p A.n j\/j=v\/ps.bl j\/j=ar) w K:=q6.mono λ_ _ q=>.inl q;have I:=a7 o z E C kk;clear hs V T kb H o z E q6 C kk Y x0 x1 x2 x3 d0 qa qj;rcases q2 with ⟨q0,rfl⟩|⟨rfl,rfl⟩
  . by_cases qb:(a:Int)=D/\(l:Int)=L/\(c:Int)=G
    . obtain ⟨e1,e2,e3⟩:=qb;obtain rfl:a=D:=eb;obtain rfl:l=L:=eb;obtain rfl:c=G:=eb;rw [(ek:(!decide ((a:Int)=a/\(l:Int)=l/\(c:Int)=c))=ZU)];obtain ⟨o,z,E,C,kk⟩:=I.out;obtain ⟨_,_,_,_,_,y,x,J,U⟩:=H1.out;have q1:=EY (t1:=rt) (f1:=M) (n1:=O) z o hv (by show A.nb<=300;exact kh) (by show 0<A.nb;omega) J.1 J.2.1 J.2.2 E U;rw [show (A.rd rs).n=A.n from rfl,y] at q1;have HR:=al q1;clear o z E C kk y x J U q1;go_wp2_with (show wpList _ _ _ ({ dst:=ZW 32,op:=_,type:=_,pos:=_,after:=_,guard:=_ }::_) _ _;refine kM (D:=a) (L:=l) (G:=c) (t:=rt) (f:=M) (n:=O) (b:=w2.heap.size) rfl (Z0 4) rfl rfl l3 (by exact I.out.2.2.2.2) ?_);refine HR.out.mono ?_;intro e w5 hp;obtain ⟨ev,he⟩:∃ ev,e=Z3 ev:=by
       obtain ⟨_,_,_,_,_,_,hz⟩:=hp;rcases hz with ⟨rfl,_⟩|⟨n,_,rfl,_⟩
       . exact ⟨_,rfl⟩
       . exact ⟨_,rfl⟩
      subst he;have W:=al hp;clear hp;go_wp2;go_ret;obtain ⟨qh,qm,B,k1,k2,k3,hz⟩:=W.out;obtain ⟨_,_,_,_,_,y,x,_⟩:=H1.out;exact ⟨⟨I.out.2.2.2.1.trans qh,qm,B,⟨k1.1,λk hk=>(k1.2 k hk).imp id λq=>TU I.out.2.2.2.1.size q⟩,k2,⟨k3.n,k3.nb,k3.wait,k3.lost,k3.fit⟩,hz⟩,λh=>by
       have:=(x h).1;simp only [Rt.mk.injEq] at this;omega⟩
    . rw [decide_eq_false qb];go_wp2;go_ret;obtain ⟨o,z,_,C,_⟩:=I.out;obtain ⟨_,_,_,_,_,y,x,_⟩:=H1.out;exact ⟨⟨C,ps,A.rd rs,⟨hv.kind,λ_ q=>.inl q⟩,hv.hol,nv.rd HV.out.1.fit rs,.inr ⟨1,.inl rfl,rfl,z.vol.arr,_,_,_,_,_,_,_,_,o⟩⟩,λh=>by
       have:=(x h).1;simp only [Rt.mk.injEq] at this;omega⟩
  . have hb:K.cell? ⟨w2.heap.size,3,ZX⟩=ZW (Z7 Z8 0):=c3;clear c3;go_wp2_with fail;refine (vL I.out.2.1.vol.vol).mono ?_;rintro e w5 ⟨rfl,kv⟩;obtain ⟨o,z,E,C,_⟩:=I.out;have q7:=E.of_block (kv.block g E.lt);obtain ⟨_,_,_,_,_,y,x,_⟩:=H1.out;have ky:=uA (N:=A.n) (λi=>A.R9 i 0) eb (w:=w5) q7;obtain ⟨X,hX⟩:=nM (ew (λi=>A.R9 i 0) A.n);have qi:X<18446744073709551616:=by
     have h1:=kO (λi=>A.R9 i 0) A.n eb;have h2:=Fq (k:=A.n) eb;omega
    have hT:(∀ i,i<A.n->A.R9 i 0=ZW .blank)->Nv D L G (18446744073709551615-X):=λh=>IP hr.d hr.g λi hi=>by rw [<- hX,(x h).2];exact IQ eb (eT HV.out.1.n)
    have key:=Ov X qi;rw [hX,y] at ky;have W:=aE kv ky hT;clear o z E C kv q7 ky hX hT y x;go_wp2_with fail;refine W.out.2.1.mono ?_;rintro e w6 ⟨rfl,q8⟩;have kf:bW K w6:=W.out.1.trans (q8.mono W.out.1.size);have H6:=al kf;clear kf q8;go_wp2_with fail;refine (rO D L G (18446744073709551615-X) hr.r hr.d hr.l1 hr.l4 hr.g hr.div eb w6).mono ?_;rintro e w7 ⟨bb,rfl,kg,kx⟩;obtain ⟨o,z,E,C,_⟩:=I.out;have hh:bW K w7:=H6.out.trans (kx.mono H6.out.size);have k7:=o.keep (hh.block _ o.lt);have m:=z.below hh;have Q:aa (λj=>F.has p A.n j\/j=v\/ps.bl j\/j=ar) w w7:=C.trans (aa.RO hh _);cases bb with
    | false=>
     have HF:=a5 k7 m Q kg;clear o z E C hh k7 m Q kg kx key hb d4;go_wp2;go_ret;obtain ⟨k7,m,Q,kg⟩:=HF.out;exact ⟨⟨Q,ps,A.rd rs,⟨hv.kind,λ_ q=>.inl q⟩,hv.hol,nv.rd HV.out.1.fit rs,.inr ⟨3,.inr rfl,rfl,m.vol.arr,_,_,_,_,_,_,_,_,k7⟩⟩,λh=>by have:=kg.2 (W.out.2.2 h);cases this⟩
    | true=>
     have q9:=Hx k7 m.vol m.free m.Si m.fit m.n hr.r hr.d1 hr.d hr.l1 hr.l4 hr.g hr.div hr.s (by show 3<=A.nb;exact qd) m.wait m.here;have H7:=aE q9 m Q;clear o z E C hh k7 m q9 Q kg kx key hb d4;go_wp2_with fail;refine H7.out.1.mono ?_;rintro e w8 ⟨rfl,km,⟨u,ko,kp⟩,kc⟩;have H8:=a5 km ko kp kc;clear km ko kp kc;go_wp2;go_ret;obtain ⟨km,ko,kp,kc⟩:=H8.out;obtain ⟨_,m,Q⟩:=H7.out;have qc:=E0 m.fit hr.d hr.l4 hr.g m.n;exact ⟨⟨Q.trans (kc.mono λk _ q=>q.elim (λe=>.inr (.inr (.inr e))) .inl),ps,nQ (A.rd rs) D L G,⟨hv.kind,λ_ q=>.inl q⟩,hv.hol,⟨rfl,rfl,rfl,rfl,qc⟩,.inl ⟨rfl,1,_,_,_,_,EZ m qd kh km ko kp kc qc⟩⟩,λ_=>rfl⟩
def QF (h:pW w sb room) (D L G:Nat):gJ w sb room D L G [] []:=by
 obtain ⟨d,⟨n,f⟩,g,_⟩:=h.parts;refine ⟨d,h.Sc,⟨n,f⟩,⟨λ_=>⟨0,0,0,0,ZU,0,Z5 ZX 0 0⟩,λ_=>sb,λ_=>sb,λa c=>?_,⟨rfl,rfl⟩,λq b=>ab0⟩,by simp [jQ],by simp [cC],λe i=>(by cases i),λq b=>ab0,rfl,λq b=>ab0,λq b=>ab0,λq b=>ab0,λq b=>ab0⟩;rcases c with rfl|c
 . exact g
 . cases c
def aO.other {ps:aN} {A:aA} (h:aO w ar v p ps D L G t pg ob P xs A F) (g:w.heap.size<=w'.heap.size) {b:Nat} (a:∀ j,j≠b->j<w.heap.size->w'.heap[j]?=w.heap[j]?) (r:b<ar) (m:b≠v) (i:¬ F.has p A.n b) (q:3<=b) (l:¬ ps.bl b):aO w' ar v p ps D L G t pg ob P xs A F:=by
 have c:dN (λk=>ar<k/\¬ F.has p A.n k/\¬ ps.bl k) w w':=⟨g,λk o hK=>a k (eT hK.1) o⟩;exact ⟨h.R3.keep (a _ eb h.R3.lt),⟨h.vol.vol.keep (a _ (V5 m) h.vol.vol.lt),h.vol.arr.keep λj f=>a j (λe=>i (e▸f)) (h.vol.arr.RQ f),h.vol.laid.keep (a _ eb h.vol.laid.lt),h.vol.RZ.keep (a _ eb h.vol.RZ.lt),TU h.vol.room g⟩,h.free,h.Si,h.Sf,h.arK,h.fit,h.par,h.RV,h.pgs.keep c,h.cat.keep c,h.nb,h.turn,ps.keep _ _ h.kit λk d=>a k (λe=>l (e▸d)) (ps.lt _ h.kit k d),h.apt⟩
def aj.kind {X:ZT} {A:aA} (h:aj X p A F) {k:Nat} (d:F.has p A.n k):∃ cs T,X.heap[k]?=ZW (Z4 cs T (0,0))/\(T=87\/T=91\/T=40\/T=4):=by
 obtain ⟨R,h,_,e⟩:=h;rw [<- e.n] at d;rcases d with rfl|rfl|⟨i,b,rfl|rfl⟩
 . exact ⟨_,_,h.top,.inl rfl⟩
 . obtain ⟨cs,f,_⟩:=h.TS;exact ⟨_,_,f,.inr (.inl rfl)⟩
 . obtain ⟨c,a,_⟩:=h.blk i b;exact ⟨_,_,a,.inr (.inr (.inl rfl))⟩
 . obtain ⟨c,a,_⟩:=h.bad i b;exact ⟨_,_,a,.inr (.inr (.inr rfl))⟩
section
def eC (w:ZT) (ar v p:Nat) (ps:aN) (D L G:Nat) (A:aA) (F:aR) (e:ZQ) (w':ZT):Prop:=
 ∃ x t' pg' ob' P' xs' B,e=Z3 x/\fJ x/\aO w' ar v p ps D L G t' pg' ob' P' xs' B F/\B.n=A.n/\(B.nb=A.nb/\B.lost=A.lost)/\aa (λj=>j=ar\/F.has p A.n j) w w'/\True
section
variable {w:ZT} {ar v p D L G t:Nat} {ps:aN} {pg ob:ZS} {P:a9} {xs:bP} {A:aA} {F:aR}
def nY (h:aO w ar v p ps D L G t pg ob P xs A F) {n:Int} (b:n≠13) {e:ZQ} {w':ZT} (c:mr w n e w'):eC w ar v p ps D L G A F e w':=by
 obtain ⟨rfl,a⟩:=c;exact ⟨_,t,pg,ob,P,xs,A,rfl,.inr ⟨n,b,rfl⟩,h.below a,rfl,⟨rfl,rfl⟩,aa.RO a _,trivial⟩
def Ox (h:aO w ar v p ps D L G t pg ob P xs A F) (x:ByteArray) (b off c:Nat) (d:a9) (s:∀ w',aa (F.has p A.n) w w'->Bs w' (Z5 (ZW ⟨b,off,ZX⟩) d.length c) d) (m:d.length<c) :
 ZR ZO 78 #[Z6 (ZW ⟨ar,0,ZX⟩),ZZ x,Z5 (ZW ⟨b,off,ZX⟩) d.length c] w (eC w ar v p ps D L G A F):=by
 cases hx:de x with
 | false=>exact (Cr h x _ hx).mono λe w' a=>nY h ec a
 | true=>
  by_cases hl:1500<d.length
  . exact (Cs h x _ _ _ hx hl).mono λe w' a=>nY h ec a
  . have f:d.length<=1500:=eb;by_cases g:x∈xs.names
    . exact (we h x _ _ _ hx f g).mono λe w' a=>nY h ec a
    . by_cases hr:(an xs.os).length+nV D d.length+2*uN D (aG xs.os).length d.length+2<=A.nb
      . refine (Qw h x b off c d s m hx f g hr).mono ?_;rintro e w' ⟨rfl,j,i,l,B,o,ho,q,u,k,r⟩;exact ⟨_,_,j,i,l,_,B,rfl,.inl rfl,q,u,⟨k.1,k.2.1⟩,r,trivial⟩
      . exact (Ct h x _ _ _ hx f g eb).mono λe w' a=>nY h ec a
def QG (h:aO w ar v p ps D L G t pg ob P xs A F) (x:ByteArray) :
 ZR ZO 57 #[Z6 (ZW ⟨ar,0,ZX⟩),ZZ x] w (eC w ar v p ps D L G A F):=by
 cases hx:de x with
 | false=>exact (Oc h x hx).mono λe w' a=>nY h ec a
 | true=>
  by_cases f:x∈xs.names
  . refine (aak h x hx f).mono ?_;rintro e w' (⟨rfl,c,b,g,B,i,k,d,j⟩|a)
    . exact ⟨_,_,c,b,g,_,B,rfl,.inl rfl,i,k,⟨d.1,d.2.1⟩,j,trivial⟩
    . exact nY h ec a
  . exact (EO h x hx f).mono λe w' a=>nY h ec a
end
def eC.later {ps:aN} {A:aA} (h:eC w ar v p ps D L G A F e w') (n:bW w0 w):eC w0 ar v p ps D L G A F e w':=by
 obtain ⟨x,o,b,a,d,c,B,f,g,i,j,k,l,m⟩:=h;exact ⟨x,o,b,a,d,c,B,f,g,i,j,k,(aa.RO n _).trans l,m⟩
theorem aaW {ps:aN} {A:aA} (h:aO w ar v p ps D L G t pg ob P xs A F) (x:ByteArray) (b off c:Nat) (d:a9) (z:∀ w',aa (F.has p A.n) w w'->Bs w' (Z5 (ZW ⟨b,off,ZX⟩) d.length c) d) (E:d.length<c) :
 ZR ZO 53 #[Z6 (ZW ⟨ar,0,ZX⟩),ZZ x,Z5 (ZW ⟨b,off,ZX⟩) d.length c] w (eC w ar v p ps D L G A F):=by
 have I:∀ (args:Array ZS) (w:ZT),(callFunc 77 args).run ZO w=.ok (.enter 77 args) w:=UR func77 ei rfl;obtain ⟨n,q⟩:=nM (d.length);obtain ⟨w3,i⟩:=nM (((w.alloc (Z4 #[Z6 (ZW ⟨ar,0,ZX⟩)] 95)).alloc (Z4 #[ZZ x] 9)).alloc (Z4 #[Z5 (ZW ⟨b,off,ZX⟩) n c] 31));have g:ZP w3 w.heap.size 95 (Z6 (ZW ⟨ar,0,ZX⟩)):=by rw [<- i];exact ((Uj w _ _).alloc _).alloc _
 have j:ZP w3 (w.heap.size+1) 9 (ZZ x):=by
  have:=(Uj (w.alloc (Z4 #[Z6 (ZW ⟨ar,0,ZX⟩)] 95)) 9 (ZZ x)).alloc (Z4 #[Z5 (ZW ⟨b,off,ZX⟩) n c] 31);rw [Ua] at this;rw [<- i];exact this
 have k:ZP w3 (w.heap.size+2) 31 (Z5 (ZW ⟨b,off,ZX⟩) n c):=by
  have:=Uj ((w.alloc (Z4 #[Z6 (ZW ⟨ar,0,ZX⟩)] 95)).alloc (Z4 #[ZZ x] 9)) 31 (Z5 (ZW ⟨b,off,ZX⟩) n c);simp only [Ua] at this;rw [<- i];exact this
 have f:bW w w3:=by rw [<- i];exact ((bA w _).alloc ek _).alloc en _
 have u:∀ w1,bW w3 w1->ZR ZO 77 #[Z6 (ZW ⟨w.heap.size,0,ZX⟩),Z6 (ZW ⟨w.heap.size+1,0,ZX⟩),Z6 (ZW ⟨w.heap.size+2,0,ZX⟩)] w1 (eC w1 ar v p ps D L G A F):=λw1 a=>by
  have g1:=(show ZP w1 w.heap.size 95 _ from (a.block _ g.lt).trans g).cell;have J:=(show ZP w1 (w.heap.size+1) 9 _ from (a.block _ j.lt).trans j).cell;have K:=(show ZP w1 (w.heap.size+2) 31 _ from (a.block _ k.lt).trans k).cell;have l:bW w w1:=f.trans (a.mono f.size);have s:=Ox (h.below l) x b off c d (λw' C=>z w' ((aa.RO l _).trans C)) E;rw [q] at s;clear g j k a l i f;go_enter func77,ntmps77;go_wp2_with fail;refine s.mono ?_;rintro e w2 m;obtain ⟨r,_,_,_,_,_,_,rfl,_⟩:=id m;have H:=al m;clear m s;go_wp2;go_ret;exact H.out
 have y:=OX (h.below f) 77 #[] #[Z6 (ZW ⟨w.heap.size,0,ZX⟩),Z6 (ZW ⟨w.heap.size+1,0,ZX⟩),Z6 (ZW ⟨w.heap.size+2,0,ZX⟩)] I (λ_ _ _ _ _=>True) (λ_ _ _ _ _ _ _ _=>trivial) (λw1 a _=>u w1 a);have c1:=g.cell;rw [q];have H:=au y f;clear y f u g j k h z q;go_enter func53,ntmps53;go_wp2_with fail;refine H.out.1.mono ?_;rintro e M o;obtain ⟨r,_,_,_,_,_,_,rfl,_⟩:=id o;have B:=al (eC.later o H.out.2);clear o;go_wp2;go_ret;exact B.out
theorem Oy {ps:aN} {A:aA} (h:aO w ar v p ps D L G t pg ob P xs A F) (x:ByteArray) :
 ZR ZO 39 #[Z6 (ZW ⟨ar,0,ZX⟩),ZZ x] w (eC w ar v p ps D L G A F):=by
 have o:∀ (args:Array ZS) (w:ZT),(callFunc 56 args).run ZO w=.ok (.enter 56 args) w:=UR func56 ei rfl;obtain ⟨w3,f⟩:=nM ((w.alloc (Z4 #[Z6 (ZW ⟨ar,0,ZX⟩)] 95)).alloc (Z4 #[ZZ x] 9));have c:ZP w3 w.heap.size 95 (Z6 (ZW ⟨ar,0,ZX⟩)):=by rw [<- f];exact (Uj w _ _).alloc _
 have d:ZP w3 (w.heap.size+1) 9 (ZZ x):=by
  have:=Uj (w.alloc (Z4 #[Z6 (ZW ⟨ar,0,ZX⟩)] 95)) 9 (ZZ x);rw [Ua] at this;rw [<- f];exact this
 have b:bW w w3:=by rw [<- f];exact (bA w _).alloc ek _
 have k:∀ w1,bW w3 w1->ZR ZO 56 #[Z6 (ZW ⟨w.heap.size,0,ZX⟩),Z6 (ZW ⟨w.heap.size+1,0,ZX⟩)] w1 (eC w1 ar v p ps D L G A F):=λw1 a=>by
  have g1:=(show ZP w1 w.heap.size 95 _ from (a.block _ c.lt).trans c).cell;have q:=(show ZP w1 (w.heap.size+1) 9 _ from (a.block _ d.lt).trans d).cell;have j:bW w w1:=b.trans (a.mono b.size);have m:=QG (h.below j) x;clear c d a j f b;go_enter func56,ntmps56;go_wp2_with fail;refine m.mono ?_;rintro e w2 g;obtain ⟨r,_,_,_,_,_,_,rfl,_⟩:=id g;have H:=al g;clear g m;go_wp2;go_ret;exact H.out
 have l:=OX (h.below b) 56 #[] #[Z6 (ZW ⟨w.heap.size,0,ZX⟩),Z6 (ZW ⟨w.heap.size+1,0,ZX⟩)] o (λ_ _ _ _ _=>True) (λ_ _ _ _ _ _ _ _=>trivial) (λw1 a _=>k w1 a);have c1:=c.cell;have H:=au l b;clear l b k c d h;go_enter func39,ntmps39;go_wp2_with fail;refine H.out.1.mono ?_;rintro e s i;obtain ⟨r,_,_,_,_,_,_,rfl,_⟩:=id i;have n:=al (eC.later i H.out.2);clear i;go_wp2;go_ret;exact n.out
theorem aaX {ps:aN} {A:aA} (hs:ZP w sa 99 (Z6 (ZW ⟨ar,0,ZX⟩))) (h:aO w ar v p ps D L G t pg ob P xs A F) (x:ByteArray) (b off c:Nat) (d:a9) (g:∀ w',aa (F.has p A.n) w w'->Bs w' (Z5 (ZW ⟨b,off,ZX⟩) d.length c) d) (j:d.length<c) :
 ZR ZO 34 #[Z6 (ZW ⟨sa,0,ZX⟩),ZZ x,Z5 (ZW ⟨b,off,ZX⟩) d.length c] w (eC w ar v p ps D L G A F):=by
 have cs:=hs.cell;have f:=aaW h x b off c d g j;clear hs h g;go_enter func34,ntmps34;go_wp2_with fail;refine f.mono ?_;rintro e k a;obtain ⟨r,_,_,_,_,_,_,rfl,_⟩:=id a;have i:=al a;clear a f;go_wp2;go_ret;exact i.out
theorem Oz {ps:aN} {A:aA} (hs:ZP w sa 99 (Z6 (ZW ⟨ar,0,ZX⟩))) (h:aO w ar v p ps D L G t pg ob P xs A F) (x:ByteArray) :
 ZR ZO 21 #[Z6 (ZW ⟨sa,0,ZX⟩),ZZ x] w (eC w ar v p ps D L G A F):=by
 have cs:=hs.cell;have b:=Oy h x;clear hs h;go_enter func21,ntmps21;go_wp2_with fail;refine b.mono ?_;rintro e d a;obtain ⟨r,_,_,_,_,_,_,rfl,_⟩:=id a;have c:=al a;clear a b;go_wp2;go_ret;exact c.out
end
def Aj.isSlice {r:ZS} (h:Aj base u r w):∃ ao n c,u=.slice ao n c:=by
 obtain ⟨_,l,_,_,ho⟩:=h;obtain ⟨a,b,e⟩:=bM ho;exact ⟨_,_,_,e⟩
def Aj.keep {base':Nat} {r:ZS} (h:Aj base u r w) (k:base'<=base) (m:∀ (j:Nat) (cs:Array ZS),w.heap[j]?=ZW (Z4 cs 5 (0,0))->w'.heap[j]?=w.heap[j]?):Aj base' u r w':=by
 obtain ⟨e,l,f,i,ho⟩:=h;refine ⟨e,l,f,i,ho.1,?_⟩;rcases ho.2 with d|⟨g,cap,cur,b,c,a,n⟩
 . exact .inl d
 . exact .inr ⟨g,cap,cur,b,TU k c,(m _ _ a).trans a,n⟩
def CQ (d:ZP w b 31 (.slice ao n c)):vh w b:=λoff u h=>by
 have a:w.heap[b]?=ZW (Z4 #[.slice ao n c] 31 (0,0)):=d;cases off with
 | zero=>simp [World.cell?,a] at h;subst h;exact ⟨λ_=>nofun,λ_=>nofun⟩
 | succ n=>simp [World.cell?,a] at h
def E1 (w:ZT) (ar v p:Nat) (Kind:aN->Prop) (ps:aN) (D L G t:Nat) (xs:bP) (A:aA) (F:aR) (e:ZQ) (w':ZT):Prop:=
 ∃ u r rs ps' pg ob P,e=Z3 (ZY #[u,r])/\Qz w ar v p Kind ps D L G t pg ob P xs A F rs ps' w'/\aa (λj=>j=ar\/F.has p A.n j\/j=v\/ps.bl j) w w'/\Aj w.heap.size u r w'
theorem Ml {q3:Nat} {Kind:aN->Prop} {ps:aN} {A:aA} (h:aO w ar v p ps D L G t pg ob P xs A F) (x:ByteArray) (hG:∀ w1,bW w w1->ZR ZO 55 #[Z6 (ZW ⟨ar,0,ZX⟩),ZZ x] w1 (m3 w1 ar v p Kind ps D L G t pg ob P xs A F)) (d:bW w w1) (s:ZP w1 q1 95 (Z6 (ZW ⟨ar,0,ZX⟩))) (y:ZP w1 q2 9 (ZZ x)) (f:ZP w1 q3 31 (Z5 ZX 0 0)) (Q:w.heap.size<=q3) :
 ZR ZO 54 #[Z6 (ZW ⟨q1,0,ZX⟩),Z6 (ZW ⟨q2,0,ZX⟩),Z6 (ZW ⟨q3,0,ZX⟩)] w1 λe w2=>∃ u r rs ps',e=Z3 r/\Qz w ar v p Kind ps D L G t pg ob P xs A F rs ps' w2/\aa (λj=>F.has p A.n j\/j=v\/ps.bl j\/j=q3) w1 w2/\Aj w.heap.size u r w2/\ZP w2 q3 31 u:=by
 have g1:=s.cell;have E:=y.cell;have z:=hG w1 d;have g:∀ j,F.has p A.n j->j<w.heap.size:=λj a=>h.vol.arr.RQ a;have H:=a5 h f g d;clear h s y f g d hG;go_enter func54,ntmps54;go_wp2_with fail;refine z.mono ?_;rintro e w2 ⟨u,r,rs,ps',rfl,hG,i,l⟩;obtain ⟨h,f,g,d⟩:=H.out;have b:ZP w2 q3 31 (Z5 ZX 0 0):=(i.block _ f.lt (λe=>by
  rcases e with e|e|e
  . have:=g _ e;omega
  . have:=h.vol.vol.lt;omega
  . have:=ps.lt _ h.kit _ e;omega)).trans f
 have R:=b.cell;have S:=b.frozen;obtain ⟨ao,n,c,rfl⟩:=l.isSlice;have C:=a5 hG i l b;clear hG i l b z g1 E h f g d;go_wp2;go_ret;obtain ⟨⟨hl,K,M,N,O⟩,i,l,b⟩:=C.out;obtain ⟨h,f,g,d⟩:=H.out;have I:ZP (w2.setCell ⟨q3,0,ZX⟩ (.slice ao n c)) q3 31 (.slice ao n c):=b.set _;have m:∀ j,j≠q3->(w2.setCell ⟨q3,0,ZX⟩ (.slice ao n c)).heap[j]?=w2.heap[j]?:=λj a=>T7 _ _ _ _ a;have J:vh w2 q3:=CQ b;refine ⟨_,r,rs,ps',rfl,⟨hl.aside (B:=w.heap.size) J (b8 hl.kit b pA) l7 (λk o _=>m k o) Q (by exact g) h.vol.vol.lt h.R3.lt h.vol.room,K,M,N,λk o=>(O k o).imp id λq=>TU d.size q⟩,?_,l.keep d.size (λj cs a=>m j (λe=>by subst e;rw [b] at a;cases a)),I⟩;exact (i.mono λj _ a=>by
  rcases a with q|q|q
  . exact .inl q
  . exact .inr (.inl q)
  . exact .inr (.inr (.inl q))).trans ⟨rfl,rfl,rfl,l7,λj _ a=>m j (λe=>a (.inr (.inr (.inr e))))⟩
theorem aaY {Kind:aN->Prop} {ps:aN} {A:aA} (h:aO w ar v p ps D L G t pg ob P xs A F) (x:ByteArray) (hG:∀ w1,bW w w1->ZR ZO 55 #[Z6 (ZW ⟨ar,0,ZX⟩),ZZ x] w1 (m3 w1 ar v p Kind ps D L G t pg ob P xs A F)) :
 ZR ZO 37 #[Z6 (ZW ⟨ar,0,ZX⟩),ZZ x] w (E1 w ar v p Kind ps D L G t xs A F):=by
 have hn:∀ (args:Array ZS) (w:ZT),(callFunc 54 args).run ZO w=.ok (.enter 54 args) w:=UR func54 ei rfl;obtain ⟨w3,I⟩:=nM (((w.alloc (Z4 #[Z6 (ZW ⟨ar,0,ZX⟩)] 95)).alloc (Z4 #[ZZ x] 9)).alloc (Z4 #[Z5 ZX 0 0] 31));have g:ZP w3 w.heap.size 95 (Z6 (ZW ⟨ar,0,ZX⟩)):=by rw [<- I];exact ((Uj w _ _).alloc _).alloc _
 have i:ZP w3 (w.heap.size+1) 9 (ZZ x):=by
  have:=(Uj (w.alloc (Z4 #[Z6 (ZW ⟨ar,0,ZX⟩)] 95)) 9 (ZZ x)).alloc (Z4 #[Z5 ZX 0 0] 31);rw [Ua] at this;rw [<- I];exact this
 have m:ZP w3 (w.heap.size+2) 31 (Z5 ZX 0 0):=by
  have:=Uj ((w.alloc (Z4 #[Z6 (ZW ⟨ar,0,ZX⟩)] 95)).alloc (Z4 #[ZZ x] 9)) 31 (Z5 ZX 0 0);simp only [Ua] at this;rw [<- I];exact this
 have d:bW w w3:=by rw [<- I];exact ((bA w _).alloc ek _).alloc en _
 have S:=h.below d;have hs:=m.lt;have U:=Ag S 54 #[] #[Z6 (ZW ⟨w.heap.size,0,ZX⟩),Z6 (ZW ⟨w.heap.size+1,0,ZX⟩),Z6 (ZW ⟨w.heap.size+2,0,ZX⟩)] hn
  (λr O f B ps' w2=>∃ u rs,Aj w.heap.size u r w2/\ZP w2 (w.heap.size+2) 31 u/\(Kind ps'/\ps'.ho<2^A.n/\ps'.ps=ps.ps/\∀ k,ps'.bl k->ps.bl k\/w.heap.size<=k)/\O=t/\f=xs/\B=A.rd rs) (λj=>j=w.heap.size+2\/j=v\/ps.bl j) (λj e=>by
   rcases e with e|e|e
   . omega
   . have:=h.vol.vol.lt;have:=d.size;omega
   . have:=ps.lt _ h.kit _ e;have:=d.size;omega)
  (λr O f B ps' w2 w' Q=>by
   rintro ⟨u,rs,C,z,Y⟩;have T:∀ j,w2.heap[j]?≠ZW (Obj.cells #[Value.nilIface] 42 (0,0))->w'.heap[j]?=w2.heap[j]?:=λj b=>Q.2.2 j (λe=>by subst e;exact b Q.1);refine ⟨u,rs,C.keep lR (λj cs b=>T j (by rw [b];simp)),(T _ (by rw [z];simp)).trans z,Y⟩)
  (λw1 y hr=>(Ml h x hG (d.trans (y.mono d.size)) ((y.block _ g.lt).trans g) ((y.block _ i.lt).trans i) ((y.block _ m.lt).trans m) eb).mono (by
   rintro e w2 ⟨u,r,rs,ps',rfl,⟨hl,hG⟩,Z,C,z⟩;exact ⟨r,t,pg,ob,P,xs,A.rd rs,ps',rfl,C.1,hl,rfl,⟨rfl,rfl⟩,Z.mono λj _ b=>by
    rcases b with q|q|q|q
    . exact .inr (.inl q)
    . exact .inr (.inr (.inr (.inl q)))
    . exact .inr (.inr (.inr (.inr q)))
    . exact .inr (.inr (.inl q)),u,rs,C,z,hG,rfl,rfl,rfl⟩))
 have c1:=g.cell;have H:=aE U d h;clear U d g i m h S hG;go_enter func37,ntmps37;go_wp2_with fail;refine H.out.1.mono ?_;rintro e J ⟨r,O,N,M,W,f,B,ps',rfl,hq,E,hp,he,s,u,rs,l,R,o,rfl,rfl,rfl⟩;have a:ZP J (w.heap.size+1+1) 31 u:=R;have y0:=a.cell;have y1:=a.frozen;obtain ⟨ao,n,c,rfl⟩:=l.isSlice;have V:=a7 s l a E o;clear o E s l R a hq hp he;go_wp2;obtain ⟨s,l,a,E,o⟩:=V.out;have X:=(a.set (.slice ao n c)).cell;refine Uf (v:=ZY #[.slice ao n c,r]) (by simp [results,results37,go_sem,X]) rfl ?_;have K:bW J (J.setCell ⟨w.heap.size+1+1,0,ZX⟩ (.slice ao n c)):=⟨rfl,rfl,rfl,l7,λj b=>by
  by_cases e:j=w.heap.size+1+1
  . subst e;exact (a.set (.slice ao n c)).trans a.symm
  . exact T7 _ _ _ _ e⟩
 refine ⟨_,r,rs,ps',N,M,W,rfl,⟨E.below K,o⟩,?_,l.keep lR (λj cs b=>K.block j (TW.1 b).1)⟩;have hm:aa (λj=>j=ar\/F.has p A.n j\/j=v\/ps.bl j) w J:=(aa.RO H.out.2.1 (λj=>j=ar\/F.has p A.n j\/j=v\/ps.bl j)).later s (λj g i=>by
  rcases i with q|q|q|q|q
  . exact .inl q
  . exact .inr (.inl q)
  . omega
  . exact .inr (.inr (.inl q))
  . exact .inr (.inr (.inr q)))
 exact hm.trans (aa.RO K _)
theorem aaZ {Kind:aN->Prop} {ps:aN} {A:aA} (hs:ZP w sa 99 (Z6 (ZW ⟨ar,0,ZX⟩))) (h:aO w ar v p ps D L G t pg ob P xs A F) (x:ByteArray) (hG:∀ w1,bW w w1->ZR ZO 55 #[Z6 (ZW ⟨ar,0,ZX⟩),ZZ x] w1 (m3 w1 ar v p Kind ps D L G t pg ob P xs A F)) :
 ZR ZO 17 #[Z6 (ZW ⟨sa,0,ZX⟩),ZZ x] w (E1 w ar v p Kind ps D L G t xs A F):=by
 have cs:=hs.cell;have d:=aaY h x hG;clear hs h hG;go_enter func17,ntmps17;go_wp2_with fail;refine d.mono ?_;rintro e i ⟨u,r,rs,ps',b,a,g,rfl,c⟩;have f:=al c;clear c d;go_wp2;go_ret2;exact ⟨u,r,rs,ps',b,a,g,rfl,f.out⟩
def en2 (o:Ob):List ZS:=[ZZ o.name,Z7 Z9 (o.size:Nat)]
def mv (os:List Ob):List ZS:=os.flatMap en2
def IR (os:List Ob) (k:Nat) (a:k<os.length):mv (os.take (k+1))=mv (os.take k)++en2 os[k]:=by
 unfold mv;rw [Vd,T2 a,Wx];simp
def Tryz.Tv:(ZO.info? 77).map (λi=>(i.zero,i.size,i.bytes))=ZW (ZW (.agg #[ZZ YF,Z7 Z9 0]),2,24):=ei
def LiR (w:ZT) (q:Nat) (os:List Ob) (i:ZS) (wr:ZT):Prop:=∃ k:Nat,k<=os.length/\i=Z7 Z9 (k:Nat)/\∃ u,ZP wr q 73 u/\wr.ownsRow w.heap.size 77 2 u k (mv (os.take k))/\aa (λj=>j=q) w wr
theorem IS (I:ZP w q1 95 (Z6 (ZW ⟨ar,0,ZX⟩))) (J:ZP w q2 73 (Z5 ZX 0 0)) (N:bf w ar v D L G t f n pg ob ZU) (s:fa K w ob os) (hK:∀ k,K k->k≠q2) (kf:os.length<=10000) :
 ZR ZO 58 #[Z6 (ZW ⟨q1,0,ZX⟩),Z6 (ZW ⟨q2,0,ZX⟩)] w λe w'=>e=Z3 .nilIface/\∃ u,ZP w' q2 73 u/\w'.ownsRow w.heap.size 77 2 u os.length (mv os)/\aa (λj=>j=q2) w w':=by
 obtain ⟨_,_,_,_,F⟩:=N.cells;have g1:=I.cell;obtain ⟨ie,k7,hf,hg,hh⟩:=Ur Tryz.Tv;obtain ⟨oo,oc,rfl,hol,_⟩:=id s;obtain ⟨nn,T⟩:=nM (os.length);rw [T] at F;have H:=aE J s T;have kc:nn<=10000:=eb
 clear I J N s hol;go_enter func58,ntmps58;go_wp2;go_loopw [10] (λi wr=>LiR w q2 os i wr) (λi _=>nn-(intOf i).toNat)
 case atStart=>exact ⟨0,T3 _,rfl,_,H.out.1,UB _ _ _ _,aa.refl _ _⟩
 case round=>
  clear F g1;obtain ⟨k,hk,rfl,u,l,ho,a⟩:=hrel;by_cases Q:k<os.length
  . have hs:dN K w wr:=⟨a.size,λj d k6=>a.block j d (λe=>hK j k6 e)⟩;obtain ⟨b,off,sv,rfl,Z,_,r1,r2,r3,V⟩:=(H.out.2.1.keep hs).at' (k:=k) Q;obtain ⟨sa,W,rfl,_⟩:=id V;obtain ⟨nm,y⟩:=nM (os[k].name);obtain ⟨sz,A⟩:∃ sz:Int,((os[k].size:Nat):Int)=sz:=⟨_,rfl⟩;obtain ⟨sl,U⟩:=nM (os[k].RM.length);have q:mv (os.take (k+1))=mv (os.take k)++[ZZ nm,Z7 Z9 sz]:=(by rw [IR os k Q];unfold en2;rw [y,A]);rw [y] at r1;rw [A] at r2;rw [U] at r3;have ka:(k:Int)<(nn:Int):=eb;obtain ⟨w3,B⟩:=nM (wr.alloc (Z4 #[ZZ nm,Z7 Z9 sz,.slice sa sl W] 130));have x:ay w3 wr.heap.size 130 [ZZ nm,Z7 Z9 sz,.slice sa sl W]:=(by rw [<- B];exact UG wr _);have p:bW wr w3:=(by rw [<- B];exact bA wr _);have kb:w3.heap.size=wr.heap.size+1:=(by rw [<- B];simp);have x0:=x.cell (j:=0) (u:=ZZ nm) rfl;have x1:=x.cell (j:=1) (u:=Z7 Z9 sz) rfl;have hr:ZP w3 q2 73 u:=(p.block _ l.lt).trans l;have xq:=hr.cell;have P:ay (w3.alloc (Z4 #[ZZ nm,Z7 Z9 sz] 77)) w3.heap.size 77 [ZZ nm,Z7 Z9 sz]:=UG w3 _;have g:bW wr (w3.alloc (Z4 #[ZZ nm,Z7 Z9 sz] 77)):=p.alloc eb _;have r:Src ZO 2 73 (Z5 (ZW ⟨w3.heap.size,0,ZX⟩) 1 1) 1 [ZZ nm,Z7 Z9 sz] (w3.alloc (Z4 #[ZZ nm,Z7 Z9 sz] 77)):=
     U8 _ underlying73 ⟨w3.heap.size,0,ZX⟩ 1 1 [ZZ nm,Z7 Z9 sz] rfl (λj u d=>by rw [Vj,Uc];exact P.cell d) (λu O=>by
      simp only [Un,W4,or_false] at O;rcases O with rfl|rfl<;>rfl)
    have z:(w3.alloc (Z4 #[ZZ nm,Z7 Z9 sz] 77)).ownsRow w.heap.size 77 2 u k (mv (os.take k)):=aB ho g;have c:=hide8 l ho a r z g q p;have ke:IntKind.i64.wrap ((k:Int)+1)=(k:Int)+1:=iE;clear l ho a r z g q p x P hr hs V y A U Z kb;go_wp2_with (at_builtin;refine af _ rfl (Z0 14) (Z0 20) 73 73 rfl w.heap.size 77 ie _ 2 24 underlying73 k7 hf hg hh rfl u k (mv (os.take k)) l3 (by exact c.out.2.2.2.2.1) _ l3 1 [ZZ nm,Z7 Z9 sz] (by exact c.out.2.2.2.1) eD eb (by exact TU c.out.2.2.1.size c.out.2.2.2.2.2.1.size) ?_;intro v7 w7 o h he;have m:ZP w7 q2 73 u:=(h.block _ (TY c.out.1.lt c.out.2.2.2.2.2.1.size) (λe=>bF c.out.2.1 c.out.1 ec e.symm)).trans ((c.out.2.2.2.2.2.1.block _ c.out.1.lt).trans c.out.1);have z0:=m.cell;have z1:=m.frozen;obtain ⟨C,E,rfl⟩:=bM o;have X:=aE o h m;clear o h he m);obtain ⟨l,ho,a,r,z,g,q,p⟩:=c.out;obtain ⟨o,h,m⟩:=X.out;have hn:ZP (w7.setCell ⟨q2,0,ZX⟩ (.slice C (k+1) E)) q2 73 (.slice C (k+1) E):=m.set _;have M:∀ j,j≠q2->(w7.setCell ⟨q2,0,ZX⟩ (.slice C (k+1) E)).heap[j]?=w7.heap[j]?:=λj d=>T7 _ _ _ _ d;have kh:=h.size;have kg:=g.size;refine ⟨⟨k+1,eb,e8,_,hn,?_,?_⟩,?_⟩
    . rw [q];exact bZ o (S:=λj=>j=q2) ⟨rfl,rfl,rfl,l7,λj _ d=>M j d⟩ λj d e=>bF o (e▸m:w7.heap[j]?=_) ec d
    . refine ⟨h.os.trans (g.os.trans a.os),h.tape.trans (g.tape.trans a.tape),h.output.trans (g.output.trans a.output),by have:=a.size;simp [World.setCell];omega,λj d R=>?_⟩;have k8:j<wr.heap.size:=TY d a.size;exact (M j R).trans ((h.block j eb (λe=>eT (dX ho e.symm))).trans ((g.block j k8).trans (a.block j d R)))
    . simp only [intOf];omega
  . have k9:k=nn:=(eT H.out.2.2);subst k9;have Y:=aE l ho a;clear l ho a;go_wp2;go_ret;obtain ⟨l,ho,a⟩:=Y.out;refine ⟨rfl,u,l,?_,a⟩;rw [UU (eT H.out.2.2),<- H.out.2.2] at ho;exact ho
def Mm (w:ZT) (xs:bP) (e:ZQ) (w':ZT):Prop:=∃ u,e=Z3 (ZY #[u,.nilIface])/\bW w w'/\w'.ownsRow w.heap.size 77 2 u xs.os.length (mv xs.os)
def IT {l:List ZS} (h:w.ownsRow base 77 2 u n l) (i:w.heap[b]?=ZW (Z4 #[.nilIface] 42 (0,0))) (k:∀ j,j≠b->w'.heap[j]?=w.heap[j]?):w'.ownsRow base 77 2 u n l:=by
 refine ⟨h.1,?_⟩;rcases h.2 with f|⟨g,cap,cur,c,d,a,m⟩
 . exact .inl f
 . exact .inr ⟨g,cap,cur,c,d,(k g (λe=>by subst e;rw [i] at a;cases a)).trans a,m⟩
theorem aan {ps:aN} {A:aA} (h:aO w ar v p ps D L G t pg ob P xs A F) :
 ZR ZO 40 #[Z6 (ZW ⟨ar,0,ZX⟩)] w (Mm w xs):=by
 have hp:∀ (args:Array ZS) (w:ZT),(callFunc 58 args).run ZO w=.ok (.enter 58 args) w:=UR func58 ei rfl;obtain ⟨w3,E⟩:=nM ((w.alloc (Z4 #[Z6 (ZW ⟨ar,0,ZX⟩)] 95)).alloc (Z4 #[Z5 ZX 0 0] 73));have s:ZP w3 w.heap.size 95 (Z6 (ZW ⟨ar,0,ZX⟩)):=by rw [<- E];exact (Uj w _ _).alloc _
 have x:ZP w3 (w.heap.size+1) 73 (Z5 ZX 0 0):=by
  have:=Uj (w.alloc (Z4 #[Z6 (ZW ⟨ar,0,ZX⟩)] 95)) 73 (Z5 ZX 0 0);rw [Ua] at this;rw [<- E];exact this
 have o:bW w w3:=by rw [<- E];exact (bA w _).alloc ek _
 have O:=h.below o;have hz:=x.lt;have Q:=Ag O 58 #[] #[Z6 (ZW ⟨w.heap.size,0,ZX⟩),Z6 (ZW ⟨w.heap.size+1,0,ZX⟩)] hp
  (λr T b B ps' w2=>r=.nilIface/\b=xs/\(∀ j,j<w.heap.size->w2.heap[j]?=w.heap[j]?)/\∃ u,ZP w2 (w.heap.size+1) 73 u/\w2.ownsRow w.heap.size 77 2 u xs.os.length (mv xs.os)) (λj=>j=w.heap.size+1) (λj e=>eb)
  (λr T b B ps' w2 w' m=>by
   rintro ⟨W,X,Y,u,y,ho⟩;exact ⟨W,X,λj g=>(m.2.2 j eb).trans (Y j g),u,(m.2.2 _ (λe=>by have J:=m.1;rw [<- e,y] at J;cases J)).trans y,IT ho m.1 m.2.2⟩)
  (λw1 C hy=>by
   have l:bW w w1:=o.trans (C.mono o.size);have hq:=h.below l;have Z:fa (λk=>k<w.heap.size) w1 ob xs.os:=h.cat.any.keep (dN.RN l);refine (IS ((C.block _ s.lt).trans s) ((C.block _ x.lt).trans x) hq.R3 Z (λk R=>eb) (eT h.SA.1)).mono ?_;rintro e w2 ⟨rfl,u,y,ho,M⟩;have N:bW w w2:=l.trans (M.below (B:=w.heap.size) λk R=>⟨TY R l.size,eb⟩);exact ⟨_,t,pg,ob,P,xs,A,ps,rfl,.inl rfl,h.below N,rfl,⟨rfl,rfl⟩,M.mono λj _ g=>.inr (.inr g),rfl,rfl,λj g=>N.block j g,u,y,cE ho l.size⟩)
 have c1:=s.cell;have H:=aE Q o h;clear Q o s x h O;go_enter func40,ntmps40;go_wp2_with fail;refine H.out.1.mono ?_;rintro e I ⟨r,T,hd,hb,P',b,B,ps',rfl,hx,hr,hs,he,d,rfl,rfl,z,u,a,f⟩;have y0:=a.cell;have y1:=a.frozen;obtain ⟨ao,c,rfl⟩:=bM f;obtain ⟨n,i⟩:=nM (b.os.length);rw [i] at y0 a;have U:=a7 d f a z i;clear hr d f a z hx hs he i;go_wp2;obtain ⟨d,f,a,z,i⟩:=U.out;have V:=(a.set (.slice ao n c)).cell;refine Uf (v:=ZY #[.slice ao n c,.nilIface]) (by simp [results,results40,go_sem,V]) rfl ?_;have K:bW I (I.setCell ⟨w.heap.size+1,0,ZX⟩ (.slice ao n c)):=⟨rfl,rfl,rfl,l7,λj g=>by
  by_cases e:j=w.heap.size+1
  . subst e;exact (a.set (.slice ao n c)).trans a.symm
  . exact T7 _ _ _ _ e⟩
 rw [i] at f;have q:=H.out.2.1;have S:w.heap.size<=I.heap.size:=TU q.size d.size;exact ⟨_,rfl,(Below.mk (d.os.trans q.os) (d.tape.trans q.tape) (d.output.trans q.output) S z).trans (K.mono S),by rw [i];exact aB f K⟩
theorem aao {ps:aN} {A:aA} (hs:ZP w sa 99 (Z6 (ZW ⟨ar,0,ZX⟩))) (h:aO w ar v p ps D L G t pg ob P xs A F) :
 ZR ZO 25 #[Z6 (ZW ⟨sa,0,ZX⟩)] w (Mm w xs):=by
 have cs:=hs.cell;have b:=aan h;clear hs h;go_enter func25,ntmps25;go_wp2_with fail;refine b.mono ?_;rintro e d ⟨u,rfl,a⟩;have c:=al a;clear a b;go_wp2;go_ret2;exact ⟨u,rfl,c.out⟩
section
variable {X:ZT} {p:Nat} {A:aA} {F:aR}
def aA.Se (A:aA) (i:Nat) (f:Nat->a9):aA:={ A with blk:=λk m=>if k=i then f m else A.blk k m }
def aA.Sp (A:aA) (i:Nat) (g:Nat->Bool):aA:={ A with bad:=λk m=>if k=i then g m else A.bad k m }
def eE (f:Nat->a9) (nb:Nat):List ZS:=(YC (64*nb)).map λk=>Z7 .u8 (((f (k/64)).getD (k%64) 0:Nat):Int)
def eF (g:Nat->Bool) (nb:Nat):List ZS:=(YC nb).map λk=>Z1 (g k)
theorem aq.Se (h:aq X p A F) (i:Nat) (c:i<A.n) (f:Nat->a9):aq (X.setCells (F.bb i) 0 (eE f A.nb)) p (A.Se i f) F:=by
 obtain ⟨t,d,j⟩:=h.apart;have b:∀ k,k≠F.bb i->(X.setCells (F.bb i) 0 (eE f A.nb)).heap[k]?=X.heap[k]?:=λk b=>aU _ _ _ _ _ b;obtain ⟨cs,l,o⟩:=h.TS;refine ⟨(b _ (λe=>(d i c).1 e.symm)).trans h.top,⟨cs,(b _ (λe=>(d i c).2.1 e.symm)).trans l,o⟩,λk a=>?_,λk a=>(h.bad k a).of_block (b _ (λe=>j i k c a e.symm)),h.inj⟩;by_cases e:k=i
 . subst e;refine (ft (eE f A.nb) 0 X _ (h.blk k a)).congr λm g=>?_;have s:m<64*A.nb:=g;have r:(eE f A.nb).length=64*A.nb:=(by unfold eE;rw [TZ,Uv]);rw [if_pos ⟨T3 _,by rw [r];omega⟩];show (eE f A.nb).getD (m-0) undef=Value.int .u8 (((if k=k then f (m/64) else A.blk k (m/64)).getD (m%64) 0:Nat):Int);rw [if_pos rfl,XW,T6];unfold eE;rw [Ul,Ve s];rfl
 . refine ((h.blk k a).of_block (b _ (λq=>e ((h.inj k i a c).1 q)))).congr λm g=>?_;show QX A k m=Value.int .u8 (((if k=i then f (m/64) else A.blk k (m/64)).getD (m%64) 0:Nat):Int);rw [if_neg e];rfl
theorem aq.Sp (h:aq X p A F) (i:Nat) (c:i<A.n) (g:Nat->Bool):aq (X.setCells (F.bd i) 0 (eF g A.nb)) p (A.Sp i g) F:=by
 obtain ⟨t,d,j⟩:=h.apart;have b:∀ k,k≠F.bd i->(X.setCells (F.bd i) 0 (eF g A.nb)).heap[k]?=X.heap[k]?:=λk b=>aU _ _ _ _ _ b;obtain ⟨cs,l,o⟩:=h.TS;refine ⟨(b _ (λe=>(d i c).2.2.1 e.symm)).trans h.top,⟨cs,(b _ (λe=>(d i c).2.2.2 e.symm)).trans l,o⟩,λk a=>(h.blk k a).of_block (b _ (j k i a c)),λk a=>?_,h.inj⟩;by_cases e:k=i
 . subst e;refine (ft (eF g A.nb) 0 X _ (h.bad k a)).congr λm f=>?_;have s:m<A.nb:=f;have r:(eF g A.nb).length=A.nb:=(by unfold eF;rw [TZ,Uv]);rw [if_pos ⟨T3 _,by rw [r];omega⟩];show (eF g A.nb).getD (m-0) undef=Value.bool (if k=k then g m else A.bad k m);rw [if_pos rfl,XW,T6];unfold eF;rw [Ul,Ve s];rfl
 . refine ((h.bad k a).of_block (b _ (λq=>e ((h.inj k i a c).2 q)))).congr λm f=>?_;show Value.bool (A.bad k m)=Value.bool (if k=i then g m else A.bad k m);rw [if_neg e]
def mw (A:aA) (k:Nat):aA:=⟨A.n,A.nb,-1,λi=>if i<k then A.lost i else ZU,λi m=>if i<k then A.bad i m else ZU,λi m=>if i<k then A.blk i m else zb,λ_=>0⟩
def IU (A:aA):mw A 0=iK A.n A.nb:=by unfold mw iK;simp
theorem IV (A:aA) (k:Nat):(((mw A k).R6 k (A.lost k)).Se k (A.blk k)).Sp k (A.bad k)=mw A (k+1):=by
 unfold mw aA.R6 aA.Se aA.Sp;simp only [aA.mk.injEq,true_and,and_true];refine ⟨?_,?_,?_⟩
 . funext i;by_cases e:i=k
   . subst e;simp
   . rw [if_neg e];by_cases q:i<k
     . rw [if_pos q,if_pos eb]
     . rw [if_neg q,if_neg eb]
 . funext i m;by_cases e:i=k
   . subst e;simp
   . rw [if_neg e];by_cases q:i<k
     . rw [if_pos q,if_pos eb]
     . rw [if_neg q,if_neg eb]
 . funext i m;by_cases e:i=k
   . subst e;simp
   . rw [if_neg e];by_cases q:i<k
     . rw [if_pos q,if_pos eb]
     . rw [if_neg q,if_neg eb]
def Tryz.TD:(ZO.info? 40).map (·.size)=ZW 64:=ei
def Tryz.Tn:(ZO.info? 4).map (·.size)=ZW 1:=ei
def vt {f:Nat->ZS} (h:w.rowIs b t n f):∃ cur:List ZS,ay w b t cur/\cur.length=n:=by
 obtain ⟨c,a,hs,_⟩:=h;refine ⟨c.toList,?_,vE hs⟩;unfold ay;rw [a,Array.toArray_toList]
def Mn {B:aA} (h:aq w p A F) (k:aq w q B E) (i:Nat) (m:i<A.n) (o:i<B.n) (g:B.nb=A.nb) (e:TypeId) :
 (Builtin.copy_ #[88,88] e #[Z5 (ZW ⟨E.bb i,0,ZX⟩) A.nb A.nb,Z5 (ZW ⟨F.bb i,0,ZX⟩) A.nb A.nb]).run ZO w=.ok (goInt A.nb) (w.setCells (E.bb i) 0 (eE (A.blk i) A.nb)):=by
 obtain ⟨cur,l,f⟩:=vt (k.blk i o);have b:(eE (A.blk i) A.nb).length=64*A.nb:=by unfold eE;rw [TZ,Uv]
 have d:Nat.min A.nb A.nb=A.nb:=Nat.min_self _;have:=dC (P:=ZO) w 88 88 e 40 64 (E.bb i) 0 A.nb A.nb (F.bb i) 0 A.nb A.nb 40 cur (eE (A.blk i) A.nb) underlying88 Tryz.TD (by rw [b,d];omega) (λj v a=>by
  unfold eE at a;rw [Ul] at a;by_cases c:j<64*A.nb
  . rw [Ve c] at a;rw [Uc,(h.blk i m).cell c];exact a
  . rw [VJ (by rw [Uv];omega)] at a;cases a) l (by rw [b,f,g];omega) (λv hv=>by
  unfold eE at hv;obtain ⟨x,_,rfl⟩:=T1.1 hv;rfl)
 rw [d] at this;exact this
def Mo {B:aA} (h:aq w p A F) (k:aq w q B E) (i:Nat) (m:i<A.n) (o:i<B.n) (g:B.nb=A.nb) (e:TypeId) :
 (Builtin.copy_ #[89,89] e #[Z5 (ZW ⟨E.bd i,0,ZX⟩) A.nb A.nb,Z5 (ZW ⟨F.bd i,0,ZX⟩) A.nb A.nb]).run ZO w=.ok (goInt A.nb) (w.setCells (E.bd i) 0 (eF (A.bad i) A.nb)):=by
 obtain ⟨cur,l,f⟩:=vt (k.bad i o);have b:(eF (A.bad i) A.nb).length=A.nb:=by unfold eF;rw [TZ,Uv]
 have d:Nat.min A.nb A.nb=A.nb:=Nat.min_self _;have:=dC (P:=ZO) w 89 89 e 4 1 (E.bd i) 0 A.nb A.nb (F.bd i) 0 A.nb A.nb 4 cur (eF (A.bad i) A.nb) underlying89 Tryz.Tn (by rw [b,d];omega) (λj v a=>by
  unfold eF at a;rw [Ul] at a;by_cases c:j<A.nb
  . rw [Ve c] at a;rw [Uc,(h.bad i m).cell c];exact a
  . rw [VJ (by rw [Uv];omega)] at a;cases a) l (by rw [b,f,g];omega) (λv hv=>by
  unfold eF at hv;obtain ⟨x,_,rfl⟩:=T1.1 hv;rfl)
 rw [d] at this;exact this
structure Mp (w:ZT) (p c:Nat) (A B:aA) (F E:aR):Prop where
 a:aq w p A F
 b:aq w c B E
 n:B.n=A.n
 nb:B.nb=A.nb
 ap:∀ k,F.has p A.n k->¬ E.has c A.n k
def Mp.facts {A B:aA} (h:Mp w p c A B F E) (i:Nat) (f:i<A.n) :
 (w.cell? ⟨p,0,ZX⟩=ZW (Z5 (ZW ⟨F.g,0,ZX⟩) A.n F.cap)/\w.cell? ⟨c,0,ZX⟩=ZW (Z5 (ZW ⟨E.g,0,ZX⟩) A.n E.cap))/\(p≠E.g/\c≠E.g/\F.g≠E.g)/\(p≠E.bb i/\c≠E.bb i/\F.g≠E.bb i/\E.g≠E.bb i)/\(p≠E.bd i/\c≠E.bd i/\F.g≠E.bd i/\E.g≠E.bd i):=by
 obtain ⟨o,_⟩:=h.a.R4;obtain ⟨c1,_⟩:=h.b.R4;rw [h.n] at c1;have q:i<B.n:=by rw [h.n];exact f
 have a:=(h.b.apart.2.1 i q);have j:F.has p A.n p:=.inl rfl;have d:F.has p A.n F.g:=.inr (.inl rfl);have k:E.has c A.n (E.bb i):=.inr (.inr ⟨i,f,.inl rfl⟩);have l:E.has c A.n (E.bd i):=.inr (.inr ⟨i,f,.inr rfl⟩);have m:E.has c A.n E.g:=.inr (.inl rfl);exact ⟨⟨o,c1⟩,⟨λe=>h.ap _ j (e▸m),h.b.apart.1,λe=>h.ap _ d (e▸m)⟩,⟨λe=>h.ap _ j (e▸k),V5 a.1,λe=>h.ap _ d (e▸k),V5 a.2.1⟩,⟨λe=>h.ap _ j (e▸l),V5 a.2.2.1,λe=>h.ap _ d (e▸l),V5 a.2.2.2⟩⟩
def CpR (w:ZT) (c:Nat) (A:aA) (E:aR) (i:ZS) (wr:ZT):Prop:=∃ k:Nat,k<=A.n/\i=Z7 Z9 (k:Nat)/\bW w wr/\aq wr c (mw A k) E
def aap (w:ZT) (A:aA) (e:ZQ) (w':ZT):Prop:=∃ E:aR,e=Z3 (Z6 (ZW ⟨w.heap.size,0,ZX⟩))/\bW w w'/\aq w' w.heap.size (mw A A.n) E/\∀ k,E.has w.heap.size A.n k->w.heap.size<=k
theorem CR {A:aA} (h:aq w p A F) (B:A.fit) (hn:0<A.n) :
 ZR ZO 26 #[Z6 (ZW ⟨p,0,ZX⟩)] w (aap w A):=by
 have l:=au h B;clear h;go_enter func26,ntmps26;have q:=l.out.1.R4.1;have k9:=kl ((l.out.1.keep (Y:=w.drew) λ_ _=>rfl).at l.out.2) hn;have kc:=oE A.n A.nb w.drew B.n B.nb;go_upto_region 1 with fail;go_cut [3] from 5 to 72 (λv3 wx=>v3=Z6 (ZW ⟨w.heap.size,0,ZX⟩)/\J5 A.n A.nb w.drew (Z3 (Z6 (ZW ⟨w.heap.size,0,ZX⟩))) wx)
 case first=>
  go_region_with (first|(go_at_call 29;refine k9.mono ?_;rintro e wz ⟨rfl,rfl⟩)|(go_at_call 14;refine kc.mono ?_;rintro e wz R;obtain ⟨rfl,_⟩:=id R;have HZ:=al R;clear R));all_goals (go_wp2_with fail;go_meet;case rel=>exact ⟨rfl,HZ.out⟩)
 case rest=>
 obtain ⟨rfl,kj,k7,V⟩:=hcut;clear kj k9 kc q;obtain ⟨E,y,O⟩:∃ E:aR,aq wc w.heap.size (iK A.n A.nb) E/\∀ k,E.has w.heap.size A.n k->w.heap.size<=k:=by
  rcases V with ⟨h0,_⟩|⟨_,E,H,I⟩
  . omega
  . exact ⟨E,H,I⟩
 have J:bW w wc:=((TX _ w).drew).trans k7;have Z:aq wc p A F:=l.out.1.below J lR;have q0:=Z.R4.1;have k6:∀ k,F.has p A.n k->k<w.heap.size:=λk X=>l.out.1.RQ X;obtain ⟨c,z⟩:=nM (w.heap.size);rw [<- IU] at y;rw [z] at y O;have f:=a7 y O J k6 z;rw [z];clear y O k7 J V Z k6 z;go_wp2_with fail;go_loopw [18] (λi wr=>CpR w c A E i wr) (λi _=>A.n-(intOf i).toNat)
 case atStart=>exact ⟨0,T3 _,rfl,f.out.2.2.1,f.out.1⟩
 case round=>
  obtain ⟨k,X,rfl,v,C⟩:=hrel;by_cases d:k<A.n
  . have kk:(k:Int)<(A.n:Int):=eb;have km:A.n<=1000:=B.n;have s:Mp wr p c A (mw A k) F E:=⟨l.out.1.below v lR,C,rfl,rfl,λj H I=>by have:=f.out.2.2.2.1 j H;have:=f.out.2.1 j I;have:=f.out.2.2.2.2;omega⟩;obtain ⟨⟨q,x⟩,_,_,_⟩:=s.facts k d;have l0:=(s.a.Sd k d).1;have m0:=(s.b.Sd k d).1;have f0:=s.b.SB (k*4);have u:=au s v;clear v C s;go_wp2_with fail;go_region;clear q x l0 m0 f0;have L:aq (wr.setCell ⟨E.g,k*4,ZX⟩ (Z1 (A.lost k))).drew c ((mw A k).R6 k (A.lost k)) E:=(u.out.1.b.R6 k (A.lost k)).keep λ_ _=>rfl;have hr:aa (λj=>j=E.g) wr (wr.setCell ⟨E.g,k*4,ZX⟩ (Z1 (A.lost k))).drew:=(aa.setCell (S:=λj=>j=E.g) wr ⟨E.g,k*4,ZX⟩ _ rfl).trans (aa.drew _);obtain ⟨w2,ke⟩:=nM ((wr.setCell ⟨E.g,k*4,ZX⟩ (Z1 (A.lost k))).drew);rw [ke] at L hr ⊢;have D:∀ j,E.has c A.n j->w.heap.size<=j:=λj r=>by have:=f.out.2.1 j r;have:=f.out.2.2.2.2;omega
    have kh:=D _ (.inr (.inl rfl));have ka:=D _ (.inr (.inr ⟨k,d,.inl rfl⟩));have kb:=D _ (.inr (.inr ⟨k,d,.inr rfl⟩));have Q:bW w w2:=u.out.2.trans (hr.below λj r=>⟨TY r u.out.2.size,λe=>eb⟩);have m:Mp w2 p c A ((mw A k).R6 k (A.lost k)) F E:=⟨l.out.1.below Q lR,L,rfl,rfl,u.out.1.ap⟩;have K:=Mn (m.a.keep (Y:=w2.drew) λ_ _=>rfl) (m.b.keep (Y:=w2.drew) λ_ _=>rfl) k d d rfl;obtain ⟨⟨q,x⟩,_,_,_⟩:=m.facts k d;have l1:=(m.a.Sd k d).2.1;have m1:w2.cell? ⟨E.g,k*4+1,ZX⟩=ZW (Z5 (ZW ⟨E.bb k,0,ZX⟩) A.nb A.nb):=(m.b.Sd k d).2.1;have t:=a5 m Q ka kb;clear L hr ke D kh ka kb Q m;go_wp2_with fail;go_region;clear q x l1 m1 K;have M:aq (w2.drew.setCells (E.bb k) 0 (eE (A.blk k) A.nb)) c (((mw A k).R6 k (A.lost k)).Se k (A.blk k)) E:=(t.out.1.b.keep (Y:=w2.drew) λ_ _=>rfl).Se k d (A.blk k);have hs:aa (λj=>j=E.bb k) w2 (w2.drew.setCells (E.bb k) 0 (eE (A.blk k) A.nb)):=(aa.drew w2).trans (aa.setCells _ _ _ _ rfl);obtain ⟨w3,kf⟩:=nM (w2.drew.setCells (E.bb k) 0 (eE (A.blk k) A.nb));rw [kf] at M hs ⊢;have T:bW w w3:=t.out.2.1.trans (hs.below λj r=>⟨TY r t.out.2.1.size,λe=>eT t.out.2.2.1⟩);have o:Mp w3 p c A (((mw A k).R6 k (A.lost k)).Se k (A.blk k)) F E:=⟨l.out.1.below T lR,M,rfl,rfl,u.out.1.ap⟩;have K:=Mo (o.a.keep (Y:=w3.drew) λ_ _=>rfl) (o.b.keep (Y:=w3.drew) λ_ _=>rfl) k d d rfl;obtain ⟨⟨q,x⟩,_,_,_⟩:=o.facts k d;have l2:=(o.a.Sd k d).2.2.1;have m2:w3.cell? ⟨E.g,k*4+2,ZX⟩=ZW (Z5 (ZW ⟨E.bd k,0,ZX⟩) A.nb A.nb):=(o.b.Sd k d).2.2.1;have G:=au o T;clear M hs kf T o;go_wp2_with fail;go_region;clear q x l2 m2 K;have N:aq (w3.drew.setCells (E.bd k) 0 (eF (A.bad k) A.nb)) c (mw A (k+1)) E:=by
     have:=(G.out.1.b.keep (Y:=w3.drew) λ_ _=>rfl).Sp k d (A.bad k);rw [IV] at this;exact this
    have P:aa (λj=>j=E.bd k) w3 (w3.drew.setCells (E.bd k) 0 (eF (A.bad k) A.nb)):=(aa.drew w3).trans (aa.setCells _ _ _ _ rfl);obtain ⟨w4,kg⟩:=nM (w3.drew.setCells (E.bd k) 0 (eF (A.bad k) A.nb));rw [kg] at N P ⊢;have k8:bW w w4:=G.out.2.trans (P.below λj r=>⟨TY r G.out.2.size,λe=>eT t.out.2.2.2⟩);have W:CpR w c A E (Z7 Z9 ((k:Int)+1)) w4:=⟨k+1,eb,rfl,k8,N⟩;have H4:=al W;clear N P kg k8 W;go_wp2;exact ⟨H4.out,e9⟩
  . have ki:k=A.n:=eb;subst ki;have U:=au v C;clear v C;go_wp2;go_ret;have e:=f.out.2.2.2.2;subst e;exact ⟨E,rfl,U.out.1,U.out.2,f.out.2.1⟩
def aa0 (w:ZT) (A:aA) (e:ZQ) (w':ZT):Prop:=∃ E:aR,e=Z3 (Z6 (ZW ⟨w.heap.size,0,ZX⟩))/\bW w w'/\aj w' w.heap.size (mw A A.n) E/\∀ k,E.has w.heap.size A.n k->w.heap.size<=k
theorem CS {A:aA} (h:aj w p A F) (_hf:A.fit) (k:0<A.n) :
 ZR ZO 26 #[Z6 (ZW ⟨p,0,ZX⟩)] w (aa0 w A):=by
 obtain ⟨R,f,b,a⟩:=h;refine (CR f b (by rw [a.n];exact k)).mono ?_;rintro e w' ⟨E,q1,q2,l,d⟩;rw [a.n] at d;refine ⟨E,q1,q2,⟨_,l,⟨b.n,b.nb,λi j=>?_,λi j=>?_⟩,a.n,a.nb,rfl,?_,rfl,λi g=>?_⟩,d⟩
 . show (if i<R.n then R.blk i j else zb).length=64;split
   . exact b.len i j
   . exact bw
 . show ∀ x∈(if i<R.n then R.blk i j else zb),x<256;split
   . exact b.byt i j
   . exact (nH (n:=0) (nb:=0) ec ec).byt i j
 . show (λi=>if i<R.n then R.lost i else ZU)=λi=>if i<A.n then A.lost i else ZU;rw [a.n,a.lost]
 . have c:(if i<A.n then A.lost i else ZU)=ZU:=g;refine ⟨funext λj=>?_,funext λj=>?_⟩
   . show (if i<R.n then R.blk i j else zb)=if i<A.n then A.blk i j else zb;rw [a.n];by_cases q:i<A.n
     . rw [if_pos q] at c ⊢;rw [if_pos q,(a.here i c).1]
     . rw [if_neg q,if_neg q]
   . show (if i<R.n then R.bad i j else ZU)=if i<A.n then A.bad i j else ZU;rw [a.n];by_cases q:i<A.n
     . rw [if_pos q] at c ⊢;rw [if_pos q,(a.here i c).2]
     . rw [if_neg q,if_neg q]
end
