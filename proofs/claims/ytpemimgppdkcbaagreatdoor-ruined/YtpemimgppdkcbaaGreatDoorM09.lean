import Derived.Test.YtpemimgppdkcbaaGreatDoorM08
set_option maxRecDepth 100000
set_option linter.all false
set_option maxHeartbeats 8000000
open Go.IntKind renaming i64 -> Z9, u64 -> Z8
open Go.Value renaming int -> Z7, pointer -> Z6, slice -> Z5, bool -> Z2, string -> Z0, tuple -> ZZ
open Go.Obj renaming cells -> Z4
open Go.Ending renaming returned -> Z3
open Go.Operand renaming tmp -> Z1
open Option renaming none -> ZY, some -> ZX
open Bool renaming true -> ZW, false -> ZV
open Go renaming World -> ZU, Value -> ZT, Calls -> ZS, Ending -> ZR, TypeId -> ZQ, Boxed -> ZP
open List renaming range -> YD, take_add -> YH
open Go.Proofs.YtpemimgppdkcbaaGreatDoor renaming pgs -> YE
open Nat renaming le_max_right -> YF, le_div_iff_mul_le -> YG, min_eq_right -> YI
open Int renaming natCast_add -> YJ, natCast_emod -> YK
open Go.Proofs.Tryz renaming prog -> ZO
open Go.Proofs.Tryz
namespace Go.Proofs.YtpemimgppdkcbaaGreatDoor
def aaR:=@Go.Calls.quiet_of_same
end Go.Proofs.YtpemimgppdkcbaaGreatDoor
namespace Go.Proofs.YtpemimgppdkcbaaGreatDoor
open Go.RowKit Go.Deep Gf Go.Shelf
variable {A:aH} {off:Bool} {x:ByteArray} {e:ZR} {F:aR} {cache kc:Int} {Q:List (ByteArray×ZT)} {P l dl d page:a8} {os:List Ob} {cs:List ZT} {D m B ar v p L G t ps k base g cap b c1 size ho r N b0 gone sp q sz y pb po sk n1 f1 D1 L1 G1 t1 D' L' G' f nn i tt wb blocks nb sa q1 q2 B' rb:Nat} {R:Nat->Option bC} {K:Nat->Prop} {f0:Nat->ZT} {X:Ob×a8} {xs xs':aY} {o:Option bC} {cl:Prop} {T:ZQ} {pg ob a u v7 c up uq a' b' c' s out want rv rr:ZT} {w w' w0 wr w6 w7 w5 w8 wx:ZU}
def uR (n:Int):ZT:=.iface 58 (Z7 Z9 n)
def mQ (D n:Nat):Nat:=max 1 ((n+D*44-1)/(D*44))
def Ad (D m n:Nat):Nat:=YE D (m+(19+4*mQ D n))
def Ae {n:Nat} (f:1<=D) (hn:n<=1500):mQ D n<=36:=by
 unfold mQ;have d:(n+D*44-1)/(D*44)<=n/(D*44)+1:=by
  have:=FX (D*44) n (by omega);exact TW (YF _ _) this
 have e:n/(D*44)<=1500/44:=by
  have a:=X3 (c:=D*44) hn;have b:1500/(D*44)<=1500/44:=YC (by omega) (by decide);omega
 omega
def QD (c:1<=D) (d:m<=2000000):YE D m<=1000000:=by
 unfold YE;have:(m+(D*44-4)-1)/(D*44-4)<=(m+(D*44-4)-1)/40:=YC (by omega) (by decide);have:(m+(D*44-4)-1)/(D*44-4)<=m/40+1:=by
  refine TW ((Nat.div_le_iff_le_mul_add_pred (by omega)).2 ?_) lR;have:40*(m/40+1)<=(D*44-4)*(m/40+1):=WZ _ (by omega);omega
 omega
structure nE (A B:aH):Prop where
 n:B.n=A.n
 nb:B.nb=A.nb
 lost:B.lost=A.lost
 cl:A.clean->B.clean
def nE.refl (A:aH):nE A A:=⟨rfl,rfl,rfl,id⟩
def Af (A:aH) (D L G:Nat) (S:a8) (c:Nat->a8) (k:Nat):nE A (A.wrTo D L G S c k):=have h:=gQ A D L G S c k;⟨h.1,h.2.1,h.2.2.1,h.2.2.2⟩
def Ag (A:aH) (D L G t:Nat) (P l:a8):nE A (A.Tm D L G t P l):=have h:=OQ A D L G t P l;⟨h.1,h.2.1,h.2.2.1,h.2.2.2⟩
def nE.trans {B C:aH} (h:nE A B) (a:nE B C):nE A C:=⟨a.n.trans h.n,a.nb.trans h.nb,a.lost.trans h.lost,λc=>a.cl (h.cl c)⟩
def qB {t':Nat} {ps:aU} {vp vo:ZT} {P':a8} {B:aH} (h:aZ w ar v p ps D L G t pg ob P xs A F) (l:bh w' ar v D L G t' (P'.getD 0 0) (an xs'.os).length vp vo ZV) (d:aB w' p B F) (b:aa (λk=>k=ar\/F.S k) w w') (a:nE A B) (o:t'<=1000000)
 (m:cA B D L G t' P' xs') (j:br (λk=>ar<k/\¬ F.S k/\¬ ps.bl k) w' vp P') (f:eY (λk=>ar<k/\¬ F.S k/\¬ ps.bl k) w' vo xs'.os):aZ w' ar v p ps D L G t' vp vo P' xs' B F:=by
 have:=h.vlt;exact ⟨l,{ h.vol with vol:=h.vol.vol.keep (b.block _ h.vol.vol.lt (λe=>e.elim h.vne h.vol.v)),arr:=d,laid:=h.vol.laid.keep (b.block _ h.vol.laid.lt (λe=>e.elim (λq=>by omega) h.vol.g)),tab:=h.vol.tab.keep (b.block _ h.vol.tab.lt (λe=>e.elim (λq=>by omega) h.vol.t)),room:=TW h.vol.room b.size,n:=a.n.trans h.vol.n },h.nar,h.vlt,m,j,f,by rw [a.nb];exact h.nb,o,ps.keep _ _ h.kit λk a=>b.block k (ps.lt _ h.kit k a) (λq=>q.elim (h.apt k a).2.1 (h.apt k a).2.2.2),h.apt,λc=>h.hol λi=>by rw [<- a.lost];exact c i,h.hl⟩
def mG {ps:aU} {B:aH} (h:aZ w ar v p ps D L G t pg ob P xs A F) (d:bh w' ar v D L G t (P.getD 0 0) (an xs.os).length pg ob ZV) (c:aB w' p B F) (a:aa (λk=>k=ar\/F.S k) w w') (b:nE A B) (f:cA B D L G t P xs):aZ w' ar v p ps D L G t pg ob P xs B F:=
 have hK:eB (λk=>ar<k/\¬ F.S k/\¬ ps.bl k) w w':=⟨a.size,λk b hK=>a.block k b (λe=>e.elim (λq=>by have:=hK.1;omega) hK.2.1)⟩;qB h d c a b h.turn f (h.pgs.keep hK) (h.cat.keep hK)
def CL (c:1<=D) (h:k<YE D m):k*(D*44-4)<=m:=by
 unfold YE at h;rcases WS k with rfl|d
 . simp
 . have a:k<(m+(D*44-4)-1)/(D*44-4):=(by omega);have b:(k+1)*(D*44-4)<=m+(D*44-4)-1:=(YG (by omega)).1 a;rw [WH] at b;omega
def CM {n:Nat} (c:1<=D) (h:k<mQ D n):k*(D*44)<=n:=by
 unfold mQ at h;rcases WS k with rfl|d
 . simp
 . have a:k<(n+D*44-1)/(D*44):=(by omega);have b:(k+1)*(D*44)<=n+D*44-1:=(YG (by omega)).1 a;rw [WH] at b;omega
def xS {a:Nat} (ho:w.ownsRow base 3 1 (Z5 (ZX ⟨g,0,ZY⟩) (a+b) cap) (a+b) (jL l)) (hl:l.length=a+b) (hK:K g) (q:a+b<=100000):br K w (Z5 (ZX ⟨g,0,ZY⟩) a c1) (l.take a):=by
 rcases ho.2 with ⟨e,_⟩|⟨j,c,cur,e,m,h,p,n,o,k⟩
 . cases e
 . simp only [Vt,UO,Yz] at e;obtain ⟨⟨rfl,_,_⟩,_,rfl⟩:=e;have f:(l.take a).length=a:=(by rw [Ui];omega);refine ⟨_,c1,by rw [f],by omega,λ_=>⟨g,0,rfl,hK,(TX.1 h).1,λi r=>?_⟩⟩;have d:=ho.cells (g:=g) rfl i (Z7 Z9 ((l[i]'(by omega):Nat):Int)) (by unfold jL;rw [Un,Ua (by omega)];rfl);rw [jD] at d;rw [Ue,YA];exact d
def IY {a:Nat} (ho:w.ownsRow base 3 1 (Z5 (ZX ⟨g,0,ZY⟩) (a+b) cap) (a+b) (jL l)) (hl:l.length=a+b) (hK:K g) (q:a+b<=100000):br K w (Z5 (ZX ⟨g,a,ZY⟩) b c1) (l.drop a):=by
 rcases ho.2 with ⟨e,_⟩|⟨j,c,cur,e,m,h,p,n,o,k⟩
 . cases e
 . simp only [Vt,UO,Yz] at e;obtain ⟨⟨rfl,_,_⟩,_,rfl⟩:=e;have f:(l.drop a).length=b:=(by rw [Uj];omega);refine ⟨_,c1,by rw [f],by omega,λ_=>⟨g,a,rfl,hK,(TX.1 h).1,λi r=>?_⟩⟩;have d:=ho.cells (g:=g) rfl (a+i) (Z7 Z9 ((l[a+i]'(by omega):Nat):Int)) (by unfold jL;rw [Un,Ua (by omega)];rfl);rw [jD] at d;rw [X2];exact d
def qY (w:ZU) (b:Nat):Prop:=∀ off u,w.cell? ⟨b,off,ZY⟩=ZX u->(∀ x,u≠Z7 Z9 x)/\∀ s,u≠Z0 s
def xT (a:w.heap[b]?=ZX (Z4 #[.nilIface] 53 (0,0))):qY w b:=λoff u h=>by
 cases off with
 | zero=>simp [World.cell?,a] at h;subst h;exact ⟨λ_=>nofun,λ_=>nofun⟩
 | succ n=>simp [World.cell?,a] at h
def br.aside {v:ZT} (h:br K w v l) (n:qY w b) (q:w.heap.size<=w'.heap.size) (p:∀ k,k≠b->k<w.heap.size->w'.heap[k]?=w.heap[k]?):br K w' v l:=by
 obtain ⟨ao,c,g,j,m⟩:=h;refine ⟨ao,c,g,j,λhl=>?_⟩;obtain ⟨b',off,q1,q2,a,d⟩:=m hl;have f:b'≠b:=λe=>by
  subst e;exact (n _ _ (d 0 (XY.2 hl))).1 _ rfl
 exact ⟨b',off,q1,q2,TZ a q,λi o=>(Ul (p b' f a)).trans (d i o)⟩
def eY.aside {v:ZT} (h:eY K w v os) (f:qY w b) (j:w.heap.size<=w'.heap.size) (g:∀ k,k≠b->k<w.heap.size->w'.heap[k]?=w.heap[k]?):eY K w' v os:=by
 obtain ⟨ao,c,o,p,q⟩:=h;refine ⟨ao,c,o,p,λhl=>?_⟩;obtain ⟨b',off,q1,q2,l,m⟩:=q hl;have r:b'≠b:=λe=>by
  subst e;obtain ⟨n,d,_⟩:=m 0 (XY.2 hl);exact (f _ _ d).2 _ rfl
 refine ⟨b',off,q1,q2,TZ l j,λi s=>?_⟩;obtain ⟨n,d,t,u,x⟩:=m i s;have a:=g b' r l;exact ⟨n,(Ul a).trans d,(Ul a).trans t,(Ul a).trans u,x.aside f j g⟩
def aZ.aside {ps:aU} (h:aZ w ar v p ps D L G t pg ob P xs A F) (f:qY w b) (i:¬ ps.bl b) (c:w.heap.size<=w'.heap.size) (a:∀ k,k≠b->k<w.heap.size->w'.heap[k]?=w.heap[k]?) (m:B<=b) (l:∀ k,F.S k->k<B) (o:v<B) (n:ar<B) (hK:3<=B):aZ w' ar v p ps D L G t pg ob P xs A F:=by
 exact { h with arc:=h.arc.keep (a _ (by omega) h.arc.lt),vol:={ h.vol with vol:=h.vol.vol.keep (a _ (by omega) h.vol.vol.lt),arr:=h.vol.arr.keep λj g=>a j (by have:=l j g;omega) (h.vol.arr.RU g),laid:=h.vol.laid.keep (a _ (by omega) h.vol.laid.lt),tab:=h.vol.tab.keep (a _ (by omega) h.vol.tab.lt),room:=TW h.vol.room c },pgs:=h.pgs.aside f c a,cat:=h.cat.aside f c a,kit:=ps.keep _ _ h.kit λk d=>a k (λe=>i (e▸d)) (ps.lt _ h.kit k d) }
def aZ.TD {ps:aU} {cs:Array ZT} (h:aZ w ar v p ps D L G t pg ob P xs A F) (a:w.heap[b]?=ZX (Z4 cs 53 (0,0))):¬ ps.bl b:=λq=>by
 exact absurd (ps.kd _ h.kit b q _ _ _ a) (by unfold ry;decide)
def Mf (b:Nat) (w w':ZU):Prop:=w.heap[b]?=ZX (Z4 #[.nilIface] 53 (0,0))/\w'.heap.size=w.heap.size/\∀ j,j≠b->w'.heap[j]?=w.heap[j]?
def E1 {ps:aU} (h:aZ w ar v p ps D L G t pg ob P xs A F) (k:FuncId) (first cap:Array ZT) (K:∀ (args:Array ZT) (w:ZU),(callFunc k args).run ZO w=.ok (.enter k args) w) (Q:ZT->Nat->aY->aH->aU->ZU->Prop) (T:Nat->Prop) (I:∀ j,T j->j≠w.heap.size)
 (U:∀ x d xs' B ps' w2 w',Mf w.heap.size w2 w'->Q x d xs' B ps' w2->Q x d xs' B ps' w')
 (M:∀ w1,bW w w1->w1.heap.size=w.heap.size+1->ZS ZO k (first++cap) w1 λe w2=>∃ x d c a P' xs' B ps',e=Z3 x/\mX x/\aZ w2 ar v p ps' D L G d c a P' xs' B F/\nE A B/\aa (λj=>j=ar\/F.S j\/T j) w1 w2/\Q x d xs' B ps' w2) :
 ZS ZO 47 #[Z6 (ZX ⟨ar,0,ZY⟩),.func (.func k) first cap] w λe w'=>∃ x d c a P' xs' B ps',e=Z3 x/\mX x/\aZ w' ar v p ps' D L G d c a P' xs' B F/\nE A B/\aa (λj=>j=ar\/F.S j\/T j) w w'/\Q x d xs' B ps' w':=by
 have C:=h.arc.lt;have V:=h.vol.vol.lt;have s:∀ j,F.S j->j<w.heap.size:=λj f=>h.vol.arr.RU f;have z:=h.vol.room;have R:=lW k first cap K w ar _ h.arc rfl (λw1 x w2=>bW w w1/\w1.heap.size=w.heap.size+1/\w2.heap[w.heap.size]?=ZX (Z4 #[.nilIface] 53 (0,0))/\∃ d c a P' xs' B ps',aZ w2 ar v p ps' D L G d c a P' xs' B F/\nE A B/\aa (λj=>j=ar\/F.S j\/T j) w1 w2/\Q x d xs' B ps' w2)
  (λw1 i m N=>(M w1 i m).mono (by
   rintro e w2 ⟨x,d,c,a,P',xs',B,ps',rfl,r,hl,q,n,o⟩;have u:=n;have y:w2.heap[w.heap.size]?=w1.heap[w.heap.size]?:=u.block _ (by omega) (λe=>by
    rcases e with e|e|e
    . omega
    . have:=s _ e;omega
    . exact I _ e rfl)
   exact ⟨x,rfl,r,⟨i,m,y.trans N,d,c,a,P',xs',B,ps',hl,q,u,o⟩,y,_,hl.arc,rfl⟩))
 refine R.mono ?_;rintro e w' ⟨x,w1,w2,rfl,r,_,_,⟨i,m,l,d,c,a,P',xs',B,ps',hl,q,n,o⟩,rfl⟩;have E:(w2.setCell ⟨w.heap.size,0,ZY⟩ x).heap[ar]?=ZX (Z4 (nr v D L G d (P'.getD 0 0) (an xs'.os).length c a ZV) 115 (0,0)):=(Ud _ _ _ _ (by show ar≠w.heap.size;omega)).trans hl.arc;have H:=ai (j:=9) E (Z2 ZV);have g:Mf w.heap.size w2 ((w2.setCell ⟨w.heap.size,0,ZY⟩ x).setCell ⟨ar,9,ZY⟩ (Z2 ZV)):=by
  refine ⟨l,by simp [World.setCell],λj f=>?_⟩;by_cases e:j=ar
  . subst e;exact H.trans hl.arc.symm
  . exact (Ud _ _ _ _ e).trans (Ud _ _ _ _ f)
 have O:=hl.aside (w':=(w2.setCell ⟨w.heap.size,0,ZY⟩ x).setCell ⟨ar,9,ZY⟩ (Z2 ZV)) (b:=w.heap.size) (B:=w.heap.size) (xT l) (hl.TD l) (by rw [g.2.1];exact TV _) (λj f _=>g.2.2 j f) lR s V C z;refine ⟨x,d,c,a,P',xs',B,ps',rfl,r,O,q,?_,U _ _ _ _ _ _ _ g o⟩;have J:aa (λj=>j=ar\/F.S j\/T j) w w2:=(aa.RS i _).trans n;exact J.later (T:=λj=>w.heap.size<=j) ⟨rfl,rfl,rfl,by rw [g.2.1];exact TV _,λj _ f=>g.2.2 j (by omega)⟩ (λj W X=>by omega)
def aae {ps:aU} (h:aZ w ar v p ps D L G t pg ob P xs A F) (k:FuncId) (first cap:Array ZT) (s:∀ (args:Array ZT) (w:ZU),(callFunc k args).run ZO w=.ok (.enter k args) w) (Q:ZT->Nat->aY->aH->ZU->Prop)
 (y:∀ x a xs' B w2 w',Mf w.heap.size w2 w'->Q x a xs' B w2->Q x a xs' B w')
 (u:∀ w1,bW w w1->w1.heap.size=w.heap.size+1->ZS ZO k (first++cap) w1 λe w2=>∃ x a c b P' xs' B,e=Z3 x/\mX x/\aZ w2 ar v p ps D L G a c b P' xs' B F/\nE A B/\aa (λj=>j=ar\/F.S j) w1 w2/\Q x a xs' B w2) :
 ZS ZO 47 #[Z6 (ZX ⟨ar,0,ZY⟩),.func (.func k) first cap] w λe w'=>∃ x a c b P' xs' B,e=Z3 x/\mX x/\aZ w' ar v p ps D L G a c b P' xs' B F/\nE A B/\aa (λj=>j=ar\/F.S j) w w'/\Q x a xs' B w':=by
 refine (E1 h k first cap s (λx a xs' B ps' w2=>ps'=ps/\Q x a xs' B w2) (λ_=>False) (λ_ e=>e.elim) (λx a xs' B ps' w2 w' z o=>⟨o.1,y x a xs' B w2 w' z o.2⟩) λw1 r C=>(u w1 r C).mono ?_).mono ?_
 . rintro e w2 ⟨x,a,c,b,P',xs',B,d,f,g,i,l,m⟩;exact ⟨x,a,c,b,P',xs',B,ps,d,f,g,i,l.mono λj _ n=>n.elim .inl (λq=>.inr (.inl q)),rfl,m⟩
 . rintro e w2 ⟨x,a,c,b,P',xs',B,ps',d,f,g,i,l,rfl,m⟩;exact ⟨x,a,c,b,P',xs',B,d,f,g,i,l.mono λj _ n=>n.elim .inl (λq=>q.elim .inr (λq=>q.elim)),m⟩
def E2 (h:k<=16):ab (2^k-1)=YD k:=oh h
def CN (R:Nat->a8):∀ m,(∀ i,i<m->(R i).length=44)->((YD m).map R).flatten.length=44*m
 | 0,_=>rfl
 | m+1,h=>by
  rw [Vs,Uw,abb,T8,CN R m λi a=>h i (by omega)];simp [h m (by omega)];omega
theorem QE {M:Nat} {fl:a8} (h:w.ownsRow base 5 1 u M (aI fl)) (z:fl.length=M) (y:∀ x∈fl,x<256) (C:size<=M) (A:M<=1000000):∃ ao b,u=.slice ao M b/\M<=b/\b<=9223372036854775807/\(ao=ZY->M=0/\b=0)/\(∀ a,ao=ZX a->base<=a.block)/\Bs w (.slice ao size size) (fl.take size):=by
 have hl:(fl.take size).length=size:=by rw [Ui];omega
 rcases h.2 with ⟨e,f⟩|⟨c,b,cur,e,n,o,p,r,B,s⟩
 . have t:size=0:=(by omega);subst t;exact ⟨ZY,0,by rw [e,f],by omega,by omega,λ_=>⟨f,rfl⟩,λa h=>(by cases h),by rw [VR];exact ⟨ZY,0,rfl,TV _,by decide,λ_ h=>(by cases h),λh=>absurd rfl h⟩⟩
 . have m:b<=9223372036854775807:=(by unfold maxLen at r;omega);refine ⟨ZX ⟨c,0,ZY⟩,b,e,p,m,λh=>(by cases h),λa h=>(by cases h;exact n),ZX ⟨c,0,ZY⟩,size,by rw [hl],by rw [hl];exact TV _,?_,λx v=>y x (UN v),λ_=>⟨c,0,rfl,λk i=>?_⟩⟩
   . rw [hl];omega
   . rw [hl] at i;have g:k<fl.length:=(by omega);have q:cur[k]?=ZX (Z7 .u8 ((fl[k]:Nat):Int)):=by
      have d:=congrArg (λl=>l[k]?) s;simp only [VW,aI] at d;rw [VF (by omega),Yt,Un,Ua g] at d;exact d
     have j:(fl.take size).getD k 0=fl[k]:=(by simp [T5,i,g]);rw [j];simp [World.cell?,o,q]
theorem xU (D L G:Int) (w:ZU) (a:0<=D/\D<=100) (b:0<=L/\L<=100) (c:0<=G/\G<=100):ZS ZO 9 #[.agg #[Z7 Z9 D,Z7 Z9 L,Z7 Z9 G]] w λe w'=>e=Z3 (Z7 Z9 (D+L+G))/\w'=w.alloc (Z4 #[Z7 Z9 D,Z7 Z9 L,Z7 Z9 G] 26):=by
 obtain ⟨d,f⟩:=a;obtain ⟨b1,b2⟩:=b;obtain ⟨c1,g⟩:=c;go_enter func9,ntmps9;go_wp2;go_ret;exact ⟨rfl,rfl⟩
theorem xV (h:bk w v p D L G ps ho) (o:D<=12) (r:L<=4) (q:G<=4) {N:Nat} (l:N=D+L+G):ZS ZO 79 #[Z6 (ZX ⟨v,0,ZY⟩)] w λe w'=>e=Z3 (Z6 (ZX ⟨w.heap.size+2,0,ZY⟩))/\dI w' (w.heap.size+2) v 0 (w.heap.size+1) N 0 0/\w'.rowIs (w.heap.size+1) 31 N (λ_=>Z5 ZY 0 0)/\bW w w':=by
 obtain ⟨_,c1,g,i,_⟩:=h.cells;go_enter func79,ntmps79;go_wp2_with fail;refine (xU (D:Int) (L:Int) (G:Int) w ⟨by omega,by omega⟩ ⟨by omega,by omega⟩ ⟨by omega,by omega⟩).mono ?_;rintro e w5 ⟨rfl,c⟩;rw [show ((D:Int)+(L:Int)+(G:Int))=(N:Int) by omega];have m:N<=20:=by omega
 have a:bW w w5:=by rw [c];exact bA w _
 have b:w5.heap.size=w.heap.size+1:=by rw [c];simp
 have f:=au a b;clear a c1 g i h l c b;go_wp2_with (at_make;refine vA _ rfl (Z1 8) (Z1 8) rfl _ N rfl rfl rfl (by omega) ?_;intro w6 d k n);go_ret;obtain ⟨a,b⟩:=f.out;have j:w6.heap.size=w.heap.size+2:=by omega
 rw [b] at d ⊢;refine ⟨rfl,?_,?_,?_⟩
 . have:=Uc w6 (Z4 (Ri v 0 (w.heap.size+1) N 0 0) 216);rw [j] at this;exact this
 . exact d.of_block (Ux _ _ _ (by omega))
 . exact (a.trans (k.mono a.size)).alloc (by omega) _
structure mH (w:ZU) (r v b g N p D L G:Nat) (Kind:aU->Prop) (ps:aU) (A:aH) (F:aR) (l:a8) (e:ZR) (w':ZU):Prop where
 rd:∃ gone sp,dI w' r v b g N gone sp
 row:∃ f,w'.rowIs g 31 N f
 kit:∃ (ps1:aU) (hl:Nat),Kind ps1/\ps1.ps=ps.ps/\ps1.S w'/\bk w' v p D L G ps.ps hl/\hl<2^N/\(A.here->ps.ho=0->hl=0)/\∀ k,ps1.bl k->ps.bl k\/w.heap.size<=k
 arr:aB w' p A F
 out:aa (λk=>k=g\/k=r\/k=v\/F.S k\/ps.bl k) w w'
 ans:(∃ u,e=Z3 (ZZ #[u,.nilIface])/\Bs w' u l/\(∀ k,u.ownBlock=ZX k->w.heap.size<=k)/\∃ ao n,u=.slice ao n n)\/(e=Z3 (ZZ #[Z5 ZY 0 0,fJ])/\¬ (A.clean/\ps.ho=0))
def vM.turn {Kind:aU->Prop} {ps:aU} (h:vM w r v b g N p D L G Kind ps A F dl) (f:¬ ps.bl r) (d:¬ ps.bl g) (c:aa (λk=>k=r\/k=g) w w'):vM w' r v b g N p D L G Kind ps A F dl:=
 { h with
  vol:=h.vol.Tx c λk q=>q.elim (λe=>e▸⟨h.rK,h.vr.symm,h.rF⟩) λe=>e▸⟨h.gK,h.vg.symm,h.gF⟩
  kit:=ps.keep _ _ h.kit λk a=>c.block k (ps.lt _ h.kit k a) (λq=>q.elim (λe=>f (e▸a)) (λe=>d (e▸a))) }
theorem CO {Kind:aU->Prop} {ps:aU} (h:vM w r v b g N p D L G Kind ps A F dl) (ki:se D L G Kind) (hr:dI w r v b0 g N gone sp) (hg:w.rowIs g 31 N f0) {size:Nat} (kr:size=dl.length) {m:Nat} (hm:m=(size+43)/44) (km:m<=D) :
 ZS ZO 80 #[Z6 (ZX ⟨r,0,ZY⟩),Z7 Z9 b,Z7 Z9 size] w (mH w r v b g N p D L G Kind ps A F dl):=by
 have kf:=al kr;clear kr;have kx:N<=16:=by rw [h.nN];exact h.vol.par.s
 have q8:D<=N:=by rw [h.nN];omega
 have hf:m<=16:=by omega
 have q9:size<=704:=by omega
 have Q:ab (2^m-1)=YD m:=E2 hf;have Z:2^m-1<65536:=by
  have:2^m<=2^16:=Vq (by decide) hf;omega
 obtain ⟨S,ka⟩:=nM (2^m-1);rw [ka] at Q Z;have ks:=Nm hr h.vol.vol hg (by have:=h.vol.par.d1;omega) (λe=>h.rg e.symm) h.vg b;have kh:=cJ h.kit hr xP;have kg:¬ ps.bl g:=by obtain ⟨cs,h1,_⟩:=hg;exact cJ h.kit h1 uL
 have y:=a5 h ki kh kg;have e1:((size:Nat):Int)+44-1=((size+43:Nat):Int):=by omega
 clear hr hg h ki kh kg;go_enter func80,ntmps80;go_wp2_with fail;refine ks.mono ?_;rintro e w1 ⟨rfl,ko,hc,k8⟩;have kp:=y.out.1.turn y.out.2.2.1 y.out.2.2.2 k8;have kk:=Me kp y.out.2.1 ko hc S Z (λi n=>by rw [Q,Uy] at n;omega);have H:=au kk k8;clear ks ko hc k8 kp kk;go_wp2_with fail;rw [show ((size:Int)+43)/44=(m:Int) by omega];refine (mn m hf w1).mono ?_;rw [ka];rintro e w2 ⟨rfl,rfl⟩;clear e1;go_wp2_with fail;refine H.out.1.mono ?_;rintro e w3 ⟨⟨Y,hb,j⟩,⟨f,d,q6⟩,K,J,k9⟩;have z:=H.out.2.size;have o:aa (λk=>k=g\/k=r\/k=v\/F.S k\/ps.bl k) w w3:=(H.out.2.mono λ_ _ q=>q.elim (λe=>.inr (.inl e)) .inl).trans k9;rcases q6 with ⟨rfl,W⟩|⟨rfl,U⟩;rotate_left
 . have I:=hide7 j d K J o z U;clear j d K J k9 o z U;unfold fJ;go_wp2;go_ret2;obtain ⟨j,d,⟨ps',hl,k1,k2,k3,k4,k5,k7,k6⟩,X,o,z,U⟩:=I.out;exact ⟨⟨_,_,j⟩,⟨_,d⟩,⟨ps',hl,k1,k2,k3,k4,k5,k7,λk B=>(k6 k B).imp id λq=>TW z q⟩,X,o,.inr ⟨rfl,U⟩⟩
 rw [Q] at W;obtain ⟨R,T⟩:=nM (Eb D L G dl);rw [T] at W;have P:∀ i,i<m->(R i).length=44/\∀ x∈R i,x<256:=λi n=>by rw [<- T];exact zo y.out.1.vol.par dl (by omega)
 have V:((YD m).map R).flatten.take size=dl:=by
  rw [<- T,show Eb D L G dl=λi=>(cW D L G dl).getD i [] from rfl,Hx hm km y.out.1.len y.out.1.byt (Nat.le_of_eq kf.out),kf.out,VC]
 obtain ⟨_,_,d2,_,_⟩:=j.cells;have C:((YD m).map R).length=m:=by simp
 have hq:MM w3 0 g ((YD m).map R):=by
  refine ⟨T9 _,d.lt,λi n=>?_⟩;rw [C] at n;obtain ⟨bl,c,q1,q3,q4⟩:=W i (Uy.2 n);have cg:=d.cell (i:=i) (by omega);rw [q1] at cg;have e:((YD m).map R)[i]'(by rw [C];exact n)=R i:=by simp
  rw [e];exact ⟨bl,0,c,cg,T9 _,q3,q4,(P i n).1,(P i n).2⟩
 have kb:=Ha (c:=N) hq (by rw [C];omega);rw [C] at kb;have I:=hide8 j d K J o kb z V;clear j d W K J k9 kb o hq C z V T;go_wp2_with fail;rw [show (size+43)/44=m from hm.symm];refine I.out.2.2.2.2.2.1.mono ?_;rintro e w4 ⟨u,rfl,hp,t⟩;have kc:((YD m).map R).flatten.length=44*m:=CN R m (λi n=>(P i n).1);have kj:∀ x∈((YD m).map R).flatten,x<256:=λx hx=>by
  obtain ⟨l,q2,q5⟩:=Yy.1 hx;obtain ⟨i,q0,rfl⟩:=T6.1 q2;exact (P i (Uy.1 q0)).2 x q5
 have ke:size<=44*m:=by omega
 have kv:=al kc;obtain ⟨ao,cp,rfl,hj,ky,kz,O,E⟩:=QE hp kc kj ke (by omega);have H4:=aE t E O;clear kc kj;obtain ⟨M,hM⟩:=nM (44*m);rw [hM] at kv ke hj ⊢;have q7:size<=cp:=TW ke hj;clear t E O hp hM hm d2 y Q ka Z H km;go_wp2;go_ret2;obtain ⟨j,d,⟨ps',hl,k1,k2,k3,k4,k5,k7,k6⟩,X,o,_,z,V⟩:=I.out;obtain ⟨t,E,O⟩:=H4.out;rw [V] at E;refine ⟨⟨_,_,j.keep (t.block _ j.lt)⟩,⟨_,d.of_block (t.block _ d.lt)⟩,⟨ps',hl,k1,k2,ps'.keep _ _ k3 (λk B=>t.block k (ps'.lt _ k3 k B)),k4.keep (t.block _ k4.lt),k5,k7,λk B=>(k6 k B).imp id λq=>TW z q⟩,X.below t lR,o.trans (aa.RS t _),.inl ⟨_,rfl,E,λk B=>?_,⟨_,_,rfl⟩⟩⟩;cases ao with
 | none=>simp [Value.ownBlock] at B
 | some a=>
  simp [Value.ownBlock] at B;have h1:=O a rfl;have h2:=o.size;omega
def IZ {v:ZT} (h:Bs w v l):Src ZO 1 31 v l.length (aI l) w:=by
 obtain ⟨ao,c,rfl,m,n,o,g⟩:=h;have i:∀ u∈aI l,u.oneCell'=ZW:=λu a=>by unfold aI at a;rw [T6] at a;obtain ⟨x,_,rfl⟩:=a;rfl
 by_cases hl:l=[]
 . subst hl;cases ao with
   | none=>exact Xp w Uh c
   | some f=>exact U7 w Uh f 0 c [] rfl (λj u d=>by simp at d) (λu a=>by simp at a)
 . obtain ⟨b,off,rfl,k⟩:=g hl;refine U7 w Uh ⟨b,off,ZY⟩ l.length c (aI l) (by rw [aW,VW]) (λj u d=>?_) i;rw [U9];have e:j<l.length:=(by obtain ⟨q,_⟩:=U1.1 d;rwa [aW] at q);rw [k j e,<- d];unfold aI;rw [Un,Ua e,T5,Ua e];rfl
def Ah (w:ZU) (n:Int) (e:ZR) (w':ZU):Prop:=e=Z3 (ZZ #[Z5 ZY 0 0,uR n])/\bW w w'
theorem Mg {ps:aU} (h:aZ w ar v p ps D L G t pg ob P xs A F) (x:ByteArray) (g:bT x=ZV) :
 ZS ZO 55 #[Z6 (ZX ⟨ar,0,ZY⟩),Z0 x] w (Ah w 6):=by
 obtain ⟨_,_,_,_,f⟩:=h.arc.cells;have a:=h.find x;obtain ⟨k,d⟩:=nM (aJ xs.names x);obtain ⟨i,c⟩:=nM (mP xs.os x);rw [d,c] at a;clear d c h;go_enter func55,ntmps55;go_wp2_with fail;refine a.mono ?_;rintro e w1 ⟨rfl,b⟩;have H:=al b;clear b a f;go_wp2_with fail;refine (jR x w1).mono ?_;rintro e w2 ⟨rfl,rfl⟩;rw [g];dsimp only;go_wp2;go_ret2;exact ⟨rfl,H.out⟩
theorem CP {ps:aU} (h:aZ w ar v p ps D L G t pg ob P xs A F) (x:ByteArray) (g:bT x=ZW) (f:x∉xs.names) :
 ZS ZO 55 #[Z6 (ZX ⟨ar,0,ZY⟩),Z0 x] w (Ah w 9):=by
 obtain ⟨_,_,_,_,d⟩:=h.arc.cells;have a:=h.find x;obtain ⟨k,c⟩:=nM (aJ xs.names x);rw [c,h.Sv f] at a;clear c h;go_enter func55,ntmps55;go_wp2_with fail;refine a.mono ?_;rintro e w1 ⟨rfl,b⟩;have H:=al b;clear b a d;go_wp2_with fail;refine (jR x w1).mono ?_;rintro e w2 ⟨rfl,rfl⟩;rw [g];dsimp only;go_wp2;go_ret2;exact ⟨rfl,H.out⟩
structure oX (w:ZU) (v p D L G:Nat) (Kind:aU->Prop) (ps:aU) (A:aH) (ps':aU) (wr:ZU):Prop where
 kind:Kind ps'
 psE:ps'.ps=ps.ps
 kit:ps'.S wr
 vol:bk wr v p D L G ps.ps ps'.ho
 hol:ps'.ho<2^(D+L+G)
 cl:A.here->ps.ho=0->ps'.ho=0
 bl:∀ k,ps'.bl k->ps.bl k\/w.heap.size<=k
def oX.early {Kind:aU->Prop} {ps ps':aU} (h:oX w v p D L G Kind ps A ps' wr) (b:w0.heap.size<=w.heap.size):oX w0 v p D L G Kind ps A ps' wr:={ h with bl:=λk a=>(h.bl k a).imp_right (TW b) }
def aU.TF (ps:aU) (h:Nat):aU:={ ps with ho:=h }
structure Ai (D L G:Nat) (Kind:aU->Prop) (ps:aU):Prop where
 sh:se D L G Kind
 re:∀ ps h,Kind ps->Kind (ps.TF h)
 kind:Kind ps
structure GtG (w:ZU) (q v p r g N sz D L G:Nat) (Kind:aU->Prop) (ps:aU) (A:aH) (F:aR) (cs:List ZT) (d:a8) (k:Nat) (u:ZT) (wr:ZU):Prop where
 pk:wr.ownsRow w.heap.size 5 1 u (min (k*sz) d.length) (aI (d.take (k*sz)))
 rd:∃ b gone sp,dI wr r v b g N gone sp
 row:∃ f,wr.rowIs g 31 N f
 kit:∃ ps',oX w v p D L G Kind ps A ps' wr
 arr:aB wr p A F
 out:aa (λj=>F.S j\/j=v\/ps.bl j) w wr
 box:aj wr q 130 cs
def aaM (w:ZU) (q v p r g N sz D L G:Nat) (Kind:aU->Prop) (ps:aU) (A:aH) (F:aR) (cs:List ZT) (d:a8) (K:Nat) (u i:ZT) (wr:ZU):Prop:=∃ k:Nat,k<=K/\i=Z7 Z9 (k:Nat)/\GtG w q v p r g N sz D L G Kind ps A F cs d k u wr
def Od {n:Nat} (g:1<=D):n<=mQ D n*(D*44):=by
 unfold mQ;obtain ⟨q,d⟩:=nM (D*44);rw [d];have a:0<q:=by omega
 have h:=Nat.lt_mul_div_succ (n+q-1) a;obtain ⟨c,b⟩:=nM ((n+q-1)/q);rw [b] at h ⊢;have:q*(c+1)=c*q+q:=by rw [Nat.mul_add,VW,Wl]
 have:c*q<=max 1 c*q:=WZ _ (YF _ _);omega
def oY:¬ ry 5:=by unfold ry;decide
def I0:¬ ry 130:=by unfold ry;decide
def Oe {ks:Nat} {ps:aU} (a:w.ownsRow base 5 1 u ks (aI l)) (f:dI w r v b0 g N gone sp) (c:w.rowIs g 31 N f0) (n:bk w v p D L G ps.ps ps.ho) (j:ps.S w) (i:aa (λk=>k=g\/k=r\/k=v\/F.S k\/ps.bl k) w w6) (d:∀ k,F.S k->k<base):w6.ownsRow base 5 1 u ks (aI l):=bS a i λq b h=>by
 rcases h with h|h|h|h|h
 . subst h;obtain ⟨cs,e,_⟩:=c;exact bG a e (by decide) b
 . subst h;exact bG a f (by decide) b
 . subst h;exact bG a n (by decide) b
 . have:=d q h;have:=dY a b;omega
 . obtain ⟨cur,m⟩:=bF a b;exact cJ j m oY h
def QF {B:ZT->Prop} {Q:ZT->Prop} {R:ZT->Prop} {C:Prop} (h:(∃ u,e=Z3 (ZZ #[u,.nilIface])/\B u/\Q u/\R u)\/(e=Z3 (ZZ #[Z5 ZY 0 0,fJ])/\C)):∃ u x,e=Z3 (ZZ #[u,x])/\((x=.nilIface/\B u)\/(u=Z5 ZY 0 0/\x=fJ/\C)):=by
 rcases h with ⟨u,rfl,h,_⟩|⟨rfl,h⟩
 . exact ⟨u,_,rfl,.inl ⟨rfl,h⟩⟩
 . exact ⟨_,_,rfl,.inr ⟨rfl,rfl,h⟩⟩
def Mh {Kind:aU->Prop} {ps ps':aU} (i:GtG w q v p r g N sz D L G Kind ps A F cs d k u wr) (hK:oX w v p D L G Kind ps A ps' wr) (f:mH wr.drew r v y g N p D L G Kind ps' A F l e w6) (n:N=D+L+G) (re:∀ ps h,Kind ps->Kind (ps.TF h)) (C:w.heap.size<=r) (B:w.heap.size<=g):aa (λj=>F.S j\/j=v\/ps.bl j) w w6/\∃ b,oX w v p D L G Kind ps A b w6:=by
 have:w.heap.size<=wr.heap.size:=i.out.size;have:wr.drew.heap.size=wr.heap.size:=rfl;refine ⟨(i.out.trans (aa.drew _)).later f.out λj m h=>?_,?_⟩
 . rcases h with h|h|h|h|h
   . omega
   . omega
   . exact .inr (.inl h)
   . exact .inl h
   . rcases hK.bl j h with q|q
     . exact .inr (.inr q)
     . omega
 . obtain ⟨a,hl,k1,k2,k3,k4,o,t,s⟩:=f.kit;refine ⟨a.TF hl,re _ _ k1,k2.trans hK.psE,k3,by rw [<- hK.psE];exact k4,n▸o,λc c0=>t c (hK.cl c c0),λj m=>?_⟩;rcases s j m with q|q
   . exact hK.bl j q
   . exact .inr (by omega)
def Mi {Kind:aU->Prop} {ps ps':aU} {l2:a8} (x:GtG w q v p r g N sz D L G Kind ps A F cs d k u wr) (hK:oX w v p D L G Kind ps A ps' wr) (n:mH wr.drew r v y g N p D L G Kind ps' A F l2 e w6) (J:N=D+L+G) (re:∀ ps h,Kind ps->Kind (ps.TF h))
 (M:w7.ownsRow w.heap.size 5 1 v7 (min ((k+1)*sz) d.length) (aI (d.take ((k+1)*sz)))) (b:w6.grownBy w7 u.ownBlock) (z:w6.ownsRow w.heap.size 5 1 u m (aI l)) (H:∀ k,F.S k->k<w.heap.size) (V:v<w.heap.size) (W:w.heap.size<=q) (Q:q≠r) (O:q≠g) (R:w.heap.size<=r) (P:w.heap.size<=g):GtG w q v p r g N sz D L G Kind ps A F cs d (k+1) v7 w7:=by
 obtain ⟨I,c,i⟩:=Mh x hK n J re R P;have t:∀ {j:Nat} {cs:Array ZT} {T:ZQ},w6.heap[j]?=ZX (Z4 cs T (0,0))->5≠T->w7.heap[j]?=w6.heap[j]?:=by
  intro j cs T a s;exact b.block j (TX.1 a).1 (λe=>bG z a s e.symm)
 have C:∀ j,j<w.heap.size->w7.heap[j]?=w6.heap[j]?:=λj a=>b.block j (TZ a I.size) (λe=>by have:=dY z e.symm;omega);have B:aj w6 q 130 cs:=x.box.keep (n.out.block _ x.box.lt (λh=>by
  rcases h with h|h|h|h|h
  . exact O h
  . exact Q h
  . omega
  . have o:=H _ h;omega
  . exact cJ hK.kit x.box I0 h))
 obtain ⟨gone,sp,E⟩:=n.rd;refine ⟨M,⟨y,gone,sp,E.keep (t E (by decide))⟩,?_,⟨c,{ i with kit:=c.keep _ _ i.kit (λj a=>b.block j (c.lt _ i.kit j a) (λe=>by obtain ⟨cur,K⟩:=bF z e.symm;exact cJ i.kit K oY a)),vol:=i.vol.keep (t i.vol (by decide)) }⟩,n.arr.keep λj a=>C j (H j a),?_,B.keep (t B (by decide))⟩
 . obtain ⟨f,cs,o,s⟩:=n.row;exact ⟨f,cs,(t o (by decide)).trans o,s⟩
 . exact I.later (T:=λj=>w.heap.size<=j) ⟨b.os,b.tape,b.output,b.size,λj _ U=>C j (by omega)⟩ (λj o s=>by omega)
def aZ.got {Kind:aU->Prop} {ps ps':aU} (h:aZ w ar v p ps D L G t pg ob P xs A F) (a:aa (λj=>F.S j\/j=v\/ps.bl j) w w') (y:aB w' p A F) (hK:oX w v p D L G Kind ps A ps' w'):aZ w' ar v p ps' D L G t pg ob P xs A F:=by
 have r:=hK.bl;have s:2<3:=by decide
 have u:1<3:=by decide
 have:=h.vlt;have f:∀ k,k<3->¬ F.S k->k<w.heap.size->w'.heap[k]?=w.heap[k]?:=λk i l m=>a.block k m (λq=>by
  rcases q with q|q|q
  . exact l q
  . omega
  . have:=(h.apt k q).1;omega)
 have n:eB (λk=>ar<k/\¬ F.S k/\¬ ps.bl k/\¬ ps'.bl k) w w':=⟨a.size,λk d b=>a.block k d (λq=>by
  rcases q with q|q|q
  . exact b.2.1 q
  . have:=b.1;omega
  . exact b.2.2.1 q)⟩
 have o:∀ k,(ar<k/\¬ F.S k/\¬ ps.bl k)->k<w.heap.size->(ar<k/\¬ F.S k/\¬ ps.bl k/\¬ ps'.bl k):=λk q i=>⟨q.1,q.2.1,q.2.2,λe=>(r k e).elim q.2.2 (by omega)⟩;have x:∀ k,ps'.bl k->3<=k/\k≠ar/\k≠v/\¬ F.S k:=λk d=>by
  rcases r k d with q|q
  . exact h.apt k q
  . have:=h.arc.lt;have:=h.vol.vol.lt;have:=h.vlt;exact ⟨by omega,by omega,by omega,λe=>by have:=h.vol.arr.RU e;omega⟩
 exact { h with
  arc:=h.arc.keep (a.block _ h.arc.lt λq=>by
   rcases q with q|q|q
   . exact h.nar q
   . omega
   . exact (h.apt _ q).2.1 rfl)
  vol:={ h.vol with vol:=by rw [hK.psE];exact hK.vol,arr:=y,laid:=h.vol.laid.keep (f _ s h.vol.g h.vol.laid.lt),tab:=h.vol.tab.keep (f _ u h.vol.t h.vol.tab.lt),room:=TW h.vol.room a.size }
  pgs:=((h.pgs.wk o).keep n).wk λk q _=>⟨q.1,q.2.1,q.2.2.2⟩
  cat:=((h.cat.wk o).keep n).wk λk q _=>⟨q.1,q.2.1,q.2.2.2⟩
  kit:=hK.kit
  apt:=x
  hol:=λc=>hK.cl c (h.hol c)
  hl:=hK.hol }
def uS (xs:aY) (A:aH) (x:ByteArray) (base:Nat) (u r:ZT) (w:ZU):Prop:=
 (u=Z5 ZY 0 0/\((r=uR 6/\bT x=ZV)\/(r=uR 9/\bT x=ZW/\x∉xs.names)\/(r=uR 3/\bT x=ZW/\x∈xs.names/\¬ A.clean)))\/(r=.nilIface/\bT x=ZW/\∃ X∈xs,X.1.name=x/\w.ownsRow base 5 1 u X.2.length (aI X.2))
def QG (w:ZU) (ar v p:Nat) (Kind:aU->Prop) (ps:aU) (D L G t:Nat) (pg ob:ZT) (P:a8) (xs:aY) (A:aH) (F:aR) (ps':aU) (w':ZU):Prop:=aZ w' ar v p ps' D L G t pg ob P xs A F/\Kind ps'/\∀ k,ps'.bl k->ps.bl k\/w.heap.size<=k
def mJ (w:ZU) (ar v p:Nat) (Kind:aU->Prop) (ps:aU) (D L G t:Nat) (pg ob:ZT) (P:a8) (xs:aY) (A:aH) (F:aR) (x:ByteArray) (e:ZR) (w':ZU):Prop:=
 ∃ u r ps',e=Z3 (ZZ #[u,r])/\QG w ar v p Kind ps D L G t pg ob P xs A F ps' w'/\aa (λj=>F.S j\/j=v\/ps.bl j) w w'/\uS xs A x w.heap.size u r w'
theorem Of {Kind:aU->Prop} {ps:aU} (h:aZ w ar v p ps D L G t pg ob P xs A F) (hv:Ai D L G Kind ps) (x:ByteArray) (hx:bT x=ZW) (J:Nat) (xa:J<xs.length) (hm:xs[J].1.name=x) :
 ZS ZO 55 #[Z6 (ZX ⟨ar,0,ZY⟩),Z0 x] w (mJ w ar v p Kind ps D L G t pg ob P xs A F x):=by
 obtain ⟨_,_,_,_,c8⟩:=h.arc.cells;have q3:=h.find x;have xh:xs.names.length=xs.length:=by rw [<- eu,bm];simp [aY.os]
 have qh:xs.names[J]'(by omega)=x:=by simp [aY.names,hm,aQ,aY.os]
 have kc:x∈xs.names:=by rw [<- qh];exact T4 _
 have x5:aJ xs.names x=J:=il h.disk.up (by omega) qh;rw [x5,h.there kc] at q3;have ka:=h.disk.fits _ (T4 xa);obtain ⟨oo,oc,rfl,hol,_⟩:=id h.cat;have qi:xs.os.length=xs.length:=by simp [aY.os]
 have ke:∀ hh:J<xs.os.length,xs.os[J]=xs[J].1:=λhh=>by simp [aY.os]
 obtain ⟨X,hX⟩:=nM (xs[J]);rw [hX] at ka hm ke;obtain ⟨nn,x1⟩:=nM (xs.os.length);have qq:X∈xs:=by rw [<- hX];exact T4 _
 have f:=a7 h ka kc ke x1 qq;have HV:=al hv;have qe:J<nn:=by omega
 have xb:(J:Int)<(nn:Int):=by omega
 rw [x1] at q3 c8;clear h hv xh qh kc x5 ka ke qi hol hX qq;go_enter func55,ntmps55;go_wp2_with fail;refine q3.mono ?_;rintro e w1 ⟨rfl,hb⟩;have H:=al hb;clear hb q3 c8;go_wp2_with fail;refine (jR x w1).mono ?_;rintro e w2 ⟨rfl,rfl⟩;rw [hx];dsimp only;have a:=f.out.1.below H.out;obtain ⟨d0,_,_,_,d8⟩:=a.arc.cells;rw [f.out.2.2.2.2.1] at d8;obtain ⟨FR,off,sv,rfl,xi,xj,r1,r2,r3,r4⟩:=a.cat.at' (k:=J) (by rw [f.out.2.2.2.2.1];exact qe);rw [f.out.2.2.2.1 _] at r1 r2 r4;rw [hm] at r1;obtain ⟨n,hn⟩:=nM (X.1.size);rw [hn] at r2;obtain ⟨sa,V,rfl,x8,_⟩:=id r4;obtain ⟨S,hS⟩:=nM (X.1.RQ);rw [hS] at r3 r4 x8;have W:=a5 a r4 hn hS;clear a r4 hn hS;have qb:bW w2 (w2.alloc (Z4 #[Z0 x,Z7 Z9 (n:Nat),.slice sa S.length V] 130)):=bA w2 _;have q0:aj (w2.alloc (Z4 #[Z0 x,Z7 Z9 (n:Nat),.slice sa S.length V] 130)) w2.heap.size 130 [Z0 x,Z7 Z9 (n:Nat),.slice sa S.length V]:=UG w2 _;have qm:(w2.alloc (Z4 #[Z0 x,Z7 Z9 (n:Nat),.slice sa S.length V] 130)).heap.size=w2.heap.size+1:=by simp
 have C:X.2.length=n:=f.out.2.1.len.trans W.out.2.2.1;have xf:n<=1500:=by rw [<- W.out.2.2.1];exact f.out.2.1.fit.size
 obtain ⟨w3,xn⟩:=nM (w2.alloc (Z4 #[Z0 x,Z7 Z9 (n:Nat),.slice sa S.length V] 130));rw [xn] at qb q0 qm;have y1:=q0.cell (j:=1) (u:=Z7 Z9 (n:Nat)) rfl;obtain ⟨ib,qy,km,ko,kp⟩:=Us Tryz.Sx;have H3:=aE qb q0 qm;clear qb q0 qm;go_wp2_with (at_make;refine aa6 w3 rfl (.const (Z7 Z9 0)) (Z1 41) 31 rfl w2.heap.size 5 ib (Z7 .u8 0) 1 Uh qy km ko .i64 .i64 _ n (by rfl) (by rfl) rfl (by rw [kp];omega) (by unfold maxLen;omega) (by exact H3.out.1.size) ?_;intro w4 x3 qc;have qa:bW w2 w4:=H3.out.1.grown qc H3.out.1.size (λk e=>by cases e);have e0:=(qa.cell (p:=⟨ar,0,ZY⟩) W.out.1.arc.lt).trans d0;have H4:=aE x3 qc qa;clear x3 qc qa);have kb:=W.out.1.below H4.out.2.2;have U:=xV kb.vol.vol kb.vol.par.d kb.vol.par.l4 kb.vol.par.g kb.vol.n;have kz:=al kb;clear kb d8 r1 r2 r3 y1;refine U.mono ?_;rintro e w5 ⟨rfl,q7,hf,ki⟩;have kr:=kz.out.below ki;have q6:aj w4 w2.heap.size 130 _:=H3.out.2.1.keep (H4.out.2.1.block _ H3.out.2.1.lt (by simp));have hc:aj w5 w2.heap.size 130 _:=q6.keep (ki.block _ q6.lt);have x2:=hc.cell (j:=2) (u:=.slice sa S.length V) rfl;have kh:bW w2 w5:=H4.out.2.2.trans (ki.mono H4.out.2.2.size);obtain ⟨sz,I⟩:=nM (D*44);have k9:S.length=mQ D n:=by rw [<- W.out.2.2.2,f.out.2.1.st,W.out.2.2.1];rfl
 obtain ⟨r,hr⟩:=nM (w4.heap.size+2);obtain ⟨g,hg⟩:=nM (w4.heap.size+1);have xy:=H4.out.2.2.size;rw [hr,hg] at q7;rw [hg] at hf;obtain ⟨d,E⟩:=nM (X.2);rw [E] at C;have x6:GtG w2 w2.heap.size v p r g A.n sz D L G Kind ps A F [Z0 x,Z7 Z9 (n:Nat),.slice sa S.length V] d 0 (Z5 (ZX ⟨w3.heap.size,0,ZY⟩) 0 n) w5:=
  ⟨by rw [Yi,Nat.zero_min];exact ay H4.out.1 ki,⟨_,_,_,q7⟩,⟨_,hf⟩,⟨ps,HV.out.kind,rfl,kr.kit,kr.vol.vol,kr.hl,λ_ c0=>c0,λ_ q=>.inl q⟩,kr.vol.arr,aa.RS kh _,hc⟩
 have H5:=a6 x6 I k9 E C;have xk:r≠g:=by omega
 have xo:w2.heap.size<g:=by omega
 have xx:w2.heap.size<r:=by omega
 rw [hr];clear x6 I k9 E C q7 hf hc q6 kr kh U ki hr hg;have xm:44<=sz/\sz<=528:=by rw [<- H5.out.2.1];have:=kz.out.vol.par.d1;have:=kz.out.vol.par.d;omega
 go_wp2_with fail;go_loopw [9,51] (λu i wr=>aaM w2 w2.heap.size v p r g A.n sz D L G Kind ps A F [Z0 x,Z7 Z9 (n:Nat),.slice sa S.length V] d S.length u i wr) (λ_ i _=>S.length-(intOf i).toNat)
 case atStart=>exact ⟨0,T9 _,rfl,H5.out.1⟩
 case round=>
  clear x2 e0;obtain ⟨k,xp,rfl,K⟩:=hrel;by_cases kg:k<S.length
  . obtain ⟨s,⟨b0,gone,sp,U⟩,⟨f0,he⟩,⟨ps',b⟩,ha,Y,kj⟩:=id K;obtain ⟨_,I,k9,E,C⟩:=H5.out;obtain ⟨a,qp,xg,q1⟩:=W.out;have hr:=a.vol.par;have qz:k*sz<=n:=(by rw [<- I];exact CM hr.d1 (by omega));have N:∀ j,F.S j->j<w2.heap.size:=λj Z=>a.vol.arr.RU Z;rw [C,V5 qz] at s;obtain ⟨l,hl⟩:=nM (d.take (k*sz));rw [hl] at s;obtain ⟨pa,pc,rfl⟩:=bf s;obtain ⟨o,B⟩:=nM (k*sz);have kx:=a.vlt;have qn:eB (λk=>ar<k/\¬ F.S k/\¬ ps.bl k) w2 wr:=⟨Y.size,λj Z hK=>Y.block j Z (λq=>by rcases q with q|q|q;exact hK.2.1 q;omega;exact hK.2.2 q)⟩;obtain ⟨sb,so,y0,e1,qs⟩:=rY (qp.keep qn) (λe=>by rw [e] at kg;simp at kg);simp only [Vt] at e1;obtain ⟨rfl,_,rfl⟩:=e1;have g1:=qs k kg;obtain ⟨y,hy⟩:=nM (S[k]);rw [hy] at g1;have ky:X.1.RQ.getD k 0=y:=(by rw [q1,oN kg,hy]);have x7:y<A.nb:=by
     refine (a.disk.Tt y (VK _ (zY f.out.2.2.2.2.2 ?_))).2;rw [q1,<- hy];exact T4 kg
    have qk:=a.disk.held X f.out.2.2.2.2.2 k (by rw [q1];exact kg);rw [ky,E] at qk;have kf:=a.got Y ha b;have q8:pH wr.drew v p D L G ps'.ps ps'.ho A F:=kf.vol.below ((TY _ wr).drew) lR;obtain ⟨ca,_⟩:=kf.arc.cells;have cz:=kj.cell (j:=1) (u:=Z7 Z9 (n:Nat)) rfl;have qj:=dA q8.vol (by have:=hr.d;omega);rw [I] at qj;obtain ⟨O,qf⟩:=nM (min (n-o) sz);have xe:∀ qr ty w,(Builtin.min_ qr ty #[Z7 Z9 ((n:Int)-(o:Int)),Z7 Z9 (sz:Nat)]).run ZO w=.ok (Z7 Z9 (O:Nat)) w:=λqr ty w=>by
     rw [gy];by_cases h1:((sz:Nat):Int)<(n:Int)-(o:Int)
     . rw [if_pos h1,show O=sz by omega]
     . rw [if_neg h1,show (O:Int)=(n:Int)-(o:Int) by omega]
    have Q:=a.vol.n;have x0:(O+43)/44<=D:=(by omega);have T:(cZ D d k).length=O:=(by unfold cZ;rw [Ui,Uj,I,B,C];omega);have kv:vM wr.drew r v y g A.n p D L G Kind ps' A F (cZ D d k):=
     { vol:=q8,nN:=Q,hol:=by rw [Q];exact b.hol,kit:=ps'.keep _ _ b.kit (λ_ _=>rfl),kind:=b.kind,apt:=λj Z=>⟨(kf.apt j Z).1,(kf.apt j Z).2.2.1,(kf.apt j Z).2.2.2⟩,vr:=λe=>by have:=a.vol.vol.lt;omega,vg:=λe=>by have:=a.vol.vol.lt;omega,rg:=xk,gF:=λe=>by have:=N _ e;omega,rF:=λe=>by have:=N _ e;omega,rK:=by have:=a.vol.room;omega,vK:=a.vlt.1,gK:=by have:=a.vol.room;omega,nb:=x7,cw:=qk,len:=by rw [T];omega,byt:=λz hz=>f.out.2.1.byt z (by rw [E];exact US (UN hz)) }
    have qv:=CO kv HV.out.sh (U.keep rfl) (he.of_block rfl) T.symm (m:=(O+43)/44) rfl x0;have q2:cZ D d k=(d.drop o).take sz:=(by unfold cZ;rw [I,B]);have R:=hide15 K U he s qv qj N B b Q a.vol.vol.lt hl T qf q2;rw [B] at qz s ⊢;have xd:O<=528:=(by omega);have xq:IntKind.i64.wrap ((k:Int)+1)=(k:Int)+1:=(by rw [Ut];omega);have xv:IntKind.i64.wrap ((n:Int)-(o:Int))=(n:Int)-(o:Int):=(by rw [Ut];omega);clear K b kf kv kx U he s qv qj N B q8 qn qs hy Y kj ha I k9 a qp xg q1 hr qf x0 Q hl x7 qk ky T q2 E C;go_wp2;go_region_with (first
     | (go_at_call 81;refine R.out.2.2.2.2.2.1.mono ?_;rintro e wq ⟨rfl,rfl⟩)
     | (go_at_call 80;refine R.out.2.2.2.2.1.mono ?_;rintro e w6 M;obtain ⟨u2,x2,x9,q4⟩:=QF M.ans;have H6:=au M q4;subst x9;clear M q4))
    all_goals (
     obtain ⟨M,q4⟩:=H6.out;rcases q4 with ⟨rfl,kk⟩|⟨rfl,rfl,T⟩;rotate_left
     . obtain ⟨K,_,_,_,_,_,N,_,b,Q,kx,_⟩:=R.out;obtain ⟨qo,xz,q5⟩:=Mh K b M Q HV.out.re (by omega) (by omega);have k8:aa (λj=>F.S j\/j=v\/ps.bl j) w w6:=(aa.RS H.out _).trans qo;have HF:=a5 k8 (f.out.1.got k8 M.arr (q5.early H.out.size)) (q5.early H.out.size) (λc:A.clean=>T ⟨c,b.cl c.here (f.out.1.hol c.here)⟩);clear K N b kx qo q5 k8 M H6 R T Q;unfold fJ;go_wp2;go_ret2;obtain ⟨h2,h3,h6,h7⟩:=HF.out;exact ⟨_,_,xz,rfl,⟨h3,h6.kind,h6.bl⟩,h2,.inl ⟨rfl,.inr (.inr ⟨rfl,hx,f.out.2.2.1,h7⟩)⟩⟩
     have k5:w6.ownsRow w2.heap.size 5 1 (.slice pa o pc) o (aI l):=by
      obtain ⟨_,U,he,s,_,_,N,B,b,_⟩:=R.out;rw [B] at s;exact Oe (ay s ((TY _ wr).drew)) (U.keep rfl) (he.of_block rfl) (by rw [b.psE];exact b.vol) (ps'.keep _ _ b.kit (λ_ _=>rfl)) M.out N
     obtain ⟨l2,a⟩:=nM (cZ D d k);have k7:Src ZO 1 31 u2 O (aI l2) w6:=by
      have:=IZ kk;rw [R.out.2.2.2.2.2.2.2.2.2.2.2.2.1,a] at this;exact this
     have HO:=a5 k5 k7 (TW R.out.1.out.size M.out.size) a;clear k5 k7 M a kk;go_wp2_with (at_builtin;refine ae _ rfl (Z1 75) (Z1 76) 31 31 rfl w2.heap.size 5 ib (Z7 .u8 0) 1 1 Uh qy km ko kp rfl (.slice pa o pc) o (aI l) (by rfl) (by exact HO.out.1) _ (by rfl) O (aI l2) (by exact HO.out.2.1) (by unfold maxLen;omega) (by omega) (by exact HO.out.2.2.1) ?_;intro v7 w7 x4 qx q9;have H7:=au x4 qx;clear x4 qx q9);go_roundw
     case rel=>
      obtain ⟨K,_,_,_,_,_,N,B,b,Q,kx,hl,T,qf,q2⟩:=R.out;have qg:(k+1)*sz=o+sz:=(by rw [<- B];exact WH k sz);have C:=H5.out.2.2.2.2;rw [B] at K;refine ⟨k+1,by omega,by go_num,Mi K b H6.out.1 Q HV.out.re ?_ H7.out.2 HO.out.1 N kx lR (by omega) (by omega) (by omega) (by omega)⟩;have h7:=H7.out.1;rw [qg,C,show min (o+sz) n=o+O by omega,YH,<- q2,HO.out.2.2.2,<- B,hl,bL];rw [B];exact h7
     case measure=>simp only [intOf];omega)
  . have xc:k=S.length:=(by omega);subst xc;obtain ⟨s,_,_,⟨ps',b⟩,ha,Y,_⟩:=K;obtain ⟨_,I,k9,E,C⟩:=H5.out;have qd:d.length<=S.length*sz:=(by rw [C,k9,<- I];exact Od kz.out.vol.par.d1);rw [YI qd,UD qd] at s;have k8:aa (λj=>F.S j\/j=v\/ps.bl j) w wr:=(aa.RS H.out _).trans Y;have HF:=a5 (And.intro (cP s H.out.size) k8) (f.out.1.got k8 ha (b.early H.out.size)) (b.early H.out.size) E;clear s ha Y k8 b qd I k9 E C;go_wp2;go_ret2;obtain ⟨⟨h1,h2⟩,h3,h6,E⟩:=HF.out;subst E;exact ⟨_,_,ps',rfl,⟨h3,h6.kind,h6.bl⟩,h2,.inr ⟨rfl,hx,X,f.out.2.2.2.2.2,hm,h1⟩⟩
def Gb {Kind:aU->Prop} {ps:aU} (h:aZ w ar v p ps D L G t pg ob P xs A F) (d:Ai D L G Kind ps) (x:ByteArray) :
 ZS ZO 55 #[Z6 (ZX ⟨ar,0,ZY⟩),Z0 x] w (mJ w ar v p Kind ps D L G t pg ob P xs A F x):=by
 have c:∀ n:Int,(∀ w',uS xs A x w.heap.size (Z5 ZY 0 0) (uR n) w')->∀ e w',Ah w n e w'->mJ w ar v p Kind ps D L G t pg ob P xs A F x e w':=by
  rintro n hn e w' ⟨rfl,b⟩;exact ⟨_,_,ps,rfl,⟨h.below b,d.kind,λ_ q=>.inl q⟩,aa.RS b _,hn w'⟩
 cases hx:bT x with
 | false=>exact (Mg h x hx).mono (c 6 λ_=>.inl ⟨rfl,.inl ⟨rfl,hx⟩⟩)
 | true=>
  by_cases a:x∈xs.names
  . obtain ⟨f,i,e⟩:=U0 a;have:xs.names.length=xs.length:=(by rw [<- eu,bm];simp [aY.os]);exact Of h d x hx f (by omega) (by rw [<- e];simp [aY.names,aQ,aY.os])
  . exact (CP h x hx a).mono (c 9 λ_=>.inl ⟨rfl,.inr (.inl ⟨rfl,hx,a⟩)⟩)
section
structure vN (w:ZU) (ar v p:Nat) (ps:aU) (D L G:Nat) (A:aH) (F:aR):Prop where
 vol:pH w v p D L G ps.ps ps.ho A F
 nar:¬ F.S ar
 vlt:3<=v/\v<ar
 arl:ar<w.heap.size
 kit:ps.S w
 apt:∀ k,ps.bl k->3<=k/\k≠ar/\k≠v/\¬ F.S k
 hol:A.here->ps.ho=0
 hl:ps.ho<2^(D+L+G)
section
variable {w w':ZU} {ar v p D L G:Nat} {ps ps':aU} {A:aH} {F:aR}
def vN.below (h:vN w ar v p ps D L G A F) (a:bW w w'):vN w' ar v p ps D L G A F:=
 { h with vol:=h.vol.below a lR,arl:=TZ h.arl a.size,kit:=ps.keep _ _ h.kit λk b=>a.block k (ps.lt _ h.kit k b) }
def vN.got (h:vN w ar v p ps D L G A F) {Kind:aU->Prop} (a:aa (λj=>F.S j\/j=v\/ps.bl j) w w') (n:aB w' p A F) (hK:oX w v p D L G Kind ps A ps' w'):vN w' ar v p ps' D L G A F:=by
 have l:2<3:=by decide
 have m:1<3:=by decide
 have:=h.vlt;have b:∀ k,k<3->¬ F.S k->k<w.heap.size->w'.heap[k]?=w.heap[k]?:=λk f i d=>a.block k d (λq=>by
  rcases q with q|q|q
  . exact i q
  . omega
  . have:=(h.apt k q).1;omega)
 exact { h with
  vol:={ h.vol with vol:=by rw [hK.psE];exact hK.vol,arr:=n,laid:=h.vol.laid.keep (b _ l h.vol.g h.vol.laid.lt),tab:=h.vol.tab.keep (b _ m h.vol.t h.vol.tab.lt),room:=TW h.vol.room a.size }
  arl:=TZ h.arl a.size
  kit:=hK.kit
  apt:=λk o=>by
   rcases hK.bl k o with q|q
   . exact h.apt k q
   . have:=h.arl;have:=h.vol.room;exact ⟨by omega,by omega,by omega,λe=>by have:=h.vol.arr.RU e;omega⟩
  hol:=λc=>hK.cl c (h.hol c)
  hl:=hK.hol }
def vN.arc (h:vN w ar v p ps D L G A F) (a:aa (λj=>F.S j\/j=v\/ps.bl j) w w') {D' L' G' t f n:Nat} {pg ob:ZT} {off:Bool} (b:bh w ar v D' L' G' t f n pg ob off):bh w' ar v D' L' G' t f n pg ob off:=
 b.keep (a.block _ h.arl λq=>by
  rcases q with q|q|q
  . exact h.nar q
  . have:=h.vlt;omega
  . exact (h.apt _ q).2.1 rfl)
end
structure OV (A:aH) (D L G:Nat) (P l:a8):Prop where
 on:A.holds D L G P (bU D P l)
 pl:P.length=YE D l.length
 nb:∀ x∈P,x<A.nb
 le:P.length<=A.nb
 byt:∀ x∈l,x<256
def Og {n:Nat} (f:1<=D) {k:Nat} (d:k<pgs D n):k*(D*44-4)<=n:=by
 unfold pgs at d;by_cases a:k=0
 . subst a;omega
 . have b:k<(n+(D*44-4)-1)/(D*44-4):=(by omega);have e:0<D*44-4:=(by omega);have c:=(YG e).1 (Nat.succ_le_of_lt b);rw [WH] at c;omega
def Oh {n:Nat} (d:1<=D):n<=pgs D n*(D*44-4):=by
 have c:0<D*44-4:=by omega
 have a:(n+(D*44-4)-1)/(D*44-4)<=pgs D n:=YF _ _;have:=WZ (D*44-4) a;have b:=Nat.div_add_mod (n+(D*44-4)-1) (D*44-4);have:=VT (n+(D*44-4)-1) c;rw [Wl] at b;omega
def E3 (P l:a8) (k:Nat):(bU D P l k).length=4+min (l.length-k*(D*44-4)) (D*44-4):=by
 unfold bU;rw [T8,aF,Ui,Uj,Nat.min_comm]
def I1 (w:ZU) (pb po n:Nat) (page:a8):Prop:=∀ q,q<n->w.cell? ⟨pb,po+q,ZY⟩=ZX (Z7 .u8 ((page.getD q 0:Nat):Int))
def I1.grown {n:Nat} {row:Option Nat} (h:I1 w pb po n page) (b:w.grownBy w' row) (a:row≠ZX pb):I1 w' pb po n page:=λq c=>b.cell (h q c) (λe=>a e.symm)
def I1.alloc {n:Nat} (h:I1 w pb po n page) (o:Obj):I1 (w.alloc o) pb po n page:=h.grown (abd w o ZY) (λe=>by cases e)
theorem I1.src (h:I1 w pb po (4+sk) page) (hl:page.length=4+sk):Src ZO 1 31 (Z5 (ZX ⟨pb,po+4,ZY⟩) sk sk) sk (aI (page.drop 4)) w:=by
 refine U7 w Uh ⟨pb,po+4,ZY⟩ sk sk (aI (page.drop 4)) (by rw [aW,Uj,hl];omega) (λq u a=>?_) (λu f=>by obtain ⟨x,_,rfl⟩:=T6.1 f;rfl);have g:q<sk:=by
  have:=(U1.1 a).1;rw [aW,Uj,hl] at this;omega
 have d:=h (4+q) (by omega);have e:(Value.int .u8 ((page.getD (4+q) 0:Nat):Int))=u:=by
  unfold aI at a;rw [Un,VZ,Ua (by omega)] at a;simp at a;rw [<- a];simp [T5,show 4+q<page.length by omega]
 have b:w.cell? ⟨pb,po+4+q,ZY⟩=ZX u:=by rw [<- e,Vu];exact d
 unfold Addr.add;split
 . rename_i c;subst c;exact b
 . exact b
def I1.src0:Src ZO 1 31 (Z5 (ZX ⟨pb,po,ZY⟩) 0 0) 0 [] w:=U7 w Uh ⟨pb,po,ZY⟩ 0 0 [] rfl (λq u a=>by simp at a) (λu b=>by cases b)
def I1.head {n c x:Nat} (h:I1 w pb po n page) (hn:4<=n) (b:4<=c) (d:page.take 4=be x 4):Bs w (Z5 (ZX ⟨pb,po,ZY⟩) 4 c) (be x 4):=by
 refine ⟨ZX ⟨pb,po,ZY⟩,c,by rw [aF],by rw [aF];exact b,by rw [aF];decide,qE _ _,λ_=>⟨pb,po,rfl,λq a=>?_⟩⟩;rw [aF] at a;rw [h q (by omega),<- d];have:(page.take 4).getD q 0=page.getD q 0:=by
  rw [T5,T5,VF a]
 rw [this]
structure RpG (w:ZU) (v p r g N sz n1 f1 D L G:Nat) (Kind:aU->Prop) (ps:aU) (A:aH) (F:aR) (P l:a8) (D1 L1 G1 t1 k:Nat) (up uq:ZT) (wr:ZU):Prop where
 pk:wr.ownsRow w.heap.size 5 1 up (min (k*sz) n1) (aI (l.take (k*sz)))
 pg:wr.ownsRow w.heap.size 3 1 uq k (jL (P.take k))
 rd:∃ b gone sp,dI wr r v b g N gone sp
 row:∃ f,wr.rowIs g 31 N f
 kit:∃ ps',oX w v p D L G Kind ps A ps' wr
 arr:aB wr p A F
 out:aa (λj=>F.S j\/j=v\/ps.bl j) w wr
 box:wr.heap[w.heap.size]?=ZX (Z4 (aq D1 L1 G1 t1 f1 n1) 110 (0,0))
def aaN (w:ZU) (v p r g N sz n1 f1 D L G:Nat) (Kind:aU->Prop) (ps:aU) (A:aH) (F:aR) (P l:a8) (D1 L1 G1 t1 K:Nat) (up uq nx i:ZT) (wr:ZU):Prop:=∃ k:Nat,k<=K/\i=Z7 Z9 k/\nx=Z7 Z9 ((P.getD k 0:Nat):Int)/\RpG w v p r g N sz n1 f1 D L G Kind ps A F P l D1 L1 G1 t1 k up uq wr
def E4:¬ ry 3:=by unfold ry;decide
def Oi:¬ ry 110:=by unfold ry;decide
def Mj {Kind:aU->Prop} {ps ps':aU} (a:RpG w v p r g N sz n1 f1 D L G Kind ps A F P l D1 L1 G1 t1 k up uq wr) (hK:oX w v p D L G Kind ps A ps' wr) (f:mH wr.drew r v y g N p D L G Kind ps' A F dl e w5) (E:N=D+L+G) (re:∀ ps h,Kind ps->Kind (ps.TF h)) (o:∀ k,F.S k->k<w.heap.size) (M:v<w.heap.size) (U:w.heap.size<r) (R:w.heap.size<g):aa (λj=>F.S j\/j=v\/ps.bl j) w w5/\(∃ b,oX w v p D L G Kind ps A b w5)/\w5.heap[w.heap.size]?=ZX (Z4 (aq D1 L1 G1 t1 f1 n1) 110 (0,0))/\(∀ {T:ZQ} {s n:Nat} {u:ZT} {xs:List ZT},wr.ownsRow w.heap.size T s u n xs->¬ ry T->T≠216->T≠31->w5.ownsRow w.heap.size T s u n xs):=by
 have:w.heap.size<=wr.heap.size:=a.out.size;have:wr.drew.heap.size=wr.heap.size:=rfl;obtain ⟨_,_,_,C⟩:=a.rd;obtain ⟨f0,x⟩:=a.row;refine ⟨(a.out.trans (aa.drew _)).later f.out λj t h=>?_,?_,?_,?_⟩
 . rcases h with h|h|h|h|h
   . omega
   . omega
   . exact .inr (.inl h)
   . exact .inl h
   . rcases hK.bl j h with q|q
     . exact .inr (.inr q)
     . omega
 . obtain ⟨b,hl,k1,k2,k3,k4,I,K,J⟩:=f.kit;refine ⟨b.TF hl,re _ _ k1,k2.trans hK.psE,k3,by rw [<- hK.psE];exact k4,by rw [<- E];exact I,λc c0=>K c (hK.cl c c0),λj t=>?_⟩;rcases J j t with q|q
   . exact hK.bl j q
   . exact .inr (by omega)
 . refine (f.out.block _ (TX.1 a.box).1 (λh=>?_)).trans a.box;rcases h with h|h|h|h|h
   . omega
   . omega
   . omega
   . have:=o _ h;omega
   . exact cJ hK.kit a.box Oi h
 . intro T s n u xs ho i m z;refine bS (show wr.drew.ownsRow w.heap.size T s u n xs from ho) f.out λq d h=>?_;rcases h with h|h|h|h|h
   . subst h;obtain ⟨cs,B,_⟩:=x;exact bG ho B z d
   . subst h;exact bG ho C m d
   . subst h;have:=dY ho d;omega
   . have i:=o q h;have:=dY ho d;omega
   . obtain ⟨cur,H⟩:=bF ho d;exact cJ hK.kit H i h
theorem CQ {x pl:Nat} {Kind:aU->Prop} {ps ps':aU} {v6:ZT} {o:Obj} (X:RpG w v p r g N sz n1 f1 D L G Kind ps A F P l D1 L1 G1 t1 k up uq wr) (hK:oX w v p D L G Kind ps A ps' wr) (E:mH wr.drew r v y g N p D L G Kind ps' A F dl e w5) (Y:N=D+L+G) (re:∀ ps h,Kind ps->Kind (ps.TF h)) (R:∀ k,F.S k->k<w.heap.size) (k5:v<w.heap.size) (hr:w.heap.size<r) (H:w.heap.size<g)
 (V:k<P.length) (hx:P.getD k 0=x) (M:w5.ownsRow w.heap.size 3 1 uq k (jL (P.take k))) (W:w6.ownsRow w.heap.size 3 1 v6 (k+1) (jL (P.take k)++[Z7 Z9 (x:Int)])) (m:(w5.alloc o).grownBy w6 uq.ownBlock) (C:w6.ownsRow w.heap.size 5 1 up pl (aI (l.take pl))) (hy:w7.ownsRow w.heap.size 5 1 v7 (pl+sk) (aI (l.take pl)++aI ((l.drop pl).take sz))) (c:w6.grownBy w7 up.ownBlock)
 (hz:k*sz=pl) (k8:min (n1-pl) sz=sk) (k6:pl<=n1):RpG w v p r g N sz n1 f1 D L G Kind ps A F P l D1 L1 G1 t1 (k+1) v7 v6 w7:=by
 obtain ⟨U,⟨n,i⟩,J,_⟩:=Mj X hK E Y re R k5 hr H;have k9:w.heap.size<=w5.heap.size:=U.size;have ka:w5.heap.size+1<=w6.heap.size:=by have:=m.size;simp at this;omega
 have O:=M.alloc o;have u:∀ {q:Nat} {cs:Array ZT} {T:ZQ} {z:Nat×Nat},w5.heap[q]?=ZX (Z4 cs T z)->3≠T->5≠T->w7.heap[q]?=w5.heap[q]?:=by
  intro q cs T z s t B;have k0:q<w5.heap.size:=(TX.1 s).1;have b:(w5.alloc o).heap[q]?=w5.heap[q]?:=Ux _ _ _ k0;have d:w6.heap[q]?=(w5.alloc o).heap[q]?:=m.block q (by simp;omega) (λe=>by
   obtain ⟨cur,a⟩:=bF O e.symm;rw [b.trans s] at a;simp only [UO,Vm] at a;exact t a.2.1.symm)
  refine (c.block q (by omega) (λe=>?_)).trans (d.trans b);obtain ⟨cur,a⟩:=bF C e.symm;rw [(d.trans b).trans s] at a;simp only [UO,Vm] at a;exact B a.2.1.symm
 have K:∀ q,q<w.heap.size->w7.heap[q]?=w5.heap[q]?:=λq s=>by
  have b:(w5.alloc o).heap[q]?=w5.heap[q]?:=Ux _ _ _ (by omega);have d:w6.heap[q]?=(w5.alloc o).heap[q]?:=m.block q (by simp;omega) (λe=>by have:=dY O e.symm;omega);exact (c.block q (by omega) (λe=>by have:=dY C e.symm;omega)).trans (d.trans b)
 have hi:(k+1)*sz=pl+sz:=by rw [WH,hz]
 obtain ⟨gone,sp,Q⟩:=E.rd;refine ⟨?_,?_,⟨y,gone,sp,Q.keep (u Q (by decide) (by decide))⟩,?_,⟨n,{ i with kit:=n.keep _ _ i.kit (λj I=>?_),vol:=i.vol.keep (u i.vol (by decide) (by decide)) }⟩,E.arr.keep λq s=>K q (R q s),?_,(u J (by decide) (by decide)).trans J⟩
 . rw [hi,YH,bL,show min (pl+sz) n1=pl+sk by omega];exact hy
 . have e:jL (P.take (k+1))=jL (P.take k)++[Z7 Z9 (x:Int)]:=by
    have H:P.getD k 0=P[k]:=(by simp [T5,V]);rw [U6,Ua V,<- hx,H];unfold jL;rw [Uw];rfl
   rw [e];refine W.kept c ?_;cases h8:v6.ownBlock with
   | none=>exact .inl rfl
   | some q=>
    refine .inr λe=>?_;obtain ⟨cur,Z⟩:=bF W h8;exact bG C Z (by decide) e.symm
 . obtain ⟨f,cs,t,B⟩:=E.row;exact ⟨f,cs,(u t (by decide) (by decide)).trans t,B⟩
 . have hv:=n.lt _ i.kit j I;have b:(w5.alloc o).heap[j]?=w5.heap[j]?:=Ux _ _ _ hv;have d:w6.heap[j]?=(w5.alloc o).heap[j]?:=m.block j (by simp;omega) (λe=>by
    obtain ⟨cur,a⟩:=bF M e.symm;exact cJ i.kit a E4 I)
   refine (c.block j (by omega) (λe=>?_)).trans (d.trans b);obtain ⟨cur,a⟩:=bF C e.symm;rw [d.trans b] at a;exact cJ i.kit a oY I
 . exact U.later (T:=λq=>w.heap.size<=q) ⟨c.os.trans (m.os.trans rfl),c.tape.trans (m.tape.trans rfl),c.output.trans (m.output.trans rfl),by have:=c.size;omega,λq _ k7=>K q (by omega)⟩ (λq t B=>by omega)
structure Oj (w:ZU) (v p D L G:Nat) (Kind:aU->Prop) (ps:aU) (A:aH) (F:aR) (P l:a8) (e:ZR) (w':ZU):Prop where
 kit:∃ ps',oX w v p D L G Kind ps A ps' w'
 arr:aB w' p A F
 out:aa (λj=>F.S j\/j=v\/ps.bl j) w w'
 ans:(∃ up uq,e=Z3 (ZZ #[up,uq,.nilIface])/\Bs w' up l/\w'.ownsRow w.heap.size 3 1 uq P.length (jL P))\/(e=Z3 (ZZ #[Z5 ZY 0 0,Z5 ZY 0 0,fJ])/\¬ A.clean)
structure RpD (w w4 w5:ZU) (r v y g N p D L G:Nat) (Kind:aU->Prop) (ps':aU) (A:aH) (F:aR) (sk pl k sz nx' pb po pc:Nat) (pa:Option Addr) (u5:ZT) (page l P:a8) (e:ZR):Prop where
 dt:mH w4 r v y g N p D L G Kind ps' A F page e w5
 pk5:w5.ownsRow w.heap.size 5 1 (.slice pa pl pc) pl (aI (l.take pl))
 pg5:w5.ownsRow w.heap.size 3 1 u5 k (jL (P.take k))
 cell:I1 w5 pb po (4+sk) page
 len:page.length=4+sk
 pg1:page.take 4=be nx' 4
 pg2:page.drop 4=(l.drop pl).take sz
 bq:(Value.slice pa pl pc).ownBlock=ZY\/(Value.slice pa pl pc).ownBlock≠u5.ownBlock
 pq:u5.ownBlock≠ZX pb
 pp:(Value.slice pa pl pc).ownBlock≠ZX pb
 mul:k*sz=pl
theorem vP {Kind:aU->Prop} {ps:aU} (ho:vN w ar v p ps D L G A F) (C:bh w ar v D' L' G' t f nn pg ob off) (hv:Ai D L G Kind ps) (xg:A.nb<=1000) (hP:OV A D L G P l) :
 ZS ZO 133 #[Z6 (ZX ⟨ar,0,ZY⟩),.agg (aq D1 L1 G1 t1 (P.getD 0 0) l.length)] w (Oj w v p D L G Kind ps A F P l):=by
 obtain ⟨ib,xd,ks,kv,kx⟩:=Us Tryz.R8;obtain ⟨ii,xe,ky,kz,q0⟩:=Us Tryz.Sq;have qc:=ho.vol.par.d1;have qn:=ho.vol.par.d;have Y:=ho.vol.vol.lt;have xj:=ho.vol.room;have hN:=ho.vol.n;have h:∀ k,F.S k->k<w.heap.size:=λk hk=>ho.vol.arr.RU hk;have B:=Oh (n:=l.length) qc;have x7:P.length<=1000:=TW hP.le xg;have qx:l.length<=524000:=by
  rw [<- hP.pl] at B;exact TW B (TW (Xo x7 (show D*44-4<=524 by omega)) (by decide))
 obtain ⟨n1,qf⟩:=nM (l.length);obtain ⟨f1,qo⟩:=nM (P.getD 0 0);obtain ⟨K,km⟩:=nM (P.length);have hK:pgs D n1=K:=by rw [<- km,hP.pl,qf]
 rw [qf] at B qx ⊢;rw [qo];rw [km] at x7;have b:=a5 hP qf qo km;clear hP qf;have O:(w.alloc (Z4 (aq D1 L1 G1 t1 f1 n1) 110)).heap[w.heap.size]?=ZX (Z4 (aq D1 L1 G1 t1 f1 n1) 110 (0,0)):=Uc _ _;have J:bW w (w.alloc (Z4 (aq D1 L1 G1 t1 f1 n1) 110)):=bA w _;have qh:(w.alloc (Z4 (aq D1 L1 G1 t1 f1 n1) 110)).heap.size=w.heap.size+1:=by simp
 obtain ⟨w1,x4⟩:=nM (w.alloc (Z4 (aq D1 L1 G1 t1 f1 n1) 110));rw [x4] at O J qh;have cl:w1.cell? ⟨w.heap.size,5,ZY⟩=ZX (Z7 Z9 n1):=by simp [World.cell?,O,aq]
 have cf:w1.cell? ⟨w.heap.size,4,ZY⟩=ZX (Z7 Z9 f1):=by simp [World.cell?,O,aq]
 have kj:=C.keep (J.block _ C.lt);have Q:=ho.below J;obtain ⟨d0,_⟩:=kj.cells;have qz:=jc kj Q.vol.vol qc (by omega) n1 (by omega);have qk:=jq Q.vol.vol Q.vol.arr (by omega);obtain ⟨NB,E⟩:=nM (A.nb);rw [E] at xg;have xo:K<=NB:=by rw [<- E,<- km];exact b.out.1.le
 rw [hK] at qz;rw [E] at qk;have Z:=hide9 kj Q O J qh qz qk hK E;have y5:w.alloc (Z4 #[Z7 Z9 D1,Z7 Z9 L1,Z7 Z9 G1,Z7 Z8 t1,Z7 Z9 f1,Z7 Z9 n1] 110)=w1:=x4;have HV:=a5 ho C h Y;clear ho C O J kj Q qz qk qh x4 hK E h km qo;unfold aq;go_enter func133,ntmps133;go_wp2_with fail;refine Z.out.2.2.2.2.2.1.mono ?_;rintro e w2 ⟨rfl,z⟩;obtain rfl:w1=w2:=z.symm;clear z;go_wp2_with fail;refine Z.out.2.2.2.2.2.2.1.mono ?_;rintro e w2 ⟨rfl,z⟩;obtain rfl:w1=w2:=z.symm;clear z;have y8:¬ NB<K:=by omega
 have y9:¬ (K:Int)>(NB:Int):=by omega
 have q7:=xV (Z.out.2.1.vol.vol.keep (w':=w1.drew) rfl) qn Z.out.2.1.vol.par.l4 Z.out.2.1.vol.par.g hN;go_upto_region 4 with fail;go_cut [8,9] from 25 to 31 (λv8 v9 wx=>v8=Z7 Z9 (f1:Int)/\v9=Z6 (ZX ⟨w1.heap.size+2,0,ZY⟩)/\dI wx (w1.heap.size+2) v 0 (w1.heap.size+1) A.n 0 0/\wx.rowIs (w1.heap.size+1) 31 A.n zH/\bW w1 wx)
 case first=>
  go_region_with (go_at_call 79;refine q7.mono ?_;rintro e w3 ⟨rfl,xh,h4,W⟩;have H3:=aE xh h4 W;clear xh h4 W;have qr:w3.cell? ⟨w.heap.size,4,ZY⟩=ZX (Z7 Z9 f1):=(H3.out.2.2.cell (p:=⟨w.heap.size,4,ZY⟩) (Ub cf)).trans cf);all_goals (go_wp2_with fail;go_meet;case rel=>exact ⟨rfl,rfl,H3.out.1,H3.out.2.1,(TY _ w1).drew.trans H3.out.2.2⟩)
 case rest=>
  obtain ⟨rfl,rfl,kh,h4,W⟩:=hcut;rename ZU=>w3;obtain ⟨kj,Q,O,J,qh,y6,y7,hK,E⟩:=Z.out;clear y6 y7 q7;have kp:=(W.block _ (by omega)).trans O;obtain ⟨ho,C,h,_⟩:=HV.out;have x8:aa (λj=>F.S j\/j=v\/ps.bl j) w w3:=aa.RS (J.trans (W.mono (by omega))) _;have q3:=Q.below W;obtain ⟨r,x1⟩:=nM (w1.heap.size+2);obtain ⟨g,qp⟩:=nM (w1.heap.size+1);rw [x1,qp] at kh;rw [qp] at h4;rw [x1];have xv:r≠g:=by omega
  have ya:w.heap.size+1<g:=by omega
  have yc:w.heap.size+1<r:=by omega
  obtain ⟨sz,q9⟩:=nM (D*44-4);have x6:RpG w v p r g A.n sz n1 f1 D L G Kind ps A F P l D1 L1 G1 t1 0 (Z5 ZY 0 0) (Z5 ZY 0 0) w3:=
   ⟨by rw [Yi,Nat.zero_min,VR];exact UK _ _ _ _,UK _ _ _ _,⟨0,0,0,kh⟩,⟨_,h4⟩,⟨ps,hv.kind,rfl,q3.kit,q3.vol.vol,q3.hl,λ_ c=>c,λ_ q=>.inl q⟩,q3.vol.arr,x8,kp⟩
  have H3:=al x6;have y4:40<=sz/\sz<=524:=by omega
  rw [hK,q9] at B;have q1:∀ k,k<K->k*sz<=n1:=λk hk=>by
   have:=Og (n:=n1) qc (k:=k) (by omega);rw [q9] at this;exact this
  have HK:=a5 hK E B q1;clear kj Q O J kh h4 q3 kp x8 W x6 cl cf d0 x1 qp hK E B q1 ho C h;go_wp2_with fail;go_loopw [4,5,8,33] (λup uq nx i wr=>aaN w v p r g A.n sz n1 f1 D L G Kind ps A F P l D1 L1 G1 t1 K up uq nx i wr) (λ_ _ _ i _=>K-(intOf i).toNat)
  case atStart=>exact ⟨0,T9 _,rfl,by rw [b.out.2.2.1],H3.out⟩
  case round=>
   obtain ⟨k,yb,rfl,rfl,s⟩:=hrel;by_cases qe:k<K
   . have qd:=HK.out.2.2.2 k qe;obtain ⟨H,q6,⟨b0,gone,sp,xi⟩,⟨f0,q8⟩,⟨ps',kk⟩,hp,hO,ko⟩:=id s;rw [V5 qd] at H;have xf:k<P.length:=(by rw [b.out.2.2.2];exact qe);obtain ⟨x,N⟩:=nM (P.getD k 0);have xn:x<A.nb:=(by rw [<- N];exact b.out.1.nb _ (lX xf));rw [N];obtain ⟨pa,pc,rfl⟩:=bf H;obtain ⟨pl,R⟩:=nM (k*sz);obtain ⟨ho,C,h,_⟩:=HV.out;have qy:=ho.got hO hp kk;have qi:=ho.arc hO C;obtain ⟨ca,_⟩:=qi.cells;have cn:wr.cell? ⟨w.heap.size,5,ZY⟩=ZX (Z7 Z9 n1):=(by simp [World.cell?,ko,aq]);have x0:=kt (w:=wr.drew) (qi.keep rfl) (qy.vol.vol.keep rfl) qc (by omega);rw [q9] at x0;obtain ⟨sk,x2⟩:=nM (min (n1-pl) sz);rw [R] at qd H ⊢;have qv:∀ hb ty w,(Builtin.min_ hb ty #[Z7 Z9 ((n1:Int)-(pl:Int)),Z7 Z9 (sz:Nat)]).run ZO w=.ok (Z7 Z9 (sk:Nat)) w:=λhb ty w=>by
      rw [gy];by_cases h1:((sz:Nat):Int)<(n1:Int)-(pl:Int)
      . rw [if_pos h1,show sk=sz by omega]
      . rw [if_neg h1,show (sk:Int)=(n1:Int)-(pl:Int) by omega]
     have y0:IntKind.i64.wrap ((n1:Int)-(pl:Int))=(n1:Int)-(pl:Int):=(by rw [Ut];omega);have hr:(bU D P l k).length=4+sk:=(by rw [E3,q9,R,b.out.2.1,<- x2]);have I:=qy.below ((TY _ wr).drew);have xk:vM wr.drew r v x g A.n p D L G Kind ps' A F (bU D P l k):=
      { vol:=I.vol,nN:=hN,hol:=by rw [hN];exact I.hl,kit:=I.kit,kind:=kk.kind,apt:=λj hj=>⟨(I.apt j hj).1,(I.apt j hj).2.2.1,(I.apt j hj).2.2.2⟩,vr:=by omega,vg:=by omega,rg:=xv,gF:=λe=>by have:=h _ e;omega,rF:=λe=>by have:=h _ e;omega,rK:=by omega,vK:=I.vlt.1,gK:=by omega,nb:=xn,cw:=by rw [<- N];exact b.out.1.on k xf,len:=by rw [hr];omega,byt:=Cg b.out.1.byt P k }
     have xb:=CO xk hv.sh (xi.keep rfl) (q8.of_block rfl) hr.symm (m:=(4+sk+43)/44) rfl (by omega);have U:=a5 s kk h Y;have HR:=hide8 xb H q6 R hr N (λc:A.clean=>kk.cl c.here (ho.hol c.here)) x0;clear s kk h xb H q6 R x0 xk qy I qi ho C xi q8 hp hO ko hr N xn;go_upto_region 7 with fail;go_cut [10] from 35 to 42 (λv10 wx=>v10=Z7 Z9 (sk:Int)/\wx=wr.drew)
     case first=>
      go_region_with (go_at_call 120;refine HR.out.2.2.2.2.2.2.2.mono ?_;rintro e wq ⟨rfl,rfl⟩);all_goals (go_wp2_with fail;go_meet;case rel=>exact ⟨rfl,rfl⟩)
     case rest=>
      obtain ⟨rfl,rfl⟩:=hcut;clear ca cn qv y0;have ye:IntKind.i64.wrap ((4:Int)+(sk:Int))=(4:Int)+(sk:Int):=(by rw [Ut];omega);go_wp2_with fail;rw [show (4:Int)+(sk:Int)=((4+sk:Nat):Int) by omega];refine HR.out.1.mono ?_;intro e w5 V;have hh:=Mj U.out.1 U.out.2.1 V hN hv.re U.out.2.2.1 Y (by omega) (by omega);rcases V.ans with ⟨u,rfl,xa,xc,kr⟩|⟨rfl,qb⟩;rotate_left
      . have HF:=aE hh V.arr (λc:A.clean=>qb ⟨c,HR.out.2.2.2.2.2.2.1 c⟩);clear hh V qb;unfold fJ;go_wp2;go_ret3
        obtain ⟨⟨xp,xx,_⟩,xq,qb⟩:=HF.out;exact ⟨xx,xq,xp,.inr ⟨rfl,qb⟩⟩
      obtain ⟨_,kf,kc,R,hc,N,_⟩:=HR.out;obtain ⟨ao,uc,M,xm,_,qm,h7⟩:=id xa;rw [hc] at M xm h7;obtain ⟨pb,po,rfl,he⟩:=h7 (λe=>by rw [e] at hc;have h0:(0:Nat)=4+sk:=hc;omega);subst M;have x3:uc=4+sk:=by
       obtain ⟨hd,n',xz⟩:=kr;injection xz with h1 h2 h3;omega
      subst x3;obtain ⟨x9,_,_,kb⟩:=hh;have y1:wr.heap.size<=pb:=xc pb rfl;have kg:=kb kf oY (by decide) (by decide);have ke:=kb kc E4 (by decide) (by decide);have yh:=x9.size;have qa:(bU D P l k).take 4=be (P.getD (k+1) 0) 4:=(by unfold bU;rw [VN (by rw [aF];exact TV _),UD (by rw [aF];exact TV _)]);have qj:(bU D P l k).drop 4=(l.drop pl).take sz:=by
       unfold bU;rw [WM (by rw [aF];exact TV _),WA (by rw [aF];exact TV _),q9,R];rfl
      obtain ⟨x',qg⟩:=nM (P.getD (k+1) 0);rw [qg] at qa;have yf:x'<4294967296:=by
       rw [<- qg];by_cases h9:k+1<P.length
       . have:=b.out.1.nb _ (lX h9);have h8:=HK.out.2.1;omega
       . simp [T5,VM (by omega:P.length<=k+1)]
      have q2:fG (be x' 4)=x':=lu x' 4 (by omega) (by omega);obtain ⟨page,k0⟩:=nM (bU D P l k);rw [k0] at V qa qj hc he;have a:Hid (RpD w wr.drew w5 r v x g A.n p D L G Kind ps' A F sk pl k sz x' pb po pc pa u5 page l P _):=al ⟨V,kg,ke,he,hc,qa,qj,by
       cases h8:(Value.slice pa pl pc).ownBlock with
       | none=>exact .inl rfl
       | some q=>
        refine .inr λe=>?_;obtain ⟨cur,hf⟩:=bF kg h8;exact bG ke hf (by decide) e.symm,λe=>by
       obtain ⟨cur,hf⟩:=bF kc e;have:=(TX.1 hf).1;omega,λe=>by
       obtain ⟨cur,hf⟩:=bF kf e;have:=(TX.1 hf).1;omega,R⟩
      have HX:=au N qg;clear V kg ke he hc qm qg N x9 kb kf kc R xa h7 xc kr xm HR qa qj k0;have yg:IntKind.i64.wrap (x':Int)=(x':Int):=(by rw [Ut];omega);have y3:sk<=1000000:=(by omega);by_cases y2:sk=0
      . subst y2;go_wp2_with (first
         | (show wpList _ _ _ ({ dst:=ZX 57,op:=_,type:=_,pos:=_,after:=_,guard:=_ }::_) _ _;refine XC _ rfl (Z1 54) (Z1 56) 111 rfl w.heap.size 3 ii (Z7 Z9 0) 1 8 XX xe ky kz q0 rfl (by decide) u5 k (jL (P.take k)) rfl (by exact a.out.pg5.alloc _) ⟨w5.heap.size,0,ZY⟩ 1 1 _ rfl rfl (ly w5 _ _) (by intro u M;simp at M;subst M;rfl) (by unfold maxLen;omega) (by omega) (by simp;omega) ?_;intro v6 w6 q4 y qq k7;have o:=a5 q4 y ((a.out.pk5.alloc _).kept y a.out.bq) ((a.out.cell.alloc _).grown y a.out.pq);have x5:=y.size;clear q4 y qq k7)
         | (show wpList _ _ _ ({ dst:=ZX 61,op:=_,type:=_,pos:=_,after:=_,guard:=_ }::_) _ _;refine ae _ rfl (Z1 58) (Z1 60) 31 31 rfl w.heap.size 5 ib (Z7 .u8 0) 1 1 Uh xd ks kv kx rfl (.slice pa pl pc) pl (aI (l.take pl)) (by rfl) (by exact o.out.2.2.1) _ (by rfl) 0 ([]) (by exact I1.src0) (by unfold maxLen;omega) (by omega) (by simp at x5;omega) ?_;intro v7 w7 q5 X k8;have T:=aE q5 X (o.out.2.2.2.grown X a.out.pp);clear q5 X k8))
        refine (sE _ (be x' 4) w7 (T.out.2.2.head (by omega) (by omega) a.out.pg1)).mono ?_;rintro e w8 ⟨rfl,z⟩;obtain rfl:w7=w8:=z.symm;clear z;rw [q2];go_wp2;go_roundw
        case rel=>
         obtain ⟨s,hK,h,Y⟩:=U.out;rw [a.out.mul] at s;exact ⟨k+1,by omega,by go_num,by rw [HX.out.2],CQ s hK a.out.dt hN hv.re h Y (by omega) (by omega) (by rw [b.out.2.2.2];exact qe) HX.out.1 a.out.pg5 o.out.1 o.out.2.1 o.out.2.2.1 (by have h9:=T.out.1;rw [<- a.out.pg2,show page.drop 4=[] from WQ.1 (by rw [Uj,a.out.len])];exact h9) T.out.2.1 a.out.mul x2 qd⟩
        case measure=>simp [intOf];omega
      . have yd:¬ 4+sk-4=0:=(by omega);go_wp2_with (first
         | (show wpList _ _ _ ({ dst:=ZX 57,op:=_,type:=_,pos:=_,after:=_,guard:=_ }::_) _ _;refine XC _ rfl (Z1 54) (Z1 56) 111 rfl w.heap.size 3 ii (Z7 Z9 0) 1 8 XX xe ky kz q0 rfl (by decide) u5 k (jL (P.take k)) rfl (by exact a.out.pg5.alloc _) ⟨w5.heap.size,0,ZY⟩ 1 1 _ rfl rfl (ly w5 _ _) (by intro u M;simp at M;subst M;rfl) (by unfold maxLen;omega) (by omega) (by simp;omega) ?_;intro v6 w6 q4 y qq k7;have o:=a5 q4 y ((a.out.pk5.alloc _).kept y a.out.bq) ((a.out.cell.alloc _).grown y a.out.pq);have x5:=y.size;clear q4 y qq k7)
         | (show wpList _ _ _ ({ dst:=ZX 61,op:=_,type:=_,pos:=_,after:=_,guard:=_ }::_) _ _;refine ae _ rfl (Z1 58) (Z1 60) 31 31 rfl w.heap.size 5 ib (Z7 .u8 0) 1 1 Uh xd ks kv kx rfl (.slice pa pl pc) pl (aI (l.take pl)) (by rfl) (by exact o.out.2.2.1) _ (by rfl) sk (aI (page.drop 4)) (by exact o.out.2.2.2.src a.out.len) (by unfold maxLen;omega) (by omega) (by simp at x5;omega) ?_;intro v7 w7 q5 X k8;have T:=aE q5 X (o.out.2.2.2.grown X a.out.pp);clear q5 X k8))
        refine (sE _ (be x' 4) w7 (T.out.2.2.head (by omega) (by omega) a.out.pg1)).mono ?_;rintro e w8 ⟨rfl,z⟩;obtain rfl:w7=w8:=z.symm;clear z;rw [q2];go_wp2;go_roundw
        case rel=>
         obtain ⟨s,hK,h,Y⟩:=U.out;rw [a.out.mul] at s;exact ⟨k+1,by omega,by go_num,by rw [HX.out.2],CQ s hK a.out.dt hN hv.re h Y (by omega) (by omega) (by rw [b.out.2.2.2];exact qe) HX.out.1 a.out.pg5 o.out.1 o.out.2.1 o.out.2.2.1 (by rw [<- a.out.pg2];exact T.out.1) T.out.2.1 a.out.mul x2 qd⟩
        case measure=>simp [intOf];omega
   . have xy:k=K:=(by omega);subst xy;have U:=al s;clear s;go_wp2;go_ret3
     obtain ⟨H,q6,_,_,qs,hp,hO,_⟩:=U.out;obtain ⟨hK,E,B,_⟩:=HK.out;rw [YI B,UD (by rw [b.out.2.1];exact B)] at H;rw [UD (by rw [b.out.2.2.2];exact TV _)] at q6;refine ⟨qs,hp,hO,.inl ⟨_,_,rfl,?_,by rw [b.out.2.2.2];exact q6⟩⟩;rw [<- b.out.2.1] at H;exact Bs.Si H b.out.1.byt (by rw [b.out.2.1];omega)
end
section
def uT (os:List Ob):∀ x∈an os,x<256:=by
 intro x a;unfold an at a;obtain ⟨o,_,a⟩:=X0.1 a;unfold bM at a;simp only [Uf] at a;rcases a with ((h|h)|h)|h
 . exact qE _ _ x h
 . unfold fD at h;rcases Uf.1 h with h|h
   . obtain ⟨b,_,rfl⟩:=T6.1 h;exact b.toNat_lt
   . rw [VG h];decide
 . exact qE _ _ x h
 . obtain ⟨s,_,h⟩:=X0.1 h;exact qE _ _ x h
def cC (w:ZU) (ar v p:Nat) (ps:aU) (D L G t:Nat) (xs:aY) (A:aH) (F:aR) (Q:Int->Prop) (N:aY->Prop) (e:ZR) (w':ZU):Prop:=
 ∃ er t' pg ob P' xs' B,e=Z3 er/\aZ w' ar v p ps D L G t' pg ob P' xs' B F/\nE A B/\aa (λk=>k=ar\/F.S k) w w'/\((er=.nilIface/\t'=t+1/\N xs')\/(xs'=xs/\t'=t/\∃ n,er=uR n/\Q n))
def rE (D nb:Nat) (xs:aY) (cl:Prop) (x:ByteArray) (n:Nat) (k:Int):Prop:=
 (bT x=ZV/\k=6)\/(bT x=ZW/\((1500<n/\k=7)\/(n<=1500/\((x∈xs.names/\k=8)\/(x∉xs.names/\((nb<(ak xs.os).length+mQ D n+2*Ad D (an xs.os).length n+2/\k=10)\/(¬ cl/\k=3)))))))
def rH (D nb:Nat) (xs:aY) (x:ByteArray) (d:a8) (xs':aY):Prop:=
 bT x=ZW/\d.length<=1500/\x∉xs.names/\(ak xs.os).length+mQ D d.length+2*Ad D (an xs.os).length d.length+2<=nb/\∃ o:Ob,o.name=x/\xs'=xs.ins (o,d)
structure bN (w w1:ZU) (ar v p:Nat) (ps:aU) (D L G t:Nat) (pg ob:ZT) (P:a8) (xs:aY) (A:aH) (F:aR) (x:ByteArray) (d fr:a8) (g cnt pgn c1:Nat):Prop where
 live:aZ w ar v p ps D L G t pg ob P xs A F
 tl:t<1000000
 out:aa F.S w w1
 arr:aB w1 p (A.wrTo D L G (fr.take cnt) (cZ D d) cnt) F
 nm:bT x=ZW
 no:x∉xs.names
 dl:d.length<=1500
 dx:∀ b∈d,b<256
 c:cnt=mQ D d.length
 pn:pgn=Ad D (an xs.os).length d.length
 f:fr=(aX (tk A.nb (P++ak xs.os)).1 A.nb).take (cnt+pgn)
 fl:fr.length=cnt+pgn
 room:(ak xs.os).length+cnt+2*pgn+2<=A.nb
 s:br (λk=>ar<k/\¬ F.S k/\¬ ps.bl k) w1 (Z5 (ZX ⟨g,0,ZY⟩) cnt cnt) (fr.take cnt)
 q:br (λk=>ar<k/\¬ F.S k/\¬ ps.bl k) w1 (Z5 (ZX ⟨g,cnt,ZY⟩) pgn c1) (fr.drop cnt)
section
variable {w w1:ZU} {ar v p D L G t:Nat} {ps:aU} {pg ob:ZT} {P:a8} {xs:aY} {A:aH} {F:aR} {x:ByteArray} {d fr:a8} {g cnt pgn c1:Nat}
def jT (x:ByteArray) (d fr:a8) (cnt:Nat):Ob:=⟨x,d.length,fr.take cnt⟩
def bN.stl (h:bN w w1 ar v p ps D L G t pg ob P xs A F x d fr g cnt pgn c1):(fr.take cnt).length=cnt:=by rw [Ui,h.fl];omega
def bN.pgl (h:bN w w1 ar v p ps D L G t pg ob P xs A F x d fr g cnt pgn c1):(fr.drop cnt).length=pgn:=by rw [Uj,h.fl];omega
def bN.apart (h:bN w w1 ar v p ps D L G t pg ob P xs A F x d fr g cnt pgn c1):(fr++(P++ak xs.os)).Nodup/\∀ b∈fr++(P++ak xs.os),2<=b/\b<A.nb:=by
 rw [h.f];exact kK h.live.disk.TU h.live.disk.Tt _
def bN.TB (h:bN w w1 ar v p ps D L G t pg ob P xs A F x d fr g cnt pgn c1):lg D (jT x d fr cnt,d):=by
 have hn:1<=x.size/\x.size<=16:=by have:=h.nm;unfold bT at this;exact of_decide_eq_true this
 refine ⟨⟨hn,h.dl,λb a=>?_,?_⟩,?_,rfl,h.dx⟩
 . have:=(h.apart.2 b (UB _ (UN a))).2;have:=h.live.nb;omega
 . show (fr.take cnt).length<=1000;rw [h.stl,h.c];have:=Ae h.live.vol.par.d1 h.dl;omega
 . show (fr.take cnt).length=_;rw [h.stl,h.c];rfl
theorem bN.packed (h:bN w w1 ar v p ps D L G t pg ob P xs A F x d fr g cnt pgn c1):(an (xs.ins (jT x d fr cnt,d)).os).length=(an xs.os).length+(19+4*cnt):=by
 rw [IC];have e:(bM (jT x d fr cnt)).length=19+4*(fr.take cnt).length:=cQ h.TB.fit;rw [h.stl] at e;exact congrArg _ e
def bN.kept (h:bN w w1 ar v p ps D L G t pg ob P xs A F x d fr g cnt pgn c1):eB (λk=>ar<k/\¬ F.S k/\¬ ps.bl k) w w1:=⟨h.out.size,λk a hK=>h.out.block k a hK.2.1⟩
def Ml (h:bN w w1 ar v p ps D L G t pg ob P xs A F x d fr g cnt pgn c1) :
 ZS ZO 108 #[ob,Z7 Z9 (aJ xs.names x:Nat),.agg #[Z0 x,Z7 Z9 (d.length:Nat),Z5 (ZX ⟨g,0,ZY⟩) cnt cnt]] w1 (uv (λk=>ar<k/\¬ F.S k/\¬ ps.bl k) w1 (xs.ins (jT x d fr cnt,d)).os):=by
 have hl:xs.os.length=xs.names.length:=by rw [<- eu,bm]
 have a:=Cw (h.live.cat.keep h.kept) (by have:=h.live.Sa.1;omega) (λk b=>⟨by have:=h.live.arc.lt;have:=h.out.size;omega,λe=>by have:=h.live.vol.arr.RU e;have:=h.out.size;omega,λe=>by have:=ps.lt _ h.live.kit _ e;have:=h.out.size;omega⟩) (i:=aJ xs.names x) (by rw [hl];exact xG _ _) (jT x d fr cnt) _ h.s;rw [LD];exact a
def bN.free (h:bN w w1 ar v p ps D L G t pg ob P xs A F x d fr g cnt pgn c1) {b:Nat} (a:b∈fr):2<=b/\b∉P++ak xs.os:=
 ⟨(h.apart.2 b (UB _ a)).1,λe=>(UU.1 h.apart.1).2.2 b a b e rfl⟩
def bN.n (h:bN w w1 ar v p ps D L G t pg ob P xs A F x d fr g cnt pgn c1):rH D A.nb xs x d (xs.ins (jT x d fr cnt,d)):=⟨h.nm,h.dl,h.no,by rw [<- h.c,<- h.pn];exact h.room,_,rfl,rfl⟩
theorem E5 (h:bN w w1 ar v p ps D L G t pg ob P xs A F x d fr g cnt pgn c1) {w2:ZU} {u:ZT} (B:eY (λk=>ar<k/\¬ F.S k/\¬ ps.bl k) w2 u (xs.ins (jT x d fr cnt,d)).os) (f:bW w1 w2) :
 ZS ZO 86 #[Z6 (ZX ⟨ar,0,ZY⟩),u,Z5 (ZX ⟨g,cnt,ZY⟩) pgn c1] w2 (cC w ar v p ps D L G t xs A F (rE D A.nb xs A.clean x d.length) (rH D A.nb xs x d)):=by
 obtain ⟨oo,oc,rfl,hol,_⟩:=id B;have z:=h.live.vol.par;have J:=h.stl;have i:=h.pgl;have j:=Af A D L G (fr.take cnt) (cZ D d) cnt;have C:aa F.S w w2:=h.out.trans (aa.RS f _);have m:=h.live.disk;have ka:1<=pgn:=by rw [h.pn];unfold Ad pgs;omega
 have k6:fr.drop cnt≠[]:=λe=>by rw [e] at i;simp at i;omega
 have V:∀ b∈fr.drop cnt,b<A.nb:=λb k7=>(h.apart.2 b (UB _ (US k7))).2;have N:=h.packed;have h4:=h.live.Sa.1;have h5:xs.os.length=xs.length:=by simp [aY.os]
 have W:(an (xs.ins (jT x d fr cnt,d)).os).length<=1000000:=by
  have h2:=Ae z.d1 h.dl;have h3:=jh (xs:=xs) z.d1 m.fits;have h6:1500/(D*44)<=34:=by
   have:=z.d1;have:1500/(D*44)<=1500/44:=YC (by omega) (by decide);omega
  have h7:xs.length*(19+4*(1500/(D*44)+1))<=1000*(19+4*(34+1)):=Xo (by omega) (by omega);rw [N,h.c];omega
 have O:(fr.drop cnt).length=pgs D (an (xs.ins (jT x d fr cnt,d)).os).length:=by rw [i,h.pn,N,h.c];rfl
 have U:∀ o∈(xs.ins (jT x d fr cnt,d)).os,o.fit:=λo ho=>by
  obtain ⟨y,Z,rfl⟩:=T6.1 ho;rcases Ur.1 ((jQ xs (jT x d fr cnt,d)).mem_iff.1 Z) with e|e
  . rw [e];exact h.TB.fit
  . exact (m.fits y e).fit
 have X:(xs.ins (jT x d fr cnt,d)).os.length<=10000:=by
  have:=(jQ xs (jT x d fr cnt,d)).length_eq;have e:(xs.ins (jT x d fr cnt,d)).os.length=(xs.ins (jT x d fr cnt,d)).length:=by simp [aY.os]
  rw [e,this,Uv];omega
 have k5:aB w2 p (A.wrTo D L G (fr.take cnt) (cZ D d) cnt) F:=h.arr.below f lR;have Q:br (λk=>ar<k/\¬ F.S k/\¬ ps.bl k) w2 (Z5 (ZX ⟨g,cnt,ZY⟩) pgn c1) (fr.drop cnt):=h.q.keep (eB.RT f);have I:=nA (w:=w2) (h.live.arc.keep (C.block _ h.live.arc.lt h.live.nar)) (h.live.vol.turn C k5 j.n) h.live.nar
  oo _ oc (an (xs.ins (jT x d fr cnt,d)).os) (uT _) W (tY B.any U X) g cnt c1 (fr.drop cnt) (by rw [i];exact Q.Ts λk a=>a.2.1) k6 (by rw [j.nb];exact V) (λk a=>CL z.d1 (by rw [<- O];exact a))
 rw [i] at I;have k9:nx t=t+1:=by have:=h.tl;unfold nx;omega
 refine I.mono ?_;rintro e R ⟨E,Y⟩;have l:aa (λk=>k=ar\/F.S k) w R:=(C.mono λ_ _ e=>.inr e).trans E;rcases Y with ⟨rfl,r,s⟩|⟨rfl,k8,s,k,a,r⟩
 . have K:eB (λk=>ar<k/\¬ F.S k/\¬ ps.bl k) w2 R:=⟨E.size,λk a hK=>E.block k a (λe=>e.elim (λq=>by have:=hK.1;omega) hK.2.1)⟩;have H:=LG m (jT x d fr cnt,d) h.TB h.no O (by
    show ((fr.take cnt++fr.drop cnt)++(P++ak xs.os)).Nodup;rw [V4];exact h.apart.1) (by
    show ∀ b∈(fr.take cnt++fr.drop cnt)++(P++ak xs.os),2<=b/\b<A.nb;rw [V4];exact h.apart.2) (by
    show (ak xs.os).length+(fr.take cnt).length+2*(fr.drop cnt).length+2<=A.nb;rw [J,i];exact h.room)
   have T:(jT x d fr cnt,d).1.RQ.length=cnt:=J;rw [T] at H;rw [k9] at r s;have a:=j.trans (Ag _ D L G (t+1) (fr.drop cnt) (an (xs.ins (jT x d fr cnt,d)).os));exact ⟨_,_,_,_,_,_,_,rfl,qB h.live s r l a (by have:=h.tl;omega) H (Q.keep K) (B.keep K),a,l,.inl ⟨rfl,rfl,h.n⟩⟩
 . have M:=j.trans (Af (A.wrTo D L G (fr.take cnt) (cZ D d) cnt) D L G (fr.drop cnt) (bU D (fr.drop cnt) (an (xs.ins (jT x d fr cnt,d)).os)) k);exact ⟨_,_,_,_,_,_,_,rfl,mG h.live s r l M ((m.wr _ (λb f=>h.free (UN f)) (by omega)).wr _ (λb f=>h.free (US f)) a),M,l,.inr ⟨rfl,rfl,3,rfl,.inr ⟨h.nm,.inr ⟨h.dl,.inr ⟨h.no,.inr ⟨λc=>k8 (j.cl c),rfl⟩⟩⟩⟩⟩⟩
end
def Mm {ps:aU} (h:aZ w ar v p ps D L G t pg ob P xs A F) {n cnt pgn:Nat} (k:cnt=mQ D n) (o:pgn=Ad D (an xs.os).length n) (c:(ak xs.os).length+cnt+2*pgn+2<=A.nb) :
 ZS ZO 83 #[Z6 (ZX ⟨ar,0,ZY⟩),Z7 Z9 ((cnt:Int)+(pgn:Int))] w λe w'=>∃ g cap,e=Z3 (ZZ #[Z5 (ZX ⟨g,0,ZY⟩) (cnt+pgn) cap,Z2 ZW])/\w'.ownsRow w.heap.size 3 1 (Z5 (ZX ⟨g,0,ZY⟩) (cnt+pgn) cap) (cnt+pgn) (jL ((aX (tk A.nb (P++ak xs.os)).1 A.nb).take (cnt+pgn)))/\((aX (tk A.nb (P++ak xs.os)).1 A.nb).take (cnt+pgn)).length=cnt+pgn/\cnt+pgn<=cap/\w.heap.size<=g/\g<w'.heap.size/\bW w w':=by
 have j:=EA h.disk (count:=cnt) (pages:=pgn) (l:=19+4*mQ D n) o c;have:=h.nb;have:1<=cnt:=by rw [k];unfold mQ;omega
 have a:=lL h.arc h.vol.vol h.vol.arr h.n0 P xs.os h.pgs.any h.cat.any (cnt+pgn) (by omega);rw [decide_eq_true j,YJ] at a;have b:((aX (tk A.nb (P++ak xs.os)).1 A.nb).take (cnt+pgn)).length=cnt+pgn:=by rw [Ui];omega
 rw [b] at a;refine a.mono ?_;rintro e w' ⟨u,rfl,ho,d⟩;rcases ho.2 with ⟨_,q⟩|⟨g,cap,cur,rfl,f,m,i,_⟩
 . omega
 . exact ⟨g,cap,rfl,ho,b,i,f,(TX.1 m).1,d⟩
def I2 {e:ZQ} {b:ZT} (h:aj w q e [a,b,c]):aj (((w.setCell ⟨q,0,ZY⟩ a').setCell ⟨q,1,ZY⟩ b').setCell ⟨q,2,ZY⟩ c') q e [a',b',c']:=
 aj.set h 0 [a',b',c'] (by simp)
def I3 {b:ZT} (h:Below w7.drew.heap.size w7.drew w8):∃ q,Value.pointer (ZX ⟨w8.heap.size,0,ZY⟩)=Z6 (ZX ⟨q,0,ZY⟩)/\aj (w8.alloc (Z4 #[a,b,c] 130)) q 130 [a,b,c]/\w7.heap.size<=q/\bW w7 (w8.alloc (Z4 #[a,b,c] 130)):=by
 have d:bW w7 w8:=(TY _ w7).drew.trans h;exact ⟨_,rfl,UG w8 _,d.size,d.alloc d.size _⟩
def I4 {b:ZT} (h:Below (w7.drew.alloc (Z4 #[a',b',c'] 130)).heap.size (w7.drew.alloc (Z4 #[a',b',c'] 130)) w8) (f:aj w8 w7.heap.size 130 [a',b',c']):∃ q,Value.pointer (ZX ⟨w7.heap.size,0,ZY⟩)=Z6 (ZX ⟨q,0,ZY⟩)/\aj (((w8.setCell ⟨w7.heap.size,0,ZY⟩ a).setCell ⟨w7.heap.size,1,ZY⟩ b).setCell ⟨w7.heap.size,2,ZY⟩ c) q 130 [a,b,c]/\w7.heap.size<=q/\bW w7 (((w8.setCell ⟨w7.heap.size,0,ZY⟩ a).setCell ⟨w7.heap.size,1,ZY⟩ b).setCell ⟨w7.heap.size,2,ZY⟩ c):=by
 have d:bW w7 (w7.drew.alloc (Z4 #[a',b',c'] 130)):=(TY _ w7).drew.alloc lR _;have e:bW w7 w8:=d.trans (h.mono d.size);refine ⟨_,rfl,I2 f,TV _,?_⟩;exact WU (p:=⟨w7.heap.size,2,ZY⟩) (WU (p:=⟨w7.heap.size,1,ZY⟩) (WU (p:=⟨w7.heap.size,0,ZY⟩) e lR a) lR b) lR c
theorem Ol {ps:aU} (h:aZ w ar v p ps D L G t pg ob P xs A F) (q5:t<1000000) (x:ByteArray) (ao:Option Addr) (c:Nat) (d:a8) (hd:∀ w',aa F.S w w'->Bs w' (.slice ao d.length c) d) (ko:d.length<=c) :
 ZS ZO 76 #[Z6 (ZX ⟨ar,0,ZY⟩),Z0 x,.slice ao d.length c] w (cC w ar v p ps D L G t xs A F (rE D A.nb xs A.clean x d.length) (rH D A.nb xs x d)):=by
 obtain ⟨n,f⟩:=nM (d.length);rw [f];have q2:∀ w' j,bW w w'->rE D A.nb xs A.clean x n j->cC w ar v p ps D L G t xs A F (rE D A.nb xs A.clean x n) (rH D A.nb xs x d) (Z3 (uR j)) w':=λw' j O hq=>⟨_,_,_,_,_,_,_,rfl,h.below O,nE.refl A,aa.RS O _,.inr ⟨rfl,rfl,j,rfl,hq⟩⟩;have K:=a6 hd f ko q5 q2;clear hd f ko q5 q2;obtain ⟨_,_,_,_,c8⟩:=h.arc.cells;have qa:=h.find x;obtain ⟨k,s⟩:=nM (aJ xs.names x);obtain ⟨i,E⟩:=nM (mP xs.os x);rw [s,E] at qa;have q1:=au s E;have I:=al h;clear s E h;go_enter func76,ntmps76;go_wp2_with fail;refine qa.mono ?_;rintro e w1 ⟨rfl,O⟩;have H:=al O;clear O qa c8;go_wp2_with fail;refine (jR x w1).mono ?_;rintro e w2 ⟨rfl,rfl⟩;cases hx:bT x
 . dsimp only;go_wp2;go_ret;exact K.out.2.2.2.2 _ 6 H.out (.inl ⟨hx,rfl⟩)
 by_cases hn:1500<n
 . have x7:(1500:Int)<(n:Int):=(by omega);dsimp only;go_wp2;go_ret;exact K.out.2.2.2.2 _ 7 H.out (.inr ⟨hx,.inl ⟨hn,rfl⟩⟩)
 have x7:¬ (1500:Int)<(n:Int):=by omega
 replace hn:n<=1500:=by omega
 by_cases X:x∈xs.names
 . have E:=I.out.there X;rw [q1.out.2] at E;subst E;have HM:=al X;clear X q1;dsimp only;go_wp2;go_ret;exact K.out.2.2.2.2 _ 8 H.out (.inr ⟨hx,.inr ⟨hn,.inl ⟨HM.out,rfl⟩⟩⟩)
 have E:=I.out.Sv X;rw [q1.out.2] at E;subst E;have HM:=al X;clear X;have q9:=I.out.vol.par.d1;have x3:=I.out.vol.par.d;have x6:=I.out.packL_le;have ky:=Ae q9 hn;have qo:Ad D (an xs.os).length n<=1000000:=QD q9 (by omega);have qy:=I.out.Sa.2.1;obtain ⟨len,k6⟩:=nM ((an xs.os).length);obtain ⟨cnt,hv⟩:=nM (mQ D n);obtain ⟨pgn,k7⟩:=nM (Ad D len n);rw [k6] at qo x6;rw [k7] at qo;rw [hv] at ky;have a:=a5 I.out hv k7 k6;clear k6 hv k7 I;dsimp only;have kc:=a.out.1.below H.out;obtain ⟨d0,_,d6,_,_⟩:=kc.arc.cells;rw [a.out.2.2.2] at d6;have qh:=dA kc.vol.vol (by omega);obtain ⟨q,hq⟩:=nM (D*44);rw [hq] at qh;have qg:=m4 n q (by omega) ⟨by omega,by omega⟩ w2;have qn:max 1 ((n+q-1)/q)=cnt:=by rw [<- a.out.2.1,<- hq];rfl
 rw [qn] at qg;have qc:=λW=>ga cnt (by omega) W;obtain ⟨pk,k8⟩:=nM (19+4*cnt);have qp:∀ W,W.heap=w2.heap->ZS ZO 84 #[Z6 (ZX ⟨ar,0,ZY⟩),Z7 Z9 ((len:Int)+(pk:Int))] W λe w'=>e=Z3 (Z7 Z9 (pgn:Nat))/\w'=W:=λW hW=>by
  have:=jc (w:=W) (kc.arc.keep (by rw [hW])) (kc.vol.vol.keep (by rw [hW])) q9 (by omega) (len+(19+4*cnt)) (by omega);have e:YE D (len+(19+4*cnt))=pgn:=by rw [<- a.out.2.2.1,<- a.out.2.1];rfl
  rw [e,k8,YJ] at this;exact this
 rw [k8] at qc;have xa:pk<=200:=by omega
 have xe:IntKind.i64.wrap ((len:Int)+(pk:Int))=(len:Int)+(pk:Int):=by rw [Ut];omega
 have HP:=aE kc qc qp;clear kc qc qp qn hq k8;go_wp2_with fail;refine qh.mono ?_;rintro e w3 ⟨rfl,rfl⟩;clear qh;go_wp2_with fail;refine qg.mono ?_;rintro e w4 ⟨rfl,rfl⟩;clear qg;go_wp2_with fail;go_quiet (first|(go_at_call 104;refine aaR (HP.out.2.1 _))|(go_at_call 84;refine aaR (HP.out.2.2 _ rfl)));have q8:bW w4 (w4.drewN nq):=⟨rfl,rfl,rfl,TV _,λ_ _=>rfl⟩;have U:=HP.out.1.below q8;have q4:=BR U.arc U.vol.vol U.vol.arr U.n0 xs.os U.cat.any (by omega) cnt pgn (by omega) (by omega);have J:=au U (H.out.trans (q8.mono H.out.size));clear q8 U d0 d6;obtain ⟨w5,qx⟩:=nM (w4.drewN nq);rw [qx] at q4 J ⊢;clear qx;go_wp2_with fail;refine q4.mono ?_;rintro e w6 ⟨rfl,ki⟩;by_cases R:(ak xs.os).length+cnt+2*pgn+2<=A.nb;rotate_left
 . rw [decide_eq_false R];have B:=au R (J.out.2.trans (ki.mono J.out.2.size));clear ki q4 J R;dsimp only;go_wp2;go_ret;exact K.out.2.2.2.2 _ 10 B.out.2 (.inr ⟨hx,.inr ⟨hn,.inr ⟨HM.out,.inl ⟨by have h1:=B.out.1;have h2:=a.out.2.1;have h3:=a.out.2.2.1;rw [<- a.out.2.2.2] at h3;rw [h2,h3];omega,rfl⟩⟩⟩⟩)
 rw [decide_eq_true R];have qb:=J.out.1.below ki;have qv:=Mm qb (n:=n) (cnt:=cnt) (pgn:=pgn) a.out.2.1.symm (by rw [a.out.2.2.2];exact a.out.2.2.1.symm) R;have q6:=al R;clear R;have B:=au qb (J.out.2.trans (ki.mono J.out.2.size));clear ki q4 J qb;dsimp only;have xf:IntKind.i64.wrap ((cnt:Int)+(pgn:Int))=(cnt:Int)+(pgn:Int):=by rw [Ut];omega
 go_wp2_with fail;refine qv.mono ?_;rintro e w7 ⟨g,cap,rfl,ke,l,qz,kz,q0,Y⟩;have HT:=a7 ke l kz q0 Y (B.out.1.below Y);clear qv ke l kz q0 Y;have k1:cnt<=cap:=by omega
 have k3:(cnt:Int)<=(cap:Int):=by omega
 dsimp only;go_upto_region 15 with fail;have x8:1<=x.size/\x.size<=16:=by have:=hx;unfold bT at this;exact of_decide_eq_true this
 have qq:=ur x w7.drew (by omega) (by omega);have qs:=ur x (w7.drew.alloc (Z4 #[.string ⟨#[]⟩,Z7 Z9 0,Z5 ZY 0 0] 130)) (by omega) (by omega);have qm:aj (w7.drew.alloc (Z4 #[.string ⟨#[]⟩,Z7 Z9 0,Z5 ZY 0 0] 130)) w7.heap.size 130 [.string ⟨#[]⟩,Z7 Z9 0,Z5 ZY 0 0]:=UG w7.drew _;have HS:=aE qq qs qm;clear qq qs qm x8;go_cut [13] from 72 to 80 (λqr wx=>∃ q,qr=Z6 (ZX ⟨q,0,ZY⟩)/\aj wx q 130 [Z0 x,Z7 Z9 (n:Nat),Z5 (ZX ⟨g,0,ZY⟩) cnt cnt]/\w7.heap.size<=q/\bW w7 wx)
 case first=>
  go_region_with (first
   | (go_at_call 106;refine HS.out.1.mono ?_;rintro e w8 ⟨rfl,Z⟩;have H8:=al Z;clear Z)
   | (go_at_call 106;refine HS.out.2.1.mono ?_;rintro e w8 ⟨rfl,Z⟩;have Q:aj w8 w7.heap.size 130 [.string ⟨#[]⟩,Z7 Z9 0,Z5 ZY 0 0]:=HS.out.2.2.keep (Z.block _ HS.out.2.2.lt);have z0:=Q.cell (j:=0) (u:=.string ⟨#[]⟩) rfl;have z1:=Q.cell (j:=1) (u:=Z7 Z9 0) rfl;have z2:=Q.cell (j:=2) (u:=Z5 ZY 0 0) rfl;have y0:=Q.R3 0;have y1:=Q.R3 1;have y2:=Q.R3 2;have H9:=au Z Q;clear Z Q))
  all_goals first
   | (go_wp2_with fail;go_meet;case rel=>exact I3 H8.out)
   | (go_wp2_with fail;go_meet;case rel=>exact I4 H9.out.1 H9.out.2)
 case rest=>
  obtain ⟨q,rfl,r,xb,kj⟩:=hcut;have x0:=r.cell (j:=0) (u:=Z0 x) rfl;have x1:=r.cell (j:=1) (u:=Z7 Z9 (n:Nat)) rfl;have x2:=r.cell (j:=2) (u:=Z5 (ZX ⟨g,0,ZY⟩) cnt cnt) rfl;obtain ⟨fr,C⟩:=nM ((aX (tk A.nb (P++ak xs.os)).1 A.nb).take (cnt+pgn));rw [C] at HT;obtain ⟨ke,l,kz,q0,Y,V⟩:=HT.out;have o:=V.below kj;have hs:bW w w7:=B.out.2.trans (Y.mono B.out.2.size);have N:bW w wc:=hs.trans (kj.mono hs.size);have hz:ar<g/\¬ F.S g/\¬ ps.bl g:=⟨by have:=B.out.1.arc.lt;omega,λe=>by have:=B.out.1.vol.arr.RU e;omega,λe=>by have:=ps.lt _ B.out.1.kit _ e;omega⟩;have kf:¬ F.S q:=λe=>by have:=V.vol.arr.RU e;omega
  have xd:=V.nb;have qe:∀ c1,br (λk=>ar<k/\¬ F.S k/\¬ ps.bl k) wc (Z5 (ZX ⟨g,0,ZY⟩) cnt c1) (fr.take cnt):=λc1=>(xS ke l hz (by have:=q6.out;omega)).keep (eB.RT kj);have ks:∀ c1,br (λk=>ar<k/\¬ F.S k/\¬ ps.bl k) wc (Z5 (ZX ⟨g,cnt,ZY⟩) pgn c1) (fr.drop cnt):=λc1=>(IY ke l hz (by have:=q6.out;omega)).keep (eB.RT kj);have k9:(fr.take cnt).length=cnt:=by rw [Ui,l];omega
  have T:=kK V.disk.TU V.disk.Tt (cnt+pgn);rw [C] at T;have hr:=V.vol.par;obtain ⟨hd,f,ko,q5,q2⟩:=K.out;have kv:=rz o.arc o.vol o.nar x _ (fr.take cnt) ((qe cnt).Ts λk s=>s.2.1) (λy hy=>(T.2 y (UB _ (UN hy))).2) ao c d (λw' hO=>hd w' ((aa.RS N _).trans hO)) (by omega) ko (λk s=>by
   rw [k9,<- a.out.2.1] at s;rw [f];exact CM hr.d1 s)
  unfold Eo at kv;rw [k9,f] at kv;have H9:=hide9 o N r kf qe ks l C f;have x9:1<=pgn:=by rw [<- a.out.2.2.1];unfold Ad pgs;omega
  clear r kj ke l kz q0 Y V o hs N hz kf qe ks k9 T hr hd f ko q5 q2 C HT HS HP H xb;go_wp2_with fail;refine kv.mono ?_;rintro e m ⟨kk,er,rfl,xc,hf,M,x4⟩;obtain ⟨o,N,r,kf,qf,qd,l,C,f⟩:=H9.out;have h9:aj m q 130 _:=r.keep (M.block _ r.lt kf);have xk:=h9.cell (j:=0) (u:=Z0 x) rfl;have xm:=h9.cell (j:=1) (u:=Z7 Z9 (n:Nat)) rfl;have xn:=h9.cell (j:=2) (u:=Z5 (ZX ⟨g,0,ZY⟩) cnt cnt) rfl;have hg:=o.arc.keep (M.block _ o.arc.lt o.nar);obtain ⟨_,_,_,_,y8⟩:=hg.cells;have q7:aa (F.S) w m.drew:=(aa.RS N _).trans (M.trans (aa.drew _));have kx:eB (λk=>ar<k/\¬ F.S k/\¬ ps.bl k) wc m.drew:=⟨M.size,λk s hK=>M.block k s hK.2.1⟩;have km:∀ z∈d,z<256:=by obtain ⟨_,_,_,_,_,q3,_⟩:=K.out.1 w (aa.refl _ _);exact q3
  rcases x4 with ⟨rfl,x5⟩|⟨rfl,ky⟩;rotate_left
  . have kp:cC w ar v p ps D L G t xs A F (rE D A.nb xs A.clean x n) (rH D A.nb xs x d) (Z3 fJ) m:=by
     have T:=kK a.out.1.disk.TU a.out.1.disk.Tt (cnt+pgn);rw [C] at T;have qk:aa (λk=>k=ar\/F.S k) w m:=(aa.RS N _).trans (M.mono λ_ _ e=>.inr e);have qj:=Af A D L G (fr.take cnt) (cZ D d) kk;exact ⟨_,_,_,_,_,_,_,rfl,mG a.out.1 hg hf qk qj (a.out.1.disk.wr _ (λb O=>⟨(T.2 b (UB _ (UN O))).1,λe=>(UU.1 T.1).2.2 b (UN O) b e rfl⟩) (by rw [Ui,l];omega)),qj,qk,.inr ⟨rfl,rfl,3,rfl,.inr ⟨hx,.inr ⟨hn,.inr ⟨HM.out,.inr ⟨ky,rfl⟩⟩⟩⟩⟩⟩
    have HF:=al kp;clear kp h9 hg q7 kx o N r kf qf qd l C f hf M kv x0 x1 x2 km ky;unfold fJ at HF ⊢;go_wp2;go_ret;exact HF.out
  have h7:bN w m.drew ar v p ps D L G t pg ob P xs A F x d fr g cnt pgn (cap-cnt):=⟨a.out.1,K.out.2.2.2.1,q7,(x5▸hf).keep λ_ _=>rfl,hx,HM.out,by rw [f];exact hn,km,by rw [f];exact a.out.2.1.symm,by rw [f,a.out.2.2.2];exact a.out.2.2.1.symm,C.symm,l,q6.out,(qf _).keep kx,(qd _).keep kx⟩;have qi:=Ml h7;rw [f,q1.out.1] at qi;have HR:=au qi h7;clear qi h7 h9 q7 kx o N r kf qf qd l C f hf M kv x0 x1 x2 hg;have k4:¬ cap=cnt:=by omega
  go_wp2_with fail;go_region_with (first
   | (go_at_call 108;refine HR.out.1.mono ?_;rintro e xi ⟨u,rfl,kg,kh⟩;have HC:=al (E5 HR.out.2 kg kh);clear kg kh)
   | (go_at_call 86;refine HC.out.mono ?_;rintro e xj ⟨er,t',xh,xg,P',xs',B',rfl,kr⟩;have HF:=al kr;clear kr))
  all_goals (
   rw [K.out.2.1] at HF;go_wp2;go_ret;exact ⟨_,_,_,_,_,_,_,rfl,HF.out⟩)
end
def I5 {n:Nat} (h:w.ownsRow base 3 1 u n (jL l)) (hll:l.length<=1000000) {K:Nat->Prop} (hK:∀ k,u.ownBlock=ZX k->K k):br K w u l:=by
 have hn:n=l.length:=by have:=h.1;unfold jL at this;rw [T7,VW] at this;omega
 rcases h.2 with ⟨c,f⟩|⟨g,cap,cur,a,e,b,_⟩
 . have:l=[]:=UP (by omega);subst this;rw [c];exact ⟨ZY,0,rfl,T9 _,λh=>absurd rfl h⟩
 . refine ⟨ZX ⟨g,0,ZY⟩,cap,by rw [a,hn],hll,λ_=>⟨g,0,rfl,hK g (by rw [a];rfl),(TX.1 b).1,λi d=>?_⟩⟩;have:=h.cells (g:=g) (by rw [a];rfl) i (Z7 Z9 ((l[i]:Nat):Int)) (by unfold jL;simp [d]);rw [jD] at this;rw [Ue];exact this
structure Om (w:ZU) (ar v p D L G t:Nat) (Kind:aU->Prop) (ps:aU) (P:a8) (xs:aY) (A:aH) (F:aR) (e:ZR) (w':ZU):Prop where
 out:aa (λj=>F.S j\/j=v\/ps.bl j\/j=ar) w w'
 ans:(∃ ps' pg ob,e=Z3 .nilIface/\(Kind ps'/\∀ k,ps'.bl k->ps.bl k\/w.heap.size<=k)/\aZ w' ar v p ps' D L G t pg ob P xs A F)\/(e=Z3 fJ/\¬ A.clean/\∃ D' L' G' t f n pg ob,bh w' ar v D' L' G' t f n pg ob ZV)
def aaf (h:cA A D L G t P xs):OV A D L G P (an xs.os):=⟨h.page,h.pl,λx a=>(h.Tt x (UB _ a)).2,by have:=h.room;omega,uT _⟩
theorem rI {Kind:aU->Prop} {ps:aU} (ho:vN w ar v p ps D L G A F) (K:bh w ar v D' L' G' t f nn pg ob ZV) (hv:Ai D L G Kind ps) (q7:A.nb<=1000) (qm:t1<=1000000) (g:cA A D L G t1 P xs) :
 ZS ZO 95 #[Z6 (ZX ⟨ar,0,ZY⟩),.agg (aq D L G t1 (P.getD 0 0) (an xs.os).length)] w (Om w ar v p D L G t1 Kind ps P xs A F):=by
 have Q:∀ k,F.S k->k<w.heap.size:=λk c=>ho.vol.arr.RU c;have qg:=ho.arl;have qh:=ho.vol.par.d1;have qi:=ho.vol.par.d;have hP:=aaf g;have kv:=ux g.fits;have kh:=g.room;have hU:CK D (an xs.os) xs.os:=Ac D ⟨qh,by omega⟩ (λo ho=>by obtain ⟨x,hx,rfl⟩:=T6.1 ho;exact (g.fits x hx).fit) (λo ho=>by obtain ⟨x,hx,rfl⟩:=T6.1 ho;exact (g.fits x hx).st) (zQ (by rw [eu];exact g.up)) (by omega);have ki:(tk A.nb (P++ak xs.os)).2=ZW:=(K6 g.TU g.Tt).1;obtain ⟨f1,ke⟩:=nM (P.getD 0 0);obtain ⟨n1,kf⟩:=nM ((an xs.os).length);have U:(w.alloc (Z4 (aq D L G t1 f1 n1) 110)).heap[w.heap.size]?=ZX (Z4 (aq D L G t1 f1 n1) 110 (0,0)):=Uc _ _;have y:bW w (w.alloc (Z4 (aq D L G t1 f1 n1) 110)):=bA w _;have km:(w.alloc (Z4 (aq D L G t1 f1 n1) 110)).heap.size=w.heap.size+1:=by simp
 obtain ⟨w1,q2⟩:=nM (w.alloc (Z4 (aq D L G t1 f1 n1) 110));rw [q2] at U y km;have N:=K.keep (y.block _ K.lt);have I:=ho.below y;have ky:=vP (D1:=D) (L1:=L) (G1:=G) (t1:=t1) I N hv q7 hP;rw [ke,kf] at ky ⊢;have H1:=a7 N I U y km ky;have qn:w.alloc (Z4 #[Z7 Z9 D,Z7 Z9 L,Z7 Z9 G,Z7 Z8 t1,Z7 Z9 f1,Z7 Z9 n1] 110)=w1:=q2;have J:=hide8 ho K Q g hU ki ke kf;clear ho K U y N I km q2 ky Q g hU ki ke kf hP kv kh;show ZS ZO 95 #[Z6 (ZX ⟨ar,0,ZY⟩),.agg #[Z7 Z9 D,Z7 Z9 L,Z7 Z9 G,Z7 Z8 t1,Z7 Z9 f1,Z7 Z9 n1]] w _;go_enter func95,ntmps95;go_wp2_with (show wpList _ _ _ ({ dst:=ZX 14,op:=_,type:=_,pos:=_,after:=_,guard:=_ }::_) _ _;refine kO (D:=D) (L:=L) (G:=G) (t:=t1) (f:=f1) (n:=n1) (b:=w.heap.size) rfl (Z1 3) rfl rfl (by rfl) (by exact H1.out.2.2.1) ?_);refine H1.out.2.2.2.2.2.mono ?_;intro e w2 s;obtain ⟨N,I,U,y,km,hx⟩:=H1.out;clear hx;have k7:=s.arr;obtain ⟨ps',m⟩:=s.kit;have i:=I.got s.out k7 m;have l:=I.arc s.out N;have kr:aa (λj=>F.S j\/j=v\/ps.bl j) w w2:=(aa.RS y _).trans s.out;have B:aa (λj=>F.S j\/j=v\/ps.bl j\/j=ar) w w2:=kr.mono λj _ q=>by
  rcases q with q|q|q
  . exact .inl q
  . exact .inr (.inl q)
  . exact .inr (.inr (.inl q))
 rcases s.ans with ⟨up,uq,rfl,ks,u⟩|⟨rfl,q6⟩;rotate_left
 . have HF:=aE B q6 l;clear N I U y km k7 m i l kr B s q6;unfold fJ;go_wp2;go_ret;obtain ⟨h1,h2,h4⟩:=HF.out;exact ⟨h1,.inr ⟨rfl,h2,_,_,_,_,_,_,_,_,h4⟩⟩
 have H:w2.heap[w.heap.size]?=ZX (Z4 (aq D L G t1 f1 n1) 110 (0,0)):=(s.out.block _ (by omega) (λq=>by
  rcases q with q|q|q
  . have:=J.out.2.2.1 _ q;omega
  . have:=J.out.1.vol.vol.lt;omega
  . have:=ps.lt _ J.out.1.kit _ q;omega)).trans U
 obtain ⟨d0,_⟩:=l.cells;have kz:=dA i.vol.vol (by omega);have q0:=J.out.2.2.2.2.1 w2 up ks;obtain ⟨hb,hr⟩:=nM (D*44);rw [hr] at kz q0;have qs:=s.out.size;obtain ⟨qr,uc,kj,_⟩:=id ks;rw [J.out.2.2.2.2.2.2.2] at kj;obtain ⟨r,qc,kk⟩:=bf u;obtain ⟨KP,R⟩:=nM (P.length);rw [R] at kk;have Z:=hide10 l i H kz q0 u B m R hr;clear N I U y s l i H kz q0 kr B k7 m R u ks;subst kj;subst kk;go_wp2_with fail;refine Z.out.2.2.2.1.mono ?_;rintro e W ⟨rfl,qd⟩;obtain rfl:w2=W:=qd.symm;clear qd;go_wp2_with fail;refine Z.out.2.2.2.2.1.mono ?_;rintro e W ⟨o,rfl,Y,z⟩;obtain ⟨l,i,H,q4,q5,u,B,m,R,hr⟩:=Z.out;clear q4 q5;have kp:=l.keep (z.block _ l.lt);have a:=i.below z;have kb:aa (λj=>F.S j\/j=v\/ps.bl j\/j=ar) w W:=B.trans (aa.RS z _);obtain ⟨C,oc,q9,_⟩:=id Y;have kc:=(z.block _ (TX.1 H).1).trans H;have qa:=kp.there;have T:=Cj (D:=D) (L:=L) (G:=G) (t:=t1) (f:=f1) (n:=n1) kp;have X:aa (λk=>k=ar) W (W.setCells ar 1 (aq D L G t1 f1 n1).toList):=aa.setCells _ ar 1 _ rfl;obtain ⟨w8,q3⟩:=nM (W.setCells ar 1 (aq D L G t1 f1 n1).toList);rw [q3] at T X;obtain ⟨c7,f7,c8,f8⟩:=T.tail;have qp:=z.size;have H3:=hide9 T X qa kc q3 kb Y a z;clear l i H u B m R kp a kc kb qa T X q3 Y z d0;obtain ⟨no,q8⟩:=nM (xs.os.length);rw [q8] at q9;clear q8;subst q9;go_wp2_with (first|(show wpList _ _ _ ({ dst:=ZX 38,op:=_,type:=_,pos:=_,after:=_,guard:=_ }::_) _ _;refine kO (D:=D) (L:=L) (G:=G) (t:=t1) (f:=f1) (n:=n1) (b:=w.heap.size) rfl (Z1 3) rfl rfl (by rfl) (by exact H3.out.2.2.2.1) ?_)|(show wpList _ _ _ ({ dst:=ZY,op:=Op.store 110 (Z1 42) (Z1 38),type:=_,pos:=_,after:=_,guard:=_ }::_) _ _;refine wpList_store_mid rfl 110 (Z1 42) (Z1 38) rfl ar 1 (aq D L G t1 f1 n1) (by rfl) (by rfl) (by exact H3.out.2.2.1) (kN _ _ _ _ _ _) (pY _ _ _ _ _ _) ?_;rw [H3.out.2.2.2.2.1]));obtain ⟨T,X,q4,q5,qo,kb,Y,a,z⟩:=H3.out;clear q4 q5 qo;obtain ⟨l,i,H,_,_,u,B,m,R,hr⟩:=Z.out;obtain ⟨ho,K,Q,g,_,ki,_⟩:=J.out;have O:=T.late (.slice r KP qc) (.slice C no oc);have h:aa (λk=>k=ar) W ((w8.setCell ⟨ar,7,ZY⟩ (.slice r KP qc)).setCell ⟨ar,8,ZY⟩ (.slice C no oc)):=(X.trans (aa.setCell _ _ _ rfl)).trans (aa.setCell _ _ _ rfl);obtain ⟨w9,qb⟩:=nM ((w8.setCell ⟨ar,7,ZY⟩ (.slice r KP qc)).setCell ⟨ar,8,ZY⟩ (.slice C no oc));rw [qb] at O h ⊢;have q1:v≠ar:=by have:=ho.vlt;omega
 have V:vN w9 ar v p ps' D L G A F:=by
  have qq:=a.vlt;exact { a with vol:={ a.vol with vol:=a.vol.vol.keep (h.block _ a.vol.vol.lt q1),arr:=a.vol.arr.keep λk c=>h.block k (a.vol.arr.RU c) (λe=>a.nar (e▸c)),laid:=a.vol.laid.keep (h.block _ a.vol.laid.lt (by omega)),tab:=a.vol.tab.keep (h.block _ a.vol.tab.lt (by omega)),room:=TW a.vol.room h.size },arl:=TZ a.arl h.size,kit:=ps'.keep _ _ a.kit λk c=>h.block k (ps'.lt _ a.kit k c) (a.apt k c).2.1 }
 have kg:br (λk=>w.heap.size<k/\¬ ps'.bl k) w2 (.slice r KP qc) P:=I5 u (by have:=g.room;omega) (λk c=>⟨by have:=dY u c;omega,by obtain ⟨cur,hc⟩:=bF u c;exact cJ i.kit hc E4⟩);have hm:br (λk=>w.heap.size<k/\¬ ps'.bl k) w9 (.slice r KP qc) P:=kg.keep ⟨TW qp h.size,λk c qk=>(h.block k (by omega) (λe=>by omega)).trans (z.block k c)⟩;have ha:eY (λk=>w2.heap.size<=k) w9 (.slice C no oc) xs.os:=Y.keep ⟨h.size,λk c qk=>h.block k c (λe=>by omega)⟩;have ko:aa (λj=>F.S j\/j=v\/ps.bl j\/j=ar) w w9:=kb.trans (h.mono λ_ _ q=>.inr (.inr (.inr q)));have ka:=wL O V.vol.vol V.vol.arr (by have:=V.vol.n;omega) P xs.os hm.ltS ha.ltS;rw [ki] at ka;have H9:=a7 ka O V hm ha ko;clear T X kb Y a z O h qb V hm ha ko ka c7 f7 c8 f8 l i H u B m R ho K Q kg g ki;refine H9.out.1.mono ?_;rintro e qv ⟨gt,rfl,qj,kx,E⟩;have qe:=al E;clear E kx qj;obtain ⟨NB,qf⟩:=nM (A.nb);rw [qf];go_wp2;go_ret;obtain ⟨_,O,V,hm,ha,ko⟩:=H9.out;obtain ⟨_,i,_,_,_,_,_,m,_⟩:=Z.out;obtain ⟨ho,K,Q,g,_,_,ke,kf⟩:=J.out;have E:=qe.out;have M:=V.below E;have y:=H1.out.2.2.2.2.1;refine ⟨ko.trans (aa.RS E _),.inl ⟨ps',_,_,rfl,⟨m.kind,λk c=>(m.bl k c).imp id λq=>by omega⟩,{ arc:=by rw [ke,kf];exact O.keep (E.block _ O.lt),vol:=M.vol,nar:=M.nar,vlt:=M.vlt,disk:=g,pgs:=(hm.keep (eB.RT E)).wk λk c _=>⟨by omega,λe=>by have:=Q k e;omega,c.2⟩,cat:=(ha.keep (eB.RT E)).wk λk c _=>⟨by omega,λe=>by have:=Q k e;omega,λe=>by have:=ps'.lt _ i.kit _ e;omega⟩,nb:=q7,turn:=qm,kit:=M.kit,apt:=M.apt,hol:=M.hol,hl:=M.hl }⟩⟩
def I6 (t:ZQ) (y:ZT) (w:ZU):(Op.equalIn 10000 193 .nilIface (.iface t y)).run ZO w=.ok ZV w:=by
 rw [Op.equalIn];simp [Uo,UH underlying193,UE]
theorem I7 {n:Nat} (h:o=ZY\/o=ZX (.root D L G t f n)):∃ b,∀ w:ZU,(Op.equalIn 10000 193 (gC o) (cj (.root D L G t f n))).run ZO w=.ok b w:=by
 rcases h with rfl|rfl
 . exact ⟨_,I6 _ _⟩
 . obtain ⟨i,a,c⟩:=LW;exact ⟨ZW,λw=>(EK 9999 110 _ _ i a c w).trans (by unfold aq;go_simp)⟩
def uU (o:Option bC):gC o=.nilIface\/∃ t x,gC o=.iface t x:=by
 cases o with
 | none=>exact .inl rfl
 | some r=>exact .inr (kI r)
def E6 {n:Nat} (h:o=ZY\/o=ZX (.root D L G t f n)):∃ b,∀ w:ZU,(binOp .neq 193 (gC o) (cj (.root D L G t f n))).run ZO w=.ok (Z2 b) w:=by
 obtain ⟨b,c⟩:=I7 h;refine ⟨!b,λw=>?_⟩;have a:=c w;obtain ⟨t,x,d⟩:=kI (.root D L G t f n);rcases uU o with e|⟨g,y,e⟩<;>(rw [e,d] at a ⊢;simp only [binOp];simp [Op.equal,Op.maxDepth,a])
def UgR (w:ZU) (N:Nat) (s i:ZT) (wr:ZU):Prop:=∃ k x:Nat,k<=N/\i=Z7 Z9 k/\s=Z7 Z8 x/\x<2^k/\wr=w
theorem E7 {n:Nat} (I:N<=60) (r:∀ i,i<N->R i=ZY\/R i=ZX (.root D L G t f n)) (a:w.rowIs g 193 N (λi=>gC (R i))) :
 ZS ZO 97 #[Z5 (ZX ⟨g,0,ZY⟩) N N,cj (.root D L G t f n)] w λe w'=>∃ x:Nat,e=Z3 (Z7 Z8 x)/\x<2^N/\w'=w:=by
 have h:∀ i,i<N->∃ b,∀ w:ZU,(binOp .neq 193 (gC (R i)) (cj (.root D L G t f n))).run ZO w=.ok (Z2 b) w:=λi E=>E6 (r i E);obtain ⟨K,rv,p⟩:=kI (.root D L G t f n);rw [p] at h ⊢;clear p r;have z:=al h;clear h;go_enter func97,ntmps97;go_wp2_with fail;go_loopw [4,9] (λs i wr=>UgR w N s i wr) (λ_ i _=>N-(intOf i).toNat)
 case atStart=>exact ⟨0,0,T9 _,rfl,rfl,by decide,rfl⟩
 case round=>
  obtain ⟨k,x,J,rfl,rfl,d,rfl⟩:=hrel;by_cases o:k<N
  . have c:=a.cell (i:=k) o;have B:x<18446744073709551616:=Xd d (FB (by omega));have l:=gA x k B (by omega) wr;have j:x|||2^k<2^(k+1):=Wu (Xd d (V0 (by decide) (by omega))) (V0 (by decide) (by omega));have q:x<2^(k+1):=Xd d (V0 (by decide) (by omega));have H:=al a;clear a;obtain ⟨b,C⟩:=z.out k o;obtain ⟨y,F⟩:=nM (x|||2^k);rw [F] at l j;have m:=al l;clear l;rcases uU (R k) with v|⟨M,u,v⟩<;>simp only [v] at c C<;>cases b
    . go_wp2;exact ⟨⟨k+1,x,by omega,by go_num,rfl,q,rfl⟩,by simp [intOf];omega⟩
    . go_wp2_with fail;refine m.out.mono ?_;rintro e w' ⟨rfl,rfl⟩;go_wp2;exact ⟨⟨k+1,y,by omega,by go_num,rfl,j,rfl⟩,by simp [intOf];omega⟩
    . go_wp2;exact ⟨⟨k+1,x,by omega,by go_num,rfl,q,rfl⟩,by simp [intOf];omega⟩
    . go_wp2_with fail;refine m.out.mono ?_;rintro e w' ⟨rfl,rfl⟩;go_wp2;exact ⟨⟨k+1,y,by omega,by go_num,rfl,j,rfl⟩,by simp [intOf];omega⟩
  . have A:k=N:=(by omega);subst A;clear a;go_wp2;go_ret;exact ⟨x,rfl,d,rfl⟩
structure E8 (w:ZU) (ar v p D L G t:Nat) (Kind:aU->Prop) (ps:aU) (xs:aY) (A:aH) (F:aR) (e:ZR) (w':ZU):Prop where
 out:aa (λj=>F.S j\/j=v\/ps.bl j\/j=ar) w w'
 ans:(∃ ps' pg ob P B,e=Z3 .nilIface/\(Kind ps'/\∀ k,ps'.bl k->ps.bl k\/w.heap.size<=k)/\nE A B/\aZ w' ar v p ps' D L G t pg ob P xs B F)\/(e=Z3 fJ/\¬ A.clean/\∃ D' L' G' t f n pg ob,bh w' ar v D' L' G' t f n pg ob ZV)
def si {n:Nat} (h:bh w ar v D L G t f n pg ob off):w.cell? ⟨ar,0,ZY⟩=ZX (Z6 (ZX ⟨v,0,ZY⟩)):=h.cells.1
def On (h:bk w v p D L G ps ho):w.cell? ⟨v,5,ZY⟩=ZX (Z7 Z8 ho)/\w.frozen? ⟨v,5,ZY⟩=ZV:=by
 have a:w.heap[v]?=ZX (Z4 #[Z6 (ZX ⟨p,0,ZY⟩),Z7 Z9 D,Z7 Z9 L,Z7 Z9 G,Z6 (ZX ⟨ps,0,ZY⟩),Z7 Z8 ho] 137 (0,0)):=h;simp [World.cell?,World.frozen?,a]
def aag (h:bk w v p D L G ps ho) (x:Nat):bk (w.setCell ⟨v,5,ZY⟩ (Z7 Z8 x)) v p D L G ps x:=ai (j:=5) h (Z7 Z8 x)
def vN.TF {ps:aU} (h:vN w ar v p ps D L G A F):vN (w.setCell ⟨v,5,ZY⟩ (Z7 Z8 (0:Nat))) ar v p (ps.TF 0) D L G A F:=by
 have:=h.vlt;have a:aa (λk=>k=v) w (w.setCell ⟨v,5,ZY⟩ (Z7 Z8 (0:Nat))):=aa.setCell _ _ _ rfl;exact { h with vol:={ h.vol with vol:=aag h.vol.vol 0,arr:=h.vol.arr.keep λk b=>a.block k (h.vol.arr.RU b) (λe=>h.vol.v (e▸b)),laid:=h.vol.laid.keep (a.block _ h.vol.laid.lt (by omega)),tab:=h.vol.tab.keep (a.block _ h.vol.tab.lt (by omega)),room:=TW h.vol.room a.size },arl:=TZ h.arl a.size,kit:=ps.keep _ _ h.kit λk b=>a.block k (ps.lt _ h.kit k b) (h.apt k b).2.2.1,hol:=λ_=>rfl,hl:=VP _ }
def vN.same {ps:aU} (h:vN w ar v p ps D L G A F) (a:aa F.S w w') (c:aB w' p A F):vN w' ar v p ps D L G A F:=
 { h with vol:=h.vol.turn a c rfl,arl:=TZ h.arl a.size,kit:=ps.keep _ _ h.kit λk b=>a.block k (ps.lt _ h.kit k b) (h.apt k b).2.2.2 }
theorem E9 {r:bC} (h:A.at b (λ_=>r)) {i:Nat} (a:i<A.n):A.R7 i b=ZY\/A.R7 i b=ZX r:=by
 rw [zI,h i a];split
 . exact .inl rfl
 . exact .inr rfl
def nF:∀ k,(∀ i,i<k->oQ (R i)=ZV)->dy R k=0
 | 0,_=>rfl
 | k+1,h=>by
  show EL (dy R k) k (R k)=0;rw [F4 (h k (by omega)),nF k λi a=>h i (by omega)]
theorem Fa (h:cA A D L G t P xs) (ds:a8) (a:∀ i∈ds,i<A.n):cA (A.putAt ds 0 (λ_=>.root D L G t (P.getD 0 0) (an xs.os).length)) D L G t P xs/\nE A (A.putAt ds 0 (λ_=>.root D L G t (P.getD 0 0) (an xs.os).length)):=by
 refine ⟨h.off rfl rfl λb _ i=>?_,rfl,rfl,rfl,λc=>c.putAt _ _ _⟩;show (if b=0/\i∈ds then _ else _)=_;split
 . rename_i q
   rw [q.1];exact (h.root i (a i q.2)).symm
 . rfl
def Mn {S:Nat} (h:S<2^N) {i:Nat} (a:i∈ab S):i<N:=by
 by_cases q:i<N
 . exact q
 . have q2:=(cO.1 a).2;rw [WO (TZ h (Vq (by decide) (by omega)))] at q2;cases q2
theorem Fb {Kind:aU->Prop} {ps:aU} (ho:vN w ar v p ps D L G A F) (x:bh w ar v D' L' G' t f nn pg ob ZV) (hv:Ai D L G Kind ps) (qb:A.nb<=1000) (qd:t1<=1000000) (l:cA A D L G t1 P xs) (a:w.rowIs g 193 A.n (λi=>gC (A.R7 i 0))) (I:¬ F.S g) :
 ZS ZO 68 #[Z6 (ZX ⟨ar,0,ZY⟩),.agg (aq D L G t1 (P.getD 0 0) (an xs.os).length),Z5 (ZX ⟨g,0,ZY⟩) A.n A.n] w (E8 w ar v p D L G t1 Kind ps xs A F):=by
 have E:∀ k,F.S k->k<w.heap.size:=λk hk=>ho.vol.arr.RU hk;have q6:=ho.arl;have q8:=ho.vol.par.d;have ko:A.n<=16:=by rw [ho.vol.n];exact ho.vol.par.s
 have qc:2<=A.nb:=by have:=l.room;omega
 obtain ⟨f1,r⟩:=nM (P.getD 0 0);obtain ⟨n1,u⟩:=nM ((an xs.os).length);rw [r,u];have H:(w.alloc (Z4 (aq D L G t1 f1 n1) 110)).heap[w.heap.size]?=ZX (Z4 (aq D L G t1 f1 n1) 110 (0,0)):=Uc _ _;have m:bW w (w.alloc (Z4 (aq D L G t1 f1 n1) 110)):=bA w _;have Q:(w.alloc (Z4 (aq D L G t1 f1 n1) 110)).heap.size=w.heap.size+1:=by simp
 obtain ⟨w1,kr⟩:=nM (w.alloc (Z4 (aq D L G t1 f1 n1) 110));rw [kr] at H m Q;have C:=x.keep (m.block _ x.lt);have z:=ho.below m;have kc:=z.below ((TY _ w1).drew);have q2:=lM kc.vol 1 (by omega);have q7:=nF (R:=λi=>A.R7 i 1) A.n λi U=>by rcases E9 l.fill U with e|e<;>rw [e]<;>rfl
 have ca:=si C;have qe:w.alloc (Z4 #[Z7 Z9 D,Z7 Z9 L,Z7 Z9 G,Z7 Z8 t1,Z7 Z9 f1,Z7 Z9 n1] 110)=w1:=kr;have o:=a7 C z H m Q q2;have HV:=hide8 ho x E a I l r u;clear x H m C z kc Q kr q2 E a I ho l r u;show ZS ZO 68 #[Z6 (ZX ⟨ar,0,ZY⟩),.agg #[Z7 Z9 D,Z7 Z9 L,Z7 Z9 G,Z7 Z8 t1,Z7 Z9 f1,Z7 Z9 n1],Z5 (ZX ⟨g,0,ZY⟩) A.n A.n] w _;go_enter func68,ntmps68;go_upto_region 1 with fail;go_cut [19] from 8 to 18 (λ_v wx=>∃ X,wx=X.setCell ⟨v,5,ZY⟩ (Z7 Z8 (0:Nat))/\aB X p A F/\aa F.S w1 X)
 case first=>
  go_region_with (first
   | (go_at_call 65;refine o.out.2.2.2.2.2.mono ?_;rintro e w2 ⟨g2,rfl,q9,k5,hs,ki⟩;have H2:=aE k5 hs ki;have qh:=si (o.out.1.keep (ki.block _ o.out.1.lt o.out.2.1.nar));clear k5 hs ki q9)
   | (go_at_call 70;refine (uC (λi=>A.R7 i 1) (by omega) H2.out.1).mono ?_;rw [q7];rintro e w3 ⟨rfl,kk⟩;have kf:aa (F.S) w1.drew w3:=H2.out.2.2.trans (aa.RS kk _);have qi:=si (o.out.1.keep (kf.block _ o.out.1.lt o.out.2.1.nar));obtain ⟨qj,qk⟩:=On (o.out.2.1.vol.vol.keep (kf.block _ o.out.2.1.vol.vol.lt o.out.2.1.vol.v));have H3:=au kk kf;clear kk kf))
  all_goals (go_wp2_with fail;go_meet;case rel=>(
   exact ⟨w3,rfl,H2.out.2.1.below H3.out.1 lR,(aa.drew w1).trans H3.out.2⟩))
 case rest=>
  obtain ⟨X,rfl,hz,V⟩:=hcut;obtain ⟨C,z,H,m,Q,_⟩:=o.out;obtain ⟨ho,x,E,a,I,l,r,u⟩:=HV.out;have k8:aa (λj=>F.S j\/j=v\/ps.bl j) w1 X:=V.mono λ_ _ q=>.inl q;have q0:=z.same V hz;have kp:=q0.TF;have kb:aa (λk=>k=v) X (X.setCell ⟨v,5,ZY⟩ (Z7 Z8 (0:Nat))):=aa.setCell _ _ _ rfl;have ke:v≠ar:=by have:=ho.vlt;omega
  have kg:=z.arc k8 C;have kh:=kg.keep (kb.block _ kg.lt (λe=>ke e.symm));have N:(X.setCell ⟨v,5,ZY⟩ (Z7 Z8 (0:Nat))).heap[w.heap.size]?=ZX (Z4 (aq D L G t1 f1 n1) 110 (0,0)):=(kb.block _ (by have:=V.size;omega) (by have:=ho.vol.vol.lt;omega)).trans ((V.block _ (by omega) (λe=>by have:=E _ e;omega)).trans H);have M:aa (λj=>F.S j\/j=v\/ps.bl j) w1 (X.setCell ⟨v,5,ZY⟩ (Z7 Z8 (0:Nat))):=k8.trans (kb.mono λ_ _ q=>.inr (.inl q));have K:(X.setCell ⟨v,5,ZY⟩ (Z7 Z8 (0:Nat))).rowIs g 193 A.n (λi=>gC (A.R7 i 0)):=((a.of_block (m.block _ a.lt)).of_block (V.block _ (by have:=a.lt;omega) I)).of_block (kb.block _ (by have:=a.lt;have:=V.size;omega) (λe=>by
   obtain ⟨cs,W,_⟩:=a;have h2:=ho.vol.vol;rw [<- e] at h2;have h:w.heap[g]?=ZX (Z4 #[Z6 (ZX ⟨p,0,ZY⟩),Z7 Z9 D,Z7 Z9 L,Z7 Z9 G,Z6 (ZX ⟨ps.ps,0,ZY⟩),Z7 Z8 ps.ho] 137 (0,0)):=h2;rw [W] at h;simp only [UO,Vm] at h;exact absurd h.2.1 (by decide)))
  obtain ⟨Y,hY⟩:=nM (X.setCell ⟨v,5,ZY⟩ (Z7 Z8 (0:Nat)));rw [hY] at kp kh N M K ⊢;have km:=rI (t1:=t1) kp kh (⟨hv.sh,hv.re,hv.re _ _ hv.kind⟩:Ai D L G Kind (ps.TF 0)) qb qd l;rw [r,u] at km;have HL:=a5 km N M K;clear C z H m Q ho x E a I k8 q0 kp kb kg kh N M km ca hY hz V K ke l r u;go_wp2_with (show wpList _ _ _ ({ dst:=ZX 21,op:=_,type:=_,pos:=_,after:=_,guard:=_ }::_) _ _;refine kO (D:=D) (L:=L) (G:=G) (t:=t1) (f:=f1) (n:=n1) (b:=w.heap.size) rfl (Z1 4) rfl rfl (by rfl) (by exact HL.out.2.1) ?_);refine HL.out.1.mono ?_;rintro e c ⟨ka,kj⟩;obtain ⟨_,N,M,K⟩:=HL.out;obtain ⟨ho,x,E,a,I,l,r,u⟩:=HV.out;obtain ⟨C,z,H,m,Q,_⟩:=o.out;have hm:aa (λj=>F.S j\/j=v\/ps.bl j\/j=ar) w c:=((aa.RS m _).trans (M.mono λj _ q=>by
   rcases q with q|q|q
   . exact .inl q
   . exact .inr (.inl q)
   . exact .inr (.inr (.inl q)))).trans ka
  rcases kj with ⟨J,qf,hb,rfl,kz,O⟩|⟨rfl,kv,hr⟩;rotate_left
  . have HF:=aE hm kv hr;clear N M K ho x E a I C z H m Q hm hr ka kv l r u;unfold fJ;go_wp2;go_ret;obtain ⟨h1,h2,h⟩:=HF.out;exact ⟨h1,.inr ⟨rfl,h2,h⟩⟩
  have q4:Hid (∀ k,J.bl k->ps.bl k\/w.heap.size<=k):=al λk hk=>(kz.2 k hk).imp id λq=>TW (TW m.size M.size) q;have ky:c.rowIs g 193 A.n (λi=>gC (A.R7 i 0)):=K.of_block (ka.block _ K.lt (λq=>by
   rcases q with q|q|q|q
   . exact I q
   . obtain ⟨cs,W,_⟩:=a;have h:w.heap[v]?=ZX (Z4 #[Z6 (ZX ⟨p,0,ZY⟩),Z7 Z9 D,Z7 Z9 L,Z7 Z9 G,Z6 (ZX ⟨ps.ps,0,ZY⟩),Z7 Z8 ps.ho] 137 (0,0)):=ho.vol.vol;rw [<- q,W] at h;simp only [UO,Vm] at h;exact absurd h.2.1 (by decide)
   . obtain ⟨cs,W,_⟩:=a;exact cJ ho.kit W (by unfold ry;decide) q
   . obtain ⟨cs,W,_⟩:=a;have h:w.heap[ar]?=ZX (Z4 _ 115 (0,0)):=x;rw [<- q,W] at h;simp only [UO,Vm] at h;exact absurd h.2.1 (by decide)))
  have T:c.heap[w.heap.size]?=ZX (Z4 (aq D L G t1 f1 n1) 110 (0,0)):=(ka.block _ (TX.1 N).1 (λq=>by
   rcases q with q|q|q|q
   . have:=E _ q;omega
   . have:=ho.vol.vol.lt;omega
   . have q':ps.bl w.heap.size:=q;have:=ps.lt _ ho.kit _ q';omega
   . omega)).trans N
  have q3:=E7 (w:=c.drew) (R:=λi=>A.R7 i 0) (D:=D) (L:=L) (G:=G) (t:=t1) (f:=f1) (n:=n1) (by omega) (λi U=>by rw [<- r,<- u];exact E9 l.root U) (ky.of_block rfl);have q1:(bC.root D L G t1 f1 n1).ok:=by
   have h1:=ho.vol.par.d;have h2:=ho.vol.par.l4;have h:=ho.vol.par.g;have h4:=O.packL_le;have h5:f1<A.nb:=by
    rw [<- r];exact (l.Tt _ (UB _ (lX (by rw [l.pl];unfold pgs;omega)))).2
   exact ⟨by omega,by omega,by omega,by omega,by omega,by omega⟩
  have kx:∀ y,y<2^A.n->∀ wx,aB wx p (A.putAt (ab y) 0 (λ_=>.root D L G t1 f1 n1)) F->aa F.S c wx->∃ B,nE A B/\aZ wx ar v p J D L G t1 qf hb P xs B F:=λy hy wx hB hO=>by
   have hg:=Fa l (ab y) λi U=>Mn hy U;rw [r,u] at hg;exact ⟨_,hg.2,mG O (O.arc.keep (hO.block _ O.arc.lt O.nar)) hB (hO.mono λ_ _ q=>.inr q) hg.2 hg.1⟩
  have z0:c.cell? ⟨w.heap.size,0,ZY⟩=ZX (Z7 Z9 D):=by simp [World.cell?,T,aq]
  have z1:c.cell? ⟨w.heap.size,1,ZY⟩=ZX (Z7 Z9 L):=by simp [World.cell?,T,aq]
  have z2:c.cell? ⟨w.heap.size,2,ZY⟩=ZX (Z7 Z9 G):=by simp [World.cell?,T,aq]
  have z3:c.cell? ⟨w.heap.size,3,ZY⟩=ZX (Z7 Z8 t1):=by simp [World.cell?,T,aq]
  have z4:c.cell? ⟨w.heap.size,4,ZY⟩=ZX (Z7 Z9 f1):=by simp [World.cell?,T,aq]
  have z5:c.cell? ⟨w.heap.size,5,ZY⟩=ZX (Z7 Z9 n1):=by simp [World.cell?,T,aq]
  have qg:=si O.arc;have Z:=a6 O q3 q1 hm kx;clear N M K ho x E a I C z H m Q hm ka ky T q3 q1 O kx l r u;go_upto_region 5 with fail;go_cut [36] from 26 to 35 (λ_v wx=>(∃ B,nE A B/\aZ wx ar v p J D L G t1 qf hb P xs B F)/\aa F.S c wx)
  case first=>
   go_region_with (first
    | (go_at_call 97;refine Z.out.2.1.mono ?_;rintro e w5 ⟨y,rfl,hy,rfl⟩;have HY:=al hy;clear hy)
    | (go_at_call 96;refine (gJ (Z.out.1.vol.below ((TY _ c).drew) lR) 0 y (by omega) (TZ HY.out (mZ ko)) (λi U=>Mn HY.out U) (.root D L G t1 f1 n1) Z.out.2.2.1).mono ?_;rintro e w6 ⟨rfl,hx,ks⟩;have H6:=au hx ks;clear hx ks))
   all_goals (go_wp2_with fail;go_meet;case rel=>exact ⟨Z.out.2.2.2.2 y HY.out _ H6.out.1 ((aa.drew c).trans H6.out.2),(aa.drew c).trans H6.out.2⟩)
  case rest=>
   have HF:=al hcut;clear hcut qg;go_wp2;go_ret;obtain ⟨⟨B,hB,qa⟩,q5⟩:=HF.out;exact ⟨Z.out.2.2.2.1.trans (q5.mono λ_ _ q=>.inl q),.inl ⟨J,_,_,_,B,rfl,⟨kz.1,q4.out⟩,hB,qa⟩⟩
def oZ:∀ k,(∀ i,i<k->R i=ZX .blank)->bu R k=⟨0,0,0,0,0,0⟩
 | 0,_=>rfl
 | k+1,h=>by
  show l8 (bu R k) (R k)=_;rw [h k (by omega),oZ k λi a=>h i (by omega)];rfl
def QH (k:Nat):(2^k-1)|||2^k=2^(k+1)-1:=by
 refine W9 λi=>?_;rw [Wj,We,We,XF];by_cases h:k=i
 . subst h;simp
 . by_cases a:i<k
   . simp [a];omega
   . simp [h,a];omega
def m6:∀ k,(∀ i,i<k->R i=ZX .blank)->dy R k=2^k-1
 | 0,_=>rfl
 | k+1,h=>by
  show EL (dy R k) k (R k)=_;rw [h k (by omega),m6 k λi a=>h i (by omega)];exact QH k
def I8 {lost:Nat} (b:D<=12) (c:G<=4) (h:∀ i,i<D+L+G->lost/2^i%2=0):KY D L G lost:=
 AA.units (nK (λl hl=>oC D L G b c l (sN _ _ _ (by rw [di];omega) l hl)) 0) λj a=>a9.mem (m8 j) ((AU _ _ _ _).2 ⟨j,by omega,h j (by omega),by rw [J8 D L G j a,J7 D j a]⟩)
def I9 {n:Nat} (hn:n<=60) (b:i<n):(18446744073709551615-(2^n-1))/2^i%2=0:=by
 have a:18446744073709551615-(2^n-1)=2^(i+1)*(2^(63-i)-2^(n-i-1)):=by
  rw [Nat.mul_sub,<- Nat.pow_add,<- Nat.pow_add,show i+1+(63-i)=64 by omega,show i+1+(n-i-1)=n by omega];have:0<2^n:=VP n;omega
 rw [a,Xa,Nat.mul_assoc,Nat.mul_div_cancel_left _ (VP i),Nat.mul_mod_right]
def Oo (x:Nat) (h:x<2^64):(2^64-1)^^^x=2^64-1-x:=by
 refine W9 λi=>?_;rw [aaS,We,show 2^64-1-x=2^64-(x+1) by omega,XD h];by_cases a:i<64
 . simp [a]
 . have:x.testBit i=ZV:=WO (TZ h (Vq (by decide) (by omega)));simp [a,this]
def Oq (x:Nat) (h:x<18446744073709551616):bits .xor .u64 IntKind.u64.max (x:Int)=((18446744073709551615-x:Nat):Int):=by
 have:=bits_xor_u64_nat 18446744073709551615 x (by decide) h;rw [show (18446744073709551615:Nat)=2^64-1 by decide,Oo x (by omega)] at this;exact this
def Mo (a:i<64):(18446744073709551615-0)/2^i%2=1:=by
 have h:Nat.testBit (2^64-1) i=ZW:=by rw [We];simp [a]
 rw [XG] at h;exact of_decide_eq_true h
def qZ {n:Nat} (a:0<t):∀ k,(∀ i,i<k->R i=ZY\/R i=ZX (.root D L G t f n))->(bu R k=⟨D,L,G,t,f,n⟩)\/(bu R k=⟨0,0,0,0,0,0⟩/\∀ i,i<k->R i=ZY)
 | 0,_=>.inr ⟨rfl,λ_ h=>absurd h (abc _)⟩
 | k+1,h=>by
  show (l8 (bu R k) (R k)=_)\/(l8 (bu R k) (R k)=_/\_);have ih:=qZ a k λi b=>h i (by omega);rcases h k (by omega) with e|e
  . rw [e];refine ih.imp id λq=>⟨q.1,λi b=>?_⟩;by_cases c:i=k
    . rw [c];exact e
    . exact q.2 i (by omega)
  . rw [e];refine .inl ?_;rcases ih with q|q
    . rw [q];exact if_neg (Nat.lt_irrefl _)
    . rw [q.1];exact if_pos a
def Beg (A:aH) (D L G t:Nat) (xs:aY):Prop:=(t=1/\xs=[]/\A.clean/\∀ i,i<A.n->A.rc i 0=.blank)\/(t<=1000000/\∃ P,cA A D L G t P xs)
def xW (h:A.clean) (i b:Nat):A.R7 i b=ZX (A.rc i b):=by
 rw [zI,if_neg];unfold gnB;simp [(h i).1,(h i).2 b]
def Mp (h:Beg A D L G t xs) (hn:0<A.n):(∃ P,t<=1000000/\cA A D L G t P xs/\bu (λi=>A.R7 i 0) A.n=⟨D,L,G,t,P.getD 0 0,(an xs.os).length⟩) \/
 (bu (λi=>A.R7 i 0) A.n=⟨0,0,0,0,0,0⟩/\((t=1/\xs=[]/\A.clean/\dy (λi=>A.R7 i 0) A.n=2^A.n-1)\/(¬ A.clean/\dy (λi=>A.R7 i 0) A.n=0))):=by
 rcases h with ⟨f,g,d,j⟩|⟨k,P,b⟩
 . have e:∀ i,i<A.n->A.R7 i 0=ZX .blank:=λi a=>by rw [xW d,j i a]
   exact .inr ⟨oZ _ e,.inl ⟨f,g,d,m6 _ e⟩⟩
 . rcases qZ b.turn A.n (λi a=>E9 b.root a) with q|⟨q,q2⟩
   . exact .inl ⟨P,k,b,q⟩
   . refine .inr ⟨q,.inr ⟨λc=>?_,nF _ λi a=>by show oQ (A.R7 i 0)=ZV;rw [q2 i a];rfl⟩⟩;have:=q2 0 hn;rw [xW c] at this;cases this
def Fe {ps:aU} (ho:vN w ar v p ps D L G A F) (r:5<=A.nb) (f:A.nb<=1000) (j:aB w' p (nB A D L G) F) (l:bh w' ar v D L G 1 2 0 u (Z5 ZY 0 0) ZV) (q:br (λk=>w.heap.size<=k) w' u [2]) (b:aa (λk=>k=ar\/F.S k) w w'):aZ w' ar v p ps D L G 1 u (Z5 ZY 0 0) [2] [] (nB A D L G) F/\nE A (nB A D L G):=by
 have s:=ho.vlt;have h:pgs D 0=1:=by
  unfold pgs;have:=ho.vol.par.d1;rw [Ue,Xb (by omega)];rfl
 have a:nE A (nB A D L G):=nE.trans (B:=A.putAt (YD A.n) 1 (λ_=>.filled)) ⟨rfl,rfl,rfl,λc=>c.putAt _ _ _⟩ (Ag (A.putAt (YD A.n) 1 (λ_=>.filled)) D L G 1 [2] []);have m:cA (nB A D L G) D L G 1 [2] []:=qt (B:=A.putAt (YD A.n) 1 (λ_=>.filled)) (P':=[2]) (xs':=[]) (λi o=>ui _ _ _ o) (show [2].length=pgs D 0 from h.symm) (by decide) (λx d=>by
  have:x=2:=by simpa [ak,aY.os] using d
  rw [this];show 2<=2/\2<A.nb;omega) (λx d=>by cases d) List.Pairwise.nil (λx d=>by cases d) (by show 0+2*1+2<=A.nb;omega) (by decide)
 exact ⟨{ arc:=l,vol:={ ho.vol with vol:=ho.vol.vol.keep (b.block _ ho.vol.vol.lt (λe=>e.elim (by omega) ho.vol.v)),arr:=j,laid:=ho.vol.laid.keep (b.block _ ho.vol.laid.lt (λe=>e.elim (by omega) ho.vol.g)),tab:=ho.vol.tab.keep (b.block _ ho.vol.tab.lt (λe=>e.elim (by omega) ho.vol.t)),room:=TW ho.vol.room b.size,n:=a.n.trans ho.vol.n },nar:=ho.nar,vlt:=ho.vlt,disk:=m,pgs:=q.wk λk a _=>⟨by have:=ho.arl;omega,λe=>by have:=ho.vol.arr.RU (k:=k) e;omega,λe=>by have:=ps.lt _ ho.kit _ e;omega⟩,cat:=eY.nil _ _,nb:=by rw [a.nb];exact f,turn:=by decide,kit:=ps.keep _ _ ho.kit λk a=>b.block k (ps.lt _ ho.kit k a) (λe=>e.elim (ho.apt k a).2.1 (ho.apt k a).2.2.2),apt:=ho.apt,hol:=λc=>ho.hol λi=>by rw [<- a.lost];exact c i,hl:=ho.hl },a⟩
theorem Mq {Kind:aU->Prop} {ps:aU} (ho:vN w ar v p ps D L G A F) (W:bh w ar v 0 0 0 0 0 0 (Z5 ZY 0 0) (Z5 ZY 0 0) ZV) (hv:Ai D L G Kind ps) (qe:5<=A.nb) (kj:A.nb<=1000) (hS:Beg A D L G tt xs) :
 ZS ZO 48 #[Z6 (ZX ⟨ar,0,ZY⟩)] w (E8 w ar v p D L G tt Kind ps xs A F):=by
 obtain ⟨c0,_⟩:=W.cells;have E:=ho.vol.par;have qi:=ho.vol.n;have q1:A.n<=16:=by rw [ho.vol.n];exact E.s
 have y:=Mp hS (by have:=E.d1;omega);have kc:∀ k,F.S k->k<w.heap.size:=λk hk=>ho.vol.arr.RU hk;have qa:=lM ho.vol 0 (by omega);have HV:=a5 ho W kc hS;clear ho W kc hS;go_enter func48,ntmps48;go_wp2_with fail;refine qa.mono ?_;rintro e w1 ⟨g,rfl,hg,V,q4,Y⟩;obtain ⟨ho,W,kc,_⟩:=HV.out;have kk:=ho.same Y q4;have k8:=W.keep (Y.block _ W.lt ho.nar);have hz:¬ F.S g:=λe=>by have:=kc _ e;omega
 have ki:=Aa (N:=A.n) (λi=>A.R7 i 0) (by omega) (w:=w1) V;obtain ⟨⟨a,l,c,rt,I,J⟩,qb⟩:∃ r,bu (λi=>A.R7 i 0) A.n=r:=⟨_,rfl⟩;rw [qb] at ki y;rw [show IK ⟨a,l,c,rt,I,J⟩=aq a l c rt I J from rfl] at ki;have hs:(0<rt/\a=D/\l=L/\c=G)\/rt=0:=by
  rcases y with ⟨P,_,hd,q⟩|⟨q,_⟩
  . simp only [Rt.mk.injEq] at q;exact .inl ⟨by rw [q.2.2.2.1];exact hd.turn,q.1,q.2.1,q.2.2.1⟩
  . simp only [Rt.mk.injEq] at q;exact .inr q.2.2.2.1
 obtain ⟨N,x⟩:=nM (A.n);have H1:=hide7 k8 kk Y V x hz y;rw [x] at ki q1;clear k8 kk Y V q4 qa ho W kc hz qb y;rw [x];clear x;go_wp2_with fail;refine ki.mono ?_;rintro e w2 ⟨rfl,kx⟩;have qk:=xC;obtain ⟨k8,kk,Y,V,x,hz,y⟩:=H1.out;have ka:bW w1 (fF w2 a l c rt I J):=kx.trans ((eL w2 a l c rt I J).mono kx.size);have T:=k8.keep (ka.block _ k8.lt);have k5:=kk.below ka;have Z:=V.of_block (ka.block g V.lt);have C:=uB w2 a l c rt I J;obtain ⟨K,q3⟩:=nM (fF w2 a l c rt I J);rw [q3] at ka T k5 Z C;have x0:K.cell? ⟨w2.heap.size,0,ZY⟩=ZX (Z7 Z9 a):=by simp [World.cell?,C,aq]
 have x1:K.cell? ⟨w2.heap.size,1,ZY⟩=ZX (Z7 Z9 l):=by simp [World.cell?,C,aq]
 have x2:K.cell? ⟨w2.heap.size,2,ZY⟩=ZX (Z7 Z9 c):=by simp [World.cell?,C,aq]
 have x3:K.cell? ⟨w2.heap.size,3,ZY⟩=ZX (Z7 Z8 rt):=by simp [World.cell?,C,aq]
 obtain ⟨d0,_⟩:=T.cells;have ke:aa (F.S) w K:=Y.trans (aa.RS ka _);have qc:=kl (w:=K.drew) (k5.vol.vol.keep rfl);have H3:=hide7 T k5 Z ke q3 C qc;clear k8 kk Y V kx ka T k5 Z C ke q3 c0 x hz ki qc y;have qf:∀ w:ZU,(binOp .neq 26 (.agg #[Z7 Z9 D,Z7 Z9 L,Z7 Z9 G]) (.agg #[Z7 Z9 D,Z7 Z9 L,Z7 Z9 G])).run ZO w=.ok (Z2 ZV) w:=λw=>by
  have h:=LV D L G D L G w;rw [decide_eq_true (by exact ⟨rfl,rfl,rfl⟩)] at h;simp only [binOp];simp [Op.equal,Op.maxDepth,h]
 go_upto_region 3 with (show wpList _ _ _ ({ dst:=ZY,op:=Op.store 110 (Z1 4) (Z1 11),type:=_,pos:=_,after:=_,guard:=_ }::_) _ _;refine z9 (w:=w2) (D:=a) (L:=l) (G:=c) (t:=rt) (f:=I) (n:=J) rfl (Z1 4) (Z1 11) rfl (by rfl) (by rfl) ?_;rw [H3.out.2.2.2.2.1]);simp only [Act.put];go_cut [12] from 13 to 25 (λqo wx=>bW K wx/\qo=Z2 ZV)
 case first=>
  rcases hs with ⟨q9,rfl,rfl,rfl⟩|h0
  . have q2:(rt:Int)>0:=(by omega);have kv:Hid (w2.heap.size<K.drew.heap.size):=al (Ub x0);go_region_with (go_at_call 67;refine H3.out.2.2.2.2.2.2.mono ?_;rintro e M ⟨rfl,kg,_,_⟩;have O:=al kg;have y0:M.cell? ⟨w2.heap.size,0,ZY⟩=ZX (Z7 Z9 a):=(kg.cell (p:=⟨w2.heap.size,0,ZY⟩) kv.out).trans x0;have y1:M.cell? ⟨w2.heap.size,1,ZY⟩=ZX (Z7 Z9 l):=(kg.cell (p:=⟨w2.heap.size,1,ZY⟩) kv.out).trans x1;have y2:M.cell? ⟨w2.heap.size,2,ZY⟩=ZX (Z7 Z9 c):=(kg.cell (p:=⟨w2.heap.size,2,ZY⟩) kv.out).trans x2;clear kg);all_goals (go_wp2_with fail;go_meet;case rel=>exact ⟨(TY _ K).drew.trans O.out,by simp⟩)
  . have qp:K.cell? ⟨w2.heap.size,3,ZY⟩=ZX (Z7 Z8 0):=(by rw [x3,h0];rfl);clear x3;go_quiet (fail);go_wp2_with fail;go_meet
    case rel=>exact ⟨⟨rfl,rfl,rfl,TV _,λ_ _=>rfl⟩,rfl⟩
 case rest=>
  rename ZU=>M;obtain ⟨h8,rfl⟩:=hcut;obtain ⟨T,k5,Z,ke,_,C,_⟩:=H3.out;have m:=T.keep (h8.block _ T.lt);have z:=k5.below h8;have o:=Z.of_block (h8.block g Z.lt);have q5:aa (F.S) w M:=ke.trans (aa.RS h8 _);have k7:=(h8.block _ (TX.1 C).1).trans C;have c3:M.cell? ⟨w2.heap.size,3,ZY⟩=ZX (Z7 Z8 rt):=by simp [World.cell?,k7,aq]
  obtain ⟨d4,_⟩:=m.cells;have H:aa (λj=>F.S j\/j=v\/ps.bl j\/j=ar) w M:=q5.mono λ_ _ q=>.inl q;have O:=a6 m z o H k7;clear T k5 Z ke C m z o q5 H k7 h8 x0 x1 x2 x3 d0 qf;rcases hs with ⟨q2,rfl,rfl,rfl⟩|rfl
  . have qj:(rt:Int)>0:=(by omega);obtain ⟨m,z,o,H,k7⟩:=O.out;obtain ⟨_,_,_,_,x,hz,y⟩:=H1.out;obtain ⟨P,ht,hd,q⟩:∃ P,tt<=1000000/\cA A a l c tt P xs/\(⟨a,l,c,rt,I,J⟩:Rt)=⟨a,l,c,tt,P.getD 0 0,(an xs.os).length⟩:=by
     rcases y with h|⟨q,_⟩
     . exact h
     . simp only [Rt.mk.injEq] at q;omega
    simp only [Rt.mk.injEq,true_and] at q;obtain ⟨rfl,rfl,rfl⟩:=q;have kr:=Fb z m hv kj ht hd o hz;rw [x] at kr;obtain ⟨I,qg⟩:=nM (P.getD 0 0);obtain ⟨J,qh⟩:=nM ((an xs.os).length);rw [qg,qh] at k7 kr;have HR:=au kr k7;clear m z o H k7 x hz y kr hd;go_wp2_with (show wpList _ _ _ ({ dst:=ZX 32,op:=_,type:=_,pos:=_,after:=_,guard:=_ }::_) _ _;refine kO (D:=a) (L:=l) (G:=c) (t:=rt) (f:=I) (n:=J) (b:=w2.heap.size) rfl (Z1 4) rfl rfl (by rfl) (by exact HR.out.2) ?_);refine HR.out.1.mono ?_;intro e w5 hp;obtain ⟨ev,he⟩:∃ ev,e=Z3 ev:=by
     rcases hp.ans with ⟨_,_,_,_,_,rfl,_⟩|⟨rfl,_⟩<;>exact ⟨_,rfl⟩
    subst he;have U:=al hp;clear hp;go_wp2;go_ret;refine ⟨O.out.2.2.2.1.trans U.out.out,U.out.ans.imp ?_ id⟩;rintro ⟨qn,pg5,qm,P5,B,k0,k1,k2⟩;exact ⟨qn,pg5,qm,P5,B,k0,⟨k1.1,λk hk=>(k1.2 k hk).imp id λq=>TW O.out.2.2.2.1.size q⟩,k2⟩
  . have hb:M.cell? ⟨w2.heap.size,3,ZY⟩=ZX (Z7 Z8 0):=c3;clear c3;go_wp2_with fail;refine (vv O.out.2.1.vol.vol).mono ?_;rintro e w5 ⟨rfl,ky⟩;obtain ⟨m,z,o,H,_⟩:=O.out;have q6:=o.of_block (ky.block g o.lt);obtain ⟨_,_,_,_,x,_,y⟩:=H1.out;have q0:=uC (N:=A.n) (λi=>A.R7 i 0) (by omega) (w:=w5) q6;obtain ⟨X,hX⟩:=nM (dy (λi=>A.R7 i 0) A.n);have qd:X<18446744073709551616:=by
     have h1:=nD (λi=>A.R7 i 0) A.n (by omega);have h2:=FB (k:=A.n) (by omega);omega
    have Q:(tt=1/\xs=[]/\A.clean/\KY D L G (18446744073709551615-X))\/(¬ A.clean/\¬ KY D L G (18446744073709551615-X)):=by
     rcases y with ⟨_,_,hd,q⟩|⟨_,⟨h1,h2,h3,h4⟩|⟨h1,h2⟩⟩
     . simp only [Rt.mk.injEq] at q;have:=hd.turn;omega
     . exact .inl ⟨h1,h2,h3,I8 E.d E.g λi hi=>by rw [<- hX,h4];exact I9 (by omega) (by omega)⟩
     . rw [hX] at h2;exact .inr ⟨h1,GK _ _ _ _ E.d1 λi hi=>by rw [h2];exact Mo (by omega)⟩
    have key:=Oq X qd;rw [hX,x] at q0;have U:=aE ky q0 Q;clear m z o H ky q6 q0 hX Q x y;go_wp2_with fail;refine U.out.2.1.mono ?_;rintro e w6 ⟨rfl,q7⟩;have kh:bW M w6:=U.out.1.trans (q7.mono U.out.1.size);have H6:=al kh;clear kh q7;go_wp2_with fail;refine (kZ D L G (18446744073709551615-X) E.r E.d E.l1 E.l4 E.g E.div (by omega) w6).mono ?_;rintro e w7 ⟨bb,rfl,kp,kz⟩;obtain ⟨m,z,o,H,_⟩:=O.out;have hf:bW M w7:=H6.out.trans (kz.mono H6.out.size);have k9:=m.keep (hf.block _ m.lt);have k6:=z.below hf;have R:aa (λj=>F.S j\/j=v\/ps.bl j\/j=ar) w w7:=H.trans (aa.RS hf _);rcases U.out.2.2 with ⟨rfl,rfl,kb,Q⟩|⟨kb,Q⟩;rotate_left
    . obtain rfl:bb=ZV:=by cases bb with
       | false=>rfl
       | true=>exact absurd (kp.1 rfl) Q
      have HF:=aE k9 R kb;clear m z o H hf k9 k6 R kp kz key hb d4 kb Q;go_wp2;go_ret;obtain ⟨k9,R,kb⟩:=HF.out;exact ⟨R,.inr ⟨rfl,kb,_,_,_,_,_,_,_,_,k9⟩⟩
    obtain rfl:bb=ZW:=kp.2 Q;have q8:=Iq k9 k6.vol k6.nar (by omega) kb;have H7:=aE q8 k6 R;clear m z o H hf k9 k6 q8 R kp kz key hb d4 Q;go_wp2_with fail;refine H7.out.1.mono ?_;rintro e w8 ⟨rfl,km,⟨u,ko,ks⟩,kf⟩;have H8:=a5 km ko ks kf;clear km ko ks kf;go_wp2;go_ret;obtain ⟨km,ko,ks,kf⟩:=H8.out;obtain ⟨_,k6,R⟩:=H7.out;obtain ⟨hl,hk⟩:=Fe k6 qe kj km ko ks kf;exact ⟨R.trans (kf.mono λk _ q=>q.elim (λe=>.inr (.inr (.inr e))) .inl),.inl ⟨ps,_,_,_,_,rfl,⟨hv.kind,λ_ q=>.inl q⟩,hk,hl⟩⟩
def QI {sb:Nat} {room:Int} (h:pF w sb room) (D L G:Nat):gG w sb room D L G [] []:=by
 obtain ⟨d,⟨n,f⟩,g,_⟩:=h.parts;refine ⟨d,h.R4,⟨n,f⟩,⟨λ_=>⟨0,0,0,0,ZV,0,Z5 ZY 0 0⟩,λ_=>sb,λ_=>sb,λa c=>?_,⟨rfl,rfl⟩,λq b=>by cases b⟩,by simp [jV],by simp [cL],λe i=>(by cases i),λq b=>(by cases b),rfl,λq b=>(by cases b),λq b=>(by cases b),λq b=>(by cases b),λq b=>(by cases b)⟩;rcases c with rfl|c
 . exact g
 . cases c
def Mr (w:ZU) (p D L G t:Nat) (cache:Int) (xs:aY) (A:aH) (F:aR) (ar:Nat) (w':ZU):Prop:=∃ v sb ps pg ob P B,aZ w' ar v p ps D L G t pg ob P xs B F/\nE A B/\oV sb cache D L G ps/\w.heap.size<=v/\w.heap.size<=ar/\∀ k,ps.bl k->w.heap.size<=k
structure QJ (w:ZU) (p D L G t:Nat) (cache:Int) (xs:aY) (A:aH) (F:aR) (e:ZR) (w':ZU):Prop where
 out:aa F.S w w'
 ans:(∃ ar,e=Z3 (ZZ #[Z6 (ZX ⟨ar,0,ZY⟩),.nilIface])/\Mr w p D L G t cache xs A F ar w')\/(e=Z3 (ZZ #[.pointer ZY,fJ])/\¬ A.clean)
structure Ja (w:ZU) (p D L G t:Nat) (cache:Int) (xs:aY) (A:aH) (F:aR):Prop where
 arr:aB w p A F
 n:A.n=D+L+G
 par:yY D L G
 c0:0<=cache
 c1:cache<=64
 nb:8<=A.nb
 nb2:A.nb<=1000
 laid:bg w
 tab:aG w
 room:3<=w.heap.size
 g:¬ F.S 2
 gt:¬ F.S 1
 beg:Beg A D L G t xs
def Ja.below (h:Ja w p D L G t cache xs A F) (a:bW w w'):Ja w' p D L G t cache xs A F:=
 { h with arr:=h.arr.below a lR,laid:=h.laid.below a h.laid.lt,tab:=h.tab.keep (a.block _ h.tab.lt),room:=TW h.room a.size }
theorem Mt (HP:Ja w p D L G tt cache xs A F) :
 ZS ZO 32 #[Z6 (ZX ⟨p,0,ZY⟩),.agg #[Z7 Z9 D,Z7 Z9 L,Z7 Z9 G],.agg #[Z7 Z9 cache]] w (QJ w p D L G tt cache xs A F):=by
 obtain ⟨h,hn,y,x2,x3,x4,ky,hv,ht,hK,qm,qn,hS⟩:=HP;have qo:∀ (args:Array ZT) (w:ZU),(callFunc 48 args).run ZO w=.ok (.enter 48 args) w:=Vl func48 (by kernel_rfl) rfl;have c:((w.alloc (Z4 #[Z7 Z9 (D:Int),Z7 Z9 (L:Int),Z7 Z9 (G:Int)] 26)).alloc (Z4 #[Z7 Z9 cache] 57)).heap[w.heap.size]?=ZX (Z4 #[Z7 Z9 (D:Int),Z7 Z9 (L:Int),Z7 Z9 (G:Int)] 26 (0,0)):=(Ux _ _ _ (by simp)).trans (Uc _ _);have ho:((w.alloc (Z4 #[Z7 Z9 (D:Int),Z7 Z9 (L:Int),Z7 Z9 (G:Int)] 26)).alloc (Z4 #[Z7 Z9 cache] 57)).heap[w.heap.size+1]?=ZX (Z4 #[Z7 Z9 cache] 57 (0,0)):=by
  have:=Uc (w.alloc (Z4 #[Z7 Z9 (D:Int),Z7 Z9 (L:Int),Z7 Z9 (G:Int)] 26)) (Z4 #[Z7 Z9 cache] 57);rwa [Uq] at this
 have s:bW w ((w.alloc (Z4 #[Z7 Z9 (D:Int),Z7 Z9 (L:Int),Z7 Z9 (G:Int)] 26)).alloc (Z4 #[Z7 Z9 cache] 57)):=(bA w _).alloc (by simp) _;have W:((w.alloc (Z4 #[Z7 Z9 (D:Int),Z7 Z9 (L:Int),Z7 Z9 (G:Int)] 26)).alloc (Z4 #[Z7 Z9 cache] 57)).heap.size=w.heap.size+2:=by simp
 obtain ⟨w2,qy⟩:=nM ((w.alloc (Z4 #[Z7 Z9 (D:Int),Z7 Z9 (L:Int),Z7 Z9 (G:Int)] 26)).alloc (Z4 #[Z7 Z9 cache] 57));rw [qy] at c ho s W;have p0:w2.cell? ⟨w.heap.size,0,ZY⟩=ZX (Z7 Z9 D):=by simp [World.cell?,c]
 have p1:w2.cell? ⟨w.heap.size,1,ZY⟩=ZX (Z7 Z9 L):=by simp [World.cell?,c]
 have p2:w2.cell? ⟨w.heap.size,2,ZY⟩=ZX (Z7 Z9 G):=by simp [World.cell?,c]
 have H2:=a5 c ho s W;clear c ho s W;go_enter func32,ntmps32;go_wp2_with fail;refine (pC D L G _).mono ?_;rw [y.r];rintro e o ⟨rfl,M⟩;obtain ⟨c,ho,s,W⟩:=H2.out;have U:=(M.block _ (by omega)).trans c;have K:=(M.block _ (by omega)).trans ho;have C:bW w o:=s.trans (M.mono s.size);have q7:=M.size;have o0:o.cell? ⟨w.heap.size+1,0,ZY⟩=ZX (Z7 Z9 cache):=by simp [World.cell?,K]
 have z:=a5 U K C (show w.heap.size+2<=o.heap.size by omega);clear c ho s W U K C M q7 p0 p1 p2;obtain ⟨N,ko⟩:=nM (A.n);have jX:=DO (h.below (z.out.2.2.1.trans ((TY _ o).drew.mono z.out.2.2.1.size)) lR);rw [ko] at jX;have V:∀ X,ZS ZO 9 #[.agg #[Z7 Z9 D,Z7 Z9 L,Z7 Z9 G]] X λe w'=>e=Z3 (Z7 Z9 (N:Nat))/\bW X w':=λX=>by
  rw [<- ko,hn,show ((D+L+G:Nat):Int)=(D:Int)+L+G by omega];have:=y.d;have:=y.l4;have:=y.g;exact dE (D:Int) (L:Int) (G:Int) X ⟨by omega,by omega⟩ ⟨by omega,by omega⟩ ⟨by omega,by omega⟩
 have HD:=au jX V;have p0:o.cell? ⟨w.heap.size,0,ZY⟩=ZX (Z7 Z9 D):=by simp [World.cell?,z.out.1]
 have p1:o.cell? ⟨w.heap.size,1,ZY⟩=ZX (Z7 Z9 L):=by simp [World.cell?,z.out.1]
 have p2:o.cell? ⟨w.heap.size,2,ZY⟩=ZX (Z7 Z9 G):=by simp [World.cell?,z.out.1]
 clear jX V ko;go_upto_region 6 with fail;go_cut [21] from 24 to 28 (λhb wx=>hb=Z2 ZV/\bW o wx)
 case first=>
  go_region_with (first
   | (go_at_call 45;refine HD.out.1.mono ?_;rintro e w' ⟨rfl,rfl⟩)
   | (go_at_call 9;refine (HD.out.2 _).mono ?_;rintro e w7 ⟨rfl,qa⟩;have Y:=al (((TY _ o).drew).trans qa);clear qa))
  all_goals (go_wp2_with fail;go_meet;case rel=>exact ⟨by simp,Y.out⟩)
 case rest=>
 rename ZU=>w4;obtain ⟨rfl,O⟩:=hcut;clear HD p0 p1 p2;obtain ⟨U,K,C,q7⟩:=z.out;have kj:=(O.block _ (by omega)).trans U;have qe:=(O.block _ (by omega)).trans K;have h8:bW w w4:=C.trans (O.mono C.size);have x1:=O.size;have qb:=sW (h.below h8 lR) (by have:=y.d1;omega);have kx:¬ ((A.nb:Nat):Int)<8:=by omega
 have q0:w4.cell? ⟨w.heap.size,0,ZY⟩=ZX (Z7 Z9 D):=by simp [World.cell?,kj]
 have q1:w4.cell? ⟨w.heap.size,1,ZY⟩=ZX (Z7 Z9 L):=by simp [World.cell?,kj]
 have q2:w4.cell? ⟨w.heap.size,2,ZY⟩=ZX (Z7 Z9 G):=by simp [World.cell?,kj]
 have o4:w4.cell? ⟨w.heap.size+1,0,ZY⟩=ZX (Z7 Z9 cache):=by simp [World.cell?,qe]
 have H4:=aE h8 qb (show w.heap.size+2<=w4.heap.size by omega);clear U K C q7 kj qe h8 x1 qb O o0;obtain ⟨NB,q8⟩:=nM (A.nb);rw [q8] at H4 kx;clear q8;go_wp2_with fail;refine H4.out.2.1.mono ?_;rintro e w5 ⟨rfl,qz⟩;subst qz;go_wp2_with fail;refine (DN p D L G cache w5).mono ?_;rintro e w6 ⟨v,sb,rfl,qv,kf,kc,ks⟩;obtain ⟨h9,_,qj⟩:=H4.out;have ha:bW w w6:=h9.trans (ks.mono h9.size);have qk:=ks.size;have Q:bW w6 (w6.alloc (Z4 (nr v 0 0 0 0 0 0 (Z5 ZY 0 0) (Z5 ZY 0 0) ZV) 115)):=bA w6 _;have I:bh (w6.alloc (Z4 (nr v 0 0 0 0 0 0 (Z5 ZY 0 0) (Z5 ZY 0 0) ZV) 115)) w6.heap.size v 0 0 0 0 0 0 (Z5 ZY 0 0) (Z5 ZY 0 0) ZV:=Uc _ _;obtain ⟨w7,kz⟩:=nM (w6.alloc (Z4 (nr v 0 0 0 0 0 0 (Z5 ZY 0 0) (Z5 ZY 0 0) ZV) 115));rw [kz] at Q I;have i:bW w w7:=ha.trans (Q.mono ha.size);have q9:pH w7 v p D L G (sb+1+1+1) 0 A F:=⟨kf.keep (Q.block _ kf.lt),h.below i lR,hv.below i hv.lt,ht.keep (i.block _ ht.lt),TW hK i.size,λq=>by have:=h.RU q;omega,qm,qn,hn,y⟩;have E:∀ k,F.S k->k<w.heap.size:=λk a=>h.RU a;have hy:¬ F.S w6.heap.size:=λq=>by have:=E _ q;omega
 have kk:w6.heap.size<w7.heap.size:=I.lt;have qi:v<w6.heap.size:=kf.lt;have qp:=kc.2.2.lt;obtain ⟨hf,hg,V⟩:=kc;have k8:(oU sb cache D L G [] [] 0).S w7:=QI (V.below Q) D L G;have u:∀ k,(oU sb cache D L G [] [] 0).bl k->sb<=k/\k<=sb+1+1+1:=λk a=>by
  rcases a with q|q|⟨q,c,_⟩
  . exact q
  . cases q
  . cases c
 have qf:vN w7 w6.heap.size v p (oU sb cache D L G [] [] 0) D L G A F:=⟨q9,hy,⟨by omega,qi⟩,kk,k8,λk a=>by
  have:=u k a;exact ⟨by omega,by omega,by omega,λe=>by have:=E _ e;omega⟩,λ_=>rfl,VP _⟩
 have qh:Ai D L G (oV sb cache D L G) (oU sb cache D L G [] [] 0):=⟨xQ y,λps x a=>by
  obtain ⟨es,qs,ho,rfl⟩:=a;exact ⟨es,qs,x,rfl⟩,⟨[],[],0,rfl⟩⟩
 have qg:=lW 48 #[Z6 (ZX ⟨w6.heap.size,0,ZY⟩)] #[] qo w7 w6.heap.size _ I rfl
  (λw1 x w2=>w2.heap[w7.heap.size]?=ZX (Z4 #[.nilIface] 53 (0,0))/\E8 w1 w6.heap.size v p D L G tt (oV sb cache D L G) (oU sb cache D L G [] [] 0) xs A F (Z3 x) w2)
  (λw1 J q6 qd=>(Mq (qf.below J) (I.keep (J.block _ I.lt)) qh (by omega) ky hS).mono (by
   intro e w2 m;have kh:w2.heap[w7.heap.size]?=w1.heap[w7.heap.size]?:=m.out.block _ (by omega) (λq=>by
    rcases q with q|q|q|q
    . have:=E _ q;omega
    . omega
    . have:=u _ q;omega
    . omega)
   rcases id m.ans with ⟨ps',pg,ob,P,B,rfl,_,_,hl⟩|⟨rfl,_,D',L',G',t,f,n',pg,ob,kr⟩
   . exact ⟨_,rfl,.inl rfl,⟨kh.trans qd,m⟩,kh,_,hl.arc,rfl⟩
   . exact ⟨_,rfl,.inr ⟨3,by decide,rfl⟩,⟨kh.trans qd,m⟩,kh,_,kr,rfl⟩))
 have q3:w6.alloc (Z4 #[Z6 (ZX ⟨v,0,ZY⟩),Z7 Z9 0,Z7 Z9 0,Z7 Z9 0,Z7 Z8 0,Z7 Z9 0,Z7 Z9 0,Z5 ZY 0 0,Z5 ZY 0 0,Z2 ZV] 115)=w7:=kz;have Y:=hide10 i E qg u hf hg qi kk qj qk;have qq:w.heap.size<=v:=by omega
 clear qp hf hg V k8 u qf qh qg h9 ha Q I i q9 kf ks hy q0 q1 q2 o4 kz;go_wp2_with fail;clear q3;refine Y.out.2.2.1.mono ?_;rintro e w8 ⟨x,w1,l,rfl,_,J,q6,⟨kg,m⟩,rfl⟩;obtain ⟨i,E,_,u,hf,hg,qx,kk,qj,qk⟩:=Y.out;have h7:bW w w1:=i.trans (J.mono i.size);have x0:=i.size;have hO:aa (F.S) w l:=(aa.RS h7 _).later m.out (λk a q=>by
  rcases q with q|q|q|q
  . exact q
  . omega
  . have:=u _ q;omega
  . omega)
 have kp:=m.ans;have h3:∀ k,k≠w7.heap.size->k≠w6.heap.size->((l.setCell ⟨w7.heap.size,0,ZY⟩ x).setCell ⟨w6.heap.size,9,ZY⟩ (Z2 ZV)).heap[k]?=l.heap[k]?:=λk h1 h2=>(Ud _ _ _ _ h2).trans (Ud _ _ _ _ h1);have km:((l.setCell ⟨w7.heap.size,0,ZY⟩ x).setCell ⟨w6.heap.size,9,ZY⟩ (Z2 ZV)).heap.size=l.heap.size:=by simp [World.setCell]
 have H:aa (F.S) w ((l.setCell ⟨w7.heap.size,0,ZY⟩ x).setCell ⟨w6.heap.size,9,ZY⟩ (Z2 ZV)):=hO.later (T:=λk=>w.heap.size<=k) ⟨rfl,rfl,rfl,by rw [km];exact TV _,λk _ a=>h3 k (by omega) (by omega)⟩ (λk h1 h2=>by omega);rcases kp with ⟨ps',pg,ob,P,B,q5,R,h6,hl⟩|⟨q5,qc,_⟩
 . have q4:x=.nilIface:=(by injection q5);subst q4;have hz:(l.setCell ⟨w7.heap.size,0,ZY⟩ .nilIface).heap[w6.heap.size]?=ZX (Z4 (nr v D L G tt (P.getD 0 0) (an xs.os).length pg ob ZV) 115 (0,0)):=(Ud _ _ _ _ (by show w6.heap.size≠w7.heap.size;omega)).trans hl.arc;have ka:=ai (j:=9) hz (Z2 ZV);have h5:∀ k,k≠w7.heap.size->((l.setCell ⟨w7.heap.size,0,ZY⟩ .nilIface).setCell ⟨w6.heap.size,9,ZY⟩ (Z2 ZV)).heap[k]?=l.heap[k]?:=λk h1=>by
    by_cases e:k=w6.heap.size
    . subst e;exact ka.trans hl.arc.symm
    . exact h3 k h1 e
   have ki:=hl.aside (w':=(l.setCell ⟨w7.heap.size,0,ZY⟩ .nilIface).setCell ⟨w6.heap.size,9,ZY⟩ (Z2 ZV)) (b:=w7.heap.size) (B:=w7.heap.size) (xT kg) (hl.TD kg) (by rw [km];exact TV _) (λj hj _=>h5 j hj) lR (λk a=>by have:=E k a;omega) (by omega) kk (by omega);have Z:=a6 H h6 ki R.1 (show ∀ k,ps'.bl k->w.heap.size<=k from λk a=>by
    rcases R.2 k a with q|q
    . have:=u k q;omega
    . have:=h7.size;omega)
   clear hO m kg h3 km H hl hz ka h5 ki h6 R J q6 h7;go_wp2;go_ret2;obtain ⟨H,h6,ki,R,kv⟩:=Z.out;exact ⟨H,.inl ⟨w6.heap.size,rfl,v,sb,ps',pg,ob,P,B,ki,h6,R,qq,by omega,kv⟩⟩
 . have q4:x=fJ:=(by injection q5);subst q4;have Z:=au H qc;clear hO m kg h3 km H J q6 h7 qc;unfold fJ;go_wp2;go_ret2;exact ⟨Z.out.1,.inr ⟨rfl,Z.out.2⟩⟩
structure QK (w w2:ZU) (D L G cache:Int):Prop where
 par:w2.heap[w.heap.size]?=ZX (Z4 #[Z7 Z9 D,Z7 Z9 L,Z7 Z9 G] 26 (0,0))
 opt:w2.heap[w.heap.size+1]?=ZX (Z4 #[Z7 Z9 cache] 57 (0,0))
 below:bW w w2
 size:w2.heap.size=w.heap.size+2
def QL (w:ZU) (D L G cache:Int):QK w ((w.alloc (Z4 #[Z7 Z9 D,Z7 Z9 L,Z7 Z9 G] 26)).alloc (Z4 #[Z7 Z9 cache] 57)) D L G cache:=by
 refine ⟨(Ux _ _ _ (by simp)).trans (Uc _ _),?_,(bA w _).alloc (by simp) _,by simp⟩;have:=Uc (w.alloc (Z4 #[Z7 Z9 D,Z7 Z9 L,Z7 Z9 G] 26)) (Z4 #[Z7 Z9 cache] 57);rwa [Uq] at this
structure Mu (w:ZU) (p D L G t:Nat) (cache:Int) (xs:aY) (A:aH) (F:aR) (e:ZR) (w':ZU):Prop where
 out:aa F.S w w'
 ans:(∃ sa ar,e=Z3 (ZZ #[Z6 (ZX ⟨sa,0,ZY⟩),.nilIface])/\w.heap.size<=sa/\ZP w' sa 90 (Z6 (ZX ⟨ar,0,ZY⟩))/\Mr w p D L G t cache xs A F ar w')\/(e=Z3 (ZZ #[.pointer ZY,fJ])/\¬ A.clean)
def Mr.wide {w'':ZU} (h:Mr w p D L G t cache xs A F ar w') (a:w0.heap.size<=w.heap.size) (f:bW w' w''):Mr w0 p D L G t cache xs A F ar w'':=by
 obtain ⟨v,sb,ps,pg,ob,P,B,b,c,d,g,i,e⟩:=h;exact ⟨v,sb,ps,pg,ob,P,B,b.below f,c,d,by omega,by omega,λk q=>TW a (e k q)⟩
theorem xX (h:Ja w p D L G t cache xs A F) :
 ZS ZO 11 #[Z6 (ZX ⟨p,0,ZY⟩),.agg #[Z7 Z9 D,Z7 Z9 L,Z7 Z9 G],.agg #[Z7 Z9 cache]] w (Mu w p D L G t cache xs A F):=by
 have b:=QL w D L G cache;obtain ⟨w2,m⟩:=nM ((w.alloc (Z4 #[Z7 Z9 (D:Int),Z7 Z9 (L:Int),Z7 Z9 (G:Int)] 26)).alloc (Z4 #[Z7 Z9 cache] 57));rw [m] at b;have o:w2.cell? ⟨w.heap.size,0,ZY⟩=ZX (Z7 Z9 D):=by simp [World.cell?,b.par]
 have q:w2.cell? ⟨w.heap.size,1,ZY⟩=ZX (Z7 Z9 L):=by simp [World.cell?,b.par]
 have r:w2.cell? ⟨w.heap.size,2,ZY⟩=ZX (Z7 Z9 G):=by simp [World.cell?,b.par]
 have n:w2.cell? ⟨w.heap.size+1,0,ZY⟩=ZX (Z7 Z9 cache):=by simp [World.cell?,b.opt]
 have a:=b.below;have l:=Mt (h.below a);have H:=au b l;clear b l a;go_enter func11,ntmps11;go_wp2_with fail;refine H.out.2.mono ?_;rintro e d i;have a:=H.out.1.below;have c:aa F.S w d:=(aa.RS a _).trans i.out;rcases i.ans with ⟨ar,rfl,g⟩|⟨rfl,k⟩
 . have f:=aE g c a;clear g c a i;go_wp2;go_ret2;obtain ⟨g,c,a⟩:=f.out;have j:bW d (d.alloc (Z4 #[Z6 (ZX ⟨ar,0,ZY⟩)] 90)):=bA d _;exact ⟨c.trans (aa.RS j _),.inl ⟨d.heap.size,ar,rfl,c.size,UA d _ _,g.wide a.size j⟩⟩
 . have f:=au c k;clear c a i k;unfold fJ;go_wp2;go_ret2;exact ⟨f.out.1,.inr ⟨rfl,f.out.2⟩⟩
theorem jj (d:Int) (m:Nat) (f:0<m) (e:m<=1000):∃ n:Nat,n<m/\wrap64 ((IntKind.u64.wrap d).tmod m)=(n:Int):=by
 have a:0<=IntKind.u64.wrap d:=by rw [U5];omega
 rw [Yq a];have b:=Int.emod_nonneg (IntKind.u64.wrap d) (show (m:Int)≠0 by omega);have c:=Int.emod_lt_of_pos (IntKind.u64.wrap d) (show (0:Int)<m by omega);refine ⟨(IntKind.u64.wrap d%m).toNat,by omega,?_⟩;rw [show ((IntKind.u64.wrap d%(m:Int)).toNat:Int)=IntKind.u64.wrap d%m by omega];generalize IntKind.u64.wrap d%(m:Int)=z at b c;unfold wrap64;omega
theorem Ot (a b c:Int) (w:ZU):ZS ZO 5 #[Z7 Z9 a,Z7 Z9 b,Z7 Z9 c] w λe w'=>∃ D L G:Nat,e=Z3 (.agg #[Z7 Z9 D,Z7 Z9 L,Z7 Z9 G])/\yY D L G/\D<=6/\bW w w':=by
 obtain ⟨o,A,f⟩:=jj a 6 (by decide) (by decide);obtain ⟨p,B,g⟩:=jj b 3 (by decide) (by decide);obtain ⟨kc,P,i⟩:=jj c 4 (by decide) (by decide);have q:wrap64 ((IntKind.u64.wrap a).tmod 6)=(o:Int):=by simpa using f
 have r:wrap64 ((IntKind.u64.wrap b).tmod 3)=(p:Int):=by simpa using g
 have s:wrap64 ((IntKind.u64.wrap c).tmod 4)=(kc:Int):=by simpa using i
 obtain ⟨D,F⟩:=nM (o+1);obtain ⟨k,C⟩:=nM (p+1);have M:wrap64 (1+(o:Int))=(D:Int):=by unfold wrap64;omega
 have y:wrap64 (1+(p:Int))=(k:Int):=by unfold wrap64;omega
 clear f g i;have O:1<=D/\D<=6:=by omega
 have t:1<=k/\k<=3:=by omega
 clear F C A B;go_enter func5,ntmps5;go_wp2;go_loopw [8] (λv wr=>∃ l:Nat,1<=l/\l<=3/\v=Z7 Z9 (l:Nat)/\wr=w.alloc (Z4 #[Z7 Z9 0,Z7 Z9 0,Z7 Z9 0] 26)) (λv _=>(intOf v).toNat)
 case atStart=>exact ⟨k,t.1,t.2,by rw [y],rfl⟩
 case round=>
  obtain ⟨l,E,N,rfl,rfl⟩:=hrel;have S:¬ (l:Int)=0:=by omega
  have H:Int.tmod (D:Int) (l:Int)=((D%l:Nat):Int):=by rw [Yq (by omega),YK]
  obtain ⟨m,d⟩:=nM (D%l);rw [d] at H;by_cases z:m=0
  . subst z;have x:Hid (yY D l kc):=al ⟨by unfold eF;apply decide_eq_true;refine ⟨by omega,by omega,by omega,by omega,by omega,by omega,?_,by omega⟩;rw [<- YK,d];rfl,by omega,by omega,E,by omega,by omega,d,by omega⟩;clear d;go_wp2;have n:aj (w.alloc (Z4 #[Z7 Z9 (D:Nat),Z7 Z9 (l:Nat),Z7 Z9 (kc:Nat)] 26)) w.heap.size 26 [Z7 Z9 (D:Nat),Z7 Z9 (l:Nat),Z7 Z9 (kc:Nat)]:=UG w _;have I:=n.cell (j:=0) (u:=Z7 Z9 (D:Nat)) rfl;have J:=n.cell (j:=1) (u:=Z7 Z9 (l:Nat)) rfl;have K:=n.cell (j:=2) (u:=Z7 Z9 (kc:Nat)) rfl;refine Um (v:=.agg #[Z7 Z9 (D:Nat),Z7 Z9 (l:Nat),Z7 Z9 (kc:Nat)]) (by simp [results,results5,go_sem,I,J,K]) rfl ?_;exact ⟨D,l,kc,rfl,x.out,by omega,bA w _⟩
  . have Q:2<=l:=by
     rcases XE l 2 with h|h
     . have:l=1:=by omega
       subst this;rw [Nat.mod_one] at d;omega
     . exact h
    have R:¬ (m:Int)=0:=(by omega);have T:IntKind.i64.wrap ((l:Int)-1)=(l:Int)-1:=(by rw [Ut];omega);clear d;go_wp2;refine ⟨⟨l-1,by omega,by omega,by rw [show ((l-1:Nat):Int)=(l:Int)-1 by omega],trivial⟩,?_⟩;show ((l:Int)-1).toNat<((l:Int)).toNat;omega
structure nJ where
 kind:Int
 a:Int
 s:ByteArray
 d:a8
def QM (w:ZU) (v:ZT) (l:List nJ):Prop:=
 ∃ ao c,v=.slice ao l.length c/\(l≠[]->∃ b off,ao=ZX ⟨b,off,ZY⟩/\b<w.heap.size/\∀ i (hi:i<l.length),∃ dv,w.cell? ⟨b,off+i*4,ZY⟩=ZX (Z7 Z9 l[i].kind)/\w.cell? ⟨b,off+i*4+1,ZY⟩=ZX (Z7 Z9 l[i].a)/\w.cell? ⟨b,off+i*4+2,ZY⟩=ZX (Z0 l[i].s)/\w.cell? ⟨b,off+i*4+3,ZY⟩=ZX dv/\Bs w dv l[i].d)
def gh (l:List nJ):Nat:=(l.map λx=>x.s.size+x.d.length).sum
def rh (l:List nJ) (k:Nat) (a:k<l.length):gh (l.take (k+1))=gh (l.take k)+(l[k].s.size+l[k].d.length):=by
 have e:l.take (k+1)=l.take k++[l[k]]:=by rw [U6,Ua a];rfl
 rw [e];unfold gh;rw [Uw,Yd];simp only [Uu,UY,Xh,List.sum_nil,VJ]
def CR (l:List nJ) (k:Nat):gh (l.take k)<=gh l:=by
 unfold gh;have h:l.map (λx=>x.s.size+x.d.length)=(l.take k).map (λx=>x.s.size+x.d.length)++(l.drop k).map (λx=>x.s.size+x.d.length):=by rw [<- Uw,V4]
 rw [h,Yd];omega
def aaO (w:ZU) (l:List nJ) (vn vi:ZT) (wr:ZU):Prop:=∃ k:Nat,k<=l.length/\vi=Z7 Z9 (k:Nat)/\vn=Z7 Z9 (gh (l.take k):Nat)/\gh (l.take k)<=100000/\bW w wr
def QN (w:ZU) (l:List nJ) (e:ZR) (w':ZU):Prop:=∃ bb,e=Z3 (Z2 bb)/\(bb=ZW->l.length<=200/\gh l<=100000)/\bW w w'
theorem xY {v:ZT} {l:List nJ} (h:QM w v l) (J:∀ x∈l,x.s.size<=140737488355328/\x.d.length<=140737488355328) :
 ZS ZO 4 #[v] w (QN w l):=by
 obtain ⟨ao,c,rfl,t⟩:=h;by_cases Q:200<l.length
 . have I:(200:Int)<(l.length:Int):=(by omega);clear t;go_enter func4,ntmps4;go_wp2;go_ret;exact ⟨ZV,rfl,λe=>(by cases e),TY _ _⟩
 . have I:¬ (200:Int)<(l.length:Int):=(by omega);have E:=al t;clear t;go_enter func4,ntmps4;go_wp2;go_loopw [3,4] (λM z wr=>aaO w l M z wr) (λ_ z _=>l.length-(intOf z).toNat)
   case atStart=>exact ⟨0,T9 _,rfl,rfl,by simp [gh],TY _ _⟩
   case round=>
    obtain ⟨k,U,rfl,rfl,n,f⟩:=hrel;by_cases i:k<l.length
    . obtain ⟨b,off,rfl,B,A⟩:=E.out (λe=>by rw [e] at i;simp at i);obtain ⟨P,K,L,u,y,D⟩:=A k i;obtain ⟨N,O,rfl,_⟩:=id D;have g:=rh l k i;have G:=J l[k] (T4 i);obtain ⟨s,r⟩:=nM (l[k].s);obtain ⟨dl,o⟩:=nM (l[k].d.length);rw [r,o] at g G;rw [r] at u;rw [o] at y;obtain ⟨a,q⟩:=nM (gh (l.take k));rw [q] at g n ⊢;obtain ⟨Y,H⟩:=nM (s.size);have F:(k:Int)<(l.length:Int):=(by omega);have S:IntKind.i64.wrap ((a:Int)+(s.size:Int))=(a:Int)+(s.size:Int):=(by rw [Ut];omega);have T:IntKind.i64.wrap ((a:Int)+(s.size:Int)+(dl:Int))=(a:Int)+(s.size:Int)+(dl:Int):=(by rw [Ut];omega);have V:IntKind.i64.wrap ((k:Int)+1)=(k:Int)+1:=(by rw [Ut];omega);have W:=(f.cell (p:=⟨b,off+k*4+2,ZY⟩) B).trans u;have X:=(f.cell (p:=⟨b,off+k*4+3,ZY⟩) B).trans y;have m:=aE g q f;clear g q f K L u y D A r o H;go_wp2;go_quiet (fail);have j:Hid (bW w (wr.drewN nq)):=al (m.out.2.2.trans ⟨rfl,rfl,rfl,TV _,λ_ _=>rfl⟩);by_cases R:(100000:Int)<(a:Int)+(s.size:Int)+(dl:Int)
      . go_wp2;go_ret;exact ⟨ZV,rfl,λe=>(by cases e),j.out⟩
      . go_wp2;have g:=m.out.1;refine ⟨⟨k+1,by omega,by go_num,?_,by omega,j.out⟩,?_⟩
        . rw [g,show ((a+(s.size+dl):Nat):Int)=(a:Int)+(s.size:Int)+(dl:Int) by omega]
        . simp only [intOf];omega
    . have C:k=l.length:=(by omega);have F:¬ (k:Int)<(l.length:Int):=(by omega);have m:Hid (l.length<=200/\gh l<=100000):=al ⟨by omega,by rw [C,VC] at n;exact n⟩;have j:=al f;clear C n f;go_wp2;go_ret;exact ⟨ZW,rfl,λ_=>m.out,j.out⟩
def Ou (D L G:Nat) (a s r:ZT) (blocks:Nat) (out want:ZT) (cache:Int):List ZT:=[Z7 Z9 (D:Nat),Z7 Z9 (L:Nat),Z7 Z9 (G:Nat),a,s,r,Z7 Z9 (blocks:Nat),out,want,Z7 Z9 cache]
def jz (w:ZU) (wb D L G:Nat) (a s r:ZT) (blocks:Nat) (out want:ZT) (cache:Int):Prop:=aj w wb 48 (Ou D L G a s r blocks out want cache)
def jz.cells {r:ZT} (h:jz w wb D L G a s r blocks out want cache) :
 w.cell? ⟨wb,0,ZY⟩=ZX (Z7 Z9 (D:Nat))/\w.cell? ⟨wb,1,ZY⟩=ZX (Z7 Z9 (L:Nat))/\w.cell? ⟨wb,2,ZY⟩=ZX (Z7 Z9 (G:Nat))/\w.cell? ⟨wb,3,ZY⟩=ZX a/\w.cell? ⟨wb,4,ZY⟩=ZX s/\w.cell? ⟨wb,5,ZY⟩=ZX r/\w.cell? ⟨wb,6,ZY⟩=ZX (Z7 Z9 (blocks:Nat))/\w.cell? ⟨wb,7,ZY⟩=ZX out/\w.cell? ⟨wb,8,ZY⟩=ZX want/\w.cell? ⟨wb,9,ZY⟩=ZX (Z7 Z9 cache):=
 ⟨aj.cell h rfl,aj.cell h rfl,aj.cell h rfl,aj.cell h rfl,aj.cell h rfl,aj.cell h rfl,aj.cell h rfl,aj.cell h rfl,aj.cell h rfl,aj.cell h rfl⟩
theorem Jb {r:ZT} (h:jz w wb D L G (Z6 (ZX ⟨p,0,ZY⟩)) s r blocks out want cache) (y:∃ o,s=.pointer o) (R:Nat->ZU->Prop) (j:∀ sa w2,R sa w2->w2.heap[wb]?=w.heap[wb]?)
 (ho:ZS ZO 11 #[Z6 (ZX ⟨p,0,ZY⟩),.agg #[Z7 Z9 D,Z7 Z9 L,Z7 Z9 G],.agg #[Z7 Z9 cache]] w.drew λe w2=>∃ sa,e=Z3 (ZZ #[Z6 (ZX ⟨sa,0,ZY⟩),.nilIface])/\R sa w2) :
 ZS ZO 15 #[Z6 (ZX ⟨wb,0,ZY⟩)] w λe w'=>e=Z3 (Z2 ZW)/\∃ sa w2 c,R sa w2/\bW w2 c/\jz w' wb D L G (Z6 (ZX ⟨p,0,ZY⟩)) (Z6 (ZX ⟨sa,0,ZY⟩)) r blocks out want cache/\w'=c.setCell ⟨wb,4,ZY⟩ (Z6 (ZX ⟨sa,0,ZY⟩)):=by
 obtain ⟨c0,c1,l,m,n,q,t,u,v,x⟩:=h.cells;have f:=aE ho h j;clear ho h j n q t u v;go_enter func15,ntmps15;go_upto_region 1 with fail;go_cut [3,4] from 6 to 34 (λA B wx=>∃ sa,A=Z6 (ZX ⟨sa,0,ZY⟩)/\B=.nilIface/\R sa wx)
 case first=>
  go_region_with (go_at_call 11;refine f.out.1.mono ?_;rintro e w2 ⟨sa,rfl,a⟩;have b:=al a;clear a);all_goals (go_wp2_with fail;go_meet;case rel=>exact ⟨sa,rfl,rfl,b.out⟩)
 case rest=>
  obtain ⟨sa,rfl,rfl,a⟩:=hcut;have k:jz wc wb D L G (Z6 (ZX ⟨p,0,ZY⟩)) s r blocks out want cache:=aj.keep f.out.2.1 (f.out.2.2 sa wc a);obtain ⟨z,rfl⟩:=y;have b:=au a k;clear a k c0 c1 l m x;go_wp2_with fail;refine (nS wc).mono ?_;rintro e c ⟨rfl,g⟩;have d:jz c wb D L G (Z6 (ZX ⟨p,0,ZY⟩)) (.pointer z) r blocks out want cache:=aj.keep b.out.2 (g.block _ (aj.lt b.out.2));have C:=d.cells.2.2.2.2.1;have E:=aj.R3 d 4;have i:=au g d;clear g d;dsimp only;go_wp2;go_ret;refine ⟨rfl,sa,wc,c,b.out.1,i.out.1,?_,rfl⟩;exact aj.set i.out.2 4 [Z6 (ZX ⟨sa,0,ZY⟩)] (by simp [Ou])
def aZ.other {ps:aU} (h:aZ w ar v p ps D L G t pg ob P xs A F) (g:w.heap.size<=w'.heap.size) {b:Nat} (a:∀ j,j≠b->j<w.heap.size->w'.heap[j]?=w.heap[j]?) (q:b<ar) (m:b≠v) (i:¬ F.S b) (o:3<=b) (l:¬ ps.bl b):aZ w' ar v p ps D L G t pg ob P xs A F:=by
 have c:eB (λk=>ar<k/\¬ F.S k/\¬ ps.bl k) w w':=⟨g,λk n hK=>a k (by have:=hK.1;omega) n⟩;exact { h with arc:=h.arc.keep (a _ (by omega) h.arc.lt),vol:={ h.vol with vol:=h.vol.vol.keep (a _ (V1 m) h.vol.vol.lt),arr:=h.vol.arr.keep λj f=>a j (λe=>i (e▸f)) (h.vol.arr.RU f),laid:=h.vol.laid.keep (a _ (by omega) h.vol.laid.lt),tab:=h.vol.tab.keep (a _ (by omega) h.vol.tab.lt),room:=TW h.vol.room g },pgs:=h.pgs.keep c,cat:=h.cat.keep c,kit:=ps.keep _ _ h.kit λk d=>a k (λe=>l (e▸d)) (ps.lt _ h.kit k d) }
def aB.kind {X:ZU} (h:aB X p A F) {k:Nat} (e:F.S k):∃ cs T,X.heap[k]?=ZX (Z4 cs T (0,0))/\(T=97\/T=101\/T=105\/T=4):=by
 obtain ⟨R,h,_⟩:=h;rcases (h.S k).1 e with rfl|rfl|⟨i,b,rfl|rfl⟩
 . exact ⟨_,_,h.top,.inl rfl⟩
 . obtain ⟨cs,d,_⟩:=h.drv;exact ⟨_,_,d,.inr (.inl rfl)⟩
 . obtain ⟨c,a,_⟩:=h.blk i b;exact ⟨_,_,a,.inr (.inr (.inl rfl))⟩
 . obtain ⟨c,a,_⟩:=h.bad i b;exact ⟨_,_,a,.inr (.inr (.inr rfl))⟩
section
def uV (xs:aY) (cl:Prop) (x:ByteArray) (k:Int):Prop:=(bT x=ZV/\k=6)\/(bT x=ZW/\((x∉xs.names/\k=9)\/(x∈xs.names/\¬ cl/\k=3)))
def Aj (xs:aY) (x:ByteArray) (xs':aY):Prop:=bT x=ZW/\x∈xs.names/\xs'=xs.del (aJ xs.names x)
section
variable {w:ZU} {ar v p D L G t:Nat} {ps:aU} {pg ob:ZT} {P:a8} {xs:aY} {A:aH} {F:aR}
def aZ.Tj (h:aZ w ar v p ps D L G t pg ob P xs A F) (k:Nat):(an (xs.del k).os).length<=1000000:=TW (qw xs k) h.packL_le
def Ov (h:aZ w ar v p ps D L G t pg ob P xs A F) (k:Nat) {pgn:Nat} (d:pgn=pgs D (an (xs.del k).os).length) :
 ZS ZO 83 #[Z6 (ZX ⟨ar,0,ZY⟩),Z7 Z9 (pgn:Nat)] w λe w'=>∃ g cap,e=Z3 (ZZ #[Z5 (ZX ⟨g,0,ZY⟩) pgn cap,Z2 ZW])/\w'.ownsRow w.heap.size 3 1 (Z5 (ZX ⟨g,0,ZY⟩) pgn cap) pgn (jL ((aX (tk A.nb (P++ak xs.os)).1 A.nb).take pgn))/\((aX (tk A.nb (P++ak xs.os)).1 A.nb).take pgn).length=pgn/\w.heap.size<=g/\g<w'.heap.size/\bW w w'/\pgn<=1000:=by
 have:=h.nb;have:1<=pgn:=by rw [d];unfold pgs;omega
 have c:=EB h.disk k;have:=lP h.disk.TU h.disk.Tt;rw [<- d] at c;have a:=lL h.arc h.vol.vol h.vol.arr h.n0 P xs.os h.pgs.any h.cat.any pgn (by omega);rw [decide_eq_true c] at a;have b:((aX (tk A.nb (P++ak xs.os)).1 A.nb).take pgn).length=pgn:=by rw [Ui];omega
 rw [b] at a;refine a.mono ?_;rintro e w' ⟨u,rfl,ho,f⟩;rcases ho.2 with ⟨_,l⟩|⟨g,cap,cur,rfl,i,j,q,_⟩
 . omega
 . exact ⟨g,cap,rfl,ho,b,i,(TX.1 j).1,f,by omega⟩
def Jc (h:aZ w ar v p ps D L G t pg ob P xs A F) (ka:t<1000000) (x:ByteArray) (N:bT x=ZW) (J:x∈xs.names) (k:Nat) (k6:aJ xs.names x=k) {w2:ZU} {u:ZT} {pgn g cap:Nat} (K:pgn=pgs D (an (xs.del k).os).length) (r:eY (λk=>ar<k/\¬ F.S k/\¬ ps.bl k) w2 u (xs.del k).os) (f:bW w w2)
 (C:br (λk=>ar<k/\¬ F.S k/\¬ ps.bl k) w2 (Z5 (ZX ⟨g,0,ZY⟩) pgn cap) ((aX (tk A.nb (P++ak xs.os)).1 A.nb).take pgn)) (c:((aX (tk A.nb (P++ak xs.os)).1 A.nb).take pgn).length=pgn) :
 ZS ZO 86 #[Z6 (ZX ⟨ar,0,ZY⟩),u,Z5 (ZX ⟨g,0,ZY⟩) pgn cap] w2 (cC w ar v p ps D L G t xs A F (uV xs A.clean x) (Aj xs x)):=by
 obtain ⟨oo,oc,rfl,hol,_⟩:=id r;have V:=h.vol.par;have i:=h.disk;have d:=kK i.TU i.Tt pgn;obtain ⟨fr,k5⟩:=nM ((aX (tk A.nb (P++ak xs.os)).1 A.nb).take pgn);rw [k5] at C c d;have:1<=pgn:=by rw [K];unfold pgs;omega
 have W:fr≠[]:=λe=>by rw [e] at c;simp at c;omega
 have R:∀ b∈fr,b<A.nb:=λb Y=>(d.2 b (UB _ Y)).2;have T:=h.Tj k;have M:fr.length=pgs D (an (xs.del k).os).length:=by rw [c,K]
 have E:=kS xs k;have Q:∀ o∈(xs.del k).os,o.fit:=λo ho=>by
  obtain ⟨y,X,rfl⟩:=T6.1 ho;exact (i.fits y (E.subset X)).fit
 have U:(xs.del k).os.length<=10000:=by
  have:=E.length_le;have e:(xs.del k).os.length=(xs.del k).length:=by simp [aY.os]
  have:=h.Sa.1;have:xs.os.length=xs.length:=by simp [aY.os]
  omega
 have z:=h.below f;have H:=nA (w:=w2) z.arc z.vol z.nar
  oo _ oc (an (xs.del k).os) (uT _) T (tY r.any Q U) g 0 cap fr (by rw [c];exact C.Ts λk a=>a.2.1) W R (λj B=>CL V.d1 (by rw [<- M];exact B))
 rw [c] at H;refine H.mono ?_;rintro e O ⟨s,k9⟩;have k7:nx t=t+1:=by unfold nx;omega
 have l:aa (λk=>k=ar\/F.S k) w O:=(aa.RS f _).trans s;rcases k9 with ⟨rfl,m,n⟩|⟨rfl,Z,n,j,B,m⟩
 . have I:eB (λk=>ar<k/\¬ F.S k/\¬ ps.bl k) w2 O:=⟨s.size,λk a hK=>s.block k a (λe=>e.elim (λq=>by have:=hK.1;omega) hK.2.1)⟩;rw [k7] at m n;have a:=Ag A D L G (t+1) fr (an (xs.del k).os);exact ⟨_,_,_,_,_,_,_,rfl,qB h n m l a (by omega) (LH i k M d.1 d.2) (C.keep I) (r.keep I),a,l,.inl ⟨rfl,rfl,N,J,by rw [k6]⟩⟩
 . have a:=Af A D L G fr (bU D fr (an (xs.del k).os)) j;exact ⟨_,_,_,_,_,_,_,rfl,mG h n m l a (i.wr _ (λb f=>⟨(d.2 b (UB _ f)).1,λe=>(UU.1 d.1).2.2 b f b e rfl⟩) B),a,l,.inr ⟨rfl,rfl,3,rfl,.inr ⟨N,.inr ⟨J,Z,rfl⟩⟩⟩⟩
end
theorem Ff {ps:aU} (h:aZ w ar v p ps D L G t pg ob P xs A F) (ke:t<1000000) (x:ByteArray) :
 ZS ZO 57 #[Z6 (ZX ⟨ar,0,ZY⟩),Z0 x] w (cC w ar v p ps D L G t xs A F (uV xs A.clean x) (Aj xs x)):=by
 have k9:∀ w' j,bW w w'->uV xs A.clean x j->cC w ar v p ps D L G t xs A F (uV xs A.clean x) (Aj xs x) (Z3 (uR j)) w':=λw' j E hq=>⟨_,_,_,_,_,_,_,rfl,h.below E,nE.refl A,aa.RS E _,.inr ⟨rfl,rfl,j,rfl,hq⟩⟩;obtain ⟨_,_,_,_,c8⟩:=h.arc.cells;have R:=h.find x;obtain ⟨k,Q⟩:=nM (aJ xs.names x);obtain ⟨i,l⟩:=nM (mP xs.os x);rw [Q,l] at R;have f:=a6 h Q l ke k9;clear Q l h k9 ke;go_enter func57,ntmps57;go_wp2_with fail;refine R.mono ?_;rintro e w1 ⟨rfl,E⟩;have H:=al E;clear E R c8;go_wp2_with fail;refine (jR x w1).mono ?_;rintro e w2 ⟨rfl,rfl⟩;cases hx:bT x
 . dsimp only;go_wp2;go_ret;exact f.out.2.2.2.2 _ 6 H.out (.inl ⟨hx,rfl⟩)
 by_cases r:x∈xs.names;rotate_left
 . have l:=f.out.1.Sv r;rw [f.out.2.2.1] at l;subst l;have J:=al r;clear r;dsimp only;go_wp2;go_ret;exact f.out.2.2.2.2 _ 9 H.out (.inr ⟨hx,.inl ⟨J.out,rfl⟩⟩)
 have l:=f.out.1.there r;rw [f.out.2.2.1] at l;subst l;have U:aJ xs.names x<xs.os.length:=by
  obtain ⟨q,_⟩:=ue f.out.1.disk.up r;rwa [<- eu,bm] at q
 rw [f.out.2.1] at U;obtain ⟨pgn,hc⟩:=nM (pgs D (an (xs.del k).os).length);obtain ⟨len,h9⟩:=nM ((an (xs.del k).os).length);have m:=a5 f.out.1 U hc h9;have J:=al r;clear r U hc h9;dsimp only;have n:=m.out.1.below H.out;obtain ⟨_,_,_,_,d8⟩:=n.arc.cells;have X:=uw n.cat (by have:=n.Sa.1;omega) (λj hj=>⟨by have:=n.arc.lt;omega,λe=>by have:=n.vol.arr.RU e;omega,λe=>by have:=ps.lt _ n.kit _ e;omega⟩) m.out.2.1;rw [<- LF] at X;have Y:=al n;clear n;go_wp2_with fail;refine X.mono ?_;rintro e w3 ⟨u,rfl,M,N⟩;have C:=Y.out.below N;have h3:∀ o∈(xs.del k).os,o.fit:=λo ho=>by
  obtain ⟨y,hy,rfl⟩:=T6.1 ho;exact (C.disk.fits y ((kS xs k).subset hy)).fit
 have ha:(xs.del k).os.length<=10000:=by
  have h1:=(kS xs k).length_le;have e:(xs.del k).os.length=(xs.del k).length:=by simp [aY.os]
  have h4:=C.Sa.1;have h5:xs.os.length=xs.length:=by simp [aY.os]
  omega
 have V:=tX M h3 ha;have kh:=C.Tj k;rw [m.out.2.2.2] at V kh;have z:=aE C M (H.out.trans (N.mono H.out.size));clear X M N C h3 ha d8 Y;dsimp only;go_wp2_with fail;refine V.mono ?_;rintro e w4 ⟨rfl,I⟩;have c:=z.out.1.below I;have W:=jc c.arc c.vol.vol c.vol.par.d1 (by have:=c.vol.par.d;omega) len (by omega);have B:pgs D len=pgn:=by rw [<- m.out.2.2.2];exact m.out.2.2.1
 rw [B] at W;have kc:=Ov c k m.out.2.2.1.symm;have s:bW w w4:=z.out.2.2.trans (I.mono z.out.2.2.size);have Z:=aE c (z.out.2.1.keep (eB.RT I)) s;clear c I s B V z;dsimp only;go_wp2_with fail;refine W.mono ?_;rintro e kj ⟨rfl,rfl⟩;clear W;dsimp only;go_wp2_with fail;refine kc.mono ?_;rintro e w5 ⟨g,cap,rfl,ka,T,kf,kg,O,hv⟩;obtain ⟨c,k7,s⟩:=Z.out;have h7:ar<g/\¬ F.S g/\¬ ps.bl g:=⟨by have:=c.arc.lt;omega,λe=>by have:=c.vol.arr.RU e;omega,λe=>by have:=ps.lt _ c.kit _ e;omega⟩;have kb:br (λk=>ar<k/\¬ F.S k/\¬ ps.bl k) w5 (Z5 (ZX ⟨g,0,ZY⟩) pgn cap) ((aX (tk A.nb (P++ak xs.os)).1 A.nb).take pgn):=by
  have:=xS (K:=λk=>ar<k/\¬ F.S k/\¬ ps.bl k) (a:=pgn) (b:=0) (c1:=cap) ka T h7 (by omega);rwa [UD (by omega)] at this
 have k8:=Jc m.out.1 f.out.2.2.2.1 x hx J.out k f.out.2.1 m.out.2.2.1.symm (k7.keep (eB.RT O)) (s.trans (O.mono s.size)) kb T;clear c k7 s h7 hv kb kc ka T kf kg O Z;dsimp only;go_wp2_with fail;refine k8.mono ?_;rintro e w6 ⟨er,t',ki,hd,P',xs',B',rfl,hp⟩;have HF:=al hp;clear hp k8;dsimp only;go_wp2;go_ret;exact ⟨_,_,_,_,_,_,_,rfl,HF.out⟩
end
def cC.later {ps:aU} {Q:Int->Prop} {N:aY->Prop} (h:cC w ar v p ps D L G t xs A F Q N e w') (j:bW w0 w):cC w0 ar v p ps D L G t xs A F Q N e w':=by
 obtain ⟨x,k,b,a,P',xs',B,c,d,f,g,i⟩:=h;exact ⟨x,k,b,a,P',xs',B,c,d,f,(aa.RS j _).trans g,i⟩
def DoQ (t:Nat) (xs:aY) (Q:Int->Prop) (N:aY->Prop) (er:ZT) (t':Nat) (xs':aY):Prop:=(er=.nilIface/\t'=t+1/\N xs')\/(xs'=xs/\t'=t/\∃ n,er=uR n/\Q n)
def aah {ps:aU} {Q:Int->Prop} {N:aY->Prop} (r:¬ Q 13) (h:aZ w ar v p ps D L G t pg ob P xs A F) (k:FuncId) (cap:Array ZT) (m:∀ (args:Array ZT) (w:ZU),(callFunc k args).run ZO w=.ok (.enter k args) w) (o:∀ w1,bW w w1->ZS ZO k (#[]++cap) w1 (cC w1 ar v p ps D L G t xs A F Q N)) :
 ZS ZO 47 #[Z6 (ZX ⟨ar,0,ZY⟩),.func (.func k) #[] cap] w (cC w ar v p ps D L G t xs A F Q N):=by
 refine (aae h k #[] cap m (λx c xs' _ _=>DoQ t xs Q N x c xs') (λ_ _ _ _ _ _ _ q=>q) λw1 l _=>(o w1 l).mono ?_).mono ?_
 . rintro e w2 ⟨x,c,b,a,P',xs',B,f,g,i,j,d⟩;refine ⟨x,c,b,a,P',xs',B,f,?_,g,i,j,d⟩;rcases d with ⟨rfl,_⟩|⟨_,_,n,rfl,hn⟩
   . exact .inl rfl
   . exact .inr ⟨n,λe=>r (e▸hn),rfl⟩
 . rintro e w2 ⟨x,c,b,a,P',xs',B,f,_,g,i,j,d⟩;exact ⟨x,c,b,a,P',xs',B,f,g,i,j,d⟩
def Ox {n:Nat}:¬ rE D nb xs cl x n 13:=by
 rintro (⟨_,h⟩|⟨_,⟨_,h⟩|⟨_,⟨_,h⟩|⟨_,⟨_,h⟩|⟨_,h⟩⟩⟩⟩)<;>exact absurd h (by decide)
def Oy:¬ uV xs cl x 13:=by
 rintro (⟨_,h⟩|⟨_,⟨_,h⟩|⟨_,_,h⟩⟩)<;>exact absurd h (by decide)
theorem aaP {ps:aU} (h:aZ w ar v p ps D L G t pg ob P xs A F) (I:t<1000000) (x:ByteArray) (ao:Option Addr) (c:Nat) (d:a8) (y:∀ w',aa F.S w w'->Bs w' (.slice ao d.length c) d) (C:d.length<=c) :
 ZS ZO 53 #[Z6 (ZX ⟨ar,0,ZY⟩),Z0 x,.slice ao d.length c] w (cC w ar v p ps D L G t xs A F (rE D A.nb xs A.clean x d.length) (rH D A.nb xs x d)):=by
 have E:∀ (args:Array ZT) (w:ZU),(callFunc 75 args).run ZO w=.ok (.enter 75 args) w:=Vl func75 (by kernel_rfl) rfl;obtain ⟨n,hn⟩:=nM (d.length);obtain ⟨i,g⟩:=nM (((w.alloc (Z4 #[Z6 (ZX ⟨ar,0,ZY⟩)] 86)).alloc (Z4 #[Z0 x] 9)).alloc (Z4 #[.slice ao n c] 31));have f:ZP i w.heap.size 86 (Z6 (ZX ⟨ar,0,ZY⟩)):=by rw [<- g];exact ((UA w _ _).alloc _).alloc _
 have j:ZP i (w.heap.size+1) 9 (Z0 x):=by
  have:=(UA (w.alloc (Z4 #[Z6 (ZX ⟨ar,0,ZY⟩)] 86)) 9 (Z0 x)).alloc (Z4 #[.slice ao n c] 31);rw [Uq] at this;rw [<- g];exact this
 have k:ZP i (w.heap.size+2) 31 (.slice ao n c):=by
  have:=UA ((w.alloc (Z4 #[Z6 (ZX ⟨ar,0,ZY⟩)] 86)).alloc (Z4 #[Z0 x] 9)) 31 (.slice ao n c);simp only [Uq] at this;rw [<- g];exact this
 have b:bW w i:=by rw [<- g];exact ((bA w _).alloc (by simp) _).alloc (by simp;omega) _
 have u:∀ w1,bW i w1->ZS ZO 75 #[Z6 (ZX ⟨w.heap.size,0,ZY⟩),Z6 (ZX ⟨w.heap.size+1,0,ZY⟩),Z6 (ZX ⟨w.heap.size+2,0,ZY⟩)] w1 (cC w1 ar v p ps D L G t xs A F (rE D A.nb xs A.clean x d.length) (rH D A.nb xs x d)):=λw1 a=>by
  have J:=(show ZP w1 w.heap.size 86 _ from (a.block _ f.lt).trans f).cell;have K:=(show ZP w1 (w.heap.size+1) 9 _ from (a.block _ j.lt).trans j).cell;have M:=(show ZP w1 (w.heap.size+2) 31 _ from (a.block _ k.lt).trans k).cell;have l:bW w w1:=b.trans (a.mono b.size);have s:=Ol (h.below l) I x ao c d (λw' B=>y w' ((aa.RS l _).trans B)) C;rw [hn] at s ⊢;clear f j k a l g b;go_enter func75,ntmps75;go_wp2_with fail;refine s.mono ?_;rintro e w2 m;obtain ⟨r,_,_,_,_,_,_,rfl,_⟩:=id m;have H:=al m;clear m s;go_wp2;go_ret;exact H.out
 have q:=aah Ox (h.below b) 75 #[Z6 (ZX ⟨w.heap.size,0,ZY⟩),Z6 (ZX ⟨w.heap.size+1,0,ZY⟩),Z6 (ZX ⟨w.heap.size+2,0,ZY⟩)] E (λw1 a=>u w1 a);have c1:=f.cell;rw [hn] at q ⊢;have H:=au q b;clear q b u f j k h y hn;go_enter func53,ntmps53;go_wp2_with fail;refine H.out.1.mono ?_;rintro e w8 o;obtain ⟨r,_,_,_,_,_,_,rfl,_⟩:=id o;have z:=al (cC.later o H.out.2);clear o;go_wp2;go_ret;exact z.out
theorem Oz {ps:aU} (h:aZ w ar v p ps D L G t pg ob P xs A F) (s:t<1000000) (x:ByteArray) :
 ZS ZO 40 #[Z6 (ZX ⟨ar,0,ZY⟩),Z0 x] w (cC w ar v p ps D L G t xs A F (uV xs A.clean x) (Aj xs x)):=by
 have q:∀ (args:Array ZT) (w:ZU),(callFunc 56 args).run ZO w=.ok (.enter 56 args) w:=Vl func56 (by kernel_rfl) rfl;obtain ⟨g,f⟩:=nM ((w.alloc (Z4 #[Z6 (ZX ⟨ar,0,ZY⟩)] 86)).alloc (Z4 #[Z0 x] 9));have c:ZP g w.heap.size 86 (Z6 (ZX ⟨ar,0,ZY⟩)):=by rw [<- f];exact (UA w _ _).alloc _
 have d:ZP g (w.heap.size+1) 9 (Z0 x):=by
  have:=UA (w.alloc (Z4 #[Z6 (ZX ⟨ar,0,ZY⟩)] 86)) 9 (Z0 x);rw [Uq] at this;rw [<- f];exact this
 have b:bW w g:=by rw [<- f];exact (bA w _).alloc (by simp) _
 have l:∀ w1,bW g w1->ZS ZO 56 #[Z6 (ZX ⟨w.heap.size,0,ZY⟩),Z6 (ZX ⟨w.heap.size+1,0,ZY⟩)] w1 (cC w1 ar v p ps D L G t xs A F (uV xs A.clean x) (Aj xs x)):=λw1 a=>by
  have u:=(show ZP w1 w.heap.size 86 _ from (a.block _ c.lt).trans c).cell;have y:=(show ZP w1 (w.heap.size+1) 9 _ from (a.block _ d.lt).trans d).cell;have k:bW w w1:=b.trans (a.mono b.size);have n:=Ff (h.below k) s x;clear c d a k f b;go_enter func56,ntmps56;go_wp2_with fail;refine n.mono ?_;rintro e w2 i;obtain ⟨r,_,_,_,_,_,_,rfl,_⟩:=id i;have H:=al i;clear i n;go_wp2;go_ret;exact H.out
 have m:=aah Oy (h.below b) 56 #[Z6 (ZX ⟨w.heap.size,0,ZY⟩),Z6 (ZX ⟨w.heap.size+1,0,ZY⟩)] q (λw1 a=>l w1 a);have c1:=c.cell;have H:=au m b;clear m b l c d h;go_enter func40,ntmps40;go_wp2_with fail;refine H.out.1.mono ?_;rintro e w8 j;obtain ⟨r,_,_,_,_,_,_,rfl,_⟩:=id j;have o:=al (cC.later j H.out.2);clear j;go_wp2;go_ret;exact o.out
theorem aai {ps:aU} (g:ZP w sa 90 (Z6 (ZX ⟨ar,0,ZY⟩))) (h:aZ w ar v p ps D L G t pg ob P xs A F) (k:t<1000000) (x:ByteArray) (ao:Option Addr) (c:Nat) (d:a8) (f:∀ w',aa F.S w w'->Bs w' (.slice ao d.length c) d) (j:d.length<=c) :
 ZS ZO 34 #[Z6 (ZX ⟨sa,0,ZY⟩),Z0 x,.slice ao d.length c] w (cC w ar v p ps D L G t xs A F (rE D A.nb xs A.clean x d.length) (rH D A.nb xs x d)):=by
 have cs:=g.cell;have b:=aaP h k x ao c d f j;clear g h f;go_enter func34,ntmps34;go_wp2_with fail;refine b.mono ?_;rintro e w8 a;obtain ⟨r,_,_,_,_,_,_,rfl,_⟩:=id a;have i:=al a;clear a b;go_wp2;go_ret;exact i.out
theorem Gc {ps:aU} (c:ZP w sa 90 (Z6 (ZX ⟨ar,0,ZY⟩))) (h:aZ w ar v p ps D L G t pg ob P xs A F) (f:t<1000000) (x:ByteArray) :
 ZS ZO 21 #[Z6 (ZX ⟨sa,0,ZY⟩),Z0 x] w (cC w ar v p ps D L G t xs A F (uV xs A.clean x) (Aj xs x)):=by
 have cs:=c.cell;have b:=Oz h f x;clear c h;go_enter func21,ntmps21;go_wp2_with fail;refine b.mono ?_;rintro e w8 a;obtain ⟨r,_,_,_,_,_,_,rfl,_⟩:=id a;have d:=al a;clear a b;go_wp2;go_ret;exact d.out
def uS.isSlice {r:ZT} (h:uS xs A x base u r w):(∃ ao n c,u=.slice ao n c)/\mX r:=by
 rcases h with ⟨rfl,h⟩|⟨rfl,_,X,_,_,ho⟩
 . refine ⟨⟨_,_,_,rfl⟩,.inr ?_⟩;rcases h with ⟨rfl,_⟩|⟨rfl,_⟩|⟨rfl,_⟩<;>exact ⟨_,by decide,rfl⟩
 . obtain ⟨a,b,e⟩:=bf ho;exact ⟨⟨_,_,_,e⟩,.inl rfl⟩
def uS.keep {base':Nat} {r:ZT} (h:uS xs A x base u r w) (l:base'<=base) (m:∀ (j:Nat) (cs:Array ZT),w.heap[j]?=ZX (Z4 cs 5 (0,0))->w'.heap[j]?=w.heap[j]?):uS xs A x base' u r w':=by
 refine h.imp id ?_;rintro ⟨e,f,X,i,k,ho⟩;refine ⟨e,f,X,i,k,ho.1,?_⟩;rcases ho.2 with d|⟨g,cap,cur,b,c,a,rr⟩
 . exact .inl d
 . exact .inr ⟨g,cap,cur,b,TW l c,(m _ _ a).trans a,rr⟩
def CS {n c:Nat} {ao:Option Addr} (d:ZP w b 31 (.slice ao n c)):qY w b:=λoff u h=>by
 have a:w.heap[b]?=ZX (Z4 #[.slice ao n c] 31 (0,0)):=d;cases off with
 | zero=>simp [World.cell?,a] at h;subst h;exact ⟨λ_=>nofun,λ_=>nofun⟩
 | succ n=>simp [World.cell?,a] at h
def Fg (w:ZU) (ar v p:Nat) (Kind:aU->Prop) (ps:aU) (D L G t:Nat) (xs:aY) (A:aH) (F:aR) (x:ByteArray) (e:ZR) (w':ZU):Prop:=
 ∃ u r ps' pg ob P,e=Z3 (ZZ #[u,r])/\QG w ar v p Kind ps D L G t pg ob P xs A F ps' w'/\aa (λj=>j=ar\/F.S j\/j=v\/ps.bl j) w w'/\uS xs A x w.heap.size u r w'
theorem Mv {w1:ZU} {q3:Nat} {Kind:aU->Prop} {ps:aU} (h:aZ w ar v p ps D L G t pg ob P xs A F) (x:ByteArray) (i:∀ w1,bW w w1->ZS ZO 55 #[Z6 (ZX ⟨ar,0,ZY⟩),Z0 x] w1 (mJ w1 ar v p Kind ps D L G t pg ob P xs A F x)) (d:bW w w1) (y:ZP w1 q1 86 (Z6 (ZX ⟨ar,0,ZY⟩))) (z:ZP w1 q2 9 (Z0 x)) (f:ZP w1 q3 31 (Z5 ZY 0 0)) (Q:w.heap.size<=q3) :
 ZS ZO 54 #[Z6 (ZX ⟨q1,0,ZY⟩),Z6 (ZX ⟨q2,0,ZY⟩),Z6 (ZX ⟨q3,0,ZY⟩)] w1 λe w2=>∃ u r ps',e=Z3 r/\QG w ar v p Kind ps D L G t pg ob P xs A F ps' w2/\aa (λj=>F.S j\/j=v\/ps.bl j\/j=q3) w1 w2/\uS xs A x w.heap.size u r w2/\ZP w2 q3 31 u:=by
 have I:=y.cell;have J:=z.cell;have C:=i w1 d;have g:∀ j,F.S j->j<w.heap.size:=λj a=>h.vol.arr.RU a;have H:=a5 h f g d;clear h y z f g d i;go_enter func54,ntmps54;go_wp2_with fail;refine C.mono ?_;rintro e w2 ⟨u,r,ps',rfl,i,l,m⟩;obtain ⟨h,f,g,d⟩:=H.out;have b:ZP w2 q3 31 (Z5 ZY 0 0):=(l.block _ f.lt (λe=>by
  rcases e with e|e|e
  . have:=g _ e;omega
  . have:=h.vol.vol.lt;omega
  . have:=ps.lt _ h.kit _ e;omega)).trans f
 have R:=b.cell;have T:=b.frozen;obtain ⟨ao,n,c,rfl⟩:=m.isSlice.1;have E:=a5 i l m b;clear i l m b C I J h f g d;go_wp2;go_ret;obtain ⟨⟨hl,N,O⟩,l,m,b⟩:=E.out;obtain ⟨h,f,g,d⟩:=H.out;have K:ZP (w2.setCell ⟨q3,0,ZY⟩ (.slice ao n c)) q3 31 (.slice ao n c):=b.set _;have o:∀ j,j≠q3->(w2.setCell ⟨q3,0,ZY⟩ (.slice ao n c)).heap[j]?=w2.heap[j]?:=λj a=>Ud _ _ _ _ a;have M:qY w2 q3:=CS b;refine ⟨_,r,ps',rfl,⟨hl.aside (B:=w.heap.size) M (cJ hl.kit b uL) (by simp [World.setCell]) (λk s _=>o k s) Q (by exact g) h.vol.vol.lt h.arc.lt h.vol.room,N,λk s=>(O k s).imp id λq=>TW d.size q⟩,?_,m.keep d.size (λj cs a=>o j (λe=>by subst e;rw [b] at a;cases a)),K⟩;exact (l.mono λj _ a=>by
  rcases a with q|q|q
  . exact .inl q
  . exact .inr (.inl q)
  . exact .inr (.inr (.inl q))).trans ⟨rfl,rfl,rfl,by simp [World.setCell],λj _ a=>o j (λe=>a (.inr (.inr (.inr e))))⟩
theorem aaQ {Kind:aU->Prop} {ps:aU} (h:aZ w ar v p ps D L G t pg ob P xs A F) (x:ByteArray) (z:∀ w1,bW w w1->ZS ZO 55 #[Z6 (ZX ⟨ar,0,ZY⟩),Z0 x] w1 (mJ w1 ar v p Kind ps D L G t pg ob P xs A F x)) :
 ZS ZO 38 #[Z6 (ZX ⟨ar,0,ZY⟩),Z0 x] w (Fg w ar v p Kind ps D L G t xs A F x):=by
 have hm:∀ (args:Array ZT) (w:ZU),(callFunc 54 args).run ZO w=.ok (.enter 54 args) w:=Vl func54 (by kernel_rfl) rfl;obtain ⟨J,I⟩:=nM (((w.alloc (Z4 #[Z6 (ZX ⟨ar,0,ZY⟩)] 86)).alloc (Z4 #[Z0 x] 9)).alloc (Z4 #[Z5 ZY 0 0] 31));have f:ZP J w.heap.size 86 (Z6 (ZX ⟨ar,0,ZY⟩)):=by rw [<- I];exact ((UA w _ _).alloc _).alloc _
 have g:ZP J (w.heap.size+1) 9 (Z0 x):=by
  have:=(UA (w.alloc (Z4 #[Z6 (ZX ⟨ar,0,ZY⟩)] 86)) 9 (Z0 x)).alloc (Z4 #[Z5 ZY 0 0] 31);rw [Uq] at this;rw [<- I];exact this
 have l:ZP J (w.heap.size+2) 31 (Z5 ZY 0 0):=by
  have:=UA ((w.alloc (Z4 #[Z6 (ZX ⟨ar,0,ZY⟩)] 86)).alloc (Z4 #[Z0 x] 9)) 31 (Z5 ZY 0 0);simp only [Uq] at this;rw [<- I];exact this
 have d:bW w J:=by rw [<- I];exact ((bA w _).alloc (by simp) _).alloc (by simp;omega) _
 have T:=h.below d;have hs:=l.lt;have V:=E1 T 54 #[] #[Z6 (ZX ⟨w.heap.size,0,ZY⟩),Z6 (ZX ⟨w.heap.size+1,0,ZY⟩),Z6 (ZX ⟨w.heap.size+2,0,ZY⟩)] hm
  (λr O xs' B ps' w2=>∃ u,uS xs A x w.heap.size u r w2/\ZP w2 (w.heap.size+2) 31 u/\(Kind ps'/\∀ k,ps'.bl k->ps.bl k\/w.heap.size<=k)/\O=t/\xs'=xs/\B=A) (λj=>j=w.heap.size+2\/j=v\/ps.bl j) (λj e=>by
   rcases e with e|e|e
   . omega
   . have:=h.vol.vol.lt;have:=d.size;omega
   . have:=ps.lt _ h.kit _ e;have:=d.size;omega)
  (λr O xs' B ps' w2 w' Q=>by
   rintro ⟨u,C,y,Y⟩;have U:∀ j,w2.heap[j]?≠ZX (Obj.cells #[Value.nilIface] 53 (0,0))->w'.heap[j]?=w2.heap[j]?:=λj b=>Q.2.2 j (λe=>by subst e;exact b Q.1);refine ⟨u,C.keep lR (λj cs b=>U j (by rw [b];simp)),(U _ (by rw [y];simp)).trans y,Y⟩)
  (λw1 s hr=>(Mv h x z (d.trans (s.mono d.size)) ((s.block _ f.lt).trans f) ((s.block _ g.lt).trans g) ((s.block _ l.lt).trans l) (by omega)).mono (by
   rintro e w2 ⟨u,r,ps',rfl,⟨hl,z⟩,Z,C,y⟩;exact ⟨r,t,pg,ob,P,xs,A,ps',rfl,C.isSlice.2,hl,nE.refl A,Z.mono λj _ b=>by
    rcases b with q|q|q|q
    . exact .inr (.inl q)
    . exact .inr (.inr (.inr (.inl q)))
    . exact .inr (.inr (.inr (.inr q)))
    . exact .inr (.inr (.inl q)),u,C,y,z,rfl,rfl,rfl⟩))
 have c1:=f.cell;have H:=aE V d h;clear V d f g l h T z;go_enter func38,ntmps38;go_wp2_with fail;refine H.out.1.mono ?_;rintro e w8 ⟨r,O,N,M,P',xs',B,ps',rfl,hq,E,hp,o,u,i,R,m,rfl,rfl,rfl⟩;have a:ZP w8 (w.heap.size+1+1) 31 u:=R;have y0:=a.cell;have y1:=a.frozen;obtain ⟨ao,n,c,rfl⟩:=i.isSlice.1;have W:=a6 o i a E m;clear m E o i R a hq hp;go_wp2;obtain ⟨o,i,a,E,m⟩:=W.out;have X:=(a.set (.slice ao n c)).cell;refine Um (v:=ZZ #[.slice ao n c,r]) (by simp [results,results38,go_sem,X]) rfl ?_;have K:bW w8 (w8.setCell ⟨w.heap.size+1+1,0,ZY⟩ (.slice ao n c)):=⟨rfl,rfl,rfl,by simp [World.setCell],λj b=>by
  by_cases e:j=w.heap.size+1+1
  . subst e;exact (a.set (.slice ao n c)).trans a.symm
  . exact Ud _ _ _ _ e⟩
 refine ⟨_,r,ps',N,M,P',rfl,⟨E.below K,m⟩,?_,i.keep lR (λj cs b=>K.block j (TX.1 b).1)⟩;have hk:aa (λj=>j=ar\/F.S j\/j=v\/ps.bl j) w w8:=(aa.RS H.out.2.1 (λj=>j=ar\/F.S j\/j=v\/ps.bl j)).later o (λj f g=>by
  rcases g with q|q|q|q|q
  . exact .inl q
  . exact .inr (.inl q)
  . omega
  . exact .inr (.inr (.inl q))
  . exact .inr (.inr (.inr q)))
 exact hk.trans (aa.RS K _)
theorem aaj {Kind:aU->Prop} {ps:aU} (g:ZP w sa 90 (Z6 (ZX ⟨ar,0,ZY⟩))) (h:aZ w ar v p ps D L G t pg ob P xs A F) (x:ByteArray) (d:∀ w1,bW w w1->ZS ZO 55 #[Z6 (ZX ⟨ar,0,ZY⟩),Z0 x] w1 (mJ w1 ar v p Kind ps D L G t pg ob P xs A F x)) :
 ZS ZO 17 #[Z6 (ZX ⟨sa,0,ZY⟩),Z0 x] w (Fg w ar v p Kind ps D L G t xs A F x):=by
 have cs:=g.cell;have f:=aaQ h x d;clear g h d;go_enter func17,ntmps17;go_wp2_with fail;refine f.mono ?_;rintro e w8 ⟨u,r,ps',b,a,P',rfl,c⟩;have i:=al c;clear c f;go_wp2;go_ret2;exact ⟨u,r,ps',b,a,P',rfl,i.out⟩
def en2 (o:Ob):List ZT:=[Z0 o.name,Z7 Z9 (o.size:Nat)]
def l9 (os:List Ob):List ZT:=os.flatMap en2
def Jd (os:List Ob) (k:Nat) (a:k<os.length):l9 (os.take (k+1))=l9 (os.take k)++en2 os[k]:=by
 unfold l9;rw [U6,Ua a,Wo];simp
def Tryz.Tf:(ZO.info? 78).map (λi=>(i.zero,i.size,i.bytes))=ZX (ZX (.agg #[Z0 ByteArray.empty,Z7 Z9 0]),2,24):=by kernel_rfl
def LiR (w:ZU) (q:Nat) (os:List Ob) (i:ZT) (wr:ZU):Prop:=∃ k:Nat,k<=os.length/\i=Z7 Z9 (k:Nat)/\∃ u,ZP wr q 74 u/\wr.ownsRow w.heap.size 78 2 u k (l9 (os.take k))/\aa (λj=>j=q) w wr
theorem Je {n:Nat} (J:ZP w q1 86 (Z6 (ZX ⟨ar,0,ZY⟩))) (M:ZP w q2 74 (Z5 ZY 0 0)) (O:bh w ar v D L G t f n pg ob ZV) (x:eY K w ob os) (hK:∀ k,K k->k≠q2) (kf:os.length<=10000) :
 ZS ZO 58 #[Z6 (ZX ⟨q1,0,ZY⟩),Z6 (ZX ⟨q2,0,ZY⟩)] w λe w'=>e=Z3 .nilIface/\∃ u,ZP w' q2 74 u/\w'.ownsRow w.heap.size 78 2 u os.length (l9 os)/\aa (λj=>j=q2) w w':=by
 obtain ⟨_,_,_,_,I⟩:=O.cells;have g1:=J.cell;obtain ⟨ie,k7,hf,hg,hh⟩:=Us Tryz.Tf;obtain ⟨oo,oc,rfl,hol,_⟩:=id x;obtain ⟨nn,W⟩:=nM (os.length);rw [W] at I;have H:=aE M x W;have kc:nn<=10000:=by omega
 clear J M O x hol;go_enter func58,ntmps58;go_wp2;go_loopw [10] (λi wr=>LiR w q2 os i wr) (λi _=>nn-(intOf i).toNat)
 case atStart=>exact ⟨0,T9 _,rfl,_,H.out.1,UK _ _ _ _,aa.refl _ _⟩
 case round=>
  clear I g1;obtain ⟨k,hk,rfl,u,m,ho,a⟩:=hrel;by_cases U:k<os.length
  . have R:eB K w wr:=⟨a.size,λj d k6=>a.block j d (λe=>hK j k6 e)⟩;obtain ⟨b,off,sv,rfl,hb,_,r1,r2,r3,Y⟩:=(H.out.2.1.keep R).at' (k:=k) U;obtain ⟨sa,Z,rfl,_⟩:=id Y;obtain ⟨nm,z⟩:=nM (os[k].name);obtain ⟨sz,B⟩:∃ sz:Int,((os[k].size:Nat):Int)=sz:=⟨_,rfl⟩;obtain ⟨sl,X⟩:=nM (os[k].RQ.length);have r:l9 (os.take (k+1))=l9 (os.take k)++[Z0 nm,Z7 Z9 sz]:=(by rw [Jd os k U];unfold en2;rw [z,B]);rw [z] at r1;rw [B] at r2;rw [X] at r3;have ka:(k:Int)<(nn:Int):=(by omega);obtain ⟨g,C⟩:=nM (wr.alloc (Z4 #[Z0 nm,Z7 Z9 sz,.slice sa sl Z] 130));have y:aj g wr.heap.size 130 [Z0 nm,Z7 Z9 sz,.slice sa sl Z]:=(by rw [<- C];exact UG wr _);have q:bW wr g:=(by rw [<- C];exact bA wr _);have kb:g.heap.size=wr.heap.size+1:=(by rw [<- C];simp);have x0:=y.cell (j:=0) (u:=Z0 nm) rfl;have x1:=y.cell (j:=1) (u:=Z7 Z9 sz) rfl;have P:ZP g q2 74 u:=(q.block _ m.lt).trans m;have xq:=P.cell;have T:aj (g.alloc (Z4 #[Z0 nm,Z7 Z9 sz] 78)) g.heap.size 78 [Z0 nm,Z7 Z9 sz]:=UG g _;have h:bW wr (g.alloc (Z4 #[Z0 nm,Z7 Z9 sz] 78)):=q.alloc (by omega) _;have s:Src ZO 2 74 (Z5 (ZX ⟨g.heap.size,0,ZY⟩) 1 1) 1 [Z0 nm,Z7 Z9 sz] (g.alloc (Z4 #[Z0 nm,Z7 Z9 sz] 78)):=
     U7 _ underlying74 ⟨g.heap.size,0,ZY⟩ 1 1 [Z0 nm,Z7 Z9 sz] rfl (λj u d=>by rw [U9,Ue];exact T.cell d) (λu Q=>by
      simp only [Ur,WK,or_false] at Q;rcases Q with rfl|rfl<;>rfl)
    have A:(g.alloc (Z4 #[Z0 nm,Z7 Z9 sz] 78)).ownsRow w.heap.size 78 2 u k (l9 (os.take k)):=ay ho h;have c:=hide8 m ho a s A h r q;have ke:IntKind.i64.wrap ((k:Int)+1)=(k:Int)+1:=(by rw [Ut];omega);clear m ho a s A h r q y T P R Y z B X hb kb;go_wp2_with (at_builtin;refine ae _ rfl (Z1 14) (Z1 20) 74 74 rfl w.heap.size 78 ie _ 2 24 underlying74 k7 hf hg hh rfl u k (l9 (os.take k)) (by rfl) (by exact c.out.2.2.2.2.1) _ (by rfl) 1 [Z0 nm,Z7 Z9 sz] (by exact c.out.2.2.2.1) (by unfold maxLen;omega) (by omega) (by exact TW c.out.2.2.1.size c.out.2.2.2.2.2.1.size) ?_;intro v7 w7 p l he;have o:ZP w7 q2 74 u:=(l.block _ (TZ c.out.1.lt c.out.2.2.2.2.2.1.size) (λe=>bG c.out.2.1 c.out.1 (by decide) e.symm)).trans ((c.out.2.2.2.2.2.1.block _ c.out.1.lt).trans c.out.1);have z0:=o.cell;have z1:=o.frozen;obtain ⟨E,F,rfl⟩:=bf p;have H7:=aE p l o;clear p l he o);obtain ⟨m,ho,a,s,A,h,r,q⟩:=c.out;obtain ⟨p,l,o⟩:=H7.out;have hp:ZP (w7.setCell ⟨q2,0,ZY⟩ (.slice E (k+1) F)) q2 74 (.slice E (k+1) F):=o.set _;have N:∀ j,j≠q2->(w7.setCell ⟨q2,0,ZY⟩ (.slice E (k+1) F)).heap[j]?=w7.heap[j]?:=λj d=>Ud _ _ _ _ d;have kh:=l.size;have kg:=h.size;refine ⟨⟨k+1,by omega,by go_num,_,hp,?_,?_⟩,?_⟩
    . rw [r];exact bS p (S:=λj=>j=q2) ⟨rfl,rfl,rfl,by simp [World.setCell],λj _ d=>N j d⟩ λj d e=>bG p (e▸o:w7.heap[j]?=_) (by decide) d
    . refine ⟨l.os.trans (h.os.trans a.os),l.tape.trans (h.tape.trans a.tape),l.output.trans (h.output.trans a.output),by have:=a.size;simp [World.setCell];omega,λj d V=>?_⟩;have k8:j<wr.heap.size:=TZ d a.size;exact (N j V).trans ((l.block j (by omega) (λe=>by have:=dY ho e.symm;omega)).trans ((h.block j k8).trans (a.block j d V)))
    . simp only [intOf];omega
  . have k9:k=nn:=(by have:=H.out.2.2;omega);subst k9;have HF:=aE m ho a;clear m ho a;go_wp2;go_ret;obtain ⟨m,ho,a⟩:=HF.out;refine ⟨rfl,u,m,?_,a⟩;rw [UD (by have:=H.out.2.2;omega),<- H.out.2.2] at ho;exact ho
def Mw (w:ZU) (xs:aY) (e:ZR) (w':ZU):Prop:=∃ u,e=Z3 (ZZ #[u,.nilIface])/\bW w w'/\w'.ownsRow w.heap.size 78 2 u xs.os.length (l9 xs.os)
def Jf {n:Nat} {l:List ZT} (h:w.ownsRow base 78 2 u n l) (i:w.heap[b]?=ZX (Z4 #[.nilIface] 53 (0,0))) (k:∀ j,j≠b->w'.heap[j]?=w.heap[j]?):w'.ownsRow base 78 2 u n l:=by
 refine ⟨h.1,?_⟩;rcases h.2 with f|⟨g,cap,cur,c,d,a,rr⟩
 . exact .inl f
 . exact .inr ⟨g,cap,cur,c,d,(k g (λe=>by subst e;rw [i] at a;cases a)).trans a,rr⟩
theorem aak {ps:aU} (h:aZ w ar v p ps D L G t pg ob P xs A F) :
 ZS ZO 41 #[Z6 (ZX ⟨ar,0,ZY⟩)] w (Mw w xs):=by
 have Y:∀ (args:Array ZT) (w:ZU),(callFunc 58 args).run ZO w=.ok (.enter 58 args) w:=Vl func58 (by kernel_rfl) rfl;obtain ⟨C,z⟩:=nM ((w.alloc (Z4 #[Z6 (ZX ⟨ar,0,ZY⟩)] 86)).alloc (Z4 #[Z5 ZY 0 0] 74));have o:ZP C w.heap.size 86 (Z6 (ZX ⟨ar,0,ZY⟩)):=by rw [<- z];exact (UA w _ _).alloc _
 have q:ZP C (w.heap.size+1) 74 (Z5 ZY 0 0):=by
  have:=UA (w.alloc (Z4 #[Z6 (ZX ⟨ar,0,ZY⟩)] 86)) 74 (Z5 ZY 0 0);rw [Uq] at this;rw [<- z];exact this
 have l:bW w C:=by rw [<- z];exact (bA w _).alloc (by simp) _
 have M:=h.below l;have hx:=q.lt;have N:=E1 M 58 #[] #[Z6 (ZX ⟨w.heap.size,0,ZY⟩),Z6 (ZX ⟨w.heap.size+1,0,ZY⟩)] Y
  (λr R xs' B ps' w2=>r=.nilIface/\xs'=xs/\(∀ j,j<w.heap.size->w2.heap[j]?=w.heap[j]?)/\∃ u,ZP w2 (w.heap.size+1) 74 u/\w2.ownsRow w.heap.size 78 2 u xs.os.length (l9 xs.os)) (λj=>j=w.heap.size+1) (λj e=>by omega)
  (λr R xs' B ps' w2 w' i=>by
   rintro ⟨U,V,W,u,s,ho⟩;exact ⟨U,V,λj f=>(i.2.2 j (by omega)).trans (W j f),u,(i.2.2 _ (λe=>by have E:=i.1;rw [<- e,s] at E;cases E)).trans s,Jf ho i.1 i.2.2⟩)
  (λw1 y hv=>by
   have g:bW w w1:=l.trans (y.mono l.size);have hq:=h.below g;have X:eY (λk=>k<w.heap.size) w1 ob xs.os:=h.cat.any.keep (eB.RT g);refine (Je ((y.block _ o.lt).trans o) ((y.block _ q.lt).trans q) hq.arc X (λk Q=>by omega) (by have:=h.Sa.1;omega)).mono ?_;rintro e w2 ⟨rfl,u,s,ho,J⟩;have K:bW w w2:=g.trans (J.below (B:=w.heap.size) λk Q=>⟨TZ Q g.size,by omega⟩);exact ⟨_,t,pg,ob,P,xs,A,ps,rfl,.inl rfl,h.below K,nE.refl A,J.mono λj _ f=>.inr (.inr f),rfl,rfl,λj f=>K.block j f,u,s,cP ho g.size⟩)
 have c1:=o.cell;have H:=aE N l h;clear N l o q h M;go_enter func41,ntmps41;go_wp2_with fail;refine H.out.1.mono ?_;rintro e w8 ⟨r,R,hd,hb,P',xs',B,ps',rfl,hs,hr,Z,b,rfl,rfl,x,u,a,d⟩;have y0:=a.cell;have y1:=a.frozen;obtain ⟨ao,c,rfl⟩:=bf d;obtain ⟨n,hn⟩:=nM (xs'.os.length);rw [hn] at y0 a;have S:=a6 b d a x hn;clear hr b d a x hs Z hn;go_wp2;obtain ⟨b,d,a,x,hn⟩:=S.out;have T:=(a.set (.slice ao n c)).cell;refine Um (v:=ZZ #[.slice ao n c,.nilIface]) (by simp [results,results41,go_sem,T]) rfl ?_;have I:bW w8 (w8.setCell ⟨w.heap.size+1,0,ZY⟩ (.slice ao n c)):=⟨rfl,rfl,rfl,by simp [World.setCell],λj f=>by
  by_cases e:j=w.heap.size+1
  . subst e;exact (a.set (.slice ao n c)).trans a.symm
  . exact Ud _ _ _ _ e⟩
 rw [hn] at d;have m:=H.out.2.1;have O:w.heap.size<=w8.heap.size:=TW m.size b.size;exact ⟨_,rfl,(Below.mk (b.os.trans m.os) (b.tape.trans m.tape) (b.output.trans m.output) O x).trans (I.mono O),by rw [hn];exact ay d I⟩
theorem aal {ps:aU} (c:ZP w sa 90 (Z6 (ZX ⟨ar,0,ZY⟩))) (h:aZ w ar v p ps D L G t pg ob P xs A F) :
 ZS ZO 25 #[Z6 (ZX ⟨sa,0,ZY⟩)] w (Mw w xs):=by
 have cs:=c.cell;have b:=aak h;clear c h;go_enter func25,ntmps25;go_wp2_with fail;refine b.mono ?_;rintro e w8 ⟨u,rfl,a⟩;have d:=al a;clear a b;go_wp2;go_ret2;exact ⟨u,rfl,d.out⟩
def Kd (B:Nat) (T:ZQ) (w w':ZU):Prop:=∀ j cs,j<B->w.heap[j]?=ZX (Z4 cs T (0,0))->w'.heap[j]?=w.heap[j]?
def Kd.below (h:bW w w') (B:Nat) (T:ZQ):Kd B T w w':=λj _ _ a=>h.block j (TX.1 a).1
def Kd.trans {a b c:ZU} (h:Kd B T a b) (k:Kd B T b c):Kd B T a c:=λj cs d e=>(k j cs d ((h j cs d e).trans e)).trans (h j cs d e)
def Kd.mono {a b:ZU} (h:Kd B T a b) (c:B'<=B):Kd B' T a b:=λj cs d q=>h j cs (by omega) q
def Law (T:ZQ):Prop:=T=43\/T=51\/T=90\/T=5\/T=33
def fa (B:Nat) (w w':ZU):Prop:=∀ T,Law T->Kd B T w w'
def fa.below (h:bW w w') (B:Nat):fa B w w':=λT _=>Kd.below h B T
def fa.trans {a b c:ZU} (h:fa B a b) (k:fa B b c):fa B a c:=λT d=>(h T d).trans (k T d)
def fa.mono {a b:ZU} (h:fa B a b) (c:B'<=B):fa B' a b:=λT d=>(h T d).mono c
def fa.live {n:Nat} {ps:aU} (l:aB w p A F) (r:bh w ar v D L G t f n pg ob off) (u:bk w v p D L G ps.ps ho) (o:ps.S w) (m:aa (λj=>j=ar\/F.S j\/j=v\/ps.bl j) w w'):fa B w w':=λT i j cs _ b=>m.block j (TX.1 b).1 (λq=>by
 have a:T≠115/\T≠97/\T≠101/\T≠105/\T≠4:=by
  rcases i with rfl|rfl|rfl|rfl|rfl<;>exact ⟨by decide,by decide,by decide,by decide,by decide⟩
 have h:T≠137/\¬ ry T:=by
  rcases i with rfl|rfl|rfl|rfl|rfl<;>exact ⟨by decide,by unfold ry;decide⟩
 rcases q with q|q|q|q
 . subst q;have g:w.heap[j]?=ZX (Z4 (nr v D L G t f n pg ob off) 115 (0,0)):=r;rw [b] at g;simp only [UO,Vm] at g;exact a.1 g.2.1
 . obtain ⟨cs',T',e,s⟩:=l.kind q;rw [b] at e;simp only [UO,Vm] at e;have c:=e.2.1;rcases s with k|k|k|k
   . exact a.2.1 (c.trans k)
   . exact a.2.2.1 (c.trans k)
   . exact a.2.2.2.1 (c.trans k)
   . exact a.2.2.2.2 (c.trans k)
 . subst q;have d:=u;unfold bk at d;rw [b] at d;simp only [UO,Vm] at d;exact h.1 d.2.1
 . exact cJ o b h.2 q)
def Fh {n:Nat} {v:ZT} {xs:List ZT} (h:w.ownsRow base T size v n xs) (f:Kd B T w w') (e:w.heap.size<=B):w'.ownsRow base T size v n xs:=by
 refine ⟨h.1,?_⟩;rcases h.2 with d|⟨g,cap,cur,b,c,a,rr⟩
 . exact .inl d
 . exact .inr ⟨g,cap,cur,b,c,(f _ _ (TZ (TX.1 a).1 e) a).trans a,rr⟩
def Ow (w:ZU) (v:ZT) (l:a8):Prop:=(∃ base,w.ownsRow base 5 1 v l.length (aI l))/\(∀ x∈l,x<256)/\l.length<=1500
def Ow.nil (w:ZU):Ow w (Z5 ZY 0 0) []:=⟨⟨0,UK _ _ _ _⟩,λx a=>(by cases a),by decide⟩
def Ow.keep {v:ZT} (h:Ow w v l) (d:Kd w.heap.size 5 w w'):Ow w' v l:=by
 obtain ⟨⟨base,a⟩,b,c⟩:=h;exact ⟨⟨base,Fh a d lR⟩,b,c⟩
def Ow.bs {v:ZT} (h:Ow w v l):Bs w v l:=by
 obtain ⟨⟨base,ho⟩,e,hl⟩:=h;rcases ho.2 with ⟨rfl,d⟩|⟨g,cap,cur,rfl,f,i,c,j,m,n⟩
 . have:l=[]:=UP d;subst this;exact ⟨ZY,0,rfl,TV _,by decide,λx h=>(by cases h),λh=>absurd rfl h⟩
 . refine ⟨_,cap,rfl,c,by omega,e,λ_=>⟨g,0,rfl,λk b=>?_⟩⟩;have a:=ho.cells (g:=g) rfl k (Z7 .u8 ((l.getD k 0:Nat):Int)) (by
    unfold aI;rw [Un,Ua b,T5,Ua b];rfl)
   rw [jD] at a;rw [Ue];exact a
def Ow.sl {v:ZT} (h:Ow w v l):ju v/\BJ v=l.length:=by
 obtain ⟨⟨base,ho⟩,_,hl⟩:=h;obtain ⟨a,b,rfl⟩:=bf ho;exact ⟨⟨_,_,_,rfl,by omega⟩,rfl⟩
def iU (w:ZU):List (ByteArray×ZT)->aY->Prop
 | [],[]=>True
 | q::Q,x::xs=>(q.1=x.1.name/\Ow w q.2 x.2)/\iU w Q xs
 | _,_=>False
def iU.len:∀ {Q:List (ByteArray×ZT)} {xs:aY},iU w Q xs->Q.length=xs.length
 | [],[],_=>rfl
 | [],_::_,h=>h.elim
 | _::_,[],h=>h.elim
 | _::Q,_::xs,h=>by rw [Uv,Uv,iU.len h.2]
def iU.names:∀ {Q:List (ByteArray×ZT)} {xs:aY},iU w Q xs->cB Q=xs.names
 | [],[],_=>rfl
 | [],_::_,h=>h.elim
 | _::_,[],h=>h.elim
 | q::Q,x::xs,h=>by
  have e:cB (q::Q)=q.1::cB Q:=rfl;have a:aY.names (x::xs)=x.1.name::aY.names xs:=rfl;rw [e,a,h.1.1,iU.names h.2]
def iU.keep (a:∀ v l,Ow w v l->Ow w' v l):∀ {Q:List (ByteArray×ZT)} {xs:aY},iU w Q xs->iU w' Q xs
 | [],[],_=>trivial
 | [],_::_,h=>h.elim
 | _::_,[],h=>h.elim
 | _::_,_::_,h=>⟨⟨h.1.1,a _ _ h.1.2⟩,iU.keep a h.2⟩
def iU.take:∀ {Q:List (ByteArray×ZT)} {xs:aY} (k:Nat),iU w Q xs->iU w (Q.take k) (xs.take k)
 | _,_,0,_=>by simp only [VR];exact trivial
 | [],[],_+1,_=>trivial
 | [],_::_,_+1,h=>h.elim
 | _::_,[],_+1,h=>h.elim
 | _::_,_::_,k+1,h=>⟨h.1,iU.take k h.2⟩
def iU.drop:∀ {Q:List (ByteArray×ZT)} {xs:aY} (k:Nat),iU w Q xs->iU w (Q.drop k) (xs.drop k)
 | _,_,0,h=>h
 | [],[],_+1,_=>trivial
 | [],_::_,_+1,h=>h.elim
 | _::_,[],_+1,h=>h.elim
 | _::_,_::_,k+1,h=>iU.drop k h.2
def iU.app:∀ {Q Q':List (ByteArray×ZT)} {xs xs':aY},iU w Q xs->iU w Q' xs'->iU w (Q++Q') (xs++xs')
 | [],_,[],_,_,a=>a
 | [],_,_::_,_,h,_=>h.elim
 | _::_,_,[],_,h,_=>h.elim
 | _::_,_,_::_,_,h,a=>⟨h.1,iU.app h.2 a⟩
def iU.at:∀ {Q:List (ByteArray×ZT)} {xs:aY},iU w Q xs->∀ k (a:k<Q.length) (b:k<xs.length),Q[k].1=xs[k].1.name/\Ow w Q[k].2 xs[k].2
 | [],_,_,_,a,_=>absurd a (by simp)
 | _::_,[],h,_,_,_=>h.elim
 | _::_,_::_,h,0,_,_=>h.1
 | _::Q,_::xs,h,k+1,a,b=>iU.at h.2 k (by simpa using a) (by simpa using b)
def iU.sl:∀ {Q:List (ByteArray×ZT)} {xs:aY},iU w Q xs->∀ o∈Q,ju o.2
 | [],_,_,_,h=>by cases h
 | _::_,[],h,_,_=>h.elim
 | q::Q,x::xs,h,o,ho=>by
  rcases Ur.1 ho with rfl|ho
  . exact h.1.2.sl.1
  . exact iU.sl h.2 o ho
def iU.RQ (D:Nat):∀ {Q:List (ByteArray×ZT)} {xs:aY},iU w Q xs->(Q.map λo=>BJ o.2/(D*44)+1).sum=qV D xs
 | [],[],_=>rfl
 | [],_::_,h=>h.elim
 | _::_,[],h=>h.elim
 | q::Q,x::xs,h=>by
  unfold qV;rw [Uu,Uu,Xh,Xh,h.1.2.sl.2,iU.RQ D h.2];rfl
def kV (x:ByteArray):eG x↔bT x=ZW:=by unfold eG bT;simp
theorem nG (h:iU w Q xs) (x:ByteArray):pS Q x↔x∉xs.names:=by
 rw [<- h.names];constructor
 . intro hn a;obtain ⟨k,b,e⟩:=U0 a;have c:k<Q.length:=(by unfold cB at b;rwa [T7] at b);refine hn k c ?_;rw [<- e];simp [cB]
 . intro a j d e;refine a ?_;rw [<- toList_inj e];exact T6.2 ⟨Q[j],T4 d,rfl⟩
def kW (h:iU w Q xs) (c:Up xs.names) {x:ByteArray} {k:Nat} (d:Nu Q x k):aJ xs.names x=k/\k<Q.length/\x∈xs.names:=by
 obtain ⟨b,e,_⟩:=d;have hl:k<(cB Q).length:=by unfold cB;rw [T7];exact b
 have a:(cB Q)[k]=x:=by simp only [cB,Ve];exact toList_inj e
 rw [<- h.names] at c ⊢;exact ⟨il c hl a,b,a▸T4 hl⟩
section
structure MB (w0 w:ZU) (wb D L G nb t:Nat) (xs:aY) (p r sa ar v:Nat) (Kind:aU->Prop) (ps:aU) (pg ob:ZT) (P:a8) (A:aH) (F:aR) (out want:ZT) (cache:Int):Prop where
 wbA:jz w wb D L G (Z6 (ZX ⟨p,0,ZY⟩)) (Z6 (ZX ⟨sa,0,ZY⟩)) (Z6 (ZX ⟨r,0,ZY⟩)) nb out want cache
 box:ZP w sa 90 (Z6 (ZX ⟨ar,0,ZY⟩))
 live:aZ w ar v p ps D L G t pg ob P xs A F
 nb:A.nb=nb
 base:bW w0 w
 TL:bD w0
 hK:3<=w0.heap.size
 TJ:w0.heap.size<=wb
 lt:wb<ar
 fB:∀ k,F.S k->w0.heap.size<=k
 vB:w0.heap.size<=v
 kB:∀ k,ps.bl k->w0.heap.size<=k
 shv:Ai D L G Kind ps
 wbK:¬ ps.bl wb
structure Dc (w:ZU) (r:Nat) (Q:List (ByteArray×ZT)) (xs:aY) (out want:ZT):Prop where
 ref:∃ rb rv,oz w r rb rv Q
 rel:iU w Q xs
 ow:ju out/\ju want
def MS (C:aH->Prop) (w0 w:ZU) (wb D L G nb T:Nat):Prop:=∃ t xs Q p r sa ar v Kind ps pg ob P A F out want cache,MB w0 w wb D L G nb t xs p r sa ar v Kind ps pg ob P A F out want cache/\Dc w r Q xs out want/\t<=T/\C A
def fa.ref (h:oz w r rb rv Q) (b:fa B w w') (a:w.heap.size<=B):oz w' r rb rv Q:=
 ⟨(b _ (.inl rfl) r _ (TZ (TX.1 h.top).1 a) h.top).trans h.top,Fh h.own (b _ (.inr (.inl rfl))) a⟩
def fa.box (h:ZP w sa 90 u) (b:fa B w w') (a:w.heap.size<=B):ZP w' sa 90 u:=
 (b _ (.inr (.inr (.inl rfl))) sa _ (TZ h.lt a) h).trans h
def fa.ow (h:Ow w u l) (b:fa B w w') (a:w.heap.size<=B):Ow w' u l:=h.keep ((b _ (.inr (.inr (.inr (.inl rfl))))).mono a)
def Dc.keep (h:Dc w r Q xs out want) (b:fa B w w') (a:w.heap.size<=B):Dc w' r Q xs out want:=by
 obtain ⟨rb,rv,c⟩:=h.ref;exact ⟨⟨rb,rv,b.ref c a⟩,h.rel.keep λ_ _ o=>b.ow o a,h.ow⟩
def bD.below (h:bD w) (b:bW w w'):bD w':=by
 have a:w.cell? ⟨0,0,ZY⟩=_:=h;exact (b.cell (Ub a)).trans a
section
variable {w0 w w':ZU} {wb D L G nb t:Nat} {xs:aY} {p r sa ar v:Nat} {Kind:aU->Prop} {ps:aU} {pg ob:ZT} {P:a8} {A:aH} {F:aR} {out want:ZT} {cache:Int}
def MB.gl (h:MB w0 w wb D L G nb t xs p r sa ar v Kind ps pg ob P A F out want cache):bD w:=h.TL.below h.base
def MB.next (h:MB w0 w wb D L G nb t xs p r sa ar v Kind ps pg ob P A F out want cache) (f:fa w.heap.size w w') (i:w'.heap[wb]?=w.heap[wb]?) (d:bW w0 w') {t':Nat} {xs':aY} {pg' a:ZT} {P':a8} {B:aH} {ps':aU} (hl:aZ w' ar v p ps' D L G t' pg' a P' xs' B F) (c:B.nb=A.nb) (g:Kind ps') (b:∀ k,ps'.bl k->ps.bl k\/w.heap.size<=k) :
 MB w0 w' wb D L G nb t' xs' p r sa ar v Kind ps' pg' a P' B F out want cache:=
 { h with wbA:=aj.keep h.wbA i,box:=f.box h.box lR,live:=hl,nb:=c.trans h.nb,base:=d,kB:=λk q=>(b k q).elim (h.kB k) λe=>TW h.base.size e,shv:=⟨h.shv.sh,h.shv.re,g⟩,wbK:=λq=>(b wb q).elim h.wbK λe=>absurd (aj.lt h.wbA) (Xs.2 e) }
def MB.below (h:MB w0 w wb D L G nb t xs p r sa ar v Kind ps pg ob P A F out want cache) (a:bW w w'):MB w0 w' wb D L G nb t xs p r sa ar v Kind ps pg ob P A F out want cache:=
 h.next (fa.below a _) (a.block _ (aj.lt h.wbA)) (h.base.trans (a.mono h.base.size)) (h.live.below a) rfl h.shv.kind (λ_ q=>.inl q)
def MB.wbF (h:MB w0 w wb D L G nb t xs p r sa ar v Kind ps pg ob P A F out want cache):¬ F.S wb/\wb≠v:=by
 have c:w.heap[wb]?=ZX (Z4 _ 48 (0,0)):=h.wbA;refine ⟨λq=>?_,λe=>?_⟩
 . obtain ⟨cs,T,b,f⟩:=h.live.vol.arr.kind q;rw [c] at b;simp only [UO,Vm] at b;have d:=b.2.1;rcases f with k|k|k|k<;>exact absurd (d.trans k) (by decide)
 . have a:=h.live.vol.vol;unfold bk at a;rw [<- e,c] at a;cases a
def MB.Tp (h:MB w0 w wb D L G nb t xs p r sa ar v Kind ps pg ob P A F out want cache) (c:aa (λj=>j=ar\/F.S j\/j=v\/ps.bl j) w w') {t':Nat} {xs':aY} {pg' a:ZT} {P':a8} {B:aH} {ps':aU} (hl:aZ w' ar v p ps' D L G t' pg' a P' xs' B F) (e:B.nb=A.nb) (f:Kind ps') (d:∀ k,ps'.bl k->ps.bl k\/w.heap.size<=k) :
 MB w0 w' wb D L G nb t' xs' p r sa ar v Kind ps' pg' a P' B F out want cache/\fa w.heap.size w w':=by
 have b:=fa.live (B:=w.heap.size) h.live.vol.arr h.live.arc h.live.vol.vol h.live.kit c;refine ⟨h.next b (c.block _ (aj.lt h.wbA) (λq=>?_)) (h.base.trans (c.below λk b=>⟨TZ b h.base.size,λq=>?_⟩)) hl e f d,b⟩
 . rcases q with q|q|q|q
   . have:=h.lt;omega
   . exact h.wbF.1 q
   . exact h.wbF.2 q
   . exact h.wbK q
 . have:=h.TJ;have:=h.lt;have:=h.vB;rcases q with q|q|q|q
   . omega
   . have:=h.fB k q;omega
   . omega
   . have:=h.kB k q;omega
def MB.call (h:MB w0 w wb D L G nb t xs p r sa ar v Kind ps pg ob P A F out want cache) (c:aa (λj=>j=ar\/F.S j) w w') {t':Nat} {xs':aY} {pg' a:ZT} {P':a8} {B:aH} (hl:aZ w' ar v p ps D L G t' pg' a P' xs' B F) (b:B.nb=A.nb) :
 MB w0 w' wb D L G nb t' xs' p r sa ar v Kind ps pg' a P' B F out want cache/\fa w.heap.size w w':=h.Tp (c.mono λ_ _ q=>q.elim .inl λe=>.inr (.inl e)) hl b h.shv.kind λ_ q=>.inl q
def MB.write (h:MB w0 w wb D L G nb t xs p r sa ar v Kind ps pg ob P A F out want cache) (d:aa (λj=>j=wb) w w') {r':Nat} {out' a:ZT} {cache':Int}
 (l:jz w' wb D L G (Z6 (ZX ⟨p,0,ZY⟩)) (Z6 (ZX ⟨sa,0,ZY⟩)) (Z6 (ZX ⟨r',0,ZY⟩)) nb out' a cache') :
 MB w0 w' wb D L G nb t xs p r' sa ar v Kind ps pg ob P A F out' a cache'/\fa w.heap.size w w':=by
 obtain ⟨f1,g⟩:=h.wbF;have f:∀ j,j≠wb->j<w.heap.size->w'.heap[j]?=w.heap[j]?:=λj b hl=>d.block j hl b;have m:w.heap[wb]?=ZX (Z4 _ 48 (0,0)):=h.wbA;have c:fa w.heap.size w w':=λT i j cs hl b=>f j (λe=>by
  subst e;rw [m] at b;simp only [UO,Vm] at b;have e:=b.2.1;rcases i with q|q|q|q|q<;>exact absurd (e.trans q) (by decide)) hl
 exact ⟨{ h with wbA:=l,box:=c.box h.box lR,live:=h.live.other d.size f h.lt g f1 (by have:=h.hK;have:=h.TJ;omega) h.wbK,base:=h.base.trans (d.below λk c=>⟨TZ c h.base.size,λq=>by have:=h.TJ;omega⟩) },c⟩
end
end
def iw (w:ZU) (q:Nat) (o:nJ) (dv:ZT):Prop:=aj w q 33 [Z7 Z9 o.kind,Z7 Z9 o.a,Z0 o.s,dv]
def iw.cells {o:nJ} {dv:ZT} (h:iw w q o dv):w.cell? ⟨q,0,ZY⟩=ZX (Z7 Z9 o.kind)/\w.cell? ⟨q,1,ZY⟩=ZX (Z7 Z9 o.a)/\w.cell? ⟨q,2,ZY⟩=ZX (Z0 o.s)/\w.cell? ⟨q,3,ZY⟩=ZX dv:=
 ⟨aj.cell h rfl,aj.cell h rfl,aj.cell h rfl,aj.cell h rfl⟩
def isN (x:ZT) (n:Int):Prop:=x=uR n\/(x=.nilIface/\n=0)
def jU {x:ZT} {n:Int} (b:isN x n) {w:ZU} (a:bD w):ZS ZO 12 #[x] w λe w'=>e=Z3 (Z7 Z9 n)/\bW w w':=by
 rcases b with rfl|⟨rfl,rfl⟩
 . exact sH n w a
 . exact nS w
def pd (n:Int) (D nb:Nat) (xs:aY) (cl:Prop) (x:ByteArray) (d:a8) (xs':aY):Prop:=(n=0/\rH D nb xs x d xs')\/(xs'=xs/\rE D nb xs cl x d.length n)
def Ak {ps:aU} {Q:Int->Prop} {N:aY->Prop} (h:cC w ar v p ps D L G t xs A F Q N (Z3 rr) w'):∃ n a pg ob P' xs' B,isN rr n/\aZ w' ar v p ps D L G a pg ob P' xs' B F/\nE A B/\aa (λk=>k=ar\/F.S k) w w'/\a<=t+1/\((n=0/\N xs')\/(xs'=xs/\Q n)):=by
 obtain ⟨i,a,pg,ob,P',xs',B,c,hl,d,b,h|⟨e,j,n,f,g⟩⟩:=h
 . cases c;exact ⟨0,a,pg,ob,P',xs',B,.inr ⟨h.1,rfl⟩,hl,d,b,by omega,.inl ⟨rfl,h.2.2⟩⟩
 . cases c;exact ⟨n,a,pg,ob,P',xs',B,.inl f,hl,d,b,by omega,.inr ⟨e,g⟩⟩
def RpN (w:ZU) (q:Nat) (Q:List (ByteArray×ZT)) (x:ByteArray) (d:a8) (n:Int) (e:ZR) (w':ZU):Prop:=
 (n≠0/\n≠10/\n≠3/\e=Z3 (Z7 Z9 n)/\w'=w)\/((n=0\/n=10\/n=3)/\LZ w q Q x d e w')
def Gd {n:Int} (j:oz w q rb rv Q) (hl:Q.length<=1000) (s:iU wx Q xs) (l:∀ o∈Q,ju o.2) {ao:Option Addr} {c m:Nat} (p:d.length=m) (k:Bs w (.slice ao m c) d) (hn:pd n D nb xs cl x d xs') :
 ZS ZO 35 #[Z6 (ZX ⟨q,0,ZY⟩),Z0 x,.slice ao m c] w (RpN w q Q x d n):=by
 subst p;have i:=nG s x;have g:=kV x;rcases hn with ⟨rfl,a,b,f,_⟩|⟨_,⟨a,rfl⟩|⟨a,⟨b,rfl⟩|⟨b,⟨f,rfl⟩|⟨f,r⟩⟩⟩⟩
 . exact (F6 j (by omega) l x ao c d k b (g.2 a) (i.2 f)).mono λe w' h=>.inr ⟨.inl rfl,h⟩
 . exact (IM q x ao _ c (λq=>by rw [g,a] at q;cases q) w).mono λe w' h=>.inl ⟨by decide,by decide,by decide,h.1,h.2⟩
 . exact (IN q x ao _ c (g.2 a) b w).mono λe w' h=>.inl ⟨by decide,by decide,by decide,h.1,h.2⟩
 . exact (CD j (by omega) x ao _ c (g.2 a) b (λh=>i.1 h f)).mono λe w' h=>.inl ⟨by decide,by decide,by decide,h.1,h.2⟩
 . exact (F6 j (by omega) l x ao c d k b (g.2 a) (i.2 f)).mono λe w' h=>.inr ⟨by rcases r with ⟨_,q⟩|⟨_,q⟩<;>simp [q],h⟩
def pd.none {n:Int} (h:pd n D nb xs cl x d xs') (hn:n≠0):xs'=xs:=h.elim (λq=>absurd q.1 hn) λq=>q.1
def pd.some (h:pd 0 D nb xs cl x d xs'):rH D nb xs x d xs':=by
 rcases h with h|⟨_,⟨_,e⟩|⟨_,⟨_,e⟩|⟨_,⟨_,e⟩|⟨_,⟨_,e⟩|⟨_,e⟩⟩⟩⟩⟩
 . exact h.2
 all_goals exact absurd e (by decide)
def pd.full (h:pd 10 D nb xs cl x d xs'):d.length<=1500/\nb<(ak xs.os).length+mQ D d.length+2*Ad D (an xs.os).length d.length+2:=by
 rcases h with ⟨e,_⟩|⟨_,⟨_,e⟩|⟨_,⟨_,e⟩|⟨a,⟨_,e⟩|⟨_,⟨b,_⟩|⟨_,e⟩⟩⟩⟩⟩
 . exact absurd e (by decide)
 . exact absurd e (by decide)
 . exact absurd e (by decide)
 . exact absurd e (by decide)
 . exact ⟨a,b⟩
 . exact absurd e (by decide)
def pd.lost (h:pd 3 D nb xs cl x d xs'):¬ cl:=by
 rcases h with ⟨e,_⟩|⟨_,⟨_,e⟩|⟨_,⟨_,e⟩|⟨_,⟨_,e⟩|⟨_,⟨_,e⟩|⟨h,_⟩⟩⟩⟩⟩
 . exact absurd e (by decide)
 . exact absurd e (by decide)
 . exact absurd e (by decide)
 . exact absurd e (by decide)
 . exact absurd e (by decide)
 . exact h
def Jg (h:aM w b l):qY w b:=λoff u c=>by
 have f:=h.heap;simp only [World.cell?,f] at c;have:u∈(l.map (λx=>Value.int .u8 ((x:Nat):Int))):=by
  have a:=c;simp at a;obtain ⟨x,g,rfl⟩:=a;obtain ⟨d,e⟩:=U1.1 g;exact T6.2 ⟨x,e▸T4 d,rfl⟩
 obtain ⟨x,_,rfl⟩:=T6.1 this;exact ⟨λy e=>(by cases e),λs e=>(by cases e)⟩
def aM.bs (h:aM w b (l++[71,72])) (d:l.length=m) (hl:l.length<=1000000) (e:∀ x∈l,x<256):Bs w (Z5 (ZX ⟨b,0,ZY⟩) m (m+2)) l:=by
 subst d;have:=Bs.So (n:=l.length) h (by simp) (by omega) (by intro x c;rcases Uf.1 c with q|q;exact e x q;simp at q;omega);have a:(l++[71,72]).length=l.length+2:=by simp
 rw [a,List.take_left'] at this;exact this;rfl
def Mx (a:iU w Q xs) {D nb m:Nat} {xs':aY} {cl:Prop} {x:ByteArray} {d:a8} (j:d.length=m) (g:1<=D) (e:D<=6) (i:∀ x∈xs,lg D x) (h:pd 10 D nb xs cl x d xs'):(nb:Int)-8<(jv Q D (m:Int):Int):=by
 have f:=Ez g e i (n:=d.length) (nb:=nb) h.full.1 rfl rfl h.full.2;have b:bO Q (D*44) Q.length=qV D xs:=by unfold bO;rw [VC];exact a.RQ D
 have c:jv Q D (m:Int)=qV D xs+(m/(D*44)+1)+2*((xs.length+1)*200/(D*44)+1):=by
  unfold jv;rw [if_pos (by omega),Vy,b,a.len]
 rw [j] at f;rw [c];omega
def Ge (h:iU w Q xs) {x:ByteArray} {d:a8} {o:Ob} (ho:o.name=x) {v:ZT} (a:Ow w v d):iU w (Q.take (aJ (cB Q) x)++(x,v)::Q.drop (aJ (cB Q) x)) (xs.ins (o,d)):=by
 unfold aY.ins;rw [h.names,ho];exact (h.take _).app ⟨⟨ho.symm,a⟩,h.drop _⟩
theorem My {Kind:aU->Prop} {ps:aU} (h:MB w0 w wb D L G nb t xs p r sa ar v Kind ps pg ob P A F out want cache) (hc:Dc w r Q xs out want) (o:nJ) (dv:ZT) (g:Bs w0 dv o.d) (xf:o.d.length<=100000) (xk:t<1000000) (xb:D<=6) (qv:A.clean) :
 ZS ZO 16 #[Z6 (ZX ⟨wb,0,ZY⟩),.agg #[Z7 Z9 o.kind,Z7 Z9 o.a,Z0 o.s,dv]] w λe w'=>e=Z3 (Z2 ZW)/\MS aH.clean w0 w' wb D L G nb (t+1):=by
 obtain ⟨X,Y,xg,_⟩:=id g;subst xg;have l:=g.lt;obtain ⟨m,c⟩:=nM (o.d.length);rw [c] at g xf ⊢;obtain ⟨w1,qo⟩:=nM (w.alloc (Z4 #[Z7 Z9 o.kind,Z7 Z9 o.a,Z0 o.s,.slice X m Y] 33));have z:iw w1 w.heap.size o (.slice X m Y):=by rw [<- qo];exact UG w _
 have qd:bW w w1:=by rw [<- qo];exact bA w _
 have i:=h.below qd;have M:=hc.keep (fa.below qd _) lR;obtain ⟨O,ky⟩:=nM (w.heap.size);have N:O<w1.heap.size:=by rw [<- ky];exact aj.lt z
 have U:ar<O:=by rw [<- ky];exact h.live.arc.lt
 have y:∀ k,F.S k->k<O:=λk hk=>by rw [<- ky];exact h.live.vol.arr.RU hk
 have V:v<O:=by rw [<- ky];exact h.live.vol.vol.lt
 rw [ky] at z;have x3:=z.cells.2.2.2;have qm:=Gx _ o.d w1 (g.mono i.base) (by omega);rw [c] at qm;have H1:=hide10 z i M g l c N U y V;clear z i M g l c N U y V h hc qd;go_enter func16,ntmps16;go_wp2_with fail;clear ky;refine qm.mono ?_;rintro e w2 ⟨rb,rfl,W,k9,ka⟩;clear qm qo x3;obtain ⟨z,i,M,g,l,c,N,U,y,V⟩:=H1.out;have kp:iw w2 O o (.slice X m Y):=aj.keep z (ka.block _ N);have h2:=i.below ka;have y2:=kp.cells.2.2.1;have s2:=h2.wbA.cells.2.2.2.2.1;have kv:bW w2 w2.drew:=(TY _ w2).drew;have qb:=h2.below kv;have kj:=aai qb.box qb.live xk o.s (ZX ⟨rb,0,ZY⟩) (m+2) o.d (λw' hO=>by
  rw [c];have xa:aM w' rb (o.d++[71,72]):=Vv k9 (hO.block rb k9.lt (λe=>by have:=y _ e;omega));exact xa.bs c (by omega) l) (by omega)
 rw [c] at kj;have H2:=a7 kp h2 ka k9 W kv;clear z i M g l c N U y V kp h2 ka k9 W kv qb;go_upto_region 2 with fail;go_cut [6] from 12 to 82 (λv6 wx=>cC w2.drew ar v p ps D L G t xs A F (rE D A.nb xs A.clean o.s m) (rH D A.nb xs o.s o.d) (Z3 v6) wx)
 case first=>
  go_region_with (go_at_call 34;refine kj.mono ?_;rintro e w3 qi;obtain ⟨rr,_,_,_,_,_,_,rfl,_⟩:=id qi;have H3:=al qi;clear qi);all_goals (go_wp2_with fail;go_meet;case rel=>exact H3.out)
 case rest=>
  obtain ⟨n,t',xn,qr,P',xs',B,hN,qz,C,qq,E,q1⟩:=Ak hcut;obtain ⟨z,i,M,g,l,c,N,U,y,V⟩:=H1.out;have f:pd n D A.nb xs A.clean o.s o.d xs':=by unfold pd;rw [c];exact q1
  have qg:n≠3:=λe=>(e▸f).lost qv;obtain ⟨kp,h2,ka,k9,W,kv⟩:=H2.out;have km:=ka.size;have hr:aa (λj=>j=ar\/F.S j) w2 wc:=(aa.RS kv _).trans qq;obtain ⟨h3,qy⟩:=h2.call hr qz C.nb;have kr:iw wc O o (.slice X m Y):=aj.keep kp (hr.block _ (by omega) (λe=>by
   rcases e with e|e
   . omega
   . have:=y _ e;omega))
  have kz:aM wc rb (o.d++[71,72]):=Vv k9 (hr.block rb k9.lt (λe=>by
   rcases e with e|e
   . omega
   . have:=y _ e;omega))
  have x8:=jU hN h3.gl;have x9:=hr.size;have hz:fa w1.heap.size w1 wc:=(fa.below ka _).trans (qy.mono km);have H3:=hide8 kr h3 kz hz f (TW km x9) C E;clear hN f q1 z i M g l c N U y V kp h2 ka k9 W kv km hr h3 qy kr kz x9 hz qz C E qq kj y2 s2 hcut;go_wp2_with fail;refine x8.mono ?_;rintro e w4 ⟨rfl,ks⟩;clear x8;obtain ⟨z,i,M,g,l,c,N,U,y,V⟩:=H1.out;obtain ⟨kr,h3,kz,hz,f,q8,C,E⟩:=H3.out;have W:=H2.out.2.2.2.2.1;have x:=h3.below ks;have kf:iw w4 O o (.slice X m Y):=aj.keep kr (ks.block _ (aj.lt kr));have ke:aM w4 rb (o.d++[71,72]):=kz.below ks;have qn:=Gy rb _ o.d w4 ke (g.mono x.base) (by omega);rw [c] at qn;have x4:=kf.cells.2.2.2;have H4:=a6 kf x ke (hz.trans (fa.below ks _)) (TW q8 ks.size);clear z i M g l c N U y V kr h3 kz hz f q8 C E W kf ke x ks;go_wp2_with fail;refine qn.mono ?_;rintro e w5 ⟨rfl,kx,_⟩;clear qn x4;obtain ⟨z,i,M,g,l,c,N,U,y,V⟩:=H1.out;obtain ⟨kf,x,ke,q4,qp⟩:=H4.out;obtain ⟨_,_,_,_,f,_,C,E⟩:=H3.out;have W:=H2.out.2.2.2.2.1;have he:∀ j,j≠rb->j<w4.heap.size->w5.heap[j]?=w4.heap[j]?:=λj hj hl=>kx.block j hl (λe=>hj (by cases e;rfl));have ko:=kx.size;have x0:=x.live.aside (w':=w5) (b:=rb) (B:=w1.heap.size) (Jg ke) (by obtain ⟨cs,xe,_⟩:=ke;exact cJ x.live.kit xe oY) ko he W (λk hk=>by have:=y k hk;omega) (by omega) (by omega) (by have:=i.live.vol.room;exact this);have q6:fa w1.heap.size w4 w5:=λT _ j cs hj hq=>he j (by omega) (by omega);have q2:bW w0 w5:=x.base.trans ⟨kx.os,kx.tape,kx.output,ko,λj hj=>he j (by have:=i.base.size;omega) (TZ hj x.base.size)⟩;have q7:w5.heap[wb]?=w4.heap[wb]?:=he wb (by have:=i.lt;omega) (aj.lt x.wbA);have J:MB w0 w5 wb D L G nb t' xs' p r sa ar v Kind ps xn qr P' B F out want cache:={ x with wbA:=aj.keep x.wbA q7,box:=(he sa (by have:=i.box.lt;omega) x.box.lt).trans x.box,live:=x0,base:=q2 };have I:iw w5 O o (.slice X m Y):=aj.keep kf (he O (by omega) (aj.lt kf));have u:=M.keep (q4.trans q6) lR;obtain ⟨y1,y4,x5⟩:=u.ref;have R:Q.length<=1000:=by
   rw [u.rel.len];have:=i.live.Sa.1;simpa [aY.os] using this
  have qx:=jS x5 (by omega) u.rel.sl;have r5:=J.wbA.cells.2.2.2.2.2.1;have H5:=a5 I J u R;clear z i M g l c N U y V kf x ke q4 qp f C E W he ko x0 q6 q2 q7 J I u x5 R kx;go_wp2_with fail;refine qx.mono ?_;rintro e w6 ⟨rfl,⟨u6,kc⟩,K⟩;clear qx r5;obtain ⟨I,J,u,R⟩:=H5.out;obtain ⟨_,_,_,g,l,c,_,_,_,_⟩:=H1.out;have f:=H3.out.2.2.2.2.1;have Z:=J.below K;have kg:iw w6 O o (.slice X m Y):=aj.keep I (K.block _ (aj.lt I));have qj:=Gd kc R u.rel u.rel.sl c (g.mono Z.base) f;obtain ⟨_,_,y6,x6⟩:=kg.cells;obtain ⟨q5,kk⟩:=nM (w5.heap.size);rw [kk] at qj kc ⊢;have H6:=a6 kg Z kc K kk;clear I J u R g l c f Z kg kc K kk;go_wp2_with fail;refine qj.mono ?_;rintro e w7 xj;clear qj y6 x6;obtain ⟨kg,Z,kc,K,kk⟩:=H6.out;obtain ⟨I,J,u,R⟩:=H5.out;have f:=H3.out.2.2.2.2.1;obtain ⟨C,E⟩:=H3.out.2.2.2.2.2.2;have ki:=C.cl qv;rcases xj with ⟨n0,xy,n3,rfl,rfl⟩|⟨hn,rfl,u7,xo,qk,qh,qc⟩
  . obtain rfl:=f.none n0;have hy:MS aH.clean w0 w7 wb D L G nb (t+1):=⟨_,_,_,_,_,_,_,_,_,_,_,_,_,_,_,_,_,_,Z,u.keep (fa.below K _) lR,E,ki⟩;have HF:=al hy;clear hy kg Z kc K kk I J u R f C E;go_wp2_with fail;refine (ja n w7).mono ?_;rintro e w8 ⟨rfl,rfl⟩;go_wp2;go_ret;exact ⟨rfl,HF.out⟩
  . have kh:Below w5.heap.size w6 w7:=qc.below λk hk=>⟨TZ hk K.size,by omega⟩;have hs:bW w5 w7:=K.trans kh;have H:=J.below hs;have kb:=u.keep (fa.below hs _) lR;rcases hn with rfl|rfl|e3;rotate_right
    . exact absurd e3 qg
    . obtain ⟨_,qf,_,_,xR,x2,rfl⟩:=f.some;have l:=H1.out.2.2.2.2.1;have q9:=H.wbA;have r7:=q9.cells.2.2.2.2.2.1;have f7:=aj.R3 q9 5;have hN:∀ w8,w8=w7.setCell ⟨wb,5,ZY⟩ (Z6 (ZX ⟨q5,0,ZY⟩))->MS aH.clean w0 w8 wb D L G nb (t+1):=by
       rintro w8 rfl;have xc:aa (λj=>j=wb) w7 (w7.setCell ⟨wb,5,ZY⟩ (Z6 (ZX ⟨q5,0,ZY⟩))):=aa.setCell _ _ _ rfl;have xd:jz (w7.setCell ⟨wb,5,ZY⟩ (Z6 (ZX ⟨q5,0,ZY⟩))) wb D L G (Z6 (ZX ⟨p,0,ZY⟩)) (Z6 (ZX ⟨sa,0,ZY⟩)) (Z6 (ZX ⟨q5,0,ZY⟩)) nb out want cache:=aj.set q9 5 [Z6 (ZX ⟨q5,0,ZY⟩)] (by simp [Ou]);obtain ⟨h8,xi⟩:=H.write xc xd;have qe:Dc w7 q5 (Q.take (aJ (cB Q) o.s)++(o.s,xo)::Q.drop (aJ (cB Q) o.s)) (xs.ins (xR,o.d)) out want:=⟨⟨_,u7,qk⟩,Ge kb.rel x2 ⟨⟨_,qh⟩,l,qf⟩,kb.ow⟩;exact ⟨_,_,_,_,_,_,_,_,_,_,_,_,_,_,_,_,_,_,h8,qe.keep xi lR,E,ki⟩
      have HN:=al hN;clear hN kg Z kc K kk I J u R f C E qk qh qc kh hs H kb q9 l x2;go_wp2_with fail;refine (ja 0 _).mono ?_;rintro e w8 ⟨rfl,rfl⟩;go_wp2;go_ret;exact ⟨rfl,HN.out _ rfl⟩
    . obtain rfl:=f.none (by decide);have c:=H1.out.2.2.2.2.2.1;have hy:MS aH.clean w0 w7 wb D L G nb (t+1):=⟨_,_,_,_,_,_,_,_,_,_,_,_,_,_,_,_,_,_,H,kb,E,ki⟩;have xh:=Mx kb.rel c H.live.vol.par.d1 xb H.live.disk.fits f;rw [C.nb.symm.trans H.nb] at xh;obtain ⟨c0,_,_,_,_,c5,c6,_⟩:=H.wbA.cells;have qs:iw w7 O o (.slice X m Y):=aj.keep I (hs.block _ (aj.lt I));have x7:=qs.cells.2.2.2;obtain ⟨y3,y5,qa⟩:=kb.ref;have x1:∀ k,ZS ZO 24 #[Z6 (ZX ⟨r,0,ZY⟩),Z7 Z9 D,Z7 Z9 m] (w7.drewN k) λe w'=>e=Z3 (Z7 Z9 (jv Q D (m:Int):Nat))/\w'=w7.drewN k:=λk=>by
       have q3:bW w7 (w7.drewN k):=⟨rfl,rfl,rfl,TV _,λ_ _=>rfl⟩;exact (D6 ⟨(q3.block _ (TX.1 qa.top).1).trans qa.top,ay qa.own q3⟩ R kb.rel.sl D H.live.vol.par.d1 (by omega) (m:Int) (by omega) (by omega)).mono λe w' q=>⟨q.2,q.1⟩
      generalize jv Q D (m:Int)=nn at *;have HF:=au hy x1;have xm:IntKind.i64.wrap ((nb:Int)-8)=(nb:Int)-8:=(by rw [Ut];have:=H.nb;have:=H.live.nb;omega);clear hy x1 kg Z kc K kk I J u R f C E qk qh qc kh hs H kb c qs qa;go_upto_region 8 with fail;go_quiet ((go_at_call 24;refine aaR (HF.out.2 _)));go_wp2;go_ret;obtain ⟨t1,y8,Q1,p1,r1,y7,xv,v1,xx,y0,pg1,xz,P1,A1,F1,xq,xp,hb,hM,hC,hT⟩:=HF.out.1;have q3:bW w7 (w7.drewN nq):=⟨rfl,rfl,rfl,TV _,λ_ _=>rfl⟩;exact ⟨rfl,_,_,_,_,_,_,_,_,_,_,_,_,_,_,_,_,_,_,hM.below q3,hC.keep (fa.below q3 _) lR,hT⟩
structure St0 (w0 w w1:ZU) (wb D L G nb t:Nat) (xs:aY) (Q:List (ByteArray×ZT)) (p r sa ar v:Nat) (Kind:aU->Prop) (ps:aU) (pg ob:ZT) (P:a8) (A:aH) (F:aR) (out want:ZT) (cache:Int) (o:nJ) (dv:ZT):Prop where
 op:iw w1 w.heap.size o dv
 b:MB w0 w1 wb D L G nb t xs p r sa ar v Kind ps pg ob P A F out want cache
 c:Dc w1 r Q xs out want
 ar:ar<w.heap.size
 f:∀ k,F.S k->k<w.heap.size
 lt:w.heap.size<w1.heap.size
def OA {Kind:aU->Prop} {ps:aU} (h:MB w0 w wb D L G nb t xs p r sa ar v Kind ps pg ob P A F out want cache) (f:Dc w r Q xs out want) (o:nJ) (b:ZT) {w1:ZU} (e:w.alloc (Z4 #[Z7 Z9 o.kind,Z7 Z9 o.a,Z0 o.s,b] 33)=w1):St0 w0 w w1 wb D L G nb t xs Q p r sa ar v Kind ps pg ob P A F out want cache o b:=by
 have d:bW w w1:=by rw [<- e];exact bA w _
 have c:iw w1 w.heap.size o b:=by rw [<- e];exact UG w _
 exact ⟨c,h.below d,f.keep (fa.below d _) lR,h.live.arc.lt,λk g=>h.live.vol.arr.RU g,aj.lt c⟩
def MS.mono {C C':aH->Prop} {T T':Nat} (h:MS C w0 w wb D L G nb T) (f:T<=T') (d:∀ A,C A->C' A):MS C' w0 w wb D L G nb T':=by
 obtain ⟨t,xs,Q,p,r,sa,ar,v,Kind,ps,pg,ob,P,A,F,out,want,cache,a,b,e,c⟩:=h;exact ⟨t,xs,Q,p,r,sa,ar,v,Kind,ps,pg,ob,P,A,F,out,want,cache,a,b,by omega,d A c⟩
section
section
variable {w0 w:ZU} {wb D L G nb t:Nat} {xs:aY} {Q:List (ByteArray×ZT)} {p r sa ar v:Nat} {Kind:aU->Prop} {ps:aU} {pg ob:ZT} {P:a8} {A:aH} {F:aR} {out want:ZT} {cache:Int}
theorem Jh (h:MB w0 w wb D L G nb t xs p r sa ar v Kind ps pg ob P A F out want cache) (l:Dc w r Q xs out want) (o:nJ) (i:ZT) (u:∃ f m g,i=.slice f m g) (n:o.kind<1) {C:aH->Prop} (x:C A) :
 ZS ZO 7 #[Z6 (ZX ⟨wb,0,ZY⟩),.agg #[Z7 Z9 o.kind,Z7 Z9 o.a,Z0 o.s,i]] w λe w'=>e=Z3 (Z2 ZW)/\MS C w0 w' wb D L G nb (t+1):=by
 obtain ⟨f,m,g,rfl⟩:=u;obtain ⟨kd,j⟩:=nM (o.kind);obtain ⟨w1,k⟩:=nM (w.alloc (Z4 #[Z7 Z9 o.kind,Z7 Z9 o.a,Z0 o.s,.slice f m g] 33));have d:=OA h l o _ k;obtain ⟨y,J,K,M⟩:=d.op.cells;have q:=al (show MS C w0 w1 wb D L G nb (t+1) from ⟨_,_,_,_,_,_,_,_,_,_,_,_,_,_,_,_,_,_,d.b,d.c,by omega,x⟩);clear d h l;rw [j] at y k n ⊢;have n1:¬ kd=1:=by omega
 have z:¬ kd=2:=by omega
 have B:¬ kd=3:=by omega
 have E:¬ kd=4:=by omega
 have H:¬ kd=5:=by omega
 have I:¬ kd=6:=by omega
 clear n j;go_enter func7,ntmps7;go_wp2;go_ret;exact ⟨rfl,q.out⟩
end
end
section
def fa.arr (e:aB w p A F) (f:aa (F.S) w w'):fa B w w':=λT g j cs _ d=>f.block j (TX.1 d).1 (λq=>by
 have b:T≠97/\T≠101/\T≠105/\T≠4:=by
  rcases g with rfl|rfl|rfl|rfl|rfl<;>exact ⟨by decide,by decide,by decide,by decide⟩
 obtain ⟨cs',T',c,h⟩:=e.kind q;rw [d] at c;simp only [UO,Vm] at c;have a:=c.2.1;rcases h with k|k|k|k
 . exact b.1 (a.trans k)
 . exact b.2.1 (a.trans k)
 . exact b.2.2.1 (a.trans k)
 . exact b.2.2.2 (a.trans k))
def xZ {r:ZT} (f:jz w wb D L G a s r nb out want cache) (c:aa (λj=>j=wb) w w'):fa w.heap.size w w':=λT d j cs hl b=>c.block j hl (λe=>by
 have g:w.heap[wb]?=ZX (Z4 _ 48 (0,0)):=f;subst e;rw [g] at b;simp only [UO,Vm] at b;have e:=b.2.1;rcases d with q|q|q|q|q<;>exact absurd (e.trans q) (by decide))
structure AB (w0 w:ZU) (wb D L G nb t p r:Nat) (s:ZT) (xs:aY) (A:aH) (F:aR) (out want:ZT) (cache kc:Int):Prop where
 wbA:jz w wb D L G (Z6 (ZX ⟨p,0,ZY⟩)) s (Z6 (ZX ⟨r,0,ZY⟩)) nb out want cache
 sp:∃ o,s=.pointer o
 opn:Ja w p D L G t kc xs A F
 nb:A.nb=nb
 base:bW w0 w
 TL:bD w0
 hK:3<=w0.heap.size
 TJ:w0.heap.size<=wb
 fB:∀ k,F.S k->w0.heap.size<=k
def AB.wbF (h:AB w0 w wb D L G nb t p r s xs A F out want cache kc):¬ F.S wb:=λq=>by
 have c:w.heap[wb]?=ZX (Z4 _ 48 (0,0)):=h.wbA;obtain ⟨cs,T,a,d⟩:=h.opn.arr.kind q;rw [c] at a;simp only [UO,Vm] at a;have b:=a.2.1;rcases d with k|k|k|k<;>exact absurd (b.trans k) (by decide)
def Gg {w3 w4 w2:ZU} (h:AB w0 w3 wb D L G nb t p r s xs A F out want cache kc) (I:Dc w3 r Q xs out want) (w:bW w3 w4) (C:Mu w4 p D L G t kc xs A F e w2):w2.heap[wb]?=w3.heap[wb]?/\bD w2/\((∃ sa,e=Z3 (ZZ #[Z6 (ZX ⟨sa,0,ZY⟩),.nilIface])/\∀ w6,bW w2 w6->MS (λB=>nE A B) w0 (w6.setCell ⟨wb,4,ZY⟩ (Z6 (ZX ⟨sa,0,ZY⟩))) wb D L G nb t)\/(e=Z3 (ZZ #[.pointer ZY,fJ])/\¬ A.clean)):=by
 have d:aa F.S w3 w2:=(aa.RS w _).trans C.out;have z:=aj.lt h.wbA;have y:=h.wbF;have i:=d.block _ z y;have M:=I.keep (fa.arr (B:=w3.heap.size) h.opn.arr d) lR;have:=w.size;have f:bW w0 w2:=h.base.trans (d.below λk a=>⟨TZ a h.base.size,λq=>by have:=h.fB k q;omega⟩);refine ⟨i,h.TL.below f,C.ans.imp ?_ id⟩;rintro ⟨sa,ar,J,X,n,v,sb,ps,pg,ob,P,B,hl,u,a,W,U,g⟩;refine ⟨sa,J,λw6 b=>?_⟩;have m:jz w6 wb D L G (Z6 (ZX ⟨p,0,ZY⟩)) s (Z6 (ZX ⟨r,0,ZY⟩)) nb out want cache:=aj.keep h.wbA ((b.block _ (TZ z d.size)).trans i);have c:aa (λj=>j=wb) w6 (w6.setCell ⟨wb,4,ZY⟩ (Z6 (ZX ⟨sa,0,ZY⟩))):=aa.setCell _ _ _ rfl;have K:jz (w6.setCell ⟨wb,4,ZY⟩ (Z6 (ZX ⟨sa,0,ZY⟩))) wb D L G (Z6 (ZX ⟨p,0,ZY⟩)) (Z6 (ZX ⟨sa,0,ZY⟩)) (Z6 (ZX ⟨r,0,ZY⟩)) nb out want cache:=aj.set m 4 [Z6 (ZX ⟨sa,0,ZY⟩)] (by simp [Ou]);have o:fa w6.heap.size w6 (w6.setCell ⟨wb,4,ZY⟩ (Z6 (ZX ⟨sa,0,ZY⟩))):=xZ m c;have:=h.base.size;have H:ZP w6 sa 90 (Z6 (ZX ⟨ar,0,ZY⟩)):=(b.block _ n.lt).trans n;have O:=(hl.below b).other c.size (λj N R=>c.block j R N) (by omega) (by omega) y (TW h.hK h.TJ) (λq=>by have:=g _ q;omega);have l:bW w0 w6:=f.trans (b.mono f.size);exact ⟨_,_,_,_,_,_,_,_,oV sb kc D L G,ps,_,_,_,B,F,_,_,_,⟨K,o.box H lR,O,u.nb.trans h.nb,l.trans (c.below λk a=>⟨TZ a l.size,λq=>by have:=h.TJ;omega⟩),h.TL,h.hK,h.TJ,by omega,h.fB,by omega,λk q=>by have:=g k q;omega,⟨xQ h.opn.par,λps x a=>by
  obtain ⟨E,T,ho,rfl⟩:=a;exact ⟨E,T,x,rfl⟩,a⟩,λq=>by have:=g _ q;omega⟩,(M.keep (fa.below b _) lR).keep o lR,TV _,u⟩
def CT (h:AB w0 w wb D L G nb t p r s xs A F out want cache cache) (i:Dc w r Q xs out want) (d:A.clean) :
 ZS ZO 15 #[Z6 (ZX ⟨wb,0,ZY⟩)] w λe w'=>e=Z3 (Z2 ZW)/\MS aH.clean w0 w' wb D L G nb t:=by
 have c:bW w w.drew:=(TY _ w).drew;refine (Jb h.wbA h.sp (λsa w2=>w2.heap[wb]?=w.heap[wb]?/\∀ w6,bW w2 w6->MS (λB=>nE A B) w0 (w6.setCell ⟨wb,4,ZY⟩ (Z6 (ZX ⟨sa,0,ZY⟩))) wb D L G nb t) (λ_ _ q=>q.1) ((xX (h.opn.below c)).mono λe w2 k=>?_)).mono ?_
 . obtain ⟨l,_,j⟩:=Gg h i c k;obtain ⟨sa,b,a⟩:=j.resolve_right λq=>q.2 d;exact ⟨sa,b,l,a⟩
 . rintro e w' ⟨b,sa,w2,m,⟨_,a⟩,g,_,rfl⟩;exact ⟨b,(a _ g).mono lR λB f=>f.cl d⟩
section
variable {w0 w:ZU} {wb D L G nb t:Nat} {xs:aY} {Q:List (ByteArray×ZT)} {p r sa ar v:Nat} {Kind:aU->Prop} {ps:aU} {pg ob:ZT} {P:a8} {A:aH} {F:aR} {out want:ZT} {cache:Int}
theorem Ji (h:MB w0 w wb D L G nb t xs p r sa ar v Kind ps pg ob P A F out want cache) (W:Dc w r Q xs out want) (hm:A.clean) (h7:8<=A.nb) (o:nJ) (T:ZT) (hs:∃ H m I,T=.slice H m I) (g:o.kind=5) :
 ZS ZO 7 #[Z6 (ZX ⟨wb,0,ZY⟩),.agg #[Z7 Z9 o.kind,Z7 Z9 o.a,Z0 o.s,T]] w λe w'=>e=Z3 (Z2 ZW)/\MS aH.clean w0 w' wb D L G nb (t+1):=by
 obtain ⟨H,m,I,rfl⟩:=hs;obtain ⟨kc,hx,C⟩:=jj o.a 65 (by decide) (by decide);have U:wrap64 ((IntKind.u64.wrap o.a).tmod 65)=(kc:Int):=by simpa using C
 clear C;obtain ⟨w1,N⟩:=nM (w.alloc (Z4 #[Z7 Z9 o.kind,Z7 Z9 o.a,Z0 o.s,.slice H m I] 33));have f:=OA h W o _ N;have hp:=CG f.b.live.vol.arr f.b.live.n0 (λi _=>hm.here i);obtain ⟨R,x1,x2,x3⟩:=f.op.cells;have a1:=f.b.wbA.cells.2.2.2.1;obtain ⟨q0,y⟩:=nM (w.heap.size);have HS:=au f y;clear f h W;rw [g] at R N ⊢;rw [y] at R x1 x2 x3;clear g;go_enter func7,ntmps7;go_wp2_with fail;clear y N R x1 x2 x3;refine hp.mono ?_;rintro e w2 ⟨E,rfl,x,J,B⟩;clear hp a1;obtain ⟨f,y⟩:=HS.out;have u:jz w2 wb D L G (Z6 (ZX ⟨p,0,ZY⟩)) (Z6 (ZX ⟨sa,0,ZY⟩)) (Z6 (ZX ⟨r,0,ZY⟩)) nb out want cache:=aj.keep f.b.wbA (x.block _ (aj.lt f.b.wbA));obtain ⟨_,_,_,c3,_,_,_,_,_,c9⟩:=u.cells;have f3:=aj.R3 u 3;have f9:=aj.R3 u 9;have Y:iw w2 q0 o (.slice H m I):=by rw [<- y];exact aj.keep f.op (x.block _ f.lt)
 have y1:=Y.cells.2.1;obtain ⟨c,hj⟩:=nM (w1.heap.size);rw [hj] at J B ⊢;have ha:wb<w1.heap.size:=aj.lt f.b.wbA;obtain ⟨K,O⟩:=nM ((w2.setCell ⟨wb,3,ZY⟩ (Z6 (ZX ⟨c,0,ZY⟩))).setCell ⟨wb,9,ZY⟩ (Z7 Z9 (kc:Nat)));have l:aa (λj=>j=wb) w2 K:=by rw [<- O];exact (aa.setCell (S:=λj=>j=wb) w2 ⟨wb,3,ZY⟩ _ rfl).trans (aa.setCell (S:=λj=>j=wb) _ ⟨wb,9,ZY⟩ _ rfl)
 have Z:jz K wb D L G (Z6 (ZX ⟨c,0,ZY⟩)) (Z6 (ZX ⟨sa,0,ZY⟩)) (Z6 (ZX ⟨r,0,ZY⟩)) nb out want (kc:Int):=by
  rw [<- O];exact aj.set (aj.set u 3 [Z6 (ZX ⟨c,0,ZY⟩)] (by simp [Ou])) 9 [Z7 Z9 (kc:Nat)] (by simp [Ou])
 have X:aB K c A E:=J.keep λk g=>l.block k (J.RU g) (λe=>by have:=B k g;omega);have d:=f.b;have hi:=d.base.size;have hv:=TW d.hK d.TJ;have M:bW w0 w2:=d.base.trans (x.mono hi);have z:=d.live.vol.below x lR;have hh:AB w0 K wb D L G nb t c r (Z6 (ZX ⟨sa,0,ZY⟩)) xs A E out want (kc:Int) (kc:Int):=⟨Z,⟨_,rfl⟩,⟨X,d.live.vol.n,d.live.vol.par,by omega,by omega,h7,d.live.nb,z.laid.keep (l.block _ z.laid.lt (by omega)),z.tab.keep (l.block _ z.tab.lt (by omega)),TW z.room l.size,λq=>by have:=B _ q;have:=d.hK;omega,λq=>by have:=B _ q;have:=d.hK;omega,.inr ⟨d.live.turn,P,d.live.disk⟩⟩,d.nb,M.trans (l.below λk g=>⟨by have:=M.size;omega,λq=>by have:=d.TJ;omega⟩),d.TL,d.hK,d.TJ,λk g=>by have:=B k g;omega⟩;have hq:=(f.c.keep (fa.below x _) lR).keep (xZ u l) lR;have hr:=CT hh hq hm;clear f y x J B u Y hj ha l Z X d hi M hh hq z hv;go_wp2_with fail;clear O;refine hr.mono ?_;rintro e w4 ⟨rfl,V⟩;have H4:=al V;clear V hr;go_wp2;go_ret;exact ⟨rfl,H4.out.mono (by omega) λ_ q=>q⟩
end
end
theorem Jj (m:yY D L G) (k7:8<=nb) (Y:nb<=1000) (c:Int) (X:bD w) (N:bg w) (M:aG w) (hK:3<=w.heap.size) :
 ZS ZO 6 #[.agg #[Z7 Z9 (D:Nat),Z7 Z9 (L:Nat),Z7 Z9 (G:Nat)],Z7 Z9 (nb:Nat),Z7 Z9 c] w λe w'=>∃ wb,e=Z3 (ZZ #[Z6 (ZX ⟨wb,0,ZY⟩),Z2 ZW])/\MS aH.clean w w' wb D L G nb 1:=by
 obtain ⟨kc,k8,o⟩:=jj c 65 (by decide) (by decide);have E:wrap64 ((IntKind.u64.wrap c).tmod 65)=(kc:Int):=by simpa using o
 clear o;obtain ⟨w1,C⟩:=nM (w.alloc (Z4 #[Z7 Z9 (D:Nat),Z7 Z9 (L:Nat),Z7 Z9 (G:Nat)] 26));have t:aj w1 w.heap.size 26 [Z7 Z9 (D:Nat),Z7 Z9 (L:Nat),Z7 Z9 (G:Nat)]:=by rw [<- C];exact UG w _
 have x0:=t.cell (j:=0) (u:=Z7 Z9 (D:Nat)) rfl;have x1:=t.cell (j:=1) (u:=Z7 Z9 (L:Nat)) rfl;have x2:=t.cell (j:=2) (u:=Z7 Z9 (G:Nat)) rfl;have O:bW w w1:=by rw [<- C];exact bA w _
 have S:=xU (D:Int) (L:Int) (G:Int) w1 ⟨by omega,by have:=m.d;omega⟩ ⟨by omega,by have:=m.l4;omega⟩ ⟨by omega,by have:=m.g;omega⟩;have n:=au t O;clear t O;go_enter func6,ntmps6;go_wp2_with fail;refine S.mono ?_;rintro e w2 ⟨rfl,T⟩;have z:bW w1 w2:=by rw [T];exact bA w1 _
 clear T C x0 x1 x2 S;have B:=zm (D+L+G) nb w2 (by have:=m.d1;omega) (by have:=m.s;omega) (by omega);rw [show ((D+L+G:Nat):Int)=(D:Int)+(L:Int)+(G:Int) by omega] at B;go_wp2_with fail;refine B.mono ?_;rintro e a ⟨rfl,l,F,i,b⟩;have f:bW w w2:=n.out.2.trans (z.mono n.out.2.size);have h:bW w a:=f.trans (l.mono f.size);have y:aj a w.heap.size 26 _:=n.out.1.keep ((l.block _ (TZ n.out.1.lt z.size)).trans (z.block _ n.out.1.lt));have y0:=y.cell (j:=0) (u:=Z7 Z9 (D:Nat)) rfl;have y1:=y.cell (j:=1) (u:=Z7 Z9 (L:Nat)) rfl;have y2:=y.cell (j:=2) (u:=Z7 Z9 (G:Nat)) rfl;obtain ⟨p,x⟩:=nM (w2.heap.size);rw [x] at i b ⊢;have U:=a7 i b h l x f;clear i b h l x f y B z;dsimp only;go_wp2_with fail;obtain ⟨w5,v⟩:=nM ((a.alloc (Z4 #[Z5 ZY 0 0] 43)).alloc (Z4 #[Z7 Z9 (D:Nat),Z7 Z9 (L:Nat),Z7 Z9 (G:Nat),Z6 (ZX ⟨p,0,ZY⟩),.pointer ZY,Z6 (ZX ⟨a.heap.size,0,ZY⟩),Z7 Z9 (nb:Nat),Z5 ZY 0 0,Z5 ZY 0 0,Z7 Z9 (kc:Nat)] 48));have R:w5.heap[a.heap.size]?=ZX (Z4 #[Z5 ZY 0 0] 43 (0,0)):=by rw [<- v];exact (Ux _ _ _ (by simp)).trans (UG a _)
 have J:jz w5 (a.heap.size+1) D L G (Z6 (ZX ⟨p,0,ZY⟩)) (.pointer ZY) (Z6 (ZX ⟨a.heap.size,0,ZY⟩)) nb (Z5 ZY 0 0) (Z5 ZY 0 0) (kc:Int):=by
  rw [<- v];have:=UG (a.alloc (Z4 #[Z5 ZY 0 0] 43)) (Z4 #[Z7 Z9 (D:Nat),Z7 Z9 (L:Nat),Z7 Z9 (G:Nat),Z6 (ZX ⟨p,0,ZY⟩),.pointer ZY,Z6 (ZX ⟨a.heap.size,0,ZY⟩),Z7 Z9 (nb:Nat),Z5 ZY 0 0,Z5 ZY 0 0,Z7 Z9 (kc:Nat)] 48);rw [Uq] at this;exact this
 have A:bW a w5:=by rw [<- v];exact (bA a _).alloc (by simp) _
 obtain ⟨i,b,h,l,x,f⟩:=U.out;have r:bW w w5:=h.trans (A.mono h.size);have W:bW w5 w5.drew:=(TY _ w5).drew;have Z:=f.size;have hm:=h.size;have H:aB w5 p (zk (D+L+G) nb) F:=i.below A lR;have K:AB w w5 (a.heap.size+1) D L G nb 1 p a.heap.size (.pointer ZY) [] (zk (D+L+G) nb) F (Z5 ZY 0 0) (Z5 ZY 0 0) (kc:Int) (kc:Int):=⟨J,⟨_,rfl⟩,⟨H,rfl,m,by omega,by omega,k7,Y,N.below r N.lt,M.keep (r.block _ M.lt),TW hK r.size,λq=>by have:=b _ q;omega,λq=>by have:=b _ q;omega,.inl ⟨rfl,rfl,λ_=>⟨rfl,λ_=>rfl⟩,λ_ _=>rfl⟩⟩,rfl,r,X,hK,by omega,λk hk=>by have:=b k hk;omega⟩;have P:Dc w5 a.heap.size [] [] (Z5 ZY 0 0) (Z5 ZY 0 0):=⟨⟨a.heap.size+1,Z5 ZY 0 0,R,UK _ _ _ _⟩,trivial,⟨_,_,_,rfl,by decide⟩,⟨_,_,_,rfl,by decide⟩⟩;have Q:=CT K P (λ_=>⟨rfl,λ_=>rfl⟩);clear R J A i b h l x f r W Z hm H K P;rw [v];refine Q.mono ?_;rintro e w6 ⟨rfl,I⟩;have V:=al I;clear I Q v;dsimp only;go_wp2;go_ret2;exact ⟨_,rfl,V.out⟩
section
def CU (b:∀ x∈xs,lg D x) {X:Ob×a8} (a:X∈xs):bT X.1.name=ZW:=by
 have:=(b X a).fit.name;unfold bT;exact decide_eq_true this
def CV (a:X∈xs):X.1.name∈xs.names:=T6.2 ⟨X.1,T6.2 ⟨X,a,rfl⟩,rfl⟩
def Mz (h:x∈xs.names):∃ X∈xs,X.1.name=x:=by
 obtain ⟨o,ho,e⟩:=T6.1 h;obtain ⟨X,a,rfl⟩:=T6.1 ho;exact ⟨X,a,e⟩
def Gh (a:iU wx Q xs) (i:Up xs.names) (o:∀ x∈xs,lg D x) (f:X∈xs):∃ c,(∀ e,Nv Q X.1.name e->e=Z3 (ZZ #[c,Z7 Z9 0]))/\Ow wx c X.2:=by
 have p:=nG a X.1.name;obtain ⟨b,h,g⟩:=U0 f;have d:b<Q.length:=by rw [a.len];exact h
 obtain ⟨q1,q2⟩:=a.at b d h;rw [g] at q1 q2;refine ⟨Q[b].2,λe n=>?_,q2⟩;rcases n with ⟨q,_⟩|⟨_,q,_⟩|⟨_,k,q,j⟩
 . exact absurd ((kV _).2 (CU o f)) q
 . exact absurd (CV f) (p.1 q)
 . have r:=(kW a i q).1;have hl:b<xs.names.length:=(by rw [<- a.names];unfold cB;rw [T7];exact d);have m:=il i hl (x:=X.1.name) (by rw [<- g];simp [aY.names,aQ,aY.os]);have l:k=b:=r.symm.trans m;subst l;rw [j,T5,Ua d];rfl
def MA (w:uS xs A x base u rr wx) (r:iU wx Q xs) (s:Up xs.names) (m:∀ x∈xs,lg D x) :
 (∃ n c l,isN rr n/\(∀ e,Nv Q x e->e=Z3 (ZZ #[c,Z7 Z9 n]))/\Ow wx u l/\Ow wx c l/\(n=0\/(n≠0/\u=Z5 ZY 0 0/\x∉xs.names)))\/(rr=uR 3/\u=Z5 ZY 0 0/\¬ A.clean/\x∈xs.names):=by
 have o:=kV x;rcases w with ⟨d,⟨a,b⟩|⟨a,b,f⟩|⟨a,b,f,t⟩⟩|⟨a,b,X,g,hn,ho⟩
 . refine .inl ⟨6,Z5 ZY 0 0,[],.inl a,λe j=>?_,d▸Ow.nil _,Ow.nil _,.inr ⟨by decide,d,λq=>?_⟩⟩
   . rcases j with ⟨_,h⟩|⟨q,_⟩|⟨q,_⟩
     . exact h
     . rw [o,b] at q;cases q
     . rw [o,b] at q;cases q
   . obtain ⟨X,g,e⟩:=Mz q;have:=CU m g;rw [e,b] at this;cases this
 . refine .inl ⟨9,Z5 ZY 0 0,[],.inl a,λe j=>?_,d▸Ow.nil _,Ow.nil _,.inr ⟨by decide,d,f⟩⟩;rcases j with ⟨q,_⟩|⟨_,_,h⟩|⟨_,k,q,_⟩
   . exact absurd (o.2 b) q
   . exact h
   . exact absurd (kW r s q).2.2 f
 . exact .inr ⟨a,d,t,f⟩
 . obtain ⟨c,p,v⟩:=Gh r s m g;have i:=m _ g;rw [hn] at p;exact .inl ⟨0,c,X.2,.inr ⟨a,rfl⟩,p,⟨⟨base,ho⟩,i.byt,by rw [i.len];exact i.fit.size⟩,v,.inl rfl⟩
def aam:¬ ry 33:=by unfold ry;decide
section
variable {w0 w:ZU} {wb D L G nb t:Nat} {xs:aY} {Q:List (ByteArray×ZT)} {p r sa ar v:Nat} {Kind:aU->Prop} {ps:aU} {pg ob:ZT} {P:a8} {A:aH} {F:aR} {out want:ZT} {cache:Int}
theorem MC (h:MB w0 w wb D L G nb t xs p r sa ar v Kind ps pg ob P A F out want cache) (n:Dc w r Q xs out want) (o:nJ) (j:ZT) (g:Bs w0 j o.d) (C:o.d.length<=100000) (H:t<1000000) (z:D<=6) (B:A.clean) (I:o.kind=1) :
 ZS ZO 7 #[Z6 (ZX ⟨wb,0,ZY⟩),.agg #[Z7 Z9 o.kind,Z7 Z9 o.a,Z0 o.s,j]] w λe w'=>e=Z3 (Z2 ZW)/\MS aH.clean w0 w' wb D L G nb (t+1):=by
 obtain ⟨x,y,E,_⟩:=id g;subst E;obtain ⟨m,q⟩:=nM (o.d.length);rw [q] at g ⊢;obtain ⟨w1,l⟩:=nM (w.alloc (Z4 #[Z7 Z9 o.kind,Z7 Z9 o.a,Z0 o.s,.slice x m y] 33));have f:=OA h n o _ l;have i:=My f.b f.c o _ g C H z B;obtain ⟨J,K,M,N⟩:=f.op.cells;clear f h n g q;rw [I] at J l i ⊢;go_enter func7,ntmps7;go_wp2_with fail;refine i.mono ?_;rintro e w2 ⟨rfl,k⟩;have u:=al k;clear k i;go_wp2;go_ret;exact ⟨rfl,u.out⟩
theorem MD (h:MB w0 w wb D L G nb t xs p r sa ar v Kind ps pg ob P A F out want cache) (hc:Dc w r Q xs out want) (o:nJ) (dv:ZT) (kx:∃ T m U,dv=.slice T m U) (hk:o.kind=2) (kf:A.clean) :
 ZS ZO 7 #[Z6 (ZX ⟨wb,0,ZY⟩),.agg #[Z7 Z9 o.kind,Z7 Z9 o.a,Z0 o.s,dv]] w λe w'=>e=Z3 (Z2 ZW)/\MS aH.clean w0 w' wb D L G nb (t+1):=by
 obtain ⟨T,m,U,rfl⟩:=kx;obtain ⟨w1,k9⟩:=nM (w.alloc (Z4 #[Z7 Z9 o.kind,Z7 Z9 o.a,Z0 o.s,.slice T m U] 33));have d:=OA h hc o _ k9;have hp:bW w1 w1.drew:=(TY _ w1).drew;have V:=d.b.below hp;have hv:=aaj V.box V.live o.s λwx kr=>Gb (V.live.below kr) V.shv o.s;obtain ⟨x0,x1,x2,x3⟩:=d.op.cells;have s1:=d.b.wbA.cells.2.2.2.2.1;obtain ⟨q0,K⟩:=nM (w.heap.size);have HS:=au d K;clear d h hc hp V;rw [hk] at x0 k9 ⊢;rw [K] at x0 x1 x2 x3;clear hk;go_enter func7,ntmps7;go_upto_region 5 with fail;clear K k9 x0 x1 x3;go_cut [5,6] from 21 to 233 (λv5 v6 wx=>Fg w1.drew ar v p Kind ps D L G t xs A F o.s (Z3 (ZZ #[v5,v6])) wx)
 case first=>
  go_region_with (go_at_call 17;refine hv.mono ?_;rintro e w2 k8;obtain ⟨uu,rr,_,_,_,_,rfl,_⟩:=id k8;have R:=al k8;clear k8);all_goals (go_wp2_with fail;go_meet;case rel=>exact R.out)
 case rest=>
  obtain ⟨u,rr,ps',hd,hb,P',he,⟨kh,k5,hq⟩,ka,ke⟩:=hcut;cases he;obtain ⟨d,K⟩:=HS.out;have hp:bW w1 w1.drew:=(TY _ w1).drew;have ha:aa (λj=>j=ar\/F.S j\/j=v\/ps.bl j) w1 wc:=(aa.RS hp _).trans ka;obtain ⟨g,kg⟩:=d.b.Tp ha kh rfl k5 hq;have i:=d.c.keep kg lR;have z:iw wc q0 o (.slice T m U):=by
   rw [<- K];exact aj.keep d.op (ha.block _ d.lt (λe=>by
    rcases e with e|e|e|e
    . have:=d.ar;omega
    . have:=d.f _ e;omega
    . have:=d.ar;have:=d.b.live.vlt;omega
    . exact cJ d.b.live.kit d.op aam e))
  obtain ⟨n,cv,l,hN,B,y,x,C⟩:=(MA ke i.rel g.live.disk.up g.live.disk.fits).resolve_right λq=>q.2.2.1 kf;have kk:=jU hN g.gl;obtain ⟨⟨M,O,N,hu,_⟩,_⟩:=y.sl;obtain ⟨⟨E,I,H,kv,_⟩,_⟩:=x.sl;subst hu kv;have R:=hide7 g i z B y x C;clear k5 hq d K hp ha g kg i z hN B y x C kh ka ke hv x2 s1;go_wp2_with fail;refine kk.mono ?_;rintro e J ⟨rfl,X⟩;clear kk;obtain ⟨g,i,z,B,y,x,C⟩:=R.out;have h3:=g.below X;have k6:=i.keep (fa.below X _) lR;have kb:iw J q0 o (.slice T m U):=aj.keep z (X.block _ (aj.lt z));have y3:=kb.cells.2.2.1;have r3:=h3.wbA.cells.2.2.2.2.2.1;have kc:Q.length<=1000000:=by
   rw [k6.rel.len];have:=h3.live.Sa.1;have e:xs.os.length=xs.length:=(by simp [aY.os]);omega
  have ki:∀ k,ZS ZO 18 #[Z6 (ZX ⟨r,0,ZY⟩),Z0 o.s] (J.drewN k) λe w'=>e=Z3 (ZZ #[.slice E I H,Z7 Z9 n])/\w'=J.drewN k:=λk=>by
   have kp:bW J (J.drewN k):=⟨rfl,rfl,rfl,TV _,λ_ _=>rfl⟩;obtain ⟨rb,rv,hr⟩:=(k6.keep (fa.below kp _) lR).ref;exact (tI hr kc o.s).mono λe w' q=>⟨B e q.2,q.1⟩
  have H3:=a5 h3 k6 ki X;clear g i z B y x C h3 k6 kb kc ki X;go_upto_region 7 with fail;go_quiet ((go_at_call 18;refine aaR (H3.out.2.2.1 _)));clear y3 r3;have Y:bW wc (J.drewN nq):=H3.out.2.2.2.trans ⟨rfl,rfl,rfl,TV _,λ_ _=>rfl⟩;obtain ⟨w4,km⟩:=nM (J.drewN nq);rw [km] at Y ⊢;clear km;obtain ⟨g,i,z,B,y,x,C⟩:=R.out;have hz:=y.keep (Kd.below Y _ _);have hx:=x.keep (Kd.below Y _ _);have kj:=yH _ _ l w4 hz.bs hx.bs;have H4:=al Y;clear Y g i z B y x C hz hx;go_wp2_with fail;refine kj.mono ?_;rintro e w5 ⟨rfl,m5,ko⟩;have Z:bW wc w5:=H4.out.trans (by rw [ko];exact ⟨rfl,rfl,rfl,TV _,λ_ _=>rfl⟩);clear ko kj;obtain ⟨g,i,z,B,y,x,C⟩:=R.out;have h5:=g.below Z;have k7:=i.keep (fa.below Z _) lR;have k0:=y.keep (Kd.below Z _ _);have hy:=x.keep (Kd.below Z _ _);have W:=h5.wbA;obtain ⟨_,_,_,_,_,_,_,c7,c8,_⟩:=W.cells;have f7:=aj.R3 W 7;have f8:=aj.R3 W 8;obtain ⟨⟨oa,om,oc,rfl,_⟩,wa,wm,wd,rfl,_⟩:=k7.ow;have hs:MS aH.clean w0 ((w5.setCell ⟨wb,7,ZY⟩ (.slice M O N)).setCell ⟨wb,8,ZY⟩ (.slice E I H)) wb D L G nb (t+1):=by
   have hO:aa (λj=>j=wb) w5 ((w5.setCell ⟨wb,7,ZY⟩ (.slice M O N)).setCell ⟨wb,8,ZY⟩ (.slice E I H)):=(aa.setCell (S:=λj=>j=wb) w5 ⟨wb,7,ZY⟩ _ rfl).trans (aa.setCell (S:=λj=>j=wb) _ ⟨wb,8,ZY⟩ _ rfl);have hW:jz ((w5.setCell ⟨wb,7,ZY⟩ (.slice M O N)).setCell ⟨wb,8,ZY⟩ (.slice E I H)) wb D L G (Z6 (ZX ⟨p,0,ZY⟩)) (Z6 (ZX ⟨sa,0,ZY⟩)) (Z6 (ZX ⟨r,0,ZY⟩)) nb (.slice M O N) (.slice E I H) cache:=aj.set W 7 [.slice M O N,.slice E I H] (by simp [Ou]);obtain ⟨h6,ky⟩:=h5.write hO hW;have ks:Dc w5 r Q xs (.slice M O N) (.slice E I H):=⟨k7.ref,k7.rel,k0.sl.1,hy.sl.1⟩;exact ⟨_,_,_,_,_,_,_,_,_,_,_,_,_,_,_,_,_,_,h6,ks.keep ky lR,by omega,kf⟩
  have HF:=al hs;clear hs g i z B y x h5 k7 k0 hy W Z;rcases C with rfl|⟨hn,hu,_⟩
  . go_wp2_with fail;refine (ja 0 _).mono ?_;rintro e w8 ⟨rfl,rfl⟩;go_wp2;go_ret;exact ⟨rfl,HF.out⟩
  . cases hu;have kz:=λwx=>W0 (P:=ZO) wx 31 5 ZY 0 0 0 0 Uh;go_wp2_with fail;refine (ja n _).mono ?_;rintro e w8 ⟨rfl,rfl⟩;go_wp2;go_ret;exact ⟨rfl,HF.out⟩
end
end
section
def OW (w:ZU) (g:Nat) (os:List Ob) (i:ZT) (wr:ZU):Prop:=
 ∃ k:Nat,k<=os.length/\i=Z7 Z9 (k:Nat)/\bW w wr/\∃ cur:List ZT,aj wr g 78 cur/\os.length*2<=cur.length/\∀ j (hj:j<os.length),k<=j->cur[j*2]?=ZX (Z0 os[j].name)/\cur[j*2+1]?=ZX (Z7 Z9 (os[j].size:Nat))
def CW:∀ (os:List Ob) (j:Nat) (a:j<os.length),(l9 os)[j*2]?=ZX (Z0 os[j].name)/\(l9 os)[j*2+1]?=ZX (Z7 Z9 (os[j].size:Nat))
 | [],j,a=>absurd a (by simp)
 | o::os,0,_=>⟨rfl,rfl⟩
 | o::os,j+1,a=>by
  have e:l9 (o::os)=[Z0 o.name,Z7 Z9 (o.size:Nat)]++l9 os:=by unfold l9;rw [VE];rfl
  obtain ⟨b,c⟩:=CW os j (by simpa using a);rw [e];refine ⟨?_,?_⟩
  . rw [U3 (by simp;omega),show (j+1)*2-[Value.string o.name,Z7 Z9 (o.size:Nat)].length=j*2 by simp;omega];exact b
  . rw [U3 (by simp;omega),show (j+1)*2+1-[Value.string o.name,Z7 Z9 (o.size:Nat)].length=j*2+1 by simp;omega];exact c
def OW.start {n:Nat} (h:wr.ownsRow base 78 2 u n (l9 os)) (hn:os.length=n) (p:0<n) (k:bW w wr) (q:w.heap.size<=base):∃ g cap,u=Z5 (ZX ⟨g,0,ZY⟩) n cap/\w.heap.size<=g/\OW w g os (Z7 Z9 0) wr:=by
 rcases h.2 with ⟨_,e⟩|⟨g,cap,cur,a,m,b,c,o,d,f⟩
 . omega
 . refine ⟨g,cap,a,by omega,0,T9 _,rfl,k,cur.toList,?_,?_,λj l _=>?_⟩
   . unfold aj;rw [b,Array.toArray_toList]
   . have i:cur.toList.length=cap*2:=(by rw [Wk];exact d);rw [i,hn];exact WZ 2 c
   . obtain ⟨q1,q2⟩:=CW os j l;have:j*2+1<n*2:=(by omega);rw [<- f] at q1 q2;rw [VF (by omega)] at q1 q2;exact ⟨q1,q2⟩
theorem OW.next {cur:List ZT} (x y:ZT) (q:k<os.length) (h:bW w wr) (a:w.heap.size<=g) (m:aj wr g 78 cur) (hl:os.length*2<=cur.length) (l:∀ j (b:j<os.length),k<=j->cur[j*2]?=ZX (Z0 os[j].name)/\cur[j*2+1]?=ZX (Z7 Z9 (os[j].size:Nat))):OW w g os (Z7 Z9 ((k:Int)+1)) ((wr.setCell ⟨g,k*2,ZY⟩ x).setCell ⟨g,k*2+1,ZY⟩ y):=by
 have d:=aj.set m (k*2) [x,y] (by simp;omega);have c:bW w ((wr.setCell ⟨g,k*2,ZY⟩ x).setCell ⟨g,k*2+1,ZY⟩ y):=(h.setCell (p:=⟨g,k*2,ZY⟩) a _).setCell (p:=⟨g,k*2+1,ZY⟩) a _;refine ⟨k+1,by omega,rfl,c,_,d,?_,λj b n=>?_⟩
 . simp only [T8,Ui,Uj,Uv,UQ];omega
 . obtain ⟨q1,q2⟩:=l j b (by omega);have e:∀ i,k*2+2<=i->(cur.take (k*2)++[x,y]++cur.drop (k*2+[x,y].length))[i]?=cur[i]?:=λi o=>by
    have f:(cur.take (k*2)++[x,y]).length=k*2+2:=(by rw [T8,Ui];simp;omega);rw [U3 (by omega),f,VZ];congr 1;simp;omega
   exact ⟨(e _ (by omega)).trans q1,(e _ (by omega)).trans q2⟩
section
variable {w0 w:ZU} {wb D L G nb t:Nat} {xs:aY} {Q:List (ByteArray×ZT)} {p r sa ar v:Nat} {Kind:aU->Prop} {ps:aU} {pg ob:ZT} {P:a8} {A:aH} {F:aR} {out want:ZT} {cache:Int}
theorem mL (h:MB w0 w wb D L G nb t xs p r sa ar v Kind ps pg ob P A F out want cache) (hc:Dc w r Q xs out want) (o:nJ) (dv:ZT) (ke:∃ W m X,dv=.slice W m X) (K:o.kind=4) {C:aH->Prop} (hC:C A) :
 ZS ZO 7 #[Z6 (ZX ⟨wb,0,ZY⟩),.agg #[Z7 Z9 o.kind,Z7 Z9 o.a,Z0 o.s,dv]] w λe w'=>e=Z3 (Z2 ZW)/\MS C w0 w' wb D L G nb (t+1):=by
 obtain ⟨W,m,X,rfl⟩:=ke;obtain ⟨w1,k0⟩:=nM (w.alloc (Z4 #[Z7 Z9 o.kind,Z7 Z9 o.a,Z0 o.s,.slice W m X] 33));have d:=OA h hc o _ k0;have k9:=aal d.b.box d.b.live;obtain ⟨x0,x1,x2,x3⟩:=d.op.cells;have s1:=d.b.wbA.cells.2.2.2.2.1;have l:∀ w',bW w1 w'->MS C w0 w' wb D L G nb (t+1):=λw' hb=>⟨_,_,_,_,_,_,_,_,_,_,_,_,_,_,_,_,_,_,d.b.below hb,d.c.keep (fa.below hb _) lR,by omega,hC⟩;obtain ⟨rb,rv,n⟩:=d.c.ref;obtain ⟨N,f⟩:=nM (xs.os.length);have j:Q.length=N:=by rw [d.c.rel.len,<- f];simp [aY.os]
 have kc:N<=1000:=by rw [<- f];exact d.b.live.Sa.1
 have HS:=a6 d l n f j;clear d h hc l n f j;rw [K] at x0 k0 ⊢;clear K;go_enter func7,ntmps7;go_wp2_with fail;clear k0 x0 x1 x2 x3;refine k9.mono ?_;rintro e w2 ⟨u,rfl,x,H⟩;clear k9 s1;have H2:=au x H;clear x H;go_wp2_with fail;refine (nS w2).mono ?_;rintro e w3 ⟨rfl,T⟩;obtain ⟨d,l,n,f,j⟩:=HS.out;obtain ⟨x,H⟩:=H2.out;have B:bW w1 w3:=x.trans (T.mono x.size);have J:=ay H T;rw [f] at J;have hs:jz w3 wb D L G (Z6 (ZX ⟨p,0,ZY⟩)) (Z6 (ZX ⟨sa,0,ZY⟩)) (Z6 (ZX ⟨r,0,ZY⟩)) nb out want cache:=aj.keep d.b.wbA (B.block _ (aj.lt d.b.wbA));have r3:=hs.cells.2.2.2.2.2.1;have M:oz w3 r rb rv Q:=fa.ref n (fa.below B _) lR;have t3:=M.cell.1;by_cases R:N=0
 . have hu:∃ U V,u=.slice U 0 V:=by
    obtain ⟨U,V,e⟩:=bf J;exact ⟨U,V,by rw [e,R]⟩
   have kg:∃ y I,rv=.slice y 0 I:=by
    obtain ⟨y,I,e⟩:=bf M.own;exact ⟨y,I,by rw [e,j,R]⟩
   obtain ⟨U,V,rfl⟩:=hu;obtain ⟨y,I,rfl⟩:=kg;have O:=al (l _ B);clear d l n f j x H T B J hs M R kc;go_wp2;refine VV 1 ?_;rw [Vg];go_wp2;go_ret;exact ⟨rfl,O.out⟩
 . obtain ⟨g,cap,rfl,hg,k5⟩:=OW.start J f (by omega) B lR;obtain ⟨y,I,kb⟩:=bf M.own;rw [j] at kb;subst kb;have O:=au k5 hg;clear k5 hg d l n f j x H T B J hs M R;go_wp2_with fail;go_loopw [19] (λi wr=>OW w1 g xs.os i wr) (λi _=>N-(intOf i).toNat)
   case atStart=>exact O.out.1
   case round=>
    clear r3 t3;obtain ⟨k,K,rfl,E,cur,q,Z,S⟩:=hrel;obtain ⟨d,l,n,f,j⟩:=HS.out;rw [f] at K;by_cases kj:k<N
    . have ki:(k:Int)<(N:Int):=(by omega);have hy:k<xs.os.length:=(by omega);have Y:k<xs.length:=by
       have e:xs.os.length=xs.length:=(by simp [aY.os]);omega
      obtain ⟨q1,q2⟩:=S k hy lR;have e1:=aj.cell q q1;have e2:=aj.cell q q2;have g1:=aj.R3 q (k*2);have g2:=aj.R3 q (k*2+1);have k7:jz wr wb D L G (Z6 (ZX ⟨p,0,ZY⟩)) (Z6 (ZX ⟨sa,0,ZY⟩)) (Z6 (ZX ⟨r,0,ZY⟩)) nb out want cache:=aj.keep d.b.wbA (E.block _ (aj.lt d.b.wbA));have rr:=k7.cells.2.2.2.2.2.1;have hz:oz wr r rb (.slice y N I) Q:=fa.ref n (fa.below E _) lR;have tr:=hz.cell.1;obtain ⟨qn,qo⟩:=d.c.rel.at k (by omega) Y;obtain ⟨⟨ba,bn,bc,hv,_⟩,hx⟩:=qo.sl;rw [hv] at hx;have k8:bn=xs.os[k].size:=by
       have h1:=(d.b.live.disk.fits _ (T4 Y)).len;have h2:xs.os[k]=xs[k].1:=(by simp [aY.os]);rw [h2,<- h1];exact hx
      have ka:Q[k].1=xs.os[k].name:=(by rw [qn];simp [aY.os]);obtain ⟨z,kh,d1,d2⟩:∃ z,y=ZX ⟨z,0,ZY⟩/\wr.cell? ⟨z,k*2,ZY⟩=ZX (Z0 xs.os[k].name)/\wr.cell? ⟨z,k*2+1,ZY⟩=ZX (.slice ba bn bc):=by
       rcases hz.shape with ⟨_,e⟩|⟨z,hd,e,_,_,hh⟩
       . rw [e] at j;simp at j;omega
       . simp only [Vt] at e;obtain ⟨c1,c2⟩:=hh k (by omega);rw [ka] at c1;rw [hv] at c2;exact ⟨z,e.1,c1,c2⟩
      subst kh;rw [k8] at d2;have k6:∀ m,OW w1 g xs.os (Z7 Z9 ((k:Int)+1)) (((wr.drewN m).setCell ⟨g,k*2,ZY⟩ (.string ⟨#[109,105,110,101]⟩)).setCell ⟨g,k*2+1,ZY⟩ (Z7 Z9 0)):=λm=>OW.next _ _ hy (E.trans ⟨rfl,rfl,rfl,TV _,λ_ _=>rfl⟩) O.out.2 (aj.keep q rfl) Z S;obtain ⟨nm,hi⟩:=nM (xs.os[k].name);obtain ⟨sz,hp⟩:=nM (xs.os[k].size);rw [hi] at e1 d1;rw [hp] at e2 d2;have HN:=al k6;clear k6 E q Z S q1 q2 d l n f j k7 hz qn qo hv hx k8 ka hi hp hy Y K;go_upto_region 30 with fail;go_quiet (fail);go_wp2;exact ⟨HN.out _,by simp [intOf];omega⟩
    . have kf:k=N:=(by omega);subst kf;have HB:=al (l _ E);clear E q Z S d l n f j;go_wp2;go_ret;exact ⟨rfl,HB.out⟩
end
end
