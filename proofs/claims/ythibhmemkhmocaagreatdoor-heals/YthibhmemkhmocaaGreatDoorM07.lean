import Derived.Test.YthibhmemkhmocaaGreatDoorM06
set_option maxRecDepth 100000
set_option linter.all false
set_option maxHeartbeats 8000000
open Go.IntKind renaming i64 -> Z9
open Go.Value renaming int -> Z8, pointer -> Z7, slice -> Z6, bool -> Z3, string -> Z0, tuple -> ZZ
open Go.Obj renaming cells -> Z5
open Go.Ending renaming returned -> Z4
open Go.Operand renaming tmp -> Z1
open Option renaming none -> ZY, some -> ZX
open Bool renaming true -> ZW, false -> ZV
open Go renaming World -> ZU, Value -> ZT, Calls -> ZS, Addr -> ZR, Ending -> ZQ, TypeId -> ZP, Boxed -> ZO
open List renaming range -> YE, getElem_take -> YG, replicate -> YL, mem_eraseIdx_iff_getElem -> YM
open Go.Proofs.YthibhmemkhmocaaGreatDoor renaming pgs -> YF
open Int.ofNat renaming inj -> YH
open List.Nodup renaming sublist -> YI
open ByteArray renaming empty -> YJ
open Nat renaming le_max_right -> YK, left_le_or -> YN
open Int renaming natCast_add -> YO
open Go.Proofs.Tryz renaming prog -> ZN
open Go.Proofs.Tryz
namespace Go.Proofs.YthibhmemkhmocaaGreatDoor
def acg:=@Nat.le_div_iff_mul_le
def abF:=@Go.Calls.quiet_of_same
def U2:=@Go.Proofs.Tryz.underlying36
end Go.Proofs.YthibhmemkhmocaaGreatDoor
namespace Go.Proofs.YthibhmemkhmocaaGreatDoor
open Go.RowKit Go.Deep Gf Go.Shelf
variable {A:az} {ops:Array Oper} {x:ByteArray} {C:Ck} {e:ZQ} {Q:Exit->Act->ZU->Prop} {F:aK} {regs room z:Int} {O:List (Int×Nat×Nat×a8)} {Dl:List a8} {es:List (Nat×Nat×Nat)} {P l d dl ds:a8} {os:List Ob} {rest:List Oper} {cs ys:List ZT} {D m ar v p L G t ps B k base g cap a b c1 base' N lost r gone sp s c ho size sb l1 q b0 sz y sa q1 q2:Nat} {K:Nat->Prop} {f0 f:Nat->ZT} {ao:Option ZR} {o:Option bG} {pg ob vp u er a' b' c':ZT} {w w' wx w1 w3 w2 w0 wr w6 w7 w8 w5:ZU}
def AK (n:Int):ZT:=.iface 66 (Z8 Z9 n)
def mL (D n:Nat):Nat:=max 1 ((n+D*44-1)/(D*44))
def AL (D m n:Nat):Nat:=YF D (m+(19+4*mL D n))
def AM {n:Nat} (hD:1<=D) (d:n<=1500):mL D n<=36:=by
 unfold mL;have e:(n+D*44-1)/(D*44)<=n/(D*44)+1:=by
  have:=GN (D*44) n ec;exact TU (YK _ _) this
 have f:n/(D*44)<=1500/44:=by
  have a:=Yp (c:=D*44) d;have b:1500/(D*44)<=1500/44:=abD ec ee;omega
 omega
def Rw (hD:1<=D) (c:m<=2000000):YF D m<=1000000:=by
 unfold YF;have:(m+(D*44-4)-1)/(D*44-4)<=(m+(D*44-4)-1)/40:=abD ec ee;have:(m+(D*44-4)-1)/(D*44-4)<=m/40+1:=by
  refine TU ((Nat.div_le_iff_le_mul_add_pred ec).2 ?_) lR;have:40*(m/40+1)<=(D*44-4)*(m/40+1):=W0 _ ec;omega
 omega
def Rx (A:az) (D L G:Nat) (S:a8) (c:Nat->a8) (k:Nat):dJ A (A.wrTo D L G S c k):=(kQ A D L G S c k).2.2
def AN (A:az) (D L G t:Nat) (P l:a8):dJ A (A.TQ D L G t P l):=(PR A D L G t P l).2.2
def qG {t':Nat} {ps:aR} {vo:ZT} {P':a8} {xs xs':aL} {B:az} (h:aS w ar v p ps D L G t pg ob P xs A F) (i:a9 w' ar v D L G t' (P'.getD 0 0) (an xs'.os).length vp vo ZV) (c:aA w' p B F) (b:aa (λk=>k=ar\/F.S k) w w') (a:dJ A B) (l:t'<=1000000)
 (j:cK B D L G t' P' xs') (f:bf (λk=>ar<k/\¬ F.S k/\¬ ps.bl k) w' vp P') (d:eN (λk=>ar<k/\¬ F.S k/\¬ ps.bl k) w' vo xs'.os):aS w' ar v p ps D L G t' vp vo P' xs' B F:=by
 have:=h.vlt;exact ⟨i,{ h.vol with vol:=h.vol.vol.keep (b.block _ h.vol.vol.lt (λe=>e.elim h.vne h.vol.v)),arr:=c,laid:=h.vol.laid.keep (b.block _ h.vol.laid.lt (λe=>e.elim (λq=>ec) h.vol.g)),tab:=h.vol.tab.keep (b.block _ h.vol.tab.lt (λe=>e.elim (λq=>ec) h.vol.t)),room:=TU h.vol.room b.size,n:=a.n.trans h.vol.n },h.nar,h.vlt,j,f,d,by rw [a.nb];exact h.nb,l,ps.keep _ _ h.kit λk a=>b.block k (ps.lt _ h.kit k a) (λq=>q.elim (h.apt k a).2.1 (h.apt k a).2.2.2),h.apt,h.hl,a.fine h.fine⟩
def Jo {ps:aR} {xs:aL} {B:az} (h:aS w ar v p ps D L G t pg ob P xs A F) (d:a9 w' ar v D L G t (P.getD 0 0) (an xs.os).length pg ob ZV) (c:aA w' p B F) (a:aa (λk=>k=ar\/F.S k) w w') (b:dJ A B) (f:cK B D L G t P xs):aS w' ar v p ps D L G t pg ob P xs B F:=
 have hK:ef (λk=>ar<k/\¬ F.S k/\¬ ps.bl k) w w':=⟨a.size,λk b hK=>a.block k b (λe=>e.elim (λq=>e9 hK.1) hK.2.1)⟩;qG h d c a b h.turn f (h.pgs.keep hK) (h.cat.keep hK)
def Dx (hD:1<=D) (h:k<YF D m):k*(D*44-4)<=m:=by
 unfold YF at h;rcases WG k with rfl|c
 . simp
 . have a:k<(m+(D*44-4)-1)/(D*44-4):=ec;have b:(k+1)*(D*44-4)<=m+(D*44-4)-1:=(acg ec).1 a;rw [W5] at b;omega
def Dy {n:Nat} (hD:1<=D) (h:k<mL D n):k*(D*44)<=n:=by
 unfold mL at h;rcases WG k with rfl|c
 . simp
 . have a:k<(n+D*44-1)/(D*44):=ec;have b:(k+1)*(D*44)<=n+D*44-1:=(acg ec).1 a;rw [W5] at b;omega
def yT (ho:w.ownsRow base 3 1 (Z6 (ZX ⟨g,0,ZY⟩) (a+b) cap) (a+b) (jZ l)) (hl:l.length=a+b) (hK:K g) (q:a+b<=100000):bf K w (Z6 (ZX ⟨g,0,ZY⟩) a c1) (l.take a):=by
 rcases ho.2 with ⟨e,_⟩|⟨j,c,cur,e,m,h,p,n,o,k⟩
 . cases e
 . simp only [Vx,UB,abC] at e;obtain ⟨⟨rfl,_,_⟩,_,rfl⟩:=e;have f:(l.take a).length=a:=Jx;refine ⟨_,c1,by rw [f],ec,λ_=>⟨g,0,rfl,hK,⟨_,_,_,h,ee⟩,λi r=>?_⟩⟩;have d:=ho.cells (g:=g) rfl i (Z8 Z9 ((l[i]' ec:Nat):Int)) (by unfold jZ;rw [UD,Uc ec];rfl);rw [jG] at d;rw [Uj,YG];exact d
def Jp (ho:w.ownsRow base 3 1 (Z6 (ZX ⟨g,0,ZY⟩) (a+b) cap) (a+b) (jZ l)) (hl:l.length=a+b) (hK:K g) (q:a+b<=100000):bf K w (Z6 (ZX ⟨g,a,ZY⟩) b c1) (l.drop a):=by
 rcases ho.2 with ⟨e,_⟩|⟨j,c,cur,e,m,h,p,n,o,k⟩
 . cases e
 . simp only [Vx,UB,abC] at e;obtain ⟨⟨rfl,_,_⟩,_,rfl⟩:=e;have f:(l.drop a).length=b:=(by rw [Um];omega);refine ⟨_,c1,by rw [f],ec,λ_=>⟨g,a,rfl,hK,⟨_,_,_,h,ee⟩,λi r=>?_⟩⟩;have d:=ho.cells (g:=g) rfl (a+i) (Z8 Z9 ((l[a+i]' ec:Nat):Int)) (by unfold jZ;rw [UD,Uc ec];rfl);rw [jG] at d;rw [Yo];exact d
def ve (w:ZU) (b:Nat):Prop:=∀ off u,w.cell? ⟨b,off,ZY⟩=ZX u->(∀ x,u≠Z8 Z9 x)/\∀ s,u≠Z0 s
def yU (a:w.heap[b]?=ZX (Z5 #[.nilIface] 64 (0,0))):ve w b:=λoff u h=>by
 cases off with
 | zero=>simp [World.cell?,a] at h;subst h;exact ⟨λ_=>nofun,λ_=>nofun⟩
 | succ n=>simp [World.cell?,a] at h
def bf.aside {v:ZT} (h:bf K w v l) (o:ve w b) (q:w.heap.size<=w'.heap.size) (f:∀ k,k≠b->k<w.heap.size->w'.heap[k]?=w.heap[k]?):bf K w' v l:=by
 obtain ⟨ao,c,j,m,n⟩:=h;refine ⟨ao,c,j,m,λhl=>?_⟩;obtain ⟨b',off,q1,q2,a,g⟩:=n hl;have d:b'≠b:=λe=>by
  subst e;exact (o _ _ (g 0 (Ym.2 hl))).1 _ rfl
 exact ⟨b',off,q1,q2,a.keep (f b' d a.lt),λi p=>(Uk (f b' d a.lt)).trans (g i p)⟩
def eN.aside {v:ZT} (h:eN K w v os) (l:ve w b) (r:w.heap.size<=w'.heap.size) (d:∀ k,k≠b->k<w.heap.size->w'.heap[k]?=w.heap[k]?):eN K w' v os:=by
 obtain ⟨ao,c,n,o,p⟩:=h;refine ⟨ao,c,n,o,λhl=>?_⟩;obtain ⟨b',off,q1,q2,f,m⟩:=p hl;have j:b'≠b:=λe=>by
  subst e;obtain ⟨sv,g,_⟩:=m 0 (Ym.2 hl);exact (l _ _ g).2 _ rfl
 refine ⟨b',off,q1,q2,f.keep (d b' j f.lt),λi q=>?_⟩;obtain ⟨sv,g,s,t,u⟩:=m i q;have a:=d b' j f.lt;exact ⟨sv,(Uk a).trans g,(Uk a).trans s,(Uk a).trans t,u.aside l r d⟩
def aS.aside {ps:aR} {xs:aL} (h:aS w ar v p ps D L G t pg ob P xs A F) (f:ve w b) (i:¬ ps.bl b) (c:w.heap.size<=w'.heap.size) (a:∀ k,k≠b->k<w.heap.size->w'.heap[k]?=w.heap[k]?) (m:B<=b) (l:∀ k,F.S k->k<B) (o:v<B) (n:ar<B) (hK:3<=B):aS w' ar v p ps D L G t pg ob P xs A F:=by
 exact { h with arc:=h.arc.keep (a _ ec h.arc.lt),vol:={ h.vol with vol:=h.vol.vol.keep (a _ ec h.vol.vol.lt),arr:=h.vol.arr.keep λj g=>a j (e9 (l j g)) (h.vol.arr.RN g),laid:=h.vol.laid.keep (a _ ec h.vol.laid.lt),tab:=h.vol.tab.keep (a _ ec h.vol.tab.lt),room:=TU h.vol.room c },pgs:=h.pgs.aside f c a,cat:=h.cat.aside f c a,kit:=ps.keep _ _ h.kit λk d=>a k (λe=>i (e▸d)) (ps.lt _ h.kit k d) }
def aS.Ts {ps:aR} {xs:aL} {cs:Array ZT} (h:aS w ar v p ps D L G t pg ob P xs A F) (a:w.heap[b]?=ZX (Z5 cs 64 (0,0))):¬ ps.bl b:=λq=>by
 exact absurd (ps.kd _ h.kit b q _ _ _ a) vf
def MD (b:Nat) (w w':ZU):Prop:=w.heap[b]?=ZX (Z5 #[.nilIface] 64 (0,0))/\w'.heap.size=w.heap.size/\∀ j,j≠b->w'.heap[j]?=w.heap[j]?
def AO {R:az->Prop} {ps:aR} {xs:aL} (h:aS w ar v p ps D L G t pg ob P xs A F) (k:FuncId) (first cap:Array ZT) (M:∀ (args:Array ZT) (w:ZU),(callFunc k args).run ZN w=.ok (.enter k args) w) (Q:ZT->Nat->aL->az->aR->ZU->Prop) (T:Nat->Prop) (J:∀ j,T j->j≠w.heap.size)
 (W:∀ x f xs' B a w2 w',MD w.heap.size w2 w'->Q x f xs' B a w2->Q x f xs' B a w')
 (N:∀ w1,bW w w1->w1.heap.size=w.heap.size+1->ZS ZN k (first++cap) w1 λe w2=>∃ x f d c P' xs' B a,e=Z4 x/\mX x/\aS w2 ar v p a D L G f d c P' xs' B F/\R B/\aa (λj=>j=ar\/F.S j\/T j) w1 w2/\Q x f xs' B a w2) :
 ZS ZN 52 #[Z7 (ZX ⟨ar,0,ZY⟩),.func (.func k) first cap] w λe w'=>∃ x f d c P' xs' B a,e=Z4 x/\mX x/\aS w' ar v p a D L G f d c P' xs' B F/\R B/\aa (λj=>j=ar\/F.S j\/T j) w w'/\Q x f xs' B a w':=by
 have E:=h.arc.lt;have X:=h.vol.vol.lt;have u:∀ j,F.S j->j<w.heap.size:=λj g=>h.vol.arr.RN g;have C:=h.vol.room;have V:=lU k first cap M w ar _ h.arc rfl (λw1 x w2=>bW w w1/\w1.heap.size=w.heap.size+1/\w2.heap[w.heap.size]?=ZX (Z5 #[.nilIface] 64 (0,0))/\∃ f d c P' xs' B a,aS w2 ar v p a D L G f d c P' xs' B F/\R B/\aa (λj=>j=ar\/F.S j\/T j) w1 w2/\Q x f xs' B a w2)
  (λw1 l n O=>(N w1 l n).mono (by
   rintro e w2 ⟨x,f,d,c,P',xs',B,a,rfl,s,hl,r,o,q⟩;have y:=o;have z:w2.heap[w.heap.size]?=w1.heap[w.heap.size]?:=y.block _ ec (λe=>by
    rcases e with e|e|e
    . omega
    . have:=u _ e;omega
    . exact J _ e rfl)
   exact ⟨x,rfl,s,⟨l,n,z.trans O,f,d,c,P',xs',B,a,hl,r,y,q⟩,z,_,hl.arc,rfl⟩))
 refine V.mono ?_;rintro e w' ⟨x,w1,w2,rfl,s,_,_,⟨l,n,m,f,d,c,P',xs',B,a,hl,r,o,q⟩,rfl⟩;have H:(w2.setCell ⟨w.heap.size,0,ZY⟩ x).heap[ar]?=ZX (Z5 (jK v D L G f (P'.getD 0 0) (an xs'.os).length d c ZV) 146 (0,0)):=(Ud _ _ _ _ (by show ar≠w.heap.size;omega)).trans hl.arc;have I:=ag (j:=9) H (Z3 ZV);have i:MD w.heap.size w2 ((w2.setCell ⟨w.heap.size,0,ZY⟩ x).setCell ⟨ar,9,ZY⟩ (Z3 ZV)):=by
  refine ⟨m,oB,λj g=>?_⟩;by_cases e:j=ar
  . subst e;exact I.trans hl.arc.symm
  . exact (Ud _ _ _ _ e).trans (Ud _ _ _ _ g)
 have U:=hl.aside (w':=(w2.setCell ⟨w.heap.size,0,ZY⟩ x).setCell ⟨ar,9,ZY⟩ (Z3 ZV)) (b:=w.heap.size) (B:=w.heap.size) (yU m) (hl.Ts m) (by rw [i.2.1];exact TV _) (λj g _=>i.2.2 j g) lR u X E C;refine ⟨x,f,d,c,P',xs',B,a,rfl,s,U,r,?_,W _ _ _ _ _ _ _ i q⟩;have K:aa (λj=>j=ar\/F.S j\/T j) w w2:=(aa.RL l _).trans o;exact K.later (T:=λj=>w.heap.size<=j) ⟨rfl,rfl,rfl,by rw [i.2.1];exact TV _,λj _ g=>i.2.2 j ec⟩ (λj Y Z=>ec)
def aaP {ps:aR} {xs:aL} (h:aS w ar v p ps D L G t pg ob P xs A F) (k:FuncId) (first cap:Array ZT) (u:∀ (args:Array ZT) (w:ZU),(callFunc k args).run ZN w=.ok (.enter k args) w) (Q:ZT->Nat->aL->az->ZU->Prop)
 (z:∀ x a xs' B w2 w',MD w.heap.size w2 w'->Q x a xs' B w2->Q x a xs' B w')
 (y:∀ w1,bW w w1->w1.heap.size=w.heap.size+1->ZS ZN k (first++cap) w1 λe w2=>∃ x a c b P' xs' B,e=Z4 x/\mX x/\aS w2 ar v p ps D L G a c b P' xs' B F/\dJ A B/\aa (λj=>j=ar\/F.S j) w1 w2/\Q x a xs' B w2) :
 ZS ZN 52 #[Z7 (ZX ⟨ar,0,ZY⟩),.func (.func k) first cap] w λe w'=>∃ x a c b P' xs' B,e=Z4 x/\mX x/\aS w' ar v p ps D L G a c b P' xs' B F/\dJ A B/\aa (λj=>j=ar\/F.S j) w w'/\Q x a xs' B w':=by
 refine (AO (R:=dJ A) h k first cap u (λx a xs' B d w2=>d=ps/\Q x a xs' B w2) (λ_=>False) (λ_ e=>e.elim) (λx a xs' B d w2 w' C r=>⟨r.1,z x a xs' B w2 w' C r.2⟩) λw1 s E=>(y w1 s E).mono ?_).mono ?_
 . rintro e w2 ⟨x,a,c,b,P',xs',B,f,g,i,l,m,n⟩;exact ⟨x,a,c,b,P',xs',B,ps,f,g,i,l,m.mono λj _ o=>o.elim .inl (λq=>.inr (.inl q)),rfl,n⟩
 . rintro e w2 ⟨x,a,c,b,P',xs',B,d,f,g,i,l,m,rfl,n⟩;exact ⟨x,a,c,b,P',xs',B,f,g,i,l,m.mono λj _ o=>o.elim .inl (λq=>q.elim .inr (λq=>q.elim)),n⟩
def ME (P:List St) (D c:List a8) (k:Nat) (h:(bF P k).k=0):bP P D c (k+1)=(bP P D c k).set (bF P k).a.toNat (D.getD (bF P k).b.toNat [])/\dA P D c (k+1)=dA P D c k:=by
 simp [bP,dA,dO,ig,h]
def OZ (P:List St) (D d:List a8) (k:Nat) (h:(bF P k).k=1):bP P D d (k+1)=(bP P D d k).set (bF P k).a.toNat (iR ((bP P D d k).getD (bF P k).a.toNat []) ((bP P D d k).getD (bF P k).b.toNat []) (bF P k).c)/\dA P D d (k+1)=dA P D d k:=by
 simp [bP,dA,dO,ig,h]
def O0 (P:List St) (D c:List a8) (k:Nat) (h:(bF P k).k=2):bP P D c (k+1)=bP P D c k/\dA P D c (k+1)=dA P D c k++[((bF P k).b,(bP P D c k).getD (bF P k).a.toNat [])]:=by
 simp [bP,dA,dO,ig,h]
def RnR (w0:ZU) (B:Nat) (P:List St) (D R0:List a8) (n r gR:Nat) (vO iv:ZT) (wr:ZU):Prop:=
 ∃ k T O,k<=P.length/\iv=Z8 Z9 (k:Nat)/\Rn w0 B P D R0 n r gR k vO T O wr
def Ry (regs:Int) (P:List St) (D:List a8) (gone:Nat) (w:ZU) (e:ZQ) (w':ZU):Prop:=
 (iM regs P D.length->gJ P D gone->∃ v O,e=Z4 (ZZ #[v,.nilIface])/\mH 254 w' w.heap.size v O/\O.map (λq=>(q.1,q.2.2.2.take q.2.2.1))=dA P D (eW regs.toNat (eB P D)) P.length) /\
 (iM regs P D.length->¬ gJ P D gone->e=Z4 (ZZ #[Z6 ZY 0 0,.iface 66 (Z8 Z9 2)]))/\(¬ iM regs P D.length->e=Z4 (ZZ #[Z6 ZY 0 0,.iface 66 (Z8 Z9 4)]))/\bW w w'
def mH.weaken {t:ZP} {v:ZT} (h:mH t w base v O) (c:base'<=base):mH t w base' v O:=
 ⟨cV h.own c,λq d=>by obtain ⟨a,b⟩:=h.row q d;exact ⟨ec,b⟩,h.nodup⟩
def Tryz.SX:(ZN.info? 254).map (λi=>(i.zero,i.size,i.bytes))=ZX (ZX (.agg #[Z8 Z9 0,Z6 ZY 0 0]),2,32):=ei
def O1 (w:ZU) (n:Nat) (b:n=w.heap.size) (x y:ZT) (t:ZP):∀ j v,[x,y][j]?=ZX v->(w.alloc (Z5 #[x,y] t)).cell? ((⟨n,0,ZY⟩:ZR).add j)=ZX v:=by
 subst b;intro j v a;rw [jG];rcases j with _|_|j;all_goals simp at a
 all_goals subst a;simp
def aba (w:ZU) (k a b c:ZT) (t:ZP):∃ wb,w.alloc (Z5 #[k,a,b,c] t)=wb/\bW w wb/\wb.heap.size=w.heap.size+1/\wb.cell? ⟨w.heap.size,1,ZY⟩=ZX a/\wb.cell? ⟨w.heap.size,2,ZY⟩=ZX b/\wb.cell? ⟨w.heap.size,3,ZY⟩=ZX c:=
 ⟨_,rfl,bA _ _,Uh _ _,ek,ek,ek⟩
theorem O2 (regs:Int) (v:ZT) (P:List St) (R ci:Nat) (D:List a8) (gone:Nat) (w:ZU) (h:Ps .u8 w v P) (hP:∀ s∈P,zL s) (U:In w R D gone) (xd:R<w.heap.size) (q2:∀ l∈D,l.length<=100000) (hl:P.length<=5000) :
 ZS ZN 146 #[.agg #[Z8 Z9 regs,v],Z6 (ZX ⟨R,0,ZY⟩) D.length ci] w λe w'=>Ry regs P D gone w e w':=by
 obtain ⟨i0,x2,x9,xa,xb⟩:=Uu Tryz.SX;have kf:bW w (w.alloc (Z5 #[Z8 Z9 regs,v] 206)):=bA _ _;have h0:=h.mono kf;obtain ⟨ao,c,rfl⟩:=h.slice;go_enter func146,ntmps146;go_wp2_with fail;refine (Ik regs D.length _ P _ h0).mono ?_;rintro e w1 ⟨kr,ks,K⟩;try change Below _ _ _ at K
 rw [Uh] at K;obtain ⟨p0,p1⟩:=aaA K rfl;have x7:=K.size;try change Below _ _ _ at x7
 rw [Uh] at x7;have h5:=kf.trans (K.mono ec);by_cases J:iM regs P D.length
 . have G:=kr J;subst G;obtain ⟨⟨g0,g1,g2⟩,Z⟩:=id J;obtain ⟨r,rfl⟩:∃ r:Nat,regs=(r:Int):=⟨regs.toNat,ec⟩;have q8:=ak J;have qp:=ak Z;have hr:∀ i,i<P.length->(bF P i).k=0->0<=(bF P i).b/\(bF P i).b<(D.length:Int):=by
    intro i hi hk;rw [dS P i hi] at *;rcases Z i hi with h|h
    . exact ⟨h.2.2.2.1,h.2.2.2.2⟩
    . omega
   have q4:r<=32:=ec;have h1:=h.mono h5;have qc:=U.mono h5;clear J Z kr ks h0 K kf g0 g1;go_wp2_with fail;refine (pM _ P R ci D gone w1 h1 qc q2 hr hl).mono ?_;rintro e w2 ⟨kx,ky,k6⟩;have q0:=(k6.cell (Uf p0)).trans p0;have q1:=(k6.cell (Uf p1)).trans p1;have k7:=h5.trans (k6.mono ec);have xf:=k6.size;clear hr h1 qc p0 p1 h5 k6;by_cases C:gJ P D gone
   . have G:=kx C;subst G;have qi:=IC C;have ka:=ak C;have q6:=ak (QQ C);clear C kx ky;obtain ⟨n,E⟩:=nM (eB P D);have HN:=ak E;rw [E] at qi q6;rw [E];clear E;go_wp2_with fail;refine (AA r n w2 q4 qi).mono ?_;rintro e w3 ⟨y,T0,rfl,qe,qb,ko⟩;have x8:=ko.size;have hd:=(ko.cell (Uf q1)).trans q1;have qd:Rn w2 w2.heap.size P D (eW r n) n r y 0 (Z6 ZY 0 0) T0 [] w3:=⟨qe,qb,λl hl=>by
      have:=VF (show l∈YL r (YL n 0) from hl);rw [this];simp,mH.nil _ _ _,rfl,λp _ q hq=>by simp at hq,ko,x8⟩
     have qa:=ak qd;clear qd qe qb q0 q1;go_wp2;clear hd;go_loopw [10,37] (λvO iv wr=>RnR w2 w2.heap.size P D (eW r n) n r y vO iv wr) (λ_ iv _=>P.length-(intOf iv).toNat)
     case atStart=>exact ⟨0,T0,[],T8 _,rfl,qa.out⟩
     case round=>
      clear qa;rename ZU=>wo;obtain ⟨k,T,O,hk,rfl,V⟩:=hrel;have xh:=V.size;have kp:=k7.trans (V.below.mono ec);by_cases I:k<P.length
      . rcases (h.mono kp).cases with ⟨rfl,_⟩|⟨b,off,cc,e,_,hc⟩
        . simp at I
        simp at e;obtain ⟨rfl,rfl⟩:=e;obtain ⟨d0,d1,d2,d3⟩:=hc k I;have Z:=qp.out k I;unfold iL at Z;have qh:=hP _ (T6 I);have k9:=dS P k I;have B:=ak (ME P D (eW r n) k);have W:=ak (OZ P D (eW r n) k);have hs:=ak (O0 P D (eW r n) k);have kb:=ak (ka.out k I);have k0:=ak (q6.out k I);have h4:b9 (Ot P D gone k↔((bF P k).k=0->¬ oz gone (bF P k).b.toNat/\fl P D (k+1)=ZX (D.getD (bF P k).b.toNat []).length/\(D.getD (bF P k).b.toNat []).length<=4096)):=Yl;rw [k9] at B W hs k0 h4;have qn:=ak (U.mono kp);have HC:=ak hc;have t:=ak V;have HI:=ak U;have HH:=ak h;have xc:=ak hP;clear hc V U h hP k9;have qj:=qh.2.2.2.2.2;clear qh;generalize P[k].k=sk at *;generalize P[k].a=sa at *;generalize P[k].b=sb at *;generalize P[k].c=sc at *;obtain ⟨wb,hz,z,xg,b1,b2,b3⟩:=aba wo (Z8 .u8 (sk:Int)) (Z8 Z9 sa) (Z8 Z9 sb) (Z8 .u8 (sc:Int)) 299;have ki:=ak (t.o.next z);rcases Z with ⟨kz,a0,a1,x0,x1⟩|⟨x3,a0,a1,x0,x1,xe⟩
        . obtain ⟨A,rfl⟩:∃ A:Nat,sa=(A:Int):=⟨sa.toNat,ec⟩;obtain ⟨X,rfl⟩:∃ X:Nat,sb=(X:Int):=⟨sb.toNat,ec⟩;have hA:A<r:=ec;have hX:X<D.length:=ec;obtain ⟨g,H,t1,u,f,F,t5,t6,t7,t8,t9⟩:=t.o.reg A hA;replace t1:=(z.cell (Uf t1)).trans t1
          replace u:=u.below z
          rw [VD,VD] at B;rw [VD] at hs;rcases kz with rfl|rfl
          . have h6:b9 (wo.alloc (Z5 #[Z8 .u8 0,Z8 Z9 (A:Int),Z8 Z9 (X:Int),Z8 .u8 (sc:Int)] 299)=wb):=hz;have qg:D.getD X []=D[X]:=(by simp [hX]);have q3:=h4.out.1 kb.out rfl;have kg:=k0.out rfl;rw [VD,qg] at q3 kg;rw [qg] at B;obtain ⟨ax,cx,u1,u2⟩:=(qn.out X hX).2 q3.1;have L:=(z.cell (Uf u1)).trans u1;have hb:=u2.mono z;have qk:∀ x∈D[X],x<256:=by
             obtain ⟨_,_,_,_,_,h,_⟩:=u2;exact h
            obtain ⟨wc,hh,ke,d⟩:=Mn wb.drew 3 g n n _ D[X] (ZX ax) cx u hb kg f;have HW:=ak ((ki.out.next (show bW wb wb.drew from ⟨rfl,rfl,rfl,TV _,λ_ _=>rfl⟩)).write H f d ke kg qk (B.out rfl).1 (B.out rfl).2);rw [kg] at L hh;have kj:=ak hh;have z1:=d.cell (show wb.drew.cell? ⟨wo.heap.size,1,ZY⟩=_ from b1) en;have z2:=d.cell (show wb.drew.cell? ⟨wo.heap.size,2,ZY⟩=_ from b2) en;have z3:=d.cell (show wb.drew.cell? ⟨y,A,ZY⟩=_ from t1) en;have z4:=d.cell (show wb.drew.cell? ⟨R,X,ZY⟩=_ from L) en;clear hh ke d u1 u2 hb H u f F B W hs kb k0 h4 q3 qk hz;go_wp2;rw [h6.out];go_region_held3 (λw'=>w'.cell? ⟨wo.heap.size,1,ZY⟩=ZX (Z8 Z9 (A:Int))/\w'.cell? ⟨wo.heap.size,2,ZY⟩=ZX (Z8 Z9 (X:Int))/\w'.cell? ⟨y,A,ZY⟩=ZX (Z6 (ZX ⟨g,0,ZY⟩) n n)/\w'.cell? ⟨R,X,ZY⟩=ZX (Z6 (ZX ax) n cx)) (first|exact ⟨b1,b2,t1,L⟩|exact ⟨z1,z2,z3,z4⟩) (refine Je rfl (Z1 49) (Z1 54) rfl _ _ _ rfl rfl kj.out ?_);go_wp2;go_roundw
            case rel=>
             obtain ⟨T',km⟩:=HW.o;exact ⟨k+1,T',O,ec,eT,km⟩
            case measure=>simp [intOf];omega
          . have h6:b9 (wo.alloc (Z5 #[Z8 .u8 2,Z8 Z9 (A:Int),Z8 Z9 (X:Int),Z8 .u8 (sc:Int)] 299)=wb):=hz;have Y:=ki.out.next (show bW wb wb.drew from ⟨rfl,rfl,rfl,TV _,λ_ _=>rfl⟩);have hol:=Y.olen;have kv:=Ez ⟨g,0,ZY⟩ n _ wb.drew (by have:=Bs.Sl (n:=n) (show aM wb.drew g _ from u) ec ec F;rw [UI ec,f] at this;rw [f];exact this) ec;rw [f] at kv;have qm:=ak kv;have k5:=ak Y;have q9:=ak (hs.out rfl);have kc:=ak f;have kk:=ak F;have q7:=ak (λj hj=>(t.o.outs.own.lt j hj).2);have qo:=ak (uU t.o.tab.own t.o.outs.own);have z1:wb.drew.cell? ⟨wo.heap.size,1,ZY⟩=ZX (Z8 Z9 (A:Int)):=b1;have z2:wb.drew.cell? ⟨wo.heap.size,2,ZY⟩=ZX (Z8 Z9 (X:Int)):=b2;have z3:wb.drew.cell? ⟨y,A,ZY⟩=ZX (Z6 (ZX ⟨g,0,ZY⟩) n n):=t1;clear kv Y H u f F B W hs kb k0 h4 hz;go_wp2;rw [h6.out];go_region_held3 (λw'=>w'.cell? ⟨wo.heap.size,1,ZY⟩=ZX (Z8 Z9 (A:Int))/\w'.cell? ⟨wo.heap.size,2,ZY⟩=ZX (Z8 Z9 (X:Int))/\w'.cell? ⟨y,A,ZY⟩=ZX (Z6 (ZX ⟨g,0,ZY⟩) n n)) (first|exact ⟨b1,b2,t1⟩|exact ⟨M,N,Q⟩|exact ⟨((bA _ _).cell (Uf M)).trans M,((bA _ _).cell (Uf N)).trans N,((bA _ _).cell (Uf Q)).trans Q⟩|exact ⟨qr,xi,xj⟩)
             (first
              | (go_at_call 180;refine qm.out.mono ?_;rintro e wd ⟨bd,m,rfl,qy,qv,x6,S⟩
                 have M:=(S.cell (Uf z1)).trans z1;have N:=(S.cell (Uf z2)).trans z2;have Q:=(S.cell (Uf z3)).trans z3)
              | (refine step_append_lies _ rfl (Z1 73) (Z1 83) 250 rfl w2.heap.size 254 i0 (.agg #[Z8 Z9 0,Z6 ZY 0 0]) 2 32 underlying250 x2 x9 xa xb rfl ee u10 O.length (qB O) rfl ((k5.out.next S).next (bA _ _)).outs.own ⟨wd.heap.size,0,ZY⟩ 1 1 [Z8 Z9 (X:Int),Z6 (ZX ⟨bd,0,ZY⟩) n (n+m)] rfl rfl (O1 _ _ rfl _ _ _) (by intro q hq;simp at hq;rcases hq with rfl|rfl<;>rfl) ec eD ec (by have:=((k5.out.next S).next ((TW _ _).alloc lR (Z5 #[Z8 Z9 (X:Int),Z6 (ZX ⟨bd,0,ZY⟩) n (n+m)] 254))).size;exact this) _ rfl ?_;intro g5 xk w5 k8 h8 qx x5
                 have qr:=h8.cell (((bA _ _).cell (Uf M)).trans M) (λe=>by have:=q7.out _ e.symm;simp at this);have xi:=h8.cell (((bA _ _).cell (Uf N)).trans N) (λe=>by have:=q7.out _ e.symm;simp at this);have xj:=h8.cell (((bA _ _).cell (Uf Q)).trans Q) (λe=>qo.out e.symm)))
            go_wp2;go_roundw
            case rel=>exact ⟨k+1,T,_,ec,eT,k5.out.put S qy qv kc.out ec x6 kk.out h8 k8 q9.out.1 q9.out.2⟩
            case measure=>simp [intOf];omega
        . obtain ⟨A,rfl⟩:∃ A:Nat,sa=(A:Int):=⟨sa.toNat,ec⟩;obtain ⟨X,rfl⟩:∃ X:Nat,sb=(X:Int):=⟨sb.toNat,ec⟩;have hA:A<r:=ec;have hX:X<r:=ec;have qs:A≠X:=ec;obtain ⟨g,H,t1,u,f,F,t5,t6,t7,t8,t9⟩:=t.o.reg A hA;obtain ⟨g',qf,s1,s2,s3,s4,s5,s6,s7,s8,s9⟩:=t.o.reg X hX;have qz:=t.o.reg_ne H qf qs;replace t1:=(z.cell (Uf t1)).trans t1
          replace u:=u.below z
          replace s1:=(z.cell (Uf s1)).trans s1
          replace s2:=s2.below z
          rw [VD,VD] at W;subst x3;have h6:b9 (wo.alloc (Z5 #[Z8 .u8 1,Z8 Z9 (A:Int),Z8 Z9 (X:Int),Z8 .u8 (sc:Int)] 299)=wb):=hz;have Y:=ki.out.next (show bW wb wb.drew from ⟨rfl,rfl,rfl,TV _,λ_ _=>rfl⟩);have kh:=ak (AD g g' n sc _ _ wb.drew qj u s2 f s3 qz F s4 ec);have k5:=ak Y;have q5:=ak (W.out rfl);have qq:=ak H;have kc:=ak f;have kk:=ak F;have z1:wb.drew.cell? ⟨wo.heap.size,1,ZY⟩=ZX (Z8 Z9 (A:Int)):=b1;have z2:wb.drew.cell? ⟨wo.heap.size,2,ZY⟩=ZX (Z8 Z9 (X:Int)):=b2;have z3:wb.drew.cell? ⟨wo.heap.size,3,ZY⟩=ZX (Z8 .u8 (sc:Int)):=b3;have z4:wb.drew.cell? ⟨y,A,ZY⟩=ZX (Z6 (ZX ⟨g,0,ZY⟩) n n):=t1;have z5:wb.drew.cell? ⟨y,X,ZY⟩=ZX (Z6 (ZX ⟨g',0,ZY⟩) n n):=s1;clear Y H qf u f F s2 s3 s4 B W hs kb k0 h4 hz;go_wp2;rw [h6.out];go_region_held3 (λw'=>w'.cell? ⟨wo.heap.size,1,ZY⟩=ZX (Z8 Z9 (A:Int))/\w'.cell? ⟨wo.heap.size,2,ZY⟩=ZX (Z8 Z9 (X:Int))/\w'.cell? ⟨wo.heap.size,3,ZY⟩=ZX (Z8 .u8 (sc:Int))/\w'.cell? ⟨y,A,ZY⟩=ZX (Z6 (ZX ⟨g,0,ZY⟩) n n)/\w'.cell? ⟨y,X,ZY⟩=ZX (Z6 (ZX ⟨g',0,ZY⟩) n n)) (first|exact ⟨b1,b2,b3,t1,s1⟩|exact ⟨M,N,Q,y4,y5⟩)
           (first
            | (go_at_call 179;refine kh.out.mono ?_;rintro e wc ⟨rfl,ke,d⟩
               have M:=d.cell z1 en;have N:=d.cell z2 en;have Q:=d.cell z3 en;have y4:=d.cell z4 en;have y5:=d.cell z5 en))
          go_wp2;go_roundw
          case rel=>
           obtain ⟨T',km⟩:=k5.out.write qq.out kc.out d ke (by rw [uT];exact kc.out) (Jg kk.out qj) q5.out.1 q5.out.2;exact ⟨k+1,T',O,ec,eT,km⟩
          case measure=>simp [intOf];omega
      . have x4:k=P.length:=ec;subst x4;have t:=ak V;clear V h hP U;go_wp2;go_ret2;refine ⟨λ_ _=>⟨_,O,rfl,t.o.outs.weaken ec,?_⟩,λ_ hl=>absurd ka.out hl,λE=>absurd q8.out E,kp⟩;rw [HN.o,VD];exact t.o.vals
   . have G:=ky C;subst G;have ka:=ak C;clear C kx ky;go_wp2;go_ret2;exact ⟨λ_ hl=>absurd hl ka.out,λ_ _=>rfl,λE=>absurd q8.out E,k7⟩
 . have G:=ks J;subst G;have HN:=ak J;clear J kr ks h0 h hP U K kf;go_wp2;go_ret2;exact ⟨λhp=>absurd hp HN.o,λhp=>absurd hp HN.o,λ_=>rfl,h5⟩
structure PU (w wx:ZU) (O:List (Int×Nat×Nat×a8)) (gg:Nat):Prop where
 ge:w.heap.size<=gg
 lt:gg<wx.heap.size
 cells:∀ i (hi:i<O.length),wx.cell? ⟨gg,i*2,ZY⟩=ZX (Z8 Z9 O[i].1)/\wx.cell? ⟨gg,i*2+1,ZY⟩=ZX (fX O[i].2)
 row:∀ q∈O,w.heap.size<=q.2.1/\aM wx q.2.1 q.2.2.2/\q.2.2.1<=q.2.2.2.length/\∀ x∈q.2.2.2,x<256
 below:bW w wx
def MF {P:List St} {Ms:List (Int×a8)} (C:Ps .u8 w vp P) (z:∀ s∈P,zL s) (x:In w g Dl lost) (B:g<w.heap.size) (y:Dl.length=N) (o:∀ l∈Dl,l.length<=100000) (hl:P.length<=5000) (u:iM regs P N) (r:gJ P Dl lost) (ho:dA P Dl (eW regs.toNat (eB P Dl)) P.length=Ms) (i:Ms≠[]) :
 ZS ZN 146 #[.agg #[Z8 Z9 regs,vp],Z6 (ZX ⟨g,0,ZY⟩) N N] w λe w'=>∃ O b cap,e=Z4 (ZZ #[Z6 (ZX ⟨b,0,ZY⟩) O.length cap,.nilIface])/\O.map (λq=>(q.1,q.2.2.2.take q.2.2.1))=Ms/\PU w w' O b:=by
 subst y;refine (O2 regs vp P g Dl.length Dl lost w C z x B o hl).mono ?_;rintro e w' ⟨n,_,_,A⟩;obtain ⟨v,O,rfl,f,c⟩:=n u r;rw [ho] at c;rcases f.cases with ⟨d,_⟩|⟨b,cap,rfl,j⟩
 . rw [d] at c;exact absurd c.symm i
 . have p:O≠[]:=λq=>i (by rw [<- c,q];rfl);have t:b<w'.heap.size:=Uf (j 0 (Ym.2 p)).1;refine ⟨O,b,cap,rfl,c,?_,t,j,λq D=>?_,A⟩
   . rcases f.own.2 with ⟨d,_⟩|⟨F,E,cur,a,h,_⟩
     . cases d
     . injection a with a;injection a with a;injection a with a;omega
   . obtain ⟨a,h,k,_,m⟩:=f.row q D;exact ⟨a,h,k,m⟩
def Fd (f0 f:Nat->ZT) (O:List (Int×Nat×Nat×a8)) (k:Nat):Prop:=(∀ i:Nat,(∀ q∈O.take k,q.1≠(i:Int))->f i=f0 i)/\∀ i:Nat,(∃ q∈O.take k,q.1=(i:Int))->∃ q∈O,q.1=(i:Int)/\f i=fX q.2
def abb (w2:ZU) (r v b g N gone sp:Nat) (f0:Nat->ZT) (O:List (Int×Nat×Nat×a8)) (iv:ZT) (wr:ZU):Prop:=∃ k:Nat,k<=O.length/\iv=Z8 Z9 k/\∃ f,wr.rowIs g 40 N f/\Fd f0 f O k/\dZ wr r v b g N gone sp/\aa (λk=>k=g) w2 wr
theorem Fd.step {d:Nat} (h:Fd f0 f O k) (g:k<O.length) (c:O[k].1=(d:Int)):Fd f0 (λi=>if i=d then fX O[k].2 else f i) O (k+1):=by
 have j:O.take (k+1)=O.take k++[O[k]]:=by rw [Ve,Uc g];rfl
 constructor
 . intro i b;rw [j] at b;have l:i≠d:=λe=>b O[k] (VQ _ (U6.2 rfl)) (by rw [c,e]);show (if i=d then _ else f i)=f0 i;rw [TS l];exact h.1 i λq a=>b q (UG _ a)
 . rintro i ⟨q,a,e⟩;show ∃ q∈O,q.1=(i:Int)/\(if i=d then fX O[k].2 else f i)=fX q.2;by_cases b:i=d
   . rw [TT b];exact ⟨O[k],T6 g,by rw [c,b],rfl⟩
   . rw [TS b];rw [j] at a;rcases Ui.1 a with a|a
     . exact h.2 i ⟨q,a,e⟩
     . rw [U6] at a;rw [a,c] at e;exact absurd (YH e).symm b
structure MG (w:ZU) (r v b g N gone sp:Nat) (f:Nat->ZT) (M:a8) (R:Nat->a8) (w':ZU):Prop where
 rd:dZ w' r v b g N gone sp
 row:∃ f',w'.rowIs g 40 N f'/\(∀ i,i∉M->f' i=f i)/\∀ i,i∈M->∃ bl m l,f' i=Z6 (ZX ⟨bl,0,ZY⟩) m l.length/\w.heap.size<=bl/\m<=l.length/\aM w' bl l/\l.take m=R i/\∀ x∈l,x<256
 out:aa (λk=>k=g) w w'
theorem MH {P:List St} {pm pc:Nat} {M:a8} {R:Nat->a8} (hr:dZ w r v b g N gone sp) (K:w.rowIs g 40 N f) (kz:r≠g) (hp:Ps .u8 w (.slice ao pm pc) P) (hP:∀ s∈P,zL s) (hI:In w g Dl lost) (hN:Dl.length=N) (k6:∀ l∈Dl,l.length<=100000) (hl:P.length<=5000) (J:iM regs P N) (kj:gJ P Dl lost) (ho:dA P Dl (eW regs.toNat (eB P Dl)) P.length=M.map (λd:Nat=>((d:Int),R d))) (hM:M≠[]) (km:∀ d∈M,d<N) (q4:M.length<=16) :
 ZS ZN 114 #[Z7 (ZX ⟨r,0,ZY⟩),.agg #[Z8 Z9 regs,.slice ao pm pc]] w λe w'=>e=Z4 .nilIface/\MG w r v b g N gone sp f M R w':=by
 obtain ⟨w1,ke⟩:=nM (w.alloc (Z5 #[Z8 Z9 regs,.slice ao pm pc] 206));have a:bW w w1:=by rw [<- ke];exact bA w _
 have kf:w1.heap[w.heap.size]?=ZX (Z5 #[Z8 Z9 regs,.slice ao pm pc] 206 (0,0)):=by rw [<- ke];exact Ug _ _
 have k0:w1.cell? ⟨w.heap.size,0,ZY⟩=ZX (Z8 Z9 regs):=by simp [World.cell?,kf]
 have k1:w1.cell? ⟨w.heap.size,1,ZY⟩=ZX (.slice ao pm pc):=by simp [World.cell?,kf]
 have F:=hr.keep (a.block _ hr.lt);have I:=K.of_block (a.block _ K.lt);have cs:=F.cells.2.2.1;have k7:=MF (w:=w1.drew) (hp.mono a.drew) hP (hI.mono a.drew) (T7 K.lt a.size) hN k6 hl J kj ho (λq=>hM (List.map_eq_nil_iff.1 q));have HG:=ak (show g<w1.heap.size from T7 K.lt a.size);have H:=a5 a F I k7;clear hr K hp hI a kf F I k7 J kj ho k6 hP hM;go_enter func114,ntmps114;go_upto_region 1 with fail;go_cut [5,6] from 9 to 17 (λv5 v6 wx=>∃ O n cap,v5=Z6 (ZX ⟨n,0,ZY⟩) O.length cap/\v6=.nilIface/\O.map (λq=>(q.1,q.2.2.2.take q.2.2.1))=M.map (λd:Nat=>((d:Int),R d))/\PU w1.drew wx O n)
 case first=>
  go_region_with (go_at_call 146;refine H.o.2.2.2.mono ?_;rintro e w2 ⟨O,n,cap,rfl,x,z⟩;have c:=al x z;clear x z);all_goals (go_wp2_with fail;go_meet;case rel=>exact ⟨O,n,cap,rfl,rfl,c.o.1,c.o.2⟩)
 case rest=>
  rename ZU=>w2;clear k0 k1 cs ke;obtain ⟨O,n,cap,rfl,rfl,x,z⟩:=hcut;obtain ⟨a,F,I,_⟩:=H.o;have U:bW w1 w2:=((TW _ w1).drew).trans z.below;have kk:=F.keep (U.block _ F.lt);have hf:=I.of_block (U.block _ I.lt);have kg:O.length=M.length:=by have:=Ux List.length x;simpa using this
  have Q:∀ k (Y:k<O.length),∃ d,d∈M/\O[k].1=(d:Int)/\O[k].2.2.2.take O[k].2.2.1=R d:=λk Y=>by
   have e:=Ux (λl=>l[k]?) x;simp only [UD,Uc Y,Uc (ec:k<M.length),WV,UB,WW] at e;exact ⟨M[k],T6 _,e.1,e.2⟩
  have c:=hide7 z kk hf (a.trans (U.mono a.size)) x kg Q;clear z a F I U kk hf x Q;go_wp2;go_loopw [20] (λZ wr=>abb w2 r v b g N gone sp f O Z wr) (λZ _=>O.length-(intOf Z).toNat)
  case atStart=>exact ⟨0,T8 _,rfl,f,c.o.2.2.1,⟨λ_ _=>rfl,λi ⟨q,L,_⟩=>by cases L⟩,c.o.2.1,aa.refl _ _⟩
  case round=>
   rename ZU=>wo;obtain ⟨k,Y,rfl,fk,D,p,hs,B⟩:=hrel;by_cases kc:k<O.length
   . obtain ⟨d,ka,E,_⟩:=c.o.2.2.2.2.2.2 k kc;have kp:=km d ka;obtain ⟨q0,q1⟩:=c.o.1.cells k kc;have kh:=HG.o;have kr:n≠g:=(by have:=c.o.1.ge;have:w1.drew.heap.size=w1.heap.size:=rfl;omega);have k5:=c.o.1.lt;have J:=B.block n k5 kr;have d0:wo.cell? ⟨n,k*2,ZY⟩=ZX (Z8 Z9 (d:Int)):=(Uk J).trans (by rw [q0,E]);have d1:wo.cell? ⟨n,k*2+1,ZY⟩=ZX (fX O[k].2):=(Uk J).trans q1;have C:=p.step kc E;obtain ⟨hv,kb⟩:=nM (fX O[k].2);rw [kb] at d1 C;obtain ⟨t,y,u,q2⟩:∃ t y u,hv=.slice t y u:=⟨_,_,_,kb.symm⟩;subst q2;have V:bW wo (wo.alloc (Z5 #[Z8 Z9 (d:Int),.slice t y u] 254)):=bA wo _;have G:(wo.alloc (Z5 #[Z8 Z9 (d:Int),.slice t y u] 254)).heap[wo.heap.size]?=ZX (Z5 #[Z8 Z9 (d:Int),.slice t y u] 254 (0,0)):=Ug _ _;have m:=hs.keep (V.block _ hs.lt);have h:=D.of_block (V.block _ D.lt);have A:aa (λk=>k=g) w2 (wo.alloc (Z5 #[Z8 Z9 (d:Int),.slice t y u] 254)):=B.trans (aa.RL V _);obtain ⟨w3,S⟩:=nM (wo.alloc (Z5 #[Z8 Z9 (d:Int),.slice t y u] 254));have T:=a7 m h A G C S;clear p C q0 q1 J kb V G m h A hs D B E kh k5 S;go_wp2;obtain ⟨m,h,A,G,C,S⟩:=T.o;rw [S] at m h A G ⊢;have k0:w3.cell? ⟨wo.heap.size,0,ZY⟩=ZX (Z8 Z9 d):=(by simp [World.cell?,G]);have k1:w3.cell? ⟨wo.heap.size,1,ZY⟩=ZX (.slice t y u):=(by simp [World.cell?,G]);have cs:=m.cells.2.2.1;have cg:=h.cell (i:=d) kp;have fg:=h.frozen d;have H4:=a5 m h A C;clear m h A G C S T d0 d1;go_region;go_wp2;go_roundw
     case rel=>
      obtain ⟨m,h,A,C⟩:=H4.o;have hO:aa (λk=>k=g) w3 (w3.setCell ⟨g,d,ZY⟩ (.slice t y u)):=aa.setCell _ _ _ rfl;exact ⟨k+1,ec,eT,_,h.set d _,C,m.keep (hO.block _ m.lt kz),A.trans (hO.trans (aa.drew _))⟩
     case measure=>simp [intOf]<;>omega
   . have kv:k=O.length:=ec;subst kv;have T:=a5 D p hs B;clear D p hs B;go_wp2;go_ret;obtain ⟨D,p,hs,B⟩:=T.o;obtain ⟨z,_,_,ko,x,kg,Q⟩:=c.o;unfold Fd at p;rw [VA] at p;have q3:=H.o.1.size;refine ⟨rfl,hs,⟨fk,D,λi W=>p.1 i λq L e=>?_,λi W=>?_⟩,(aa.RL ko _).trans B⟩
     . obtain ⟨j,X,rfl⟩:=UR L;obtain ⟨d,ka,E,_⟩:=Q j X;rw [E] at e;exact W (YH e▸ka)
     . obtain ⟨j,X,rfl⟩:=UR W;have ks:j<O.length:=ec;have kx:O[j].1=((M[j]:Nat):Int):=by
        have e:=Ux (λl=>l[j]?) x;simp only [UD,Uc ks,Uc X,WV,UB,WW] at e;exact e.1
       obtain ⟨q,L,e1,e2⟩:=p.2 M[j] ⟨O[j],T6 _,kx⟩;obtain ⟨j2,ki,rfl⟩:=UR L;obtain ⟨d,_,E,ky⟩:=Q j2 ki;rw [E] at e1;obtain ⟨r1,r2,r3,r4⟩:=z.row _ (T6 ki);have kh:=HG.o;have q5:w1.drew.heap.size=w1.heap.size:=rfl;exact ⟨_,_,_,e2,ec,r3,Wd r2 (B.block _ (aM.lt r2) ec),by rw [ky,YH e1],r4⟩
def bU {ps:aR} (a:ps.S w) {k:Nat} {cs:Array ZT} {T:ZP} {z:Nat×Nat} (h:w.heap[k]?=ZX (Z5 cs T z)) (b:¬ jX T):¬ ps.bl k:=λc=>b (ps.kd w a k c cs T z h)
def qH:¬ jX 200:=vf
def oV:¬ jX 40:=vf
def GY {v:ZT} (h:w.ownsRow 0 299 4 v (bS D L G s C).length (ez .u8 (bS D L G s C))) (hl:(bS D L G s C).length<=4398046511104):Ps .u8 w v (bS D L G s C):=Od h hl
def aaQ (a b:Nat) (c:a<65536) (d:b<65536):bits .or .u64 (a:Int) (b:Int)=((a|||b:Nat):Int):=abQ a b ec ec
def Jq {S l:Nat} (h:S &&& l=0) {i:Nat} (a:S.testBit i=ZW):l.testBit i=ZV:=by
 have:=Ux (λx=>x.testBit i) h;simp only [XG,a,abT,V7] at this;exact this
structure DV (D L G:Nat) (Kind:aR->Prop) (ps ps':aR) (lost s:Nat) (C:Ck) (ao:Option ZR) (m c B:Nat) (wx:ZU):Prop where
 kind:Kind ps'
 psE:ps'.ps=ps.ps
 hoE:ps'.ho=ps.ho
 kit:ps'.S wx
 bl:∀ k,ps'.bl k->ps.bl k\/B<=k
 ob:∀ k,(Value.slice ao m c).ownBlock=ZX k->ps.bl k\/B<=k
 own:wx.ownsRow 0 299 4 (.slice ao m c) (bS D L G s C).length (ez .u8 (bS D L G s C))
 To:∀ i,lost.testBit i=ZW->s.testBit i=ZW
 told:tells (jR D L G) (ab (aw (D+L+G) s))=ZX C
def DV.keep {Kind:aR->Prop} {ps ps':aR} {wy:ZU} (h:DV D L G Kind ps ps' lost s C ao m c B wx) {T:Nat->Prop} (d:aa T wx wy) (f:∀ k,T k->k<B/\¬ ps.bl k):DV D L G Kind ps ps' lost s C ao m c B wy:=
 ⟨h.kind,h.psE,h.hoE,ps'.keep _ _ h.kit λk a=>d.block k (ps'.lt _ h.kit k a) (λq=>by
  have b:=f k q;rcases h.bl k a with e|e
  . exact b.2 e
  . omega),h.bl,h.ob,bR h.own d (λk a q=>by
  have b:=f k q;rcases h.ob k a with e|e
  . exact b.2 e
  . omega),h.To,h.told⟩
def DV.mono {Kind:aR->Prop} {ps ps':aR} {B':Nat} (h:DV D L G Kind ps ps' lost s C ao m c B wx) (b:B'<=B):DV D L G Kind ps ps' lost s C ao m c B' wx:=
 ⟨h.kind,h.psE,h.hoE,h.kit,λk a=>(h.bl k a).imp id λq=>TU b q,λk a=>(h.ob k a).imp id λq=>TU b q,h.own,h.To,h.told⟩
def C5 (r v ps D L G:Nat) (w:ZU):Prop:=w.cell? ⟨r,0,ZY⟩=ZX (Z7 (ZX ⟨v,0,ZY⟩))/\w.cell? ⟨v,1,ZY⟩=ZX (Z8 Z9 (D:Int))/\w.cell? ⟨v,2,ZY⟩=ZX (Z8 Z9 (L:Int))/\w.cell? ⟨v,3,ZY⟩=ZX (Z8 Z9 (G:Int))/\w.cell? ⟨v,4,ZY⟩=ZX (Z7 (ZX ⟨ps,0,ZY⟩))
def MI (hr:dZ w r v b g N gone sp) (a:bg w v p D L G ps ho):C5 r v ps D L G w:=by
 obtain ⟨_,q1,q2,c,d,_⟩:=a.cells;exact ⟨hr.cells.1,q1,q2,c,d⟩
def vh (h:k<=16):ab (2^k-1)=YE k:=ot h
def Dz (R:Nat->a8):∀ m,(∀ i,i<m->(R i).length=44)->((YE m).map R).flatten.length=44*m
 | 0,_=>rfl
 | m+1,h=>by
  rw [Vw,Uw,ab8,Ua,Dz R m λi a=>h i ec];simp [h m ec];omega
def Rz {M:Nat} {fl:a8} (h:w.ownsRow base 5 1 u M (aJ fl)) (y:fl.length=M) (v:∀ x∈fl,x<256) (hs:size<=M) (z:M<=1000000):∃ ao cp,u=.slice ao M cp/\M<=cp/\cp<=9223372036854775807/\(ao=ZY->M=0/\cp=0)/\(∀ a,ao=ZX a->base<=a.block)/\Bs w (.slice ao size size) (fl.take size):=by
 have hl:(fl.take size).length=size:=Jx
 rcases h.2 with ⟨d,e⟩|⟨b,cp,cur,d,m,n,o,p,A,r⟩
 . have s:size=0:=ec;subst s;exact ⟨ZY,0,by rw [d,e],ec,ec,λ_=>⟨e,rfl⟩,λa h=>vE,by rw [Wq];exact ⟨ZY,0,rfl,TV _,ee,λ_ h=>vE,λh=>absurd rfl h⟩⟩
 . have j:cp<=9223372036854775807:=(by unfold maxLen at p;omega);refine ⟨ZX ⟨b,0,ZY⟩,cp,d,o,j,λh=>vE,λa h=>(by cases h;exact m),ZX ⟨b,0,ZY⟩,size,by rw [hl],by rw [hl];exact TV _,?_,λx t=>v x (UX t),λ_=>⟨b,0,rfl,λk g=>?_⟩⟩
   . rw [hl];omega
   . rw [hl] at g;have f:k<fl.length:=ec;have q:cur[k]?=ZX (Z8 .u8 ((fl[k]:Nat):Int)):=by
      have c:=Ux (λl=>l[k]?) r;simp only [Wg,aJ] at c;rw [VM ec,aby,UD,Uc f] at c;exact c
     have i:(fl.take size).getD k 0=fl[k]:=(by simp [Ub,g,f]);rw [i];simp [World.cell?,n,q]
theorem qI (D L G:Int) (w:ZU) (a:0<=D/\D<=100) (b:0<=L/\L<=100) (c:0<=G/\G<=100):ZS ZN 9 #[.agg #[Z8 Z9 D,Z8 Z9 L,Z8 Z9 G]] w λe w'=>e=Z4 (Z8 Z9 (D+L+G))/\w'=w.alloc (Z5 #[Z8 Z9 D,Z8 Z9 L,Z8 Z9 G] 27):=by
 obtain ⟨d,f⟩:=a;obtain ⟨b1,b2⟩:=b;obtain ⟨c1,g⟩:=c;go_enter func9,ntmps9;go_wp2;go_ret;exact ⟨rfl,rfl⟩
theorem qJ (h:bg w v p D L G ps ho) (hD:D<=12) (hL:L<=4) (hG:G<=4) {N:Nat} (l:N=D+L+G):ZS ZN 83 #[Z7 (ZX ⟨v,0,ZY⟩)] w λe w'=>e=Z4 (Z7 (ZX ⟨w.heap.size+2,0,ZY⟩))/\dZ w' (w.heap.size+2) v 0 (w.heap.size+1) N 0 0/\w'.rowIs (w.heap.size+1) 40 N (λ_=>Z6 ZY 0 0)/\bW w w':=by
 obtain ⟨_,c1,g,i,_⟩:=h.cells;go_enter func83,ntmps83;go_wp2_with fail;refine (qI (D:Int) (L:Int) (G:Int) w ⟨ec,ec⟩ ⟨ec,ec⟩ ⟨ec,ec⟩).mono ?_;rintro e w5 ⟨rfl,c⟩;rw [(ec:((D:Int)+(L:Int)+(G:Int))=(N:Int))];have m:N<=20:=ec
 have a:bW w w5:=by rw [c];exact bA w _
 have b:w5.heap.size=w.heap.size+1:=by rw [c];simp
 have f:=al a b;clear a c1 g i h l c b;go_wp2_with (at_make;refine wB _ rfl (Z1 8) (Z1 8) rfl _ N rfl rfl rfl ec ?_;intro w6 d k n);go_ret;obtain ⟨a,b⟩:=f.o;have j:w6.heap.size=w.heap.size+2:=ec
 rw [b] at d ⊢;refine ⟨rfl,?_,?_,?_⟩
 . have:=Ug w6 (Z5 (rdA v 0 (w.heap.size+1) N 0 0) 200);rw [j] at this;exact this
 . exact d.of_block (UF _ _ _ ec)
 . exact (a.trans (k.mono a.size)).alloc ec _
section
structure Pq where
 lost:Nat
 nb:Nat
 s:Nat
 C:Ck
 ao:Option ZR
 m:Nat
 c:Nat
def Pq.cn (D L G:Nat) (q:Pq):Fw:=⟨D,L,G,(eL q.lost:Nat),fQ q.lost,1+((ab (aw (D+L+G) q.s)).length:Int),.slice q.ao q.m q.c⟩
def j7 (qs:List Pq):a8:=qs.map (·.nb)
def oW (sb:Nat) (qs:List Pq) (a:Nat):Prop:=a=sb\/a∈j7 qs
structure gM (w:ZU) (sb:Nat) (room:Int) (D L G:Nat) (es:List (Nat×Nat×Nat)) (qs:List Pq):Prop where
 list:fP w sb room
 RY:w.heap[sb+1+1+1]?=ZX (Z5 #[Z7 (ZX ⟨sb+1+1,0,ZY⟩)] 223 (0,0))
 map:∃ n,w.heap[sb+1]?=ZX (.map (dU D L G es).toArray n)
 ring:∃ cn nw ol,ph w (oW sb qs) cn nw ol/\vU nw ol sb (j7 qs) sb/\∀ q∈qs,cn q.nb=q.cn D L G
 nd:(sb::j7 qs).Nodup
 lo:(cO es).Nodup
 Tz:∀ e∈es,∃ q∈qs,q.lost=e.1/\q.nb=e.2.1
 qs_es:∀ q∈qs,∃ e∈es,e.1=q.lost/\e.2.1=q.nb
 len:es.length=qs.length
 SP:∀ q∈qs,sb+1+1+1<q.nb
 own:∀ q∈qs,w.ownsRow 0 299 4 (.slice q.ao q.m q.c) (bS D L G q.s q.C).length (ez .u8 (bS D L G q.s q.C))
 To:∀ q∈qs,∀ i,(eL q.lost).testBit i=ZW->q.s.testBit i=ZW
 told:∀ q∈qs,tells (jR D L G) (ab (aw (D+L+G) q.s))=ZX q.C
section
variable {w w':ZU} {sb:Nat} {room:Int} {D L G:Nat} {es:List (Nat×Nat×Nat)} {qs:List Pq}
def gM.apart (h:gM w sb room D L G es qs) (a:Nat) (b:oW sb qs a):a≠sb+1/\a≠sb+1+1/\a≠sb+1+1+1/\a<w.heap.size/\∃ cs,w.heap[a]?=ZX (Z5 cs 261 (0,0)):=by
 obtain ⟨cn,nw,ol,d,_,_⟩:=h.ring;have c:=d a b;refine ⟨?_,?_,?_,c.lt,_,c⟩;all_goals
  rcases b with rfl|b
  . omega
  . obtain ⟨q,e,rfl⟩:=T9.1 b;have:=h.SP q e;omega
def gM.steps (h:gM w sb room D L G es qs) {q:Pq} (f:q∈qs) {k:Nat} (d:(Value.slice q.ao q.m q.c).ownBlock=ZX k):¬ oW sb qs k:=λe=>by
 obtain ⟨_,_,_,_,cs,b⟩:=h.apart k e;obtain ⟨cur,a⟩:=bw (h.own q f) d;rw [b] at a;simp only [UB,UQ] at a;exact absurd a.2.1 ee
def MK (qs l r:List Pq) (q:Pq) (h:qs=l++q::r):j7 qs=j7 l++q.nb::j7 r:=by rw [h];simp [j7]
theorem RA (h:gM w sb room D L G es qs) {x:Nat} (Y:x∈cO es) :
 ∃ q t,q∈qs/\q.lost=x/\(∀ p,p∈t↔p∈qs)/\∀ W,gM W sb room D L G es qs->ZS ZN 173 #[Z7 (ZX ⟨sb+1+1,0,ZY⟩),bH D L G (eL x:Nat) (fQ x)] W λe w'=>e=Z4 (ZZ #[.agg #[Z8 Z9 (1+((ab (aw (D+L+G) q.s)).length:Int)),.slice q.ao q.m q.c],Z3 ZW])/\gM w' sb room D L G es t/\aa (oW sb qs) W w':=by
 obtain ⟨e,u,f⟩:=T9.1 Y;obtain ⟨k,H,M⟩:=UR u;obtain ⟨q,v,O,Z⟩:=h.Tz e u;obtain ⟨l,r,B⟩:=List.append_of_mem v;have d:∀ p,p∈q::(l++r)↔p∈qs:=λp=>by rw [B];simp only [Uv,Ui];constructor<;>(intro h;rcases h with h|h|h<;>simp [h])
 refine ⟨q,q::(l++r),v,O.trans f,d,λW h=>?_⟩;obtain ⟨cn,nw,ol,S,hL,K⟩:=h.ring;obtain ⟨n,P⟩:=h.map;have N:=MK qs l r q B;have i:=h.nd;rw [N] at hL i;have F:sb∉j7 l++q.nb::j7 r:=(UO.1 i).1;obtain ⟨U,hr,hs⟩:=vU.take hL i F;have X:∀ a,oW sb (q::(l++r)) a↔oW sb qs a:=λa=>by
  unfold oW j7;simp only [T9];constructor
  . rintro (e|⟨p,b,e⟩)
    . exact .inl e
    . exact .inr ⟨p,(d p).1 b,e⟩
  . rintro (e|⟨p,b,e⟩)
    . exact .inl e
    . exact .inr ⟨p,(d p).2 b,e⟩
 have E:∀ a,a∈sb::(j7 l++q.nb::j7 r)->oW sb qs a:=λa g=>by
  rcases Uv.1 g with e|e
  . exact .inl e
  . exact .inr (by rw [N];exact e)
 have I:oW sb qs (nw q.nb):=E _ (by
  rcases Uv.1 hr with e|e
  . rw [e];exact U8 ..
  . exact UJ _ (UG _ e))
 have J:oW sb qs (ol q.nb):=by
  rcases hs with e|e
  . exact E _ (UJ _ (VQ _ (UJ _ e)))
  . exact .inl e
 have R:oW sb qs (ol sb):=by
  rcases hL.Sc with e|e
  . exact .inl e.1
  . exact E _ (UJ _ e)
 have C:q.nb∉sb::(j7 l++j7 r):=by
  intro o;have A:=(UO.1 i).2;rcases Uv.1 o with e|e
  . exact F (by rw [<- e];simp)
  . rw [U9] at A;rcases Ui.1 e with e|e
    . exact A.2.2 _ e _ (U8 ..) rfl
    . exact (UO.1 A.2.1).1 e
 have z:(sb::(j7 l++j7 r)).Nodup:=by
  refine UO.2 ⟨λe=>F ?_,?_⟩
  . rcases Ui.1 e with e|e
    . exact UG _ e
    . exact VQ _ (UJ _ e)
  . exact YI (List.Sublist.append_left (List.sublist_cons_self _ _) _) (UO.1 i).2
 have T:=U.put z C;refine (Jh h.list P H h.lo (by rw [M];exact f) (by rw [M];exact Z.symm) S (λa g=>⟨(h.apart a g).1,(h.apart a g).2.1⟩) (.inr (T9.2 ⟨q,v,rfl⟩)) I J (.inl rfl) R (by rw [K q v,Pq.cn,O.trans f])).mono ?_;rintro e w' ⟨rfl,V,j⟩;have y:∀ a,sb<a->a<=sb+1+1+1->¬ oW sb qs a:=λa I J q=>by
  obtain ⟨q1,q2,q3,_⟩:=h.apart a q;rcases q with q|q
  . omega
  . obtain ⟨p,b,rfl⟩:=T9.1 q;have:=h.SP p b;omega
 have hll:sb+1+1+1<W.heap.size:=(TX.1 h.RY).1;refine ⟨rfl,⟨(j.block _ ec (y _ ec ec)).trans h.list,(j.block _ hll (y _ ec ec)).trans h.RY,⟨n,(j.block _ ec (y _ ec ec)).trans P⟩,⟨cn,_,_,λa g=>V a ((X a).1 g),?_,λp b=>K p ((d p).1 b)⟩,?_,h.lo,λe u=>?_,λp b=>h.qs_es p ((d p).1 b),?_,λp b=>h.SP p ((d p).1 b),λp b=>bR (h.own p ((d p).1 b)) j (λk H q=>h.steps ((d p).1 b) H q),λp b=>h.To p ((d p).1 b),λp b=>h.told p ((d p).1 b)⟩,j⟩
 . have e:j7 (q::(l++r))=q.nb::(j7 l++j7 r):=(by simp [j7]);rw [e];exact T
 . have e:j7 (q::(l++r))=q.nb::(j7 l++j7 r):=(by simp [j7]);rw [e,UO];refine ⟨λo=>?_,UO.2 ⟨λo=>C (UJ _ o),(UO.1 z).2⟩⟩;rcases Uv.1 o with e|e
   . exact C (by rw [<- e];exact U8 ..)
   . exact (UO.1 z).1 e
 . obtain ⟨p,b,Q⟩:=h.Tz e u;exact ⟨p,(d p).2 b,Q⟩
 . rw [h.len,B];simp;omega
end
end
section
section
variable {w w':ZU} {sb:Nat} {room:Int} {D L G:Nat} {es:List (Nat×Nat×Nat)} {qs:List Pq}
def vk:∀ (es:List (Nat×Nat×Nat)) (j:Nat),cO (es.eraseIdx j)=(cO es).eraseIdx j
 | [],_=>rfl
 | _::_,0=>rfl
 | e::es,j+1=>Ux (e.1::·) (vk es j)
def FD (h:l.Nodup) {i j:Nat} (a:i<l.length) (b:j<l.length) (e:l[i]=l[j]):i=j:=by
 rcases Nat.lt_trichotomy i j with q|q|q
 . exact absurd e (V3.1 h i j a b q)
 . exact q
 . exact absurd e.symm (V3.1 h j i b a q)
def AP (q:Pq) (qs:List Pq):j7 (q::qs)=q.nb::j7 qs:=rfl
theorem RB (h:gM w sb room D L G es qs) {x:Nat} (hx:x∉cO es) {s m c:Nat} {C:Ck} {ao:Option ZR} (ho:w.ownsRow 0 299 4 (.slice ao m c) (bS D L G s C).length (ez .u8 (bS D L G s C))) (hr:∀ i,(eL x).testBit i=ZW->s.testBit i=ZW) (ht:tells (jR D L G) (ab (aw (D+L+G) s))=ZX C) :
 ZS ZN 175 #[Z7 (ZX ⟨sb+1+1,0,ZY⟩),bH D L G (eL x:Nat) (fQ x),.agg #[Z8 Z9 (1+((ab (aw (D+L+G) s)).length:Int)),.slice ao m c]] w λe w'=>e=Z4 (ZZ #[])/\(∃ f R,gM w' sb room D L G f R/\∀ q∈R,q∈qs\/q=⟨x,w.heap.size+1+1,s,C,ao,m,c⟩)/\aa (λk=>oW sb qs k\/k=sb+1) w w':=by
 obtain ⟨cn,nw,ol,hN,hL,q8⟩:=h.ring;obtain ⟨n,hm⟩:=h.map;have hll:sb+1+1+1<w.heap.size:=(TX.1 h.RY).1;obtain ⟨N,kx⟩:∃ N,N=w.heap.size+1+1:=⟨_,rfl⟩;obtain ⟨g,z⟩:∃ g:Pq,g=⟨x,N,s,C,ao,m,c⟩:=⟨_,rfl⟩;have q5:∀ a,oW sb qs a->a<w.heap.size:=λa r=>(h.apart a r).2.2.2.1;have Y:N∉sb::j7 qs:=λe=>by
  have:=q5 N (by rcases Uv.1 e with e|e;exact .inl e;exact .inr e);omega
 have V:=hL.put h.nd Y;obtain ⟨A,ka⟩:∃ A,A=il (il nw N sb) (ol sb) N:=⟨_,rfl⟩;obtain ⟨E,kb⟩:∃ E,E=il (il ol N (ol sb)) sb N:=⟨_,rfl⟩;obtain ⟨cn',k0⟩:∃ cn',cn'=cnN cn N (g.cn D L G):=⟨_,rfl⟩;obtain ⟨f,H⟩:∃ f,f=es++[(x,N,n)]:=⟨_,rfl⟩;rw [<- ka,<- kb] at V;have h3:oW sb qs (ol sb):=by
  rcases hL.Sc with e|e
  . exact .inl e.1
  . exact .inr e
 have I:g.nb=N:=by rw [z]
 have kp:∀ q∈g::qs,cn' q.nb=q.cn D L G:=λq d=>by
  rw [k0];unfold cnN;rcases Uv.1 d with e|e
  . rw [e,I,TT rfl]
  . rw [TS (show ¬ q.nb=N from λt=>Y (UJ _ (by rw [<- t];exact T9.2 ⟨q,e,rfl⟩))),q8 q e]
 have km:(cO f).Nodup:=by
  have e:cO f=cO es++[x]:=by rw [H];simp [cO]
  rw [e,U9];exact ⟨h.lo,ek,λa r b hb e=>hx (by rw [U6] at hb;rw [<- hb,<- e];exact r)⟩
 have kv:∀ q∈g::qs,∃ e∈f,e.1=q.lost/\e.2.1=q.nb:=λq d=>by
  rcases Uv.1 d with e|e
  . exact ⟨(x,N,n),by rw [H];simp,by rw [e,z],by rw [e,z]⟩
  . obtain ⟨y,hy,o⟩:=h.qs_es q e;exact ⟨y,by rw [H];exact UG _ hy,o⟩
 have kr:∀ e∈f,∃ q∈g::qs,q.lost=e.1/\q.nb=e.2.1:=λe B=>by
  rw [H] at B;rcases Ui.1 B with o|o
  . obtain ⟨q,d,t⟩:=h.Tz e o;exact ⟨q,UJ _ d,t⟩
  . rw [U6] at o;exact ⟨g,U8 ..,by rw [o,z],by rw [o,z]⟩
 have k7:f.length=qs.length+1:=by rw [H,Ua,h.len];rfl
 have T:(sb::j7 (g::qs)).Nodup:=by
  rw [AP,I];refine UO.2 ⟨λe=>?_,UO.2 ⟨λe=>Y (UJ _ e),(UO.1 h.nd).2⟩⟩;rcases Uv.1 e with e|e
  . exact Y (by rw [<- e];exact U8 ..)
  . exact (UO.1 h.nd).1 e
 rw [<- I,<- AP] at V;obtain ⟨l,u,Q⟩:∃ l u,g::qs=l++[u]:=⟨(g::qs).dropLast,(g::qs).getLast ek,(List.dropLast_concat_getLast ek).symm⟩;have hv:u∈g::qs:=by rw [Q];simp
 have S:j7 (g::qs)=j7 l++u.nb::j7 []:=by rw [Q];simp [j7]
 have ko:=V;have U:=T;rw [S] at ko U;have F:A sb=u.nb:=by
  rw [ko.last ek];simp [j7]
 obtain ⟨hT,q6,q7⟩:=vU.take ko U (UO.1 U).1;have Z:∀ a,a∈sb::j7 (g::qs)->a=N\/oW sb qs a:=λa r=>by
  rw [AP,I] at r;rcases Uv.1 r with e|e
  . exact .inr (.inl e)
  . rcases Uv.1 e with e|e
    . exact .inl e
    . exact .inr (.inr e)
 have k6:∀ q∈g::qs,q.nb=u.nb->q∉l:=λq d e qd=>by
  have kz:=(UO.1 U).2;rw [U9] at kz;exact kz.2.2 q.nb (T9.2 ⟨q,qd,rfl⟩) u.nb ek e
 have kc:∀ q∈g::qs,q∈l\/q=u:=λq d=>by
  rw [Q] at d;rcases Ui.1 d with e|e
  . exact .inl e
  . exact .inr (U6.1 e)
 refine (Fy (cn':=cn') (regs:=1+((ab (aw (D+L+G) s)).length:Int)) (ao:=ao) (m:=m) (c:=c) h.list hm hx hN (λa r=>⟨(h.apart a r).1,(h.apart a r).2.1⟩) (.inl rfl) h3 kx (by rw [k0,z];rfl) ka kb H (λ_=>⟨km,?_⟩)).mono ?_
 . obtain ⟨e,B,o,t⟩:=kv u hv;obtain ⟨j,K,q4⟩:=UR B;refine ⟨j,K,by rw [q4,t,F],⟨_,_,by rw [F,kp u hv,q4,o];rfl⟩,?_,?_,?_⟩
   . rw [F];exact Z _ (UJ _ (T9.2 ⟨u,hv,rfl⟩))
   . rw [F];refine Z _ ?_;rw [S];rcases Uv.1 q6 with e|e
     . rw [e];exact U8 ..
     . exact UJ _ (UG _ e)
   . rw [F];rcases q7 with e|e
     . cases e
     . rw [e];exact .inr (.inl rfl)
 . rintro e w' ⟨rfl,hA,J⟩;have hh:∀ {v:ZT} {nn:Nat} {xs:List ZT},w.ownsRow 0 299 4 v nn xs->∀ k,v.ownBlock=ZX k->¬ (oW sb qs k\/k=sb+1):=λhw k M q=>by
    obtain ⟨cur,O⟩:=bw hw M;rcases q with q|q
    . obtain ⟨_,_,_,_,cs,hc⟩:=h.apart k q;rw [hc] at O;simp only [UB,UQ] at O;exact absurd O.2.1 ee
    . rw [q,hm] at O;cases O
   have k8:∀ a,sb+1<a->a<=sb+1+1+1->¬ (oW sb qs a\/a=sb+1):=λa h1 h2 q=>by
    rcases q with q|q
    . obtain ⟨q1,q2,q3,_⟩:=h.apart a q;rcases q with q|q
      . omega
      . obtain ⟨p,hp,rfl⟩:=T9.1 q;have:=h.SP p hp;omega
    . omega
   have hn:=(J.block (sb+1+1) ec (k8 _ ec ec)).trans h.list;have h6:=(J.block _ hll (k8 _ ec ec)).trans h.RY;have ky:∀ q∈g::qs,sb+1+1+1<q.nb:=λq d=>by
    rcases Uv.1 d with e|e
    . rw [e,I];omega
    . exact h.SP q e
   have ke:∀ q∈g::qs,w'.ownsRow 0 299 4 (.slice q.ao q.m q.c) (bS D L G q.s q.C).length (ez .u8 (bS D L G q.s q.C)):=λq d=>by
    rcases Uv.1 d with e|e
    . subst z;rw [e];exact bR ho J (λk M q=>hh ho k M q)
    . exact bR (h.own q e) J (λk M q'=>hh (h.own q e) k M q')
   have W:∀ q∈g::qs,(∀ i,(eL q.lost).testBit i=ZW->q.s.testBit i=ZW)/\tells (jR D L G) (ab (aw (D+L+G) q.s))=ZX q.C:=λq d=>by
    rcases Uv.1 d with e|e
    . subst z;rw [e];exact ⟨hr,ht⟩
    . exact ⟨h.To q e,h.told q e⟩
   have kg:∀ q∈g::qs,q∈qs\/q=⟨x,w.heap.size+1+1,s,C,ao,m,c⟩:=λq d=>by
    rcases Uv.1 d with e|e
    . right;rw [e,z,kx]
    . exact .inl e
   refine ⟨rfl,?_,J⟩;by_cases kf:((f.length:Nat):Int)<=room
   . obtain ⟨ks,X⟩:=hA.1 kf;exact ⟨f,g::qs,⟨hn,h6,ks,⟨cn',A,E,λa r=>X a (Z a (by rcases r with e|e;rw [e];exact U8 ..;exact UJ _ e)),V,kp⟩,T,km,kr,kv,by rw [k7];rfl,ky,ke,λq d=>(W q d).1,λq d=>(W q d).2⟩,kg⟩
   . obtain ⟨j,K,kk,ks,X⟩:=hA.2 ec;rw [F] at X kk;have hs:∀ q∈l,q∈g::qs:=λq d=>by rw [Q];exact UG _ d
     have qa:f[j].1=u.lost:=by
      obtain ⟨q,d,o,t⟩:=kr _ (T6 K);rcases kc q d with e|e
      . exact absurd e (k6 q d (by rw [t,kk]))
      . rw [<- o,e]
     have e0:cO (f.eraseIdx j)=(cO f).eraseIdx j:=vk _ _;have qc:j7 l++j7 []=j7 l:=(by simp [j7]);rw [qc] at hT;refine ⟨f.eraseIdx j,l,⟨hn,h6,ks,⟨cn',_,_,λa r=>X a (Z a ?_),hT,λq d=>kp q (hs q d)⟩,?_,?_,λe B=>?_,λq d=>?_,?_,λq d=>ky q (hs q d),λq d=>ke q (hs q d),λq d=>(W q (hs q d)).1,λq d=>(W q (hs q d)).2⟩,λq d=>kg q (hs q d)⟩
     . rw [S];rcases r with e|e
       . rw [e];exact U8 ..
       . exact UJ _ (UG _ e)
     . rw [S] at T;exact YI (List.Sublist.cons_cons _ (List.sublist_append_left _ _)) T
     . rw [e0];exact YI (List.eraseIdx_sublist _ _) km
     . obtain ⟨i,hi,qb,P⟩:=YM.1 B;obtain ⟨q,d,o,t⟩:=kr e (by rw [<- P];exact T6 _);refine ⟨q,(kc q d).resolve_right λeq=>?_,o,t⟩;subst eq;have q9:(cO f)[i]'(by simpa [cO] using hi)=(cO f)[j]'(by simpa [cO] using K):=by
        simp only [cO,UN,P,qa,o]
       exact qb (FD km _ _ q9)
     . obtain ⟨e,B,o,t⟩:=kv q (hs q d);obtain ⟨i,hi,P⟩:=UR B;refine ⟨e,YM.2 ⟨i,hi,λhd=>?_,P⟩,o,t⟩;subst hd;rw [P,t] at kk;exact k6 q (hs q d) kk d
     . have:(g::qs).length=l.length+1:=by rw [Q];simp
       rw [List.length_eraseIdx_of_lt K,k7];simp at this;omega
def O3 (sb:Nat) (qs:List Pq) (k:Nat):Prop:=(sb<=k/\k<=sb+1+1+1)\/k∈j7 qs\/∃ q∈qs,(Value.slice q.ao q.m q.c).ownBlock=ZX k
def DA {qs:List Pq} (h:oW sb qs k):O3 sb qs k:=h.elim (λe=>.inl ec) λe=>.inr (.inl e)
def gM.keep (h:gM w sb room D L G es qs) (b:∀ k,O3 sb qs k->w'.heap[k]?=w.heap[k]?):gM w' sb room D L G es qs:=by
 obtain ⟨cn,nw,ol,g,hL,f⟩:=h.ring;obtain ⟨n,i⟩:=h.map;exact ⟨(b _ (.inl ⟨ec,ec⟩)).trans h.list,(b _ (.inl ⟨ec,ec⟩)).trans h.RY,⟨n,(b _ (.inl ⟨ec,ec⟩)).trans i⟩,⟨cn,nw,ol,λa c=>(g a c).keep (b a (DA c)),hL,f⟩,h.nd,h.lo,h.Tz,h.qs_es,h.len,h.SP,λq d=>yD (h.own q d) λk e=>b k (.inr (.inr ⟨q,d,e⟩)),h.To,h.told⟩
def gM.blt (h:gM w sb room D L G es qs) (k:Nat) (a:O3 sb qs k):k<w.heap.size:=by
 have:sb+1+1+1<w.heap.size:=(TX.1 h.RY).1;rcases a with e|e|⟨q,b,e⟩
 . omega
 . exact (h.apart k (.inr e)).2.2.2.1
 . exact Q5 (h.own q b) e
def m4 (sb:Nat) (room:Int) (D L G:Nat) (es:List (Nat×Nat×Nat)) (qs:List Pq) (ho:Nat):aR where
 ps:=sb+1+1+1
 ho:=ho
 bl:=O3 sb qs
 S:=λw=>gM w sb room D L G es qs
 keep:=λ_ _ h hk=>h.keep hk
 kd:=λw h k hk cs T z e=>by
  rcases hk with ⟨h1,h2⟩|hk|⟨q,hq,hk⟩
  . have hx:k=sb\/k=sb+1\/k=sb+1+1\/k=sb+1+1+1:=by omega
    rcases hx with rfl|rfl|rfl|rfl
    . obtain ⟨_,_,_,_,cs',q⟩:=h.apart k (.inl rfl)
      rw [q] at e;injection e with e;injection e with _ e;exact .inr (.inr (.inl e.symm))
    . obtain ⟨n,q⟩:=h.map;rw [q] at e;injection e with e;cases e
    . have q:w.heap[sb+1+1]?=_:=h.list
      rw [q] at e;injection e with e;injection e with _ e;exact .inr (.inl e.symm)
    . rw [h.RY] at e;injection e with e;injection e with _ e;exact .inl e.symm
  . obtain ⟨_,_,_,_,cs',q⟩:=h.apart k (.inr hk)
    rw [q] at e;injection e with e;injection e with _ e;exact .inr (.inr (.inl e.symm))
  . obtain ⟨cur,q⟩:=bw (h.own q hq) hk
    rw [q] at e;injection e with e;injection e with _ e;exact .inr (.inr (.inr e.symm))
 lt:=λ_ h=>h.blt
 cl:=λw h k hk=>by
  rcases hk with ⟨h1,h2⟩|hk|⟨q,hq,hk⟩
  . have hx:k=sb\/k=sb+1\/k=sb+1+1\/k=sb+1+1+1:=by omega
    rcases hx with rfl|rfl|rfl|rfl
    . obtain ⟨_,_,_,_,cs',q⟩:=h.apart k (.inl rfl)
      exact .inr ⟨_,_,_,q⟩
    . exact .inl rfl
    . exact .inr ⟨_,_,_,h.list⟩
    . exact .inr ⟨_,_,_,h.RY⟩
  . obtain ⟨_,_,_,_,cs',q⟩:=h.apart k (.inr hk)
    exact .inr ⟨_,_,_,q⟩
  . obtain ⟨cur,q⟩:=bw (h.own q hq) hk
    exact .inr ⟨_,_,_,q⟩
def m6 (sb:Nat) (room:Int) (D L G:Nat) (ps:aR):Prop:=∃ es qs ho,ps=m4 sb room D L G es qs ho
end
end
def DB {qs qs':List Pq} (h:∀ p,p∈qs'↔p∈qs) (c:O3 sb qs' k):O3 sb qs k:=by
 rcases c with e|e|⟨q,a,e⟩
 . exact .inl e
 . obtain ⟨q,a,b⟩:=T9.1 e;exact .inr (.inl (T9.2 ⟨q,(h q).1 a,b⟩))
 . exact .inr (.inr ⟨q,(h q).1 a,e⟩)
def gM.cell {qs:List Pq} (h:gM w sb room D L G es qs):w.cell? ⟨sb+1+1+1,0,ZY⟩=ZX (Z7 (ZX ⟨sb+1+1,0,ZY⟩)):=by
 have a:=h.RY;simp [World.cell?,a]
theorem ML {qs:List Pq} (t:gM w sb room D L G es qs) {lost:Nat} (T:lost∈cO es):∃ q d,q∈qs/\q.lost=lost/\(∀ p,p∈d↔p∈qs)/\ZS ZN 145 #[Z7 (ZX ⟨sb+1+1+1,0,ZY⟩),bH D L G (eL lost:Nat) (fQ lost)] w λe w'=>nC D L G q.s q.ao q.m q.c e/\gM w' sb room D L G es d/\aa (oW sb qs) w w':=by
 obtain ⟨q,d,S,hr,B,E⟩:=RA t T;refine ⟨q,d,S,hr,B,?_⟩;obtain ⟨s,hs⟩:=nM (q.s);obtain ⟨ao,Q⟩:=nM (q.ao);obtain ⟨m,P⟩:=nM (q.m);obtain ⟨c,K⟩:=nM (q.c);rw [hs,Q,P,K] at E ⊢;clear hs Q P K;have f:=wH.new w D L G (eL lost:Nat) (fQ lost);obtain ⟨w2,hy⟩:=nM ((w.alloc (Z5 #[Z8 Z9 (D:Int),Z8 Z9 (L:Int),Z8 Z9 (G:Int),Z8 .u64 ((eL lost:Nat):Int),Z3 (fQ lost)] 221)).alloc (Z5 #[Z8 Z9 0,Z6 ZY 0 0] 206));rw [hy] at f;obtain ⟨c0,c1,V,W,X⟩:=f.cells;have j:∀ k,O3 sb qs k->k<w.heap.size:=t.blt;have g:∀ k,O3 sb d k->k<w.heap.size:=λk b=>j k (DB B b);have u:=t.keep λk b=>f.below.block k (j k b);have hv:=u.cell;obtain ⟨z,i⟩:∃ z:Int,1+((ab (aw (D+L+G) s)).length:Int)=z:=⟨_,rfl⟩;have J:∀ w',bW w2 w'->ZS ZN 173 #[Z7 (ZX ⟨sb+1+1,0,ZY⟩),bH D L G (eL lost:Nat) (fQ lost)] w' λe r=>e=Z4 (ZZ #[.agg #[Z8 Z9 z,.slice ao m c],Z3 ZW])/\gM r sb room D L G es d/\aa (oW sb qs) w' r:=λw' hb=>by
  rw [<- i];exact E w' (u.keep λk b=>hb.block k (T7 (j k b) f.below.size))
 have C:bW w2 (w2.alloc (Z5 #[Z8 Z9 0,Z6 ZY 0 0] 206)):=bA w2 _;obtain ⟨Y,d1,Z,d3,d4⟩:=(f.mono C).cells;have dp:=(u.keep λk b=>C.block k (T7 (j k b) f.below.size)).cell;have k5:=f.size;have O:∀ k,oW sb qs k->k<w.heap.size:=λk b=>j k (DA b);have M:=ak O;have H:=a5 f g i J;clear f J C t u g j O E B S hr T;unfold bH at H ⊢;unfold nC;rw [i];clear i;go_enter func145,ntmps145;go_upto_region 1 with fail;go_cut [6,7] from 10 to 18 (λv6 v7 wx=>v7=Z3 ZW/\∃ gb,v6=Z7 (ZX ⟨gb,0,ZY⟩)/\w2.heap.size<=gb/\wx.heap[gb]?=ZX (Z5 #[Z8 Z9 z,.slice ao m c] 206 (0,0))/\gM wx sb room D L G es d/\aa (oW sb qs) w2 wx)
 case first=>
  go_region_with (go_at_call 173;refine (H.o.2.2.2 _ ?_).mono ?_;(first|exact (TW _ _).drew|exact ((TW _ _).drew).alloc lR _);rintro e w3 ⟨rfl,h,a⟩;(try (have F:w3.heap[w2.heap.size]?=ZX (Z5 #[Z8 Z9 0,Z6 ZY 0 0] 206 (0,0)):=(a.block w2.heap.size ek (λq=>e9 (M.out _ q))).trans (Ug w2.drew _);obtain ⟨r0,r1,g1,g0⟩:=ay F;have U:=ak F;clear F));have I:aa (oW sb qs) w2 w3:=(by first|exact (aa.drew w2).trans a|exact aa.after ((bA w2 _).drew) a);have x:=al h I;clear h a I);all_goals (go_wp2_with fail;go_meet;case rel=>(
   obtain ⟨h,a⟩:=x.o;have g:=H.o.2.1;have hg:=a.size;first
    | (refine ⟨rfl,w2.heap.size,rfl,TV _,iV (y':=.slice ao m c) (iU (x':=Z8 Z9 z) U.o),h.keep λk b=>(fO w3 w2.heap.size 0 1 _ _).block k (e9 (g k b)) (e9 (g k b)),?_⟩
       have n:=fO w3 w2.heap.size 0 1 (Z8 Z9 z) (.slice ao m c);exact ⟨n.os.trans a.os,n.tape.trans a.tape,n.output.trans a.output,TU a.size n.size,λk y A=>(n.block k ec ec).trans (a.block k y A)⟩)
    | exact ⟨rfl,w3.heap.size,rfl,hg,Ug _ _,h.keep λk b=>UF _ _ _ (e9 (g k b)),a.os,a.tape,a.output,by rw [Ul];omega,λk y A=>(UF _ _ _ ec).trans (a.block k y A)⟩))
 case rest=>
  clear c0 c1 V W X Y d1 Z d3 d4 dp hv;rename ZU=>w3;obtain ⟨rfl,gb,rfl,k0,R,h,a⟩:=hcut;obtain ⟨f,g,i,_⟩:=H.o;have l:=(a.block (w.heap.size+1) ec (λq=>e9 (M.out _ q))).trans f.res;obtain ⟨q0,q1,g1,g0⟩:=ay l;obtain ⟨r0,r1,_,_⟩:=ay R;have x:=aE l h a;clear l h a R f g i;go_wp2;obtain ⟨l,h,a⟩:=x.o;obtain ⟨f,g,i,_⟩:=H.o;obtain ⟨n0,n1,_⟩:=ay (iV (y':=.slice ao m c) (iU (x':=Z8 Z9 z) l));have N:aa (λk=>k=w.heap.size+1) w3 ((w3.setCell ⟨w.heap.size+1,0,ZY⟩ (Z8 Z9 z)).setCell ⟨w.heap.size+1,1,ZY⟩ (.slice ao m c)):=fO w3 (w.heap.size+1) 0 1 _ _;refine Ut (v:=ZZ #[.agg #[Z8 Z9 z,.slice ao m c],.nilIface]) Y5 rfl ?_;exact ⟨rfl,h.keep λk b=>N.block k (by have:=g k b;have:=a.size;omega) (e9 (g k b)),(aa.after f.below a).later N (λk b q=>ec)⟩
section
def MM:¬ jX 213:=vf
section
variable {w':ZU} {D L G:Nat} {Kind:aR->Prop} {ps:aR}
def RD (D L G:Nat) (Kind:aR->Prop) (ps:aR) (l1:Nat) (w1:ZU) (v6 v7:ZT) (wx:ZU):Prop:=v7=.nilIface/\∃ gb ps' s C ao m c,v6=Z7 (ZX ⟨gb,0,ZY⟩)/\w1.heap.size<=gb/\wx.heap[gb]?=ZX (Z5 #[Z8 Z9 (1+((ab (aw (D+L+G) s)).length:Int)),.slice ao m c] 206 (0,0))/\DV D L G Kind ps ps' l1 s C ao m c w1.heap.size wx/\aa ps.bl w1 wx
def Jr {ps':aR} (e:DV D L G Kind ps ps' l1 s C ao m c w1.heap.size w3) (d:bW w1 w') (b:aa ps.bl w' w3) :
 RD D L G Kind ps l1 w1 (Z7 (ZX ⟨w3.heap.size,0,ZY⟩)) .nilIface (w3.alloc (Z5 #[Z8 Z9 (1+((ab (aw (D+L+G) s)).length:Int)),.slice ao m c] 206)):=by
 have a:bW w3 (w3.alloc (Z5 #[Z8 Z9 (1+((ab (aw (D+L+G) s)).length:Int)),.slice ao m c] 206)):=bA _ _;exact ⟨rfl,_,ps',s,C,ao,m,c,rfl,TU d.size b.size,Ug _ _,e.keep (T:=λ_=>False) (aa.RL a _) (λ_ q=>q.elim),(aa.after d b).trans (aa.RL a _)⟩
def FE {ps':aR} (n:DV D L G Kind ps ps' l1 s C ao m c (w1.heap.size+1) w3) (hl:∀ k,ps.bl k->k<w1.heap.size) (r:w2.heap.size=w1.heap.size) (o:bW w1 w2) (g:aa ps.bl (w2.alloc (Z5 #[Z8 Z9 0,Z6 ZY 0 0] 206)) w3) :
 RD D L G Kind ps l1 w1 (Z7 (ZX ⟨w1.heap.size,0,ZY⟩)) .nilIface ((w3.setCell ⟨w1.heap.size,0,ZY⟩ (Z8 Z9 (1+((ab (aw (D+L+G) s)).length:Int)))).setCell ⟨w1.heap.size,1,ZY⟩ (.slice ao m c)):=by
 have p:w3.heap[w1.heap.size]?=ZX (Z5 #[Z8 Z9 0,Z6 ZY 0 0] 206 (0,0)):=(g.block w1.heap.size (by rw [Ul];omega) (λq=>e9 (hl _ q))).trans (by rw [<- r];exact Ug _ _);have b:=fO w3 w1.heap.size 0 1 (Z8 Z9 (1+((ab (aw (D+L+G) s)).length:Int))) (.slice ao m c);have j:DV D L G Kind ps ps' l1 s C ao m c w1.heap.size ((w3.setCell ⟨w1.heap.size,0,ZY⟩ (Z8 Z9 (1+((ab (aw (D+L+G) s)).length:Int)))).setCell ⟨w1.heap.size,1,ZY⟩ (.slice ao m c)):=by
  have h:=n.keep b (λk (q:k=w1.heap.size)=>⟨ec,λe=>e9 (hl k e)⟩);exact ⟨h.kind,h.psE,h.hoE,h.kit,λk d=>(h.bl k d).imp id ec,λk d=>(h.ob k d).imp id ec,h.own,h.To,h.told⟩
 have l:bW w1 (w2.alloc (Z5 #[Z8 Z9 0,Z6 ZY 0 0] 206)):=o.alloc ec _;have a:=aa.after l g;exact ⟨rfl,_,ps',s,C,ao,m,c,rfl,TV _,iV (iU p),j,b.os.trans a.os,b.tape.trans a.tape,b.output.trans a.output,TU a.size b.size,λk f i=>(b.block k (T7 f a.size) ec).trans (a.block k f i)⟩
end
end
section
section
variable (D L G lost:Nat) (hr:cW D L G=ZW) (hD1:1<=D) (hD:D<=12) (hL:1<=L) (hL4:L<=4) (hG:G<=4) (hdiv:D%L=0) (h16:D+L+G<=16) (hl:lost<2^(D+L+G))
include hr hD1 hD hL hL4 hG hdiv h16 hl
theorem Js (rd:Bool) (w:ZU) (g:aG w) (i:3<=w.heap.size):ZS ZN 174 #[bH D L G lost rd] w (Ro D L G lost w):=by
 have a:=wH.new w D L G lost rd;obtain ⟨w2,n⟩:=nM ((w.alloc (Z5 #[Z8 Z9 (D:Int),Z8 Z9 (L:Int),Z8 Z9 (G:Int),Z8 .u64 (lost:Int),Z3 rd] 221)).alloc (Z5 #[Z8 Z9 0,Z6 ZY 0 0] 206));rw [n] at a;obtain ⟨c0,c1,t,u,x⟩:=a.cells;have l:=Dm D L G lost hr hD1 hD hL hL4 hG hdiv h16 hl w2 (g.mono ec a.below) (TU i a.below.size);have j:=rE D L G lost hr hD1 hD hL hL4 hG hdiv h16 hl w2 (g.mono ec a.below) (TU i a.below.size);have H:=aE a l j;clear a j l g;unfold bH;cases rd;all_goals (
  go_enter func174,ntmps174;go_wp2_with fail;first|refine H.o.2.1.mono ?_|refine H.o.2.2.mono ?_
  rintro e w3 ⟨z,ao,m,c,er,rfl,b,f⟩;have a:=H.o.1;have hs:=a.size;have d:=(b.block (w.heap.size+1) ec).trans a.res;obtain ⟨K,M,J,I⟩:=ay d;have r:=a5 f b d hs;clear f b d c0 c1 t u x n a;go_wp2;obtain ⟨f,b,d,hs⟩:=r.o;obtain ⟨n0,B,_⟩:=ay (iV (y':=.slice ao m c) (iU (x':=Z8 Z9 z) d));refine Ut (v:=ZZ #[.agg #[Z8 Z9 z,.slice ao m c],er]) (by simp [results,results174,go_sem,n0,B]) rfl ?_;have y:bW w w3:=H.o.1.below.trans (b.mono H.o.1.below.size);refine ⟨z,ao,m,c,er,rfl,(y.setCell (p:=⟨w.heap.size+1,0,ZY⟩) eP _).setCell (p:=⟨w.heap.size+1,1,ZY⟩) eP _,?_⟩;rcases f with q|⟨E,s,C,q1,q2,F,k⟩
  . exact .inl q
  . have h:(Value.slice ao m c).ownBlock≠ZX (w.heap.size+1):=λe=>by have:=jO k e;omega
    have A:=(k.kept (dy w3 (w.heap.size+1) 0 (Z8 Z9 z)) (.inr h)).kept (dy _ (w.heap.size+1) 1 (.slice ao m c)) (.inr h);exact .inr ⟨E,s,C,q1,q2,F,gw A ec⟩)
end
def PlA (sb:Nat) (room:Int) (D L G x:Nat) (qs:List Pq) (w w':ZU) (z:Int) (ao:Option ZR) (m c:Nat) (er:ZT):Prop:=(er=.iface 66 (Z8 Z9 3)/\z=0/\ao=ZY/\m=0/\c=0/\¬ gu D L G (eL x)/\bW w w')\/(er=.nilIface/\∃ s C es' qs',(∀ i,(eL x).testBit i=ZW->s.testBit i=ZW)/\tells (jR D L G) (ab (aw (D+L+G) s))=ZX C/\z=1+((ab (aw (D+L+G) s)).length:Int)/\w'.ownsRow w.heap.size 299 4 (.slice ao m c) (bS D L G s C).length (ez .u8 (bS D L G s C))/\gM w' sb room D L G es' qs'/\(∀ q∈qs',q∈qs\/(w.heap.size<=q.nb/\∀ k,(Value.slice q.ao q.m q.c).ownBlock=ZX k->w.heap.size<=k))/\aa (λk=>oW sb qs k\/k=sb+1) w w')
section
variable (D L G x:Nat) (hr:cW D L G=ZW) (hD1:1<=D) (hD:D<=12) (hL:1<=L) (hL4:L<=4) (hG:G<=4) (hdiv:D%L=0) (h16:D+L+G<=16) (hl:eL x<2^(D+L+G))
include hr hD1 hD hL hL4 hG hdiv h16 hl
theorem MN {qs:List Pq} (V:gM w sb room D L G es qs) (hx:x∉cO es) (hT:aG w) (h2:3<=w.heap.size):ZS ZN 145 #[Z7 (ZX ⟨sb+1+1+1,0,ZY⟩),bH D L G (eL x:Nat) (fQ x)] w λe w'=>∃ z ao m c er,e=Z4 (ZZ #[.agg #[Z8 Z9 z,.slice ao m c],er])/\PlA sb room D L G x qs w w' z ao m c er:=by
 have j:=wH.new w D L G (eL x:Nat) (fQ x);obtain ⟨w2,q4⟩:=nM ((w.alloc (Z5 #[Z8 Z9 (D:Int),Z8 Z9 (L:Int),Z8 Z9 (G:Int),Z8 .u64 ((eL x:Nat):Int),Z3 (fQ x)] 221)).alloc (Z5 #[Z8 Z9 0,Z6 ZY 0 0] 206));rw [q4] at j;obtain ⟨c0,c1,R,S,U⟩:=j.cells;have g:=V.keep λk a=>j.below.block k (V.blt k a);have k7:=g.list;obtain ⟨n,k8⟩:=g.map;have q2:=g.cell;have hy:∀ w',bW w2 w'->ZS ZN 173 #[Z7 (ZX ⟨sb+1+1,0,ZY⟩),bH D L G (eL x:Nat) (fQ x)] w' λe hd=>e=Z4 (ZZ #[.agg #[Z8 Z9 0,Z6 ZY 0 0],Z3 ZV])/\bW w' hd:=λw' hb=>Fx ((hb.block _ (TX.1 k7).1).trans k7) ((hb.block _ (TX.1 k8).1).trans k8) hx;have ka:bW w2 (w2.alloc (Z5 #[Z8 Z9 0,Z6 ZY 0 0] 206)):=bA w2 _;obtain ⟨d0,d1,d2,d3,d4⟩:=(j.mono ka).cells;have dp:=(g.keep λk a=>ka.block k (g.blt k a)).cell;have ke:=aE (TX.1 V.RY).1 (λk (a:oW sb qs k)=>V.blt k (DA a)) hx;have q6:=j.size;have H:=aE j g hy;clear j g hy k7 k8 V ka hx;unfold bH at H ⊢;go_enter func145,ntmps145;go_upto_region 1 with fail;go_cut [6,7] from 10 to 18 (λv6 v7 wx=>v7=Z3 ZV/\bW w2 wx)
 case first=>
  go_region_with (go_at_call 173;refine (H.o.2.2 _ ?_).mono ?_;(first|exact (TW _ _).drew|exact ((TW _ _).drew).alloc lR _);rintro e w3 ⟨rfl,A⟩;(try (have q3:w3.heap[w2.heap.size]?=ZX (Z5 #[Z8 Z9 0,Z6 ZY 0 0] 206 (0,0)):=(A.block w2.heap.size ek).trans (Ug w2.drew _);obtain ⟨r0,r1,g1,g0⟩:=ay q3;clear q3));have hv:bW w2 w3:=(by first|exact ((TW _ w2).drew).trans A|exact ((bA w2 _).drew).trans (A.mono ek));have O:=ak hv;clear A hv);all_goals (go_wp2_with fail;go_meet;case rel=>(refine ⟨rfl,?_⟩;first|exact O.o.alloc O.o.size _|exact (O.o.setCell (p:=⟨w2.heap.size,0,ZY⟩) lR _).setCell (p:=⟨w2.heap.size,1,ZY⟩) lR _))
 case rest=>
  clear c0 c1 R S U d0 d1 d2 d3 d4 dp q2;rename ZU=>w3;obtain ⟨rfl,A⟩:=hcut;obtain ⟨j,g,_⟩:=H.o;have f:=j.mono A;have J:=g.keep λk a=>A.block k (g.blt k a);obtain ⟨c0,c1,R,S,U⟩:=f.cells;have kb:=Js D L G (eL x) hr hD1 hD hL hL4 hG hdiv h16 hl (fQ x) w3 (hT.mono ec f.below) (TU h2 f.below.size);unfold bH at kb;have O:=aE f J kb;clear j g f J kb A hT;go_wp2_with fail;refine O.o.2.2.mono ?_;rintro e d ⟨z,ao,m,c,er,rfl,K,kv⟩;clear c0 c1 R S U;obtain ⟨f,J,_⟩:=O.o;have q5:=f.size;rcases kv with ⟨rfl,rfl,rfl,rfl,rfl,ki⟩|⟨rfl,s,C,M,I,N,kj⟩
  . have kr:=ak ki;clear ki;have F:bW d (d.alloc (Z5 #[Z8 Z9 0,Z6 ZY 0 0] 206)):=bA d _;have t:=K.trans (F.mono K.size);have W:=(t.block (w.heap.size+1) ec).trans f.res;have h:(d.alloc (Z5 #[Z8 Z9 0,Z6 ZY 0 0] 206)).heap[d.heap.size]?=ZX (Z5 #[Z8 Z9 0,Z6 ZY 0 0] 206 (0,0)):=Ug _ _;obtain ⟨q0,q1,g1,g0⟩:=ay W;obtain ⟨r0,r1,_,_⟩:=ay h;have Z:bW w (d.alloc (Z5 #[Z8 Z9 0,Z6 ZY 0 0] 206)):=f.below.trans (t.mono f.below.size);have Q:=al W Z;clear K F t W h Z f J;go_wp2;obtain ⟨W,Z⟩:=Q.o;obtain ⟨n0,n1,_⟩:=ay (iV (y':=Z6 ZY 0 0) (iU (x':=Z8 Z9 0) W));refine Ut (v:=ZZ #[.agg #[Z8 Z9 0,Z6 ZY 0 0],.iface 66 (Z8 Z9 3)]) Y5 rfl ⟨0,ZY,0,0,_,rfl,.inl ⟨rfl,rfl,rfl,rfl,rfl,kr.out,?_⟩⟩;exact (Z.setCell (p:=⟨w.heap.size+1,0,ZY⟩) eP _).setCell (p:=⟨w.heap.size+1,1,ZY⟩) eP _
  have kp:=ak (show w.heap.size+2<=w3.heap.size/\w3.heap.size<=d.heap.size from ⟨f.size,K.size⟩);have F:bW d (d.alloc (Z5 #[Z8 Z9 z,.slice ao m c] 206)):=bA d _;have t:=K.trans (F.mono K.size);have i:=f.mono t;have y:=J.keep λk a=>t.block k (J.blt k a);have kk:=y.cell;have h:(d.alloc (Z5 #[Z8 Z9 z,.slice ao m c] 206)).heap[d.heap.size]?=ZX (Z5 #[Z8 Z9 z,.slice ao m c] 206 (0,0)):=Ug _ _;have u:=aq kj F;obtain ⟨w5,kc⟩:=nM (d.alloc (Z5 #[Z8 Z9 z,.slice ao m c] 206));rw [kc] at F t i y kk h u;obtain ⟨c0,c1,R,S,U⟩:=i.cells;obtain ⟨r0,r1,_,_⟩:=ay h;have Y:=RB (w:=w5.drew) (y.keep λ_ _=>rfl) ke.out.2.2 (show w5.drew.ownsRow 0 299 4 (.slice ao m c) (bS D L G s C).length (ez .u8 (bS D L G s C)) from gw (aq u (TW _ w5).drew) (T8 _)) M I;rw [<- N] at Y;unfold bH at Y;have Q:=hide8 i y h u Y M I N;clear kj K F t i y h u Y f J M I N;go_upto_region 6 with fail;go_cut [34] from 28 to 33 (λ_v wx=>(∃ l b,gM wx sb room D L G l b/\∀ q∈b,q∈qs\/q=⟨x,w5.drew.heap.size+1+1,s,C,ao,m,c⟩)/\aa (λk=>oW sb qs k\/k=sb+1) w5.drew wx)
  case first=>
   go_region_with (go_at_call 175;refine Q.o.2.2.2.2.1.mono ?_;rintro e w6 ⟨rfl,r,hs⟩;have H6:=al r hs;clear r hs);all_goals (go_wp2_with fail;go_meet;case rel=>exact H6.o)
  case rest=>
   rename ZU=>w6;clear c0 c1 R S U r0 r1 kk;obtain ⟨⟨l,b,r,k5⟩,hs⟩:=hcut;obtain ⟨i,y,h,u,_,M,I,N⟩:=Q.o;have E:aa (λk=>oW sb qs k\/k=sb+1) w5 w6:=(aa.drew w5).trans hs;obtain ⟨ko,kg,_⟩:=ke.out;have km:=i.size;have kz:d.heap.size<w5.heap.size:=(TX.1 h).1;have kf:=kp.out;have k6:∀ k,w.heap.size<=k->¬ (oW sb qs k\/k=sb+1):=λk h1 q=>by
    rcases q with q|q
    . have:=kg k q;omega
    . omega
   have B:=(E.block (w.heap.size+1) ec (k6 _ ec)).trans i.res;have kh:=(E.block d.heap.size kz (k6 _ ec)).trans h;have P:w6.ownsRow w3.heap.size 299 4 (.slice ao m c) (bS D L G s C).length (ez .u8 (bS D L G s C)):=bR u E (λk a q=>k6 k (e9 (dY u a)) q);obtain ⟨q0,q1,g1,g0⟩:=ay B;obtain ⟨r0,r1,_,_⟩:=ay kh;have q7:w5.drew.heap.size=w5.heap.size:=rfl;have X:∀ q∈b,q∈qs\/(w.heap.size<=q.nb/\∀ k,(Value.slice q.ao q.m q.c).ownBlock=ZX k->w.heap.size<=k):=λq hq=>(k5 q hq).imp id λe=>by
    subst e;exact ⟨by show w.heap.size<=w5.drew.heap.size+1+1;omega,λk a=>e9 (dY P a)⟩
   have H6:=hide9 B r P E X km ko kf y.blt;clear r k5 X hs i y h u E B kh P M I N kg k6;go_wp2;obtain ⟨B,r,P,E,X,km,ko,kf,ks⟩:=H6.o;obtain ⟨n0,n1,_⟩:=ay (iV (y':=.slice ao m c) (iU (x':=Z8 Z9 z) B));have k9:aa (λk=>k=w.heap.size+1) w6 ((w6.setCell ⟨w.heap.size+1,0,ZY⟩ (Z8 Z9 z)).setCell ⟨w.heap.size+1,1,ZY⟩ (.slice ao m c)):=fO w6 (w.heap.size+1) 0 1 _ _;refine Ut (v:=ZZ #[.agg #[Z8 Z9 z,.slice ao m c],.nilIface]) Y5 rfl ?_;obtain ⟨i,_,_,_,_,M,I,N⟩:=Q.o;have kx:∀ k,O3 sb b k->k≠w.heap.size+1:=λk a e=>by
    obtain ⟨cs,T,zz,ky⟩:∃ cs T zz,w6.heap[k]?=ZX (Z5 cs T zz):=⟨_,_,_,by rw [e];exact B⟩;rw [e,B] at ky;have:=(m4 sb room D L G l b 0).kd w6 r k a _ _ _ (by rw [e];exact B);exact absurd this vf
   exact ⟨z,ao,m,c,_,rfl,.inr ⟨rfl,s,C,l,b,M,I,N,gw (bR P k9 (λk a q=>e9 (dY P a))) ec,r.keep λk a=>k9.block k (r.blt k a) (kx k a),X,(aa.after i.below E).later k9 (λk a q=>ec)⟩⟩
end
end
section
def PnA (D L G:Nat) (Kind:aR->Prop) (ps:aR) (lost:Nat) (w:ZU) (e:ZQ) (w':ZU):Prop:=(e=uS/\¬ gu D L G lost/\bW w w')\/∃ (ps':aR) (s:Nat) (C:Ck) (ao:Option ZR) (m c:Nat),nC D L G s ao m c e/\DV D L G Kind ps ps' lost s C ao m c w.heap.size w'/\aa ps.bl w w'
section
variable (D L G:Nat) (hr:cW D L G=ZW) (hD1:1<=D) (hD:D<=12) (hL:1<=L) (hL4:L<=4) (hG:G<=4) (hdiv:D%L=0) (h16:D+L+G<=16)
include hr hD1 hD hL hL4 hG hdiv h16
def MO {x:Nat} (hl:eL x<2^(D+L+G)) {w:ZU} {sb:Nat} {room:Int} {ps:aR} (hK:m6 sb room D L G ps) (A:ps.S w) (B:aG w) (b:3<=w.heap.size):ZS ZN 145 #[Z7 (ZX ⟨ps.ps,0,ZY⟩),bH D L G (eL x:Nat) (fQ x)] w (PnA D L G (m6 sb room D L G) ps (eL x) w):=by
 obtain ⟨es,qs,ho,rfl⟩:=hK;have r:gM w sb room D L G es qs:=A;by_cases t:x∈cO es
 . obtain ⟨q,a,g,I,l,H⟩:=ML r t;refine H.mono ?_;rintro e w' ⟨u,b,h⟩;have i:=(l q).2 g;exact .inr ⟨m4 sb room D L G es a ho,q.s,q.C,q.ao,q.m,q.c,u,⟨⟨es,a,ho,rfl⟩,rfl,rfl,b,λk d=>.inl (DB l d),λk d=>.inl (.inr (.inr ⟨q,g,d⟩)),b.own q i,I▸b.To q i,b.told q i⟩,h.mono λk _ e=>DA e⟩
 . refine (MN D L G x hr hD1 hD hL hL4 hG hdiv h16 hl r t B b).mono ?_;rintro e w' ⟨z,ao,m,c,er,rfl,⟨rfl,rfl,rfl,rfl,rfl,E,F⟩|⟨rfl,s,C,f,a,b,h,rfl,n,v,o,y⟩⟩
   . exact .inl ⟨rfl,E,F⟩
   refine .inr ⟨m4 sb room D L G f a ho,s,C,ao,m,c,rfl,⟨⟨f,a,ho,rfl⟩,rfl,rfl,v,λk d=>?_,λk d=>.inr (dY n d),gw n (T8 _),b,h⟩,y.mono λk _ e=>?_⟩
   . rcases d with q|q|⟨q,g,q1⟩
     . exact .inl (.inl q)
     . obtain ⟨p,J,j⟩:=T9.1 q;rcases o p J with q2|q2
       . exact .inl (.inr (.inl (T9.2 ⟨p,q2,j⟩)))
       . exact .inr (j▸q2.1)
     . rcases o q g with q2|q2
       . exact .inl (.inr (.inr ⟨q,q2,q1⟩))
       . exact .inr (q2.2 k q1)
   . rcases e with e|e
     . exact DA e
     . exact .inl ec
theorem yV {ps:aR} (hK:m6 sb room D L G ps) {w:ZU} (N:ps.S w) (X:aG w) (i:3<=w.heap.size) {l:Nat} (Z:l<2^(D+L+G)) {f:FuncId} {b:Bool} (hf:(f=168/\b=ZW)\/(f=113/\b=ZV)):ZS ZN f #[Z7 (ZX ⟨ps.ps,0,ZY⟩),.agg #[Z8 Z9 D,Z8 Z9 L,Z8 Z9 G],Z8 .u64 l] w (PnA D L G (m6 sb room D L G) ps l w):=by
 have a:=CI.new w D L G;have j:((w.alloc (Z5 #[Z8 Z9 (D:Int),Z8 Z9 (L:Int),Z8 Z9 (G:Int)] 27)).alloc (Z5 #[Z8 Z9 0,Z6 ZY 0 0] 206)).heap.size=w.heap.size+2:=ek
 obtain ⟨w2,T⟩:=nM ((w.alloc (Z5 #[Z8 Z9 (D:Int),Z8 Z9 (L:Int),Z8 Z9 (G:Int)] 27)).alloc (Z5 #[Z8 Z9 0,Z6 ZY 0 0] 206));rw [T] at a j;obtain ⟨c0,c1,V⟩:=fx a.par;have Q:eL (2*l+b.toNat)=l:=by cases b<;>simp [eL]<;>omega
 have W:fQ (2*l+b.toNat)=b:=by cases b<;>simp [fQ]<;>omega
 have O:=MO D L G hr hD1 hD hL hL4 hG hdiv h16 (x:=2*l+b.toNat) (by rw [Q];exact Z) hK (ps.keep _ _ N λk d=>a.below.block k (ps.lt _ N k d)) (X.mono ec a.below) (TU i a.below.size);rw [Q,W] at O;unfold bH at O;have H:=a5 a j O (ps.lt _ N);clear a j O N X Z Q W;rcases hf with ⟨rfl,rfl⟩|⟨rfl,rfl⟩;go_enter func168,ntmps168;rotate_left
 go_enter func113,ntmps113;all_goals (
  go_wp2_with fail;refine H.o.2.2.1.mono ?_;rintro e w3 (⟨rfl,hq,A⟩|⟨h,s,C,ao,m,c,Y,hP,y⟩)
  . unfold uS;have hs:=ak hq;clear hq;obtain ⟨a,j,_,B⟩:=H.o;have g:=(A.block (w.heap.size+1) ec).trans a.res;obtain ⟨r0,r1,g1,g0⟩:=ay g;have P:=al g (a.below.trans (A.mono a.below.size));clear A g c0 c1 V T a;go_wp2;obtain ⟨g,A⟩:=P.o;obtain ⟨n0,U,_⟩:=ay (iV (y':=Z6 ZY 0 0) (iU (x':=Z8 Z9 0) g));refine Ut (v:=ZZ #[.agg #[Z8 Z9 0,Z6 ZY 0 0],.iface 66 (Z8 Z9 3)]) (by simp [results,results168,results113,go_sem,n0,U]) rfl (.inl ⟨rfl,hs.out,?_⟩);exact (A.setCell (p:=⟨w.heap.size+1,0,ZY⟩) eP _).setCell (p:=⟨w.heap.size+1,1,ZY⟩) eP _
  . obtain ⟨F,i,I,r,t,u,J,K,M⟩:=hP;unfold nC at Y;subst Y;obtain ⟨z,E⟩:∃ z:Int,1+((ab (aw (D+L+G) s)).length:Int)=z:=⟨_,rfl⟩;rw [E];obtain ⟨a,j,_,B⟩:=H.o;have g:=(y.block (w.heap.size+1) ec (λq=>e9 (B _ q))).trans a.res;obtain ⟨r0,r1,g1,g0⟩:=ay g;have P:=hide12 F i I r t u J K M y g E;clear F i I r t u J K M y g c0 c1 V T E a;go_wp2;obtain ⟨F,i,I,r,t,u,J,K,M,y,g,E⟩:=P.o;obtain ⟨a,j,_,B⟩:=H.o;obtain ⟨n0,U,_⟩:=ay (iV (y':=.slice ao m c) (iU (x':=Z8 Z9 z) g));have R:aa (λk=>k=w.heap.size+1) w3 ((w3.setCell ⟨w.heap.size+1,0,ZY⟩ (Z8 Z9 z)).setCell ⟨w.heap.size+1,1,ZY⟩ (.slice ao m c)):=fO w3 (w.heap.size+1) 0 1 _ _;have hv:∀ k,h.bl k->k≠w.heap.size+1:=λk d=>by rcases t k d with q|q;have:=B k q;omega;omega
    refine Ut (v:=ZZ #[.agg #[Z8 Z9 z,.slice ao m c],.nilIface]) (by simp [results,results168,results113,go_sem,n0,U]) rfl ?_;have n:=(y.mono λ_ _ q=>(.inl q:_\/_)).trans (R.mono λk _ q=>(.inr q:ps.bl k\/_));refine .inr ⟨h,s,C,ao,m,c,by unfold nC;rw [E],⟨F,i,I,h.keep _ _ r λk d=>R.block k (h.lt _ r k d) (hv k d),λk d=>?_,λk d=>?_,bR J R λk d q=>?_,K,M⟩,⟨n.os.trans a.below.os,n.tape.trans a.below.tape,n.output.trans a.below.output,TU a.below.size n.size,λk d hn=>(n.block k (e9 a.below.size) (λq=>q.elim hn ec)).trans (a.below.block k d)⟩⟩
    . rcases t k d with q|q
      . exact .inl q
      . exact .inr ec
    . rcases u k d with q|q
      . exact .inl q
      . exact .inr ec
    . rcases u k d with q'|q'
      . have:=B k q';omega
      . omega)
end
end
section
structure qK (w:ZU) (r v b g N p D L G:Nat) (Kind:aR->Prop) (ps:aR) (A:az) (F:aK) (dl:a8):Prop where
 vol:pG w v p D L G ps.ps ps.ho A F
 nN:N=D+L+G
 hol:ps.ho<2^N
 kit:ps.S w
 kind:Kind ps
 apt:∀ k,ps.bl k->3<=k/\k≠v/\¬ F.S k
 vr:v≠r
 vg:v≠g
 rg:r≠g
 gF:¬ F.S g
 rF:¬ F.S r
 rK:3<=r
 vK:3<=v
 gK:3<=g
 nb:b<A.nb
 cw:A.at b (PP D L G dl)
 len:dl.length<=D*44
 byt:∀ x∈dl,x<256
 fine:A.fine D L G
structure qM (w0:ZU) (r v b g N p D L G:Nat) (A:az) (F:aK) (Kind:aR->Prop) (ps ps1:aR) (dl:a8) (sp gone hl:Nat) (ds:a8) (f:Nat->ZT) (w:ZU):Prop where
 rd:dZ w r v b g N gone sp
 vol:pG w v p D L G ps.ps hl A F
 row:w.rowIs g 40 N f
 kn:Kn w w0.heap.size wE f (vT D L G dl) ds
 kit:ps1.S w
 kind:Kind ps1
 psE:ps1.ps=ps.ps
 bl:∀ k,ps1.bl k->ps.bl k\/w0.heap.size<=k
 out:aa (λk=>k=g\/k=r\/k=v\/F.S k\/ps.bl k) w0 w
 okd:∀ i∈ds,gnB A b i=ZV/\i<N
 gol:gone<2^N
 hll:hl<2^N
 spl:sp<2^N
 gb:∀ i,gone.testBit i=ZW->gnB A b i=ZW
section
variable {w0 w w':ZU} {r v b g N p D L G:Nat} {Kind:aR->Prop} {ps ps1:aR} {A:az} {F:aK} {dl:a8} {sp gone hl:Nat} {ds:a8} {f:Nat->ZT}
def qM.apart (h:qM w0 r v b g N p D L G A F Kind ps ps1 dl sp gone hl ds f w) (hs:qK w0 r v b g N p D L G Kind ps A F dl) (hr:r<w0.heap.size) (i:g<w0.heap.size) (c:¬ ps.bl r) (a:¬ ps.bl g) (k:Nat) (d:ps1.bl k):3<=k/\k≠v/\k≠r/\k≠g/\¬ F.S k:=by
 rcases h.bl k d with q|q
 . exact ⟨(hs.apt k q).1,(hs.apt k q).2.1,λe=>c (e▸q),λe=>a (e▸q),(hs.apt k q).2.2⟩
 . have:=hs.vol.vol.lt;have:=hs.vol.room;exact ⟨ec,ec,ec,ec,λe=>e9 (hs.vol.arr.RN e)⟩
def pG.TB (h:pG w v p D L G q ho A F) {T:Nat->Prop} (a:aa T w w') (b:∀ k,T k->3<=k/\k≠v/\¬ F.S k):pG w' v p D L G q ho A F:=by
 exact { h with vol:=h.vol.keep (a.block _ h.vol.lt λq=>(b _ q).2.1 rfl),arr:=h.arr.keep (λk c=>a.block k (h.arr.RN c) λq=>(b k q).2.2 c),laid:=h.laid.keep (a.block _ h.laid.lt λq=>e9 ((b _ q).1)),tab:=h.tab.keep (a.block _ h.tab.lt λq=>e9 ((b _ q).1)),room:=TU h.room a.size }
def qM.SB (h:qM w0 r v b g N p D L G A F Kind ps ps1 dl sp gone hl ds f w) (c:∀ k,ps1.bl k->3<=k/\k≠v/\k≠r/\k≠g/\¬ F.S k) {ps2:aR} (a:aa ps1.bl w w') (l:ps2.S w') (hK:Kind ps2) (o:ps2.ps=ps1.ps) (s:∀ k,ps2.bl k->ps1.bl k\/w.heap.size<=k):qM w0 r v b g N p D L G A F Kind ps ps2 dl sp gone hl ds f w':=by
 have u:=h.out.size;refine { h with rd:=h.rd.keep (a.block _ h.rd.lt λq=>(c _ q).2.2.1 rfl),vol:=h.vol.TB a λk q=>⟨(c k q).1,(c k q).2.1,(c k q).2.2.2.2⟩,row:=h.row.of_block (a.block _ h.row.lt λq=>(c _ q).2.2.2.1 rfl),kn:=⟨h.kn.1,λi t=>?_⟩,kit:=l,kind:=hK,psE:=o.trans h.psE,bl:=λk q=>(s k q).elim (h.bl k) λe=>.inr (TU u e),out:=h.out.later (a.mono λk _ q=>h.bl k q) ?_ }
 . obtain ⟨bl,m,n,d,j⟩:=h.kn.2 i t;exact ⟨bl,m,n,T7 d a.size,(a.block bl d (bU h.kit j MM)).trans j⟩
 . intro k l q;rcases q with q|q
   . exact .inr (.inr (.inr (.inr q)))
   . omega
def nD (h:qM w0 r v b g N p D L G A F Kind ps ps1 dl sp gone hl ds f w) (hs:qK w0 r v b g N p D L G Kind ps A F dl) (hr:r<w0.heap.size) (o:g<w0.heap.size) (U:¬ ps.bl r) (O:¬ ps.bl g) (T:Nat) (Q:T<65536) (j:∀ i,i∈ab T->i<N) :
 ZS ZN 111 #[Z7 (ZX ⟨r,0,ZY⟩),Z8 .u64 T] w λe w'=>e=Z4 (ZZ #[])/\∃ B V,qM w0 r v b g N p D L G A F Kind ps ps1 dl sp (gone|||jL (gnB A b) (feN T gone sp ds)) V (ds++CX A b (feN T gone sp ds)) B w'/\aa (λk=>k=g\/k=r\/k=v\/F.S k) w w':=by
 have R:=h.apart hs hr o U O;have:=hs.vol.n;have P:=hs.nN;have l:N<=16:=by rw [P];exact hs.vol.par.s
 have:2^N<=65536:=jk l;have I:=h.gol;have:=h.spl;have:=hs.gK;have:=hs.rK;have:=hs.vK;have m:∀ i∈feN T gone sp ds,i<N:=λi a=>j i ((oS ec ec).1 a).1;refine (IR (ds:=ds) (M:=vT D L G dl) h.vol hs.nb (λi a=>⟨(hs.cw i a).1,(pX hs.vol.par dl ec).1⟩) h.rd h.row h.kn T Q ec ec (λi a=>⟨j i a,e9 (j i a)⟩) h.hll l hs.vr hs.rK hs.vK hs.gF hs.rF hs.rg hs.vg hs.gK h.out.size o hr hs.vol.vol.lt (λk d=>hs.vol.arr.RN d)).mono ?_;rintro e w' ⟨rfl,X,⟨W,K,Y⟩,⟨C,H,J⟩,E,c⟩;refine ⟨rfl,C,W,{ h with rd:=X,hll:=K,vol:={ h.vol with vol:=Y,arr:=E,laid:=h.vol.laid.keep (c.block _ h.vol.laid.lt λq=>?_),tab:=h.vol.tab.keep (c.block _ h.vol.tab.lt λq=>?_),room:=TU h.vol.room c.size },row:=H,kn:=J,kit:=ps1.keep _ _ h.kit λk d=>c.block k (ps1.lt _ h.kit k d) (λq=>?_),out:=h.out.trans (c.mono λk _ q=>q.imp_right λq=>q.imp_right λq=>q.imp_right .inl),okd:=λi a=>?_,gol:=WO I (xO _ _ m),gb:=λi q=>?_ },c⟩
 . rcases q with q|q|q|q
   . omega
   . omega
   . omega
   . exact hs.vol.g q
 . rcases q with q|q|q|q
   . omega
   . omega
   . omega
   . exact hs.vol.t q
 . obtain ⟨_,u,x,y,z⟩:=R k d;rcases q with q|q|q|q
   . exact y q
   . exact x q
   . exact u q
   . exact z q
 . rcases Ui.1 a with q|q
   . exact h.okd i q
   . exact ⟨(mv.1 q).2,m i (mv.1 q).1⟩
 . rw [V6,Xj] at q;exact q.elim (h.gb i) λq=>((ji _ i _).1 q).2
end
end
section
def FF (N sp gone:Nat):Nat:=(if sp=0 then 0 else 1)+(2^N-gone)
def O4 (h:a|||b≠a):a<a|||b:=Nat.lt_of_le_of_ne YN (Vn h)
def aaR (f:FuncId) (D L G:Nat) (Kind:aR->Prop):Prop:=∀ (ps:aR),Kind ps->∀ (w:ZU),ps.S w->aG w->3<=w.heap.size->∀ lost:Nat,lost<2^(D+L+G) ->
 ZS ZN f #[Z7 (ZX ⟨ps.ps,0,ZY⟩),.agg #[Z8 Z9 D,Z8 Z9 L,Z8 Z9 G],Z8 .u64 lost] w (PnA D L G Kind ps lost w)
def oX (D L G:Nat) (Kind:aR->Prop):Prop:=aaR 168 D L G Kind/\aaR 113 D L G Kind
structure O5 (w:ZU) (r v b g N p D L G:Nat) (Kind:aR->Prop) (ps:aR) (A:az) (F:aK) (dl M:a8) (e:ZQ) (w':ZU):Prop where
 rd:∃ gone sp,dZ w' r v b g N gone sp
 row:∃ f,w'.rowIs g 40 N f/\e=Z4 .nilIface/\∀ i∈M,∃ bl c,f i=Z6 (ZX ⟨bl,0,ZY⟩) 44 c/\bl<w'.heap.size/\w'.rangeAt bl 0 (aJ (vT D L G dl i))
 kit:∃ (ps1:aR) (hl:Nat),Kind ps1/\ps1.ps=ps.ps/\ps1.S w'/\bg w' v p D L G ps.ps hl/\hl<2^N/\∀ k,ps1.bl k->ps.bl k\/w.heap.size<=k
 arr:aA w' p A F
 out:aa (λk=>k=g\/k=r\/k=v\/F.S k\/ps.bl k) w w'
def O6 (D L G:Nat) (Kind:aR->Prop) (ps:aR) (l1:Nat) (w1:ZU) (v6 v7:ZT) (wx:ZU):Prop:=(v7=.iface 66 (Z8 Z9 3)/\¬ gu D L G l1/\bW w1 wx)\/RD D L G Kind ps l1 w1 v6 v7 wx
def C2A (D L G:Nat) (Kind:aR->Prop) (ps1:aR) (l1:Nat) (w' w3:ZU) (z:Int) (ao:Option ZR) (m c:Nat) (er:ZT):Prop:=(er=.iface 66 (Z8 Z9 3)/\¬ gu D L G l1/\bW w' w3)\/(er=.nilIface/\∃ ps' s C,z=1+((ab (aw (D+L+G) s)).length:Int)/\DV D L G Kind ps1 ps' l1 s C ao m c w'.heap.size w3/\aa ps1.bl w' w3)
def vl {Kind:aR->Prop} {ps1:aR} (h:(e=uS/\¬ gu D L G l1/\bW w' w3)\/∃ a s C ao m c,nC D L G s ao m c e/\DV D L G Kind ps1 a l1 s C ao m c w'.heap.size w3/\aa ps1.bl w' w3) :
 ∃ z ao m c er,e=Z4 (ZZ #[.agg #[Z8 Z9 z,.slice ao m c],er])/\aa ps1.bl w' w3/\b9 (C2A D L G Kind ps1 l1 w' w3 z ao m c er):=by
 rcases h with ⟨d,g,b⟩|⟨a,s,C,ao,m,c,d,b,f⟩
 . exact ⟨0,ZY,0,0,_,d,aa.RL b _,ak (.inl ⟨rfl,g,b⟩)⟩
 . exact ⟨_,ao,m,c,_,d,f,ak (.inr ⟨rfl,a,s,C,rfl,b,f⟩)⟩
def yW {Kind:aR->Prop} {ps1:aR} (h:C2A D L G Kind ps1 l1 w' w3 z ao m c er) (a:bW w1 w') (g:w'.heap.size=w1.heap.size):O6 D L G Kind ps1 l1 w1 (Z7 (ZX ⟨w3.heap.size,0,ZY⟩)) er (w3.alloc (Z5 #[Z8 Z9 z,.slice ao m c] 206)):=by
 rcases h with ⟨rfl,b,h⟩|⟨rfl,f,s,C,rfl,d,e⟩
 . exact .inl ⟨rfl,b,(a.trans (h.mono a.size)).alloc (e9 h.size) _⟩
 . exact .inr (Jr (d.mono ec) a e)
def vq {Kind:aR->Prop} {ps1:aR} (h:C2A D L G Kind ps1 l1 (w2.alloc (Z5 #[Z8 Z9 0,Z6 ZY 0 0] 206)) w3 z ao m c er) (hl:∀ k,ps1.bl k->k<w1.heap.size) (g:w2.heap.size=w1.heap.size) (b:bW w1 w2):O6 D L G Kind ps1 l1 w1 (Z7 (ZX ⟨w1.heap.size,0,ZY⟩)) er ((w3.setCell ⟨w1.heap.size,0,ZY⟩ (Z8 Z9 z)).setCell ⟨w1.heap.size,1,ZY⟩ (.slice ao m c)):=by
 have a:bW w1 (w2.alloc (Z5 #[Z8 Z9 0,Z6 ZY 0 0] 206)):=b.alloc ec _;rcases h with ⟨rfl,e,h⟩|⟨rfl,i,s,C,rfl,d,f⟩
 . exact .inl ⟨rfl,e,((a.trans (h.mono a.size)).setCell (p:=⟨w1.heap.size,0,ZY⟩) lR _).setCell (p:=⟨w1.heap.size,1,ZY⟩) lR _⟩
 . exact .inr (FE (d.mono (by rw [Ul];omega)) hl g b f)
def KnG (w0:ZU) (r v b g N p D L G:Nat) (A:az) (F:aK) (Kind:aR->Prop) (ps:aR) (dl:a8) (wr:ZU):Prop:=
 ∃ sp gone hl ds f ps1,qM w0 r v b g N p D L G A F Kind ps ps1 dl sp gone hl ds f wr
def qM.SE {Kind:aR->Prop} {ps ps1:aR} {hl:Nat} (h:qM w0 r v b g N p D L G A F Kind ps ps1 dl sp gone hl ds f w) (hs:qK w0 r v b g N p D L G Kind ps A F dl) (hr:r<w0.heap.size) (u:g<w0.heap.size) (s:¬ ps.bl r) (o:¬ ps.bl g):qM w0 r v b g N p D L G A F Kind ps ps1 dl 0 gone hl ds f (w.setCell ⟨r,4,ZY⟩ (Z8 .u64 0)):=by
 have t:=h.apart hs hr u s o;have a:aa (λk=>k=r) w (w.setCell ⟨r,4,ZY⟩ (Z8 .u64 0)):=aa.setCell _ _ _ rfl;refine { h with rd:=ag (j:=4) h.rd _,vol:=h.vol.TB a λk e=>e▸⟨hs.rK,hs.vr.symm,hs.rF⟩,row:=h.row.of_block (a.block _ h.row.lt λq=>hs.rg q.symm),kn:=⟨h.kn.1,λi x=>?_⟩,kit:=ps1.keep _ _ h.kit λk d=>a.block k (ps1.lt _ h.kit k d) λq=>(t k d).2.2.1 q,out:=h.out.trans (a.mono λk _ q=>.inr (.inl q)),spl:=abu ee };obtain ⟨bl,l,m,c,n⟩:=h.kn.2 i x;exact ⟨bl,l,m,T7 c a.size,(a.block bl c ec).trans n⟩
theorem DC {Kind:aR->Prop} {ps ps1 ps2:aR} {hl:Nat} (hs:qK w0 r v b g N p D L G Kind ps A F dl) (j:qM w0 r v b g N p D L G A F Kind ps ps2 dl sp gone hl ds f w) (h:DV D L G Kind ps1 ps2 l1 s C ao m c B w) (S:l1≠0) (O:l1<2^N) (T:∀ i,(Ad (bS D L G s C)).testBit i=ZW->i<N/\i∈ds) (E:1+((ab (aw (D+L+G) s)).length:Int)=z) :
 ZS ZN 114 #[Z7 (ZX ⟨r,0,ZY⟩),.agg #[Z8 Z9 z,.slice ao m c]] w λe w'=>e=Z4 .nilIface/\MG w r v b g N gone sp f (ab (aw (D+L+G) s)) (vT D L G dl) w':=by
 have a:=hs.vol.par;have n:=LQ a.d a.l4 a.g a.s h.told;have K:=CS a.d a.g a.s h.told;have V:(bS D L G s C).length<=2000:=n.1.2.2;rw [E] at n;obtain ⟨l,o⟩:∃ i,l1.testBit i=ZW:=Nat.exists_testBit_of_ne_zero S;have u:l<N:=by
  by_cases q:l<N
  . exact q
  . rw [WD (T7 O (UY ee ec))] at o;cases o
 have y:∀ i∈ds,(vT D L G dl i).length=44/\∀ x∈vT D L G dl i,x<256:=λi t=>pX a dl (by have:=(j.okd i t).2;have:=hs.nN;omega);obtain ⟨I,J⟩:=OR (x:=OS N ds) (Dl:=Az N ds (vT D L G dl)) (dl:=dQ D dl) a.d1 a.d a.g a.div a.s h.told (by rw [<- hs.nN];exact u) (h.To l o) (Db hs.byt).1 (Db hs.byt).2 (λi t=>by
  obtain ⟨q1,k⟩:=T i t;rw [Dk q1,TT k];exact ⟨rfl,uQ λe=>((uP N ds i).1 e).2 k⟩)
 have P:(ab (aw (D+L+G) s)).length<=16:=TU (WS _ _) ek;have H:ab (aw (D+L+G) s)≠[]:=λq=>by
  have:l∈ab (aw (D+L+G) s):=(bM a.s).2 ⟨by rw [<- hs.nN];exact u,h.To l o⟩;rw [q] at this;cases this
 have U:z.toNat=1+(ab (aw (D+L+G) s)).length:=by rw [<- E];omega
 exact MH (M:=ab (aw (D+L+G) s)) (R:=vT D L G dl) j.rd j.row hs.rg (GY h.own ec) K (aaK j.row y j.kn) (Dj N ds (vT D L G dl)) (Jd y) ec (by rw [<- hs.nN] at n;exact n) I (by rw [U];exact J) H (λd Q=>by rw [hs.nN];exact ((bM a.s).1 Q).1) P
section
variable {w:ZU} {r v b g N p D L G:Nat} {Kind:aR->Prop} {ps:aR} {A:az} {F:aK} {dl:a8} (hs:qK w r v b g N p D L G Kind ps A F dl) (hSh:oX D L G Kind)
include hs hSh
theorem MP (hr:dZ w r v b g N 0 ps.ho) (kc:w.rowIs g 40 N wE) (S:Nat) (hS:S<65536) (qz:∀ i,i∈ab S->i<D) :
 ZS ZN 134 #[Z7 (ZX ⟨r,0,ZY⟩),Z8 .u64 S] w λe w'=>O5 w r v b g N p D L G Kind ps A F dl (ab S) e w':=by
 have qc:N<=16:=Zq
 have y0:2^N<=65536:=jk qc;have xh:∀ i,i∈ab S->i<N:=λi I=>by have:=qz i I;rw [hs.nN];omega
 have u:=bU hs.kit hr qH;have f:¬ ps.bl g:=by obtain ⟨cs,h1,_⟩:=kc;exact bU hs.kit h1 oV
 have h0:KnG w r v b g N p D L G A F Kind ps dl w:=⟨ps.ho,0,ps.ho,[],wE,ps,⟨hr,hs.vol,kc,Kn.nil _ _ _ _,hs.kit,hs.kind,rfl,λk q=>.inl q,aa.refl _ _,λi q=>acy,abu ee,hs.hol,hs.hol,λi q=>ZI⟩⟩;have O:=hide7 hs hSh hr.lt kc.lt u f h0;clear hs hSh hr kc u f h0;go_enter func134,ntmps134;go_wp2_with fail;go_loopw [5] (λ_ wr=>KnG w r v b g N p D L G A F Kind ps dl wr) (λ_ wr=>FF N (intOf ((wr.cell? ⟨r,4,ZY⟩).getD undef)).toNat (intOf ((wr.cell? ⟨r,3,ZY⟩).getD undef)).toNat)
 case atStart=>exact O.o.2.2.2.2.2.2
 case round=>
  obtain ⟨sp,gone,hl,ds,f0,ps1,hM⟩:=hrel;obtain ⟨hs,hSh,B,E,u,f,_⟩:=O.o;have qh:=nD hM hs B E u f S hS xh;have kx:FF N (intOf ((wr.cell? ⟨r,4,ZY⟩).getD undef)).toNat (intOf ((wr.cell? ⟨r,3,ZY⟩).getD undef)).toNat=FF N sp gone:=by
   obtain ⟨_,_,_,d3,d4⟩:=hM.rd.cells;rw [d3,d4];simp [intOf]
  have xn:=hM.gol;have qq:=hM.spl;have HM:=ak kx;obtain ⟨nw,qn⟩:=nM (feN S gone sp ds);rw [qn] at qh;have HN:=ak qn;clear kx hM qn hs hSh B E u f;go_wp2_with fail;refine qh.mono ?_;rintro e w1 ⟨rfl,f1,h1,a,_⟩;clear qh;obtain ⟨d1,qg⟩:=nM (ds++CX A b nw);obtain ⟨X,V⟩:=nM (gone|||jL (gnB A b) nw);rw [qg,V] at a;have Q:∀ i,i∈ab S->(X|||sp).testBit i=ZV->i∈d1:=λi I hb=>by
   rw [V6,XQ,<- V,V6,XQ] at hb;rw [<- qg];by_cases q:i∈ds
   . exact UG _ q
   . have x8:i∈nw:=(by rw [<- HN.o];exact (oS ec ec).2 ⟨I,hb.1.1,hb.2,q⟩);refine VQ _ (mv.2 ⟨x8,?_⟩);cases hq:gnB A b i
     . rfl
     . rw [(ji _ i nw).2 ⟨x8,hq⟩] at hb;cases hb.1.2
  have kv:=a.gol;have hc:gone<=X:=by rw [<- V];exact YN
  have xv:=aaQ X sp ec ec;have kh:X|||sp<2^N:=WO kv qq;obtain ⟨e0,_,_,e3,e4⟩:=a.rd.cells;obtain ⟨l1,U⟩:=nM (X|||sp);rw [U] at xv kh Q;have qd:=fH S l1 ec ec;have W:=a6 a Q hc U V;clear a Q hc U qg V;by_cases hz:S &&& l1=0
  . have xd:bits .and .u64 (S:Int) (l1:Int)=0:=(by rw [qd,hz];rfl);go_wp2_with fail;go_region;go_wp2;go_ret;obtain ⟨a,Q,_⟩:=W.o;refine ⟨⟨_,_,a.rd⟩,⟨f1,a.row,rfl,λi I=>?_⟩,⟨ps1,h1,a.kind,a.psE,ps1.keep _ _ a.kit (λ_ _=>rfl),a.vol.vol,a.hll,a.bl⟩,a.vol.arr.keep λ_ _=>rfl,a.out.trans (aa.drew _)⟩;obtain ⟨bl,q1,q2,K,q4⟩:=a.kn.2 i (Q i I (Jq hz (cE.1 I).2));exact ⟨bl,44,q1,K,jm q4⟩
  . have xd:(bits .and .u64 (S:Int) (l1:Int)==0)=ZV:=by
     rw [qd];generalize S &&& l1=q at hz;simp;omega
    have xo:l1≠0:=λe=>hz (by rw [e,Nat.and_zero]);have xc:∀ w',bW w1 w'->ZS ZN 168 #[Z7 (ZX ⟨ps.ps,0,ZY⟩),.agg #[Z8 Z9 D,Z8 Z9 L,Z8 Z9 G],Z8 .u64 l1] w' λe qr=>(e=uS/\¬ gu D L G l1/\bW w' qr)\/∃ ya s C ao m c,nC D L G s ao m c e/\DV D L G Kind ps1 ya l1 s C ao m c w'.heap.size qr/\aa ps1.bl w' qr:=λw' hb=>by
     obtain ⟨a,_⟩:=W.o;obtain ⟨hs,hSh,B,E,u,f,_⟩:=O.o;have hv:=a.vol;have h:=hSh.1 ps1 a.kind w' (ps1.keep _ _ a.kit λk R=>hb.block k (ps1.lt _ a.kit k R)) (hv.tab.keep (hb.block _ hv.tab.lt)) (TU hv.room hb.size) l1 (by rw [<- hs.nN];exact kh);rw [a.psE] at h;exact h
    have HB:=al xc (λk (R:ps1.bl k)=>ps1.lt _ W.o.1.kit k R);have qa:=W.o.1.vol;obtain ⟨_,y1,y2,y3,y4,_⟩:=qa.vol.cells;have qf:bW w1 (w1.alloc (Z5 #[Z8 Z9 0,Z6 ZY 0 0] 206)):=bA w1 _;obtain ⟨_,x1,x2,x3,x4,_⟩:=(qa.vol.keep (qf.block _ qa.vol.lt)).cells;obtain ⟨x0,_,_,_,_⟩:=(W.o.1.rd.keep (qf.block _ W.o.1.rd.lt)).cells;clear qf xc qa;have HY:b9 (∀ (w' w3:ZU),bW w1 w'->aa ps1.bl w' w3->C5 r v ps.ps D L G w3/\(∀ o:Obj,C5 r v ps.ps D L G (w3.alloc o))/\(∀ k x y,w1.heap.size<=k->C5 r v ps.ps D L G ((w3.setCell ⟨k,0,ZY⟩ x).setCell ⟨k,1,ZY⟩ y))):=ak λw' w3 hb hO=>by
     have qy:=aa.after hb hO;have hM:=W.o.1;obtain ⟨hs,_,B,E,u,f,_⟩:=O.o;have ha:=hM.apart hs B E u f;have hv:=hM.vol;have q0:=hM.rd.keep (qy.block _ hM.rd.lt λq=>(ha _ q).2.2.1 rfl);have hv3:=hv.vol.keep (qy.block _ hv.vol.lt λq=>(ha _ q).2.1 rfl);have B:=hM.rd.lt;have y8:=hv.vol.lt;exact ⟨MI q0 hv3,λo=>MI (q0.keep (UF _ _ _ q0.lt)) (hv3.keep (UF _ _ _ hv3.lt)),λk x y R=>MI (q0.keep ((fO w3 k 0 1 x y).block _ q0.lt ec)) (hv3.keep ((fO w3 k 0 1 x y).block _ hv3.lt ec))⟩
    go_wp2_with fail;go_region;go_upto_region 5 with fail;have xe:(((S &&& l1:Nat):Int)==0)=ZV:=by
     rw [<- qd];exact xd
    simp only [xe];clear xe;go_cut [6,7] from 24 to 42 (λv6 v7 wx=>O6 D L G Kind ps1 l1 w1 v6 v7 wx)
    case first=>
     go_region_held3 (λw'=>w'.cell? ⟨r,0,ZY⟩=ZX (Z7 (ZX ⟨v,0,ZY⟩))/\w'.cell? ⟨v,1,ZY⟩=ZX (Z8 Z9 (D:Int))/\w'.cell? ⟨v,2,ZY⟩=ZX (Z8 Z9 (L:Int))/\w'.cell? ⟨v,3,ZY⟩=ZX (Z8 Z9 (G:Int))/\w'.cell? ⟨v,4,ZY⟩=ZX (Z7 (ZX ⟨ps.ps,0,ZY⟩))) (first|exact ⟨e0,y1,y2,y3,y4⟩|exact ⟨x0,x1,x2,x3,x4⟩|exact Y0.out|exact Y1.out _|exact Y2.out _ _ _ lR|go_keep)
      (first|(go_at_call 168;refine (HB.o.1 _ ?_).mono ?_;(first|exact ((TW _ _).drew).drew|exact (((TW _ _).drew).drew).alloc lR _);rintro e w3 kz;obtain ⟨z,ao,m,c,er,he,Y,H3⟩:=vl kz;subst he;clear kz;(try (have K:w3.heap[w1.heap.size]?=ZX (Z5 #[Z8 Z9 0,Z6 ZY 0 0] 206 (0,0)):=(Y.block w1.heap.size ek (λq=>e9 (HB.o.2 _ q))).trans (Ug w1.drew.drew _);obtain ⟨r0,r1,X,g0⟩:=ay K;clear K));obtain ⟨Y0,Y1,Y2⟩:b9 (C5 r v ps.ps D L G w3)/\b9 (∀ o:Obj,C5 r v ps.ps D L G (w3.alloc o))/\b9 (∀ k x y,w1.heap.size<=k->C5 r v ps.ps D L G ((w3.setCell ⟨k,0,ZY⟩ x).setCell ⟨k,1,ZY⟩ y)):=HY.o _ w3 (by first|exact ((TW _ w1).drew).drew|exact (((TW _ w1).drew).drew).alloc lR _) Y;clear Y))
     all_goals (go_wp2_with fail;go_meet;case rel=>first|(refine yW (w':=w1.drew.drew) H3.o ?_ rfl;exact ((TW _ _).drew).drew)|(refine vq (w2:=w1.drew.drew) H3.o HB.o.2 rfl ?_;exact ((TW _ _).drew).drew))
    case rest=>
     clear e0 e3 e4 y1 y2 y3 y4 x0 x1 x2 x3 x4 HY HB;rename ZU=>w3;rcases hcut with ⟨rfl,xb,qe⟩|hcut
     . have xf:=ak xb;clear xb;obtain ⟨a,Q,hc,U,V⟩:=W.o;obtain ⟨hs,hSh,B,E,u,f,_⟩:=O.o;have M:=a.SB (a.apart hs B E u f) (aa.RL qe _) (ps1.keep _ _ a.kit λk R=>qe.block k (ps1.lt _ a.kit k R)) a.kind rfl (λk q=>.inl q);obtain ⟨_,_,_,e3,e4⟩:=M.rd.cells;have f4:w3.frozen? ⟨r,4,ZY⟩=ZV:=by
        have h':w3.heap[r]?=_:=M.rd;simp [World.frozen?,h']
       have H3:=ak M;clear M a Q U V hs hSh B E u f qe;by_cases qp:sp=0
       . refine absurd (lQ O.o.1.fine.1 λi q=>?_) xf.out;have q2:X.testBit i=ZW:=(by rw [<- W.o.2.2.2.1,qp,Nat.or_zero] at q;exact q);refine (O.o.1.cw i ?_).2 (H3.o.gb i q2);rw [O.o.1.vol.n,<- O.o.1.nN];by_cases e:i<N
         . exact e
         . rw [WD (T7 kv (UY ee ec))] at q2;cases q2
       . have y7:((sp:Int)==0)=ZV:=en;have HQ:=al qp hc;clear qp hc;go_wp2;go_roundw
         case rel=>
          obtain ⟨hs,_,B,E,u,f,_⟩:=O.o;exact ⟨0,X,h1,d1,f1,ps1,H3.o.SE hs B E u f⟩
         case measure=>
          obtain ⟨hs,_,B,E,u,f,_⟩:=O.o;obtain ⟨_,_,_,K,q4⟩:=(H3.o.SE hs B E u f).rd.cells;rw [HM.o,K,q4];have q:=HQ.o.2;unfold FF;rw [TS HQ.o.1];simp [intOf];omega
     . obtain ⟨rfl,gb,J,s,C,ao,m,c,rfl,hm,Z,P,Y⟩:=hcut;obtain ⟨a,Q,hc,U,V⟩:=W.o;obtain ⟨hs,hSh,B,E,u,f,_⟩:=O.o;have M:=a.SB (a.apart hs B E u f) Y P.kit P.kind P.psE P.bl;have k8:=hs.vol.par;have hg:=LQ k8.d k8.l4 k8.g k8.s P.told;have hn:=CS k8.d k8.g k8.s P.told;have hf:(bS D L G s C).length<=2000:=hg.1.2.2;have ka:∀ t∈bS D L G s C,t.k=0->0<=t.b/\t.b<16:=λt ht h0=>by
        obtain ⟨i,q1,q2,_⟩:=jS k8.s ht h0;have:=k8.s;omega
       have qk:=ID (1+((ab (aw (D+L+G) s)).length:Int)) (GY P.own ec) ka ec;obtain ⟨z,ke⟩:∃ z:Int,1+((ab (aw (D+L+G) s)).length:Int)=z:=⟨_,rfl⟩;rw [ke] at Z hg qk;obtain ⟨k0,k1,_,_⟩:=ay Z;have H3:=hide11 M P Z hg hn hf ka qk ke Y hm;clear M P Z hg hn hf ka qk ke Y hm k8 a Q hc U V hs hSh B E u f;go_wp2_with fail;refine H3.o.2.2.2.2.2.2.2.1.mono ?_;rintro e w4 ⟨rfl,k9⟩;clear k0 k1;obtain ⟨M,P,Z,hg,hn,hf,ka,_,ke,Y,hm⟩:=H3.o;obtain ⟨hs,hSh,B,E,u,f,_⟩:=O.o;have qx:=M.SB (M.apart hs B E u f) (aa.RL k9 _) (J.keep _ _ M.kit λk R=>k9.block k (J.lt _ M.kit k R)) M.kind rfl (λk q=>.inl q);obtain ⟨T,hT⟩:=nM (Ad (bS D L G s C));have ko:T<65536:=by rw [<- hT];exact Lm λt ht h0=>e9 (ka t ht h0)
       have x5:∀ i,T.testBit i=ZW->i<N/\s.testBit i=ZV:=λi I=>by
        rw [<- hT] at I;obtain ⟨t,ht,h0,xz⟩:=(oC _ _).1 I;obtain ⟨j,q1,q2,K⟩:=jS hs.vol.par.s ht h0;have:j=i:=by rw [<- xz,q1];rfl
        subst this;exact ⟨by rw [hs.nN];exact q2,K⟩
       have kf:∀ i,i∈ab T->i<N/\s.testBit i=ZV:=λi I=>x5 i (cE.1 I).2;have kr:=nD qx hs B E u f T ko (λi I=>(kf i I).1);have km:=(k9.block gb (TX.1 Z).1).trans Z;have H4:=a5 kf hT km k9;clear kf qx km k9 M P Z hg hn hf ka ke Y hm hs hSh B E u f x5;rw [hT];clear hT;go_wp2_with fail;refine kr.mono ?_;rintro e w5 ⟨rfl,f5,h2,H,q9⟩;clear kr;obtain ⟨kf,hT,km,k9⟩:=H4.o;obtain ⟨M,P,Z,hg,hn,hf,ka,_,ke,Y,hm⟩:=H3.o;obtain ⟨a,Q,hc,U,V⟩:=W.o;obtain ⟨hs,hSh,B,E,u,f,_⟩:=O.o;have kk:=hs.vol;obtain ⟨hd,kb⟩:=nM (feN T X sp d1);rw [kb] at H;have hx:∀ i,i∈hd↔i∈ab T/\X.testBit i=ZV/\sp.testBit i=ZV/\i∉d1:=λi=>by rw [<- kb];exact oS ec ec
       obtain ⟨d2,kg⟩:=nM (d1++CX A b hd);obtain ⟨g2,kj⟩:=nM (X|||jL (gnB A b) hd);rw [kg,kj] at H;have qi:=H.gol;have xx:=aaQ g2 sp ec ec;have qv:=k9.size;have q8:=a.out.size;have qs:=(q9.block gb (T7 (TX.1 Z).1 qv) (λq=>by
        rcases q with q|q|q|q
        . omega
        . omega
        . have:=kk.vol.lt;omega
        . have:=kk.arr.RN q;omega)).trans km
       obtain ⟨_,_,_,e3,e4⟩:=H.rd.cells;obtain ⟨k0,k1,_,_⟩:=ay qs;by_cases ks:g2|||sp=l1
       . have ky:∀ i∈hd,gnB A b i=ZV:=λi I=>by
          cases hq:gnB A b i
          . rfl
          . have q:=(ji (gnB A b) i hd).2 ⟨I,hq⟩;have q2:(g2|||sp).testBit i=ZW:=(by rw [V6,<- kj,V6,q,Bool.or_true,Bool.true_or]);obtain ⟨_,K,q4,_⟩:=(hx i).1 I;rw [ks,<- U,V6,K,q4] at q2;cases q2
         have kp:=a.apart hs B E u f;have ki:DV D L G Kind ps1 J l1 s C ao m c w1.heap.size w5:=(P.keep (T:=λ_=>False) (aa.RL k9 _) (λ_ q=>q.elim)).keep q9 (λk q=>by
          rcases q with q|q|q|q
          . subst q;exact ⟨ec,λe=>(kp _ e).2.2.2.1 rfl⟩
          . subst q;exact ⟨ec,λe=>(kp _ e).2.2.1 rfl⟩
          . subst q;exact ⟨e9 kk.vol.lt,λe=>(kp _ e).2.1 rfl⟩
          . exact ⟨e9 (kk.arr.RN q),λe=>(kp _ e).2.2.2.2 q⟩)
         have x6:=DC hs (H.SB (H.apart hs B E u f) (aa.drew _) (J.keep _ _ H.kit λ_ _=>rfl) H.kind rfl (λk q=>.inl q)) (ki.keep (T:=λ_=>False) (aa.drew w5) (λ_ q=>q.elim)) xo kh (λi I=>by
          rw [hT] at I;have qj:i<16:=by
           by_cases q:i<16
           . exact q
           . rw [WD (T7 ko (UY (n:=2) (i:=16) ee ec))] at I;cases I
          have x7:i∈ab T:=cE.2 ⟨qj,I⟩;obtain ⟨q1,q2⟩:=kf i x7;refine ⟨q1,?_⟩;rw [<- kg];by_cases q:i∈d1
          . exact UG _ q
          . have qm:l1.testBit i=ZV:=uQ λe=>by rw [ki.To i e] at q2;cases q2
            rw [<- U,V6,XQ] at qm;have K:=(hx i).2 ⟨x7,qm.1,qm.2,q⟩;exact VQ _ (mv.2 ⟨K,ky i K⟩)) ke
         have H5:=a5 x6 H ki kg;clear x6 ki qs H q9 kf hT km k9 M P Z hg hn hf ka ke Y hm a Q U V hs hSh B E u f kb hx kg kj qv q8 ky kp kk hc;go_wp2_with fail;go_region;go_wp2_with fail;refine H5.o.1.mono ?_;rintro e w6 ⟨rfl,hF⟩;clear e3 e4 k0 k1;have H6:=ak hF;clear hF;go_wp2;go_ret;obtain ⟨xy,⟨f6,q7,xk,xm⟩,xg⟩:=H6.o;obtain ⟨_,H,ki,kg⟩:=H5.o;obtain ⟨hs,hSh,B,E,u,f,_⟩:=O.o;obtain ⟨a,Q,_,U,V⟩:=W.o;have hy:aa (λk=>k=g) w5 w6:=(aa.drew w5).trans xg;have xi:=H.apart hs B E u f;have qb:=H.vol;refine ⟨⟨_,_,xy⟩,⟨f6,q7,rfl,λi I=>?_⟩,⟨J,h2,H.kind,H.psE,J.keep _ _ H.kit (λk R=>hy.block k (J.lt _ H.kit k R) (λq=>(xi k R).2.2.2.1 q)),qb.vol.keep (hy.block _ qb.vol.lt hs.vg),H.hll,H.bl⟩,qb.arr.keep (λk R=>hy.block k (qb.arr.RN R) λq=>hs.gF (q▸R)),H.out.trans (hy.mono λk _ q=>.inl q)⟩;have y5:=qz i I;by_cases qo:s.testBit i=ZW
         . obtain ⟨bl,mm,l,q1,q2,K,q4,q5,q6⟩:=xm i ((bM hs.vol.par.s).2 ⟨e9 hs.nN,qo⟩);obtain ⟨h1,h2⟩:=yN q4 K q5;rw [(pX hs.vol.par dl (e9 hs.nN)).1] at h2;subst h2;exact ⟨bl,l.length,q1,aM.lt q4,h1⟩
         . have xq:i∉ab (aw (D+L+G) s):=λq=>qo ((bM hs.vol.par.s).1 q).2;have y9:i∈d2:=by
            rw [<- kg];exact UG _ (Q i I (uQ λe=>qo (ki.To i e)))
           obtain ⟨bl,q1,q2,K,q4⟩:=H.kn.2 i y9;have xj:bl≠g:=ec;exact ⟨bl,44,by rw [xk i xq];exact q1,T7 K hy.size,jm ((hy.block bl K xj).trans q4)⟩
       . have x9:X<g2:=(by rw [<- kj];exact O4 λe=>ks (by rw [<- kj,e,U]));have hR:KnG w r v b g N p D L G A F Kind ps dl w5.drew:=⟨sp,g2,h2,d2,f5,J,H.SB (H.apart hs B E u f) (aa.drew _) (J.keep _ _ H.kit λ_ _=>rfl) H.kind rfl (λk q=>.inl q)⟩;have xa:FF N (intOf ((w5.drew.cell? ⟨r,4,ZY⟩).getD undef)).toNat (intOf ((w5.drew.cell? ⟨r,3,ZY⟩).getD undef)).toNat=FF N sp g2:=by
          rw [show w5.drew.cell? ⟨r,3,ZY⟩=w5.cell? ⟨r,3,ZY⟩ from rfl,show w5.drew.cell? ⟨r,4,ZY⟩=w5.cell? ⟨r,4,ZY⟩ from rfl,e3,e4];simp [intOf]
         have y6:((g2|||sp:Nat):Int)≠(l1:Int):=ec;have xp:((((g2|||sp:Nat):Int))==(l1:Int))=ZV:=en;have H5:=a6 hR x9 xa hc qi;clear hR x9 xa qs H q9 kf hT km k9 M P Z hg hn hf ka ke Y hm a Q U V hs hSh B E u f kb hx kg kj qv q8 kk hc;go_wp2_with fail;go_region;go_wp2;go_roundw
         case rel=>exact H5.o.1
         case measure=>
          rw [H5.o.2.2.1,HM.o];have q1:=H5.o.2.1;have q2:=H5.o.2.2.2;unfold FF;omega
end
def GZ (ps:aR) (w:ZU) (b:m6 sb room D L G ps) (a:ps.S w):ps.ps<w.heap.size:=by
 obtain ⟨es,qs,ho,rfl⟩:=b;exact (m4 sb room D L G es qs ho).lt w a _ (.inl ⟨by show sb<=sb+1+1+1;omega,TV _⟩)
def yX (a:wt D L G) {sb:Nat} {room:Int}:oX D L G (m6 sb room D L G):=
 ⟨λ_ hK _ c e b _ hl=>yV D L G a.r a.d1 a.d a.l1 a.l4 a.g a.div a.s hK c e b hl (.inl ⟨rfl,rfl⟩),λ_ hK _ c e b _ hl=>yV D L G a.r a.d1 a.d a.l1 a.l4 a.g a.div a.s hK c e b hl (.inr ⟨rfl,rfl⟩)⟩
end
structure my (w:ZU) (r v b g N p D L G:Nat) (Kind:aR->Prop) (ps:aR) (A:az) (F:aK) (l:a8) (e:ZQ) (w':ZU):Prop where
 rd:∃ gone sp,dZ w' r v b g N gone sp
 row:∃ f,w'.rowIs g 40 N f
 kit:∃ (ps1:aR) (hl:Nat),Kind ps1/\ps1.ps=ps.ps/\ps1.S w'/\bg w' v p D L G ps.ps hl/\hl<2^N/\∀ k,ps1.bl k->ps.bl k\/w.heap.size<=k
 arr:aA w' p A F
 out:aa (λk=>k=g\/k=r\/k=v\/F.S k\/ps.bl k) w w'
 ans:∃ u,e=Z4 (ZZ #[u,.nilIface])/\Bs w' u l/\(∀ k,u.ownBlock=ZX k->w.heap.size<=k)/\∃ ao n,u=.slice ao n n
def qK.turn {Kind:aR->Prop} {ps:aR} (h:qK w r v b g N p D L G Kind ps A F dl) (hr:¬ ps.bl r) (d:¬ ps.bl g) (c:aa (λk=>k=r\/k=g) w w'):qK w' r v b g N p D L G Kind ps A F dl:=
 { h with
  vol:=h.vol.TB c λk q=>q.elim (λe=>e▸⟨h.rK,h.vr.symm,h.rF⟩) λe=>e▸⟨h.gK,h.vg.symm,h.gF⟩
  kit:=ps.keep _ _ h.kit λk a=>c.block k (ps.lt _ h.kit k a) (λq=>q.elim (λe=>hr (e▸a)) (λe=>d (e▸a))) }
theorem DD {Kind:aR->Prop} {ps:aR} (hs:qK w r v b g N p D L G Kind ps A F dl) (kf:oX D L G Kind) (hr:dZ w r v b0 g N gone sp) (X:w.rowIs g 40 N f0) {size:Nat} (km:size=dl.length) {m:Nat} (Y:m=(size+43)/44) (ki:m<=D) :
 ZS ZN 99 #[Z7 (ZX ⟨r,0,ZY⟩),Z8 Z9 b,Z8 Z9 size] w (my w r v b g N p D L G Kind ps A F dl):=by
 have ka:=ak km;clear km;have kr:N<=16:=Zq
 have q2:D<=N:=by rw [hs.nN];omega
 have W:m<=16:=ec
 have q5:size<=704:=ec
 have J:ab (2^m-1)=YE m:=vh W;have V:2^m-1<65536:=by
  have:2^m<=2^16:=UY ee W;omega
 obtain ⟨S,k0⟩:=nM (2^m-1);rw [k0] at J V;have ko:=Gr hr hs.vol.vol X (e9 hs.vol.par.d1) (λe=>hs.rg e.symm) hs.vg b;have kc:=bU hs.kit hr qH;have kb:¬ ps.bl g:=by obtain ⟨cs,h1,_⟩:=X;exact bU hs.kit h1 oV
 have j:=a5 hs kf kc kb;have e1:((size:Nat):Int)+44-1=((size+43:Nat):Int):=ec
 clear hr X hs kf kc kb;go_enter func99,ntmps99;go_wp2_with fail;refine ko.mono ?_;rintro e w1 ⟨rfl,kj,ha,Z⟩;have kk:=j.o.1.turn j.o.2.2.1 j.o.2.2.2 Z;have kh:=MP kk j.o.2.1 kj ha S V (λi d=>by rw [J,Ur] at d;omega);have H:=al kh Z;clear ko kj ha Z kk kh;go_wp2_with fail;rw [(ec:((size:Int)+43)/44=(m:Int))];refine (me m W w1).mono ?_;rw [k0];rintro e w2 ⟨rfl,rfl⟩;clear e1;go_wp2_with fail;refine H.o.1.mono ?_;rintro e w3 ⟨⟨U,hb,y⟩,⟨f,n,rfl,Q⟩,h9,h8,ke⟩;have T:=H.o.2.size;have C:aa (λk=>k=g\/k=r\/k=v\/F.S k\/ps.bl k) w w3:=(H.o.2.mono λ_ _ q=>q.elim (λe=>.inr (.inl e)) .inl).trans ke;rw [J] at Q;obtain ⟨R,O⟩:=nM (vT D L G dl);rw [O] at Q;have K:∀ i,i<m->(R i).length=44/\∀ x∈R i,x<256:=λi d=>by rw [<- O];exact pX j.o.1.vol.par dl ec
 have P:((YE m).map R).flatten.take size=dl:=by
  rw [<- O,show vT D L G dl=λi=>(dg D L G dl).getD i [] from rfl,I6 Y ki j.o.1.len j.o.1.byt (Nat.le_of_eq ka.out),ka.out,VA]
 obtain ⟨_,_,d2,_,_⟩:=y.cells;have B:((YE m).map R).length=m:=ek
 have hn:NL w3 0 g ((YE m).map R):=by
  refine ⟨T8 _,n.lt,λi d=>?_⟩;rw [B] at d;obtain ⟨bl,c,q1,q3,q4⟩:=Q i (Ur.2 d);have cg:=n.cell (i:=i) ec;rw [q1] at cg;have e:((YE m).map R)[i]'(by rw [B];exact d)=R i:=ek
  rw [e];exact ⟨bl,0,c,cg,T8 _,q3,q4,(K i d).1,(K i d).2⟩
 have k7:=Ip (c:=N) hn (by rw [B];omega);rw [B] at k7;have H3:=hide8 y n h9 h8 C k7 T P;clear y n Q h9 h8 ke k7 C hn B T P O;go_wp2_with fail;rw [show (size+43)/44=m from Y.symm];refine H3.o.2.2.2.2.2.1.mono ?_;rintro e w4 ⟨u,rfl,hj,h⟩;have k8:((YE m).map R).flatten.length=44*m:=Dz R m (λi d=>(K i d).1);have kg:∀ x∈((YE m).map R).flatten,x<256:=λx hx=>by
  obtain ⟨l,ky,kz⟩:=List.mem_flatten.1 hx;obtain ⟨i,kx,rfl⟩:=T9.1 ky;exact (K i (Ur.1 kx)).2 x kz
 have k9:size<=44*m:=ec
 have kp:=ak k8;obtain ⟨ao,cp,rfl,hh,ks,kv,I,E⟩:=Rz hj k8 kg k9 ec;have H4:=aE h E I;clear k8 kg;obtain ⟨M,hM⟩:=nM (44*m);rw [hM] at kp k9 hh ⊢;have q0:size<=cp:=TU k9 hh;clear h E I hj hM Y d2 j J k0 V H ki;go_wp2;go_ret2;obtain ⟨y,n,⟨t,hl,k1,k2,k3,k4,k5,k6⟩,a3,C,_,T,P⟩:=H3.o;obtain ⟨h,E,I⟩:=H4.o;rw [P] at E;refine ⟨⟨_,_,y.keep (h.block _ y.lt)⟩,⟨_,n.of_block (h.block _ n.lt)⟩,⟨t,hl,k1,k2,t.keep _ _ k3 (λk z=>h.block k (t.lt _ k3 k z)),k4.keep (h.block _ k4.lt),k5,λk z=>(k6 k z).imp id λq=>TU T q⟩,a3.below h lR,C.trans (aa.RL h _),⟨_,rfl,E,λk z=>?_,⟨_,_,rfl⟩⟩⟩;cases ao with
 | none=>simp [Value.ownBlock] at z
 | some a=>
  simp [Value.ownBlock] at z;have h1:=I a rfl;have h2:=C.size;omega
def Jt {v:ZT} (h:Bs w v l):Src ZN 1 40 v l.length (aJ l) w:=by
 obtain ⟨ao,c,rfl,m,n,o,g⟩:=h;have i:∀ u∈aJ l,u.oneCell'=ZW:=λu a=>by unfold aJ at a;rw [T9] at a;obtain ⟨x,_,rfl⟩:=a;rfl
 by_cases hl:l=[]
 . subst hl;cases ao with
   | none=>exact XS w Un c
   | some f=>exact Vl w Un f 0 c [] rfl (λj u d=>by simp at d) (λu a=>Zm)
 . obtain ⟨b,off,rfl,k⟩:=g hl;refine Vl w Un ⟨b,off,ZY⟩ l.length c (aJ l) (by rw [aX,Wg]) (λj u d=>?_) i;rw [Vo];have e:j<l.length:=(by obtain ⟨q,_⟩:=Va.1 d;rwa [aX] at q);rw [k j e,<- d];unfold aJ;rw [UD,Uc e,Ub,Uc e];rfl
def AQ (w:ZU) (n:Int) (e:ZQ) (w':ZU):Prop:=e=Z4 (ZZ #[Z6 ZY 0 0,AK n])/\bW w w'
theorem MQ {ps:aR} {xs:aL} (h:aS w ar v p ps D L G t pg ob P xs A F) (x:ByteArray) (g:bZ x=ZV) :
 ZS ZN 71 #[Z7 (ZX ⟨ar,0,ZY⟩),Z0 x] w (AQ w 6):=by
 obtain ⟨_,_,_,_,f⟩:=h.arc.cells;have a:=h.find x;obtain ⟨k,d⟩:=nM (aI xs.names x);obtain ⟨i,c⟩:=nM (mJ xs.os x);rw [d,c] at a;clear d c h;go_enter func71,ntmps71;go_wp2_with fail;refine a.mono ?_;rintro e w1 ⟨rfl,b⟩;have H:=ak b;clear b a f;go_wp2_with fail;refine (jW x w1).mono ?_;rintro e w2 ⟨rfl,rfl⟩;rw [g];dsimp only;go_wp2;go_ret2;exact ⟨rfl,H.o⟩
theorem DE {ps:aR} {xs:aL} (h:aS w ar v p ps D L G t pg ob P xs A F) (x:ByteArray) (g:bZ x=ZW) (f:x∉xs.names) :
 ZS ZN 71 #[Z7 (ZX ⟨ar,0,ZY⟩),Z0 x] w (AQ w 9):=by
 obtain ⟨_,_,_,_,d⟩:=h.arc.cells;have a:=h.find x;obtain ⟨k,c⟩:=nM (aI xs.names x);rw [c,h.Sp f] at a;clear c h;go_enter func71,ntmps71;go_wp2_with fail;refine a.mono ?_;rintro e w1 ⟨rfl,b⟩;have H:=ak b;clear b a d;go_wp2_with fail;refine (jW x w1).mono ?_;rintro e w2 ⟨rfl,rfl⟩;rw [g];dsimp only;go_wp2;go_ret2;exact ⟨rfl,H.o⟩
structure mM (w:ZU) (v p D L G:Nat) (Kind:aR->Prop) (ps:aR) (A:az) (ps':aR) (wr:ZU):Prop where
 kind:Kind ps'
 psE:ps'.ps=ps.ps
 kit:ps'.S wr
 vol:bg wr v p D L G ps.ps ps'.ho
 hol:ps'.ho<2^(D+L+G)
 bl:∀ k,ps'.bl k->ps.bl k\/w.heap.size<=k
def mM.early {Kind:aR->Prop} {ps ps':aR} (h:mM w v p D L G Kind ps A ps' wr) (b:w0.heap.size<=w.heap.size):mM w0 v p D L G Kind ps A ps' wr:={ h with bl:=λk a=>(h.bl k a).imp_right (TU b) }
def aR.SF (ps:aR) (h:Nat):aR:={ ps with ho:=h }
structure vt (D L G:Nat) (Kind:aR->Prop) (ps:aR):Prop where
 sh:oX D L G Kind
 re:∀ ps h,Kind ps->Kind (ps.SF h)
 pk:∀ ps w,Kind ps->ps.S w->ps.ps<w.heap.size
 kind:Kind ps
structure GtG (w:ZU) (q v p r g N sz D L G:Nat) (Kind:aR->Prop) (ps:aR) (A:az) (F:aK) (cs:List ZT) (d:a8) (k:Nat) (u:ZT) (wr:ZU):Prop where
 pk:wr.ownsRow w.heap.size 5 1 u (min (k*sz) d.length) (aJ (d.take (k*sz)))
 rd:∃ b gone sp,dZ wr r v b g N gone sp
 row:∃ f,wr.rowIs g 40 N f
 kit:∃ ps',mM w v p D L G Kind ps A ps' wr
 arr:aA wr p A F
 out:aa (λj=>F.S j\/j=v\/ps.bl j) w wr
 box:ai wr q 152 cs
def abc (w:ZU) (q v p r g N sz D L G:Nat) (Kind:aR->Prop) (ps:aR) (A:az) (F:aK) (cs:List ZT) (d:a8) (K:Nat) (u i:ZT) (wr:ZU):Prop:=∃ k:Nat,k<=K/\i=Z8 Z9 (k:Nat)/\GtG w q v p r g N sz D L G Kind ps A F cs d k u wr
def O7 {n:Nat} (hD:1<=D):n<=mL D n*(D*44):=by
 unfold mL;obtain ⟨q,d⟩:=nM (D*44);rw [d];have a:0<q:=ec
 have h:=Nat.lt_mul_div_succ (n+q-1) a;obtain ⟨c,b⟩:=nM ((n+q-1)/q);rw [b] at h ⊢;have:q*(c+1)=c*q+q:=by rw [Nat.mul_add,Wg,WC]
 have:c*q<=max 1 c*q:=W0 _ (YK _ _);omega
def oY:¬ jX 5:=vf
def Ju:¬ jX 152:=vf
def O8 {ks:Nat} {ps:aR} (a:w.ownsRow base 5 1 u ks (aJ l)) (f:dZ w r v b0 g N gone sp) (c:w.rowIs g 40 N f0) (n:bg w v p D L G ps.ps ps.ho) (j:ps.S w) (i:aa (λk=>k=g\/k=r\/k=v\/F.S k\/ps.bl k) w w6) (d:∀ k,F.S k->k<base):w6.ownsRow base 5 1 u ks (aJ l):=bR a i λq b h=>by
 rcases h with h|h|h|h|h
 . subst h;obtain ⟨cs,e,_⟩:=c;exact bC a e ee b
 . subst h;exact bC a f ee b
 . subst h;exact bC a n ee b
 . have:=d q h;have:=dY a b;omega
 . obtain ⟨cur,m⟩:=bw a b;exact bU j m oY h
def RE {Kind:aR->Prop} {ps ps':aR} (b:GtG w q v p r g N sz D L G Kind ps A F cs d k u wr) (hK:mM w v p D L G Kind ps A ps' wr) (hD:my wr.drew r v y g N p D L G Kind ps' A F l e w6) (f:N=D+L+G) (re:∀ ps h,Kind ps->Kind (ps.SF h)) (hr:w.heap.size<=r) (s:w.heap.size<=g):aa (λj=>F.S j\/j=v\/ps.bl j) w w6/\∃ a,mM w v p D L G Kind ps A a w6:=by
 have:w.heap.size<=wr.heap.size:=b.out.size;have:wr.drew.heap.size=wr.heap.size:=rfl;refine ⟨(b.out.trans (aa.drew _)).later hD.out λj c h=>?_,?_⟩
 . rcases h with h|h|h|h|h
   . omega
   . omega
   . exact .inr (.inl h)
   . exact .inl h
   . rcases hK.bl j h with q|q
     . exact .inr (.inr q)
     . omega
 . obtain ⟨ps1,hl,k1,k2,k3,k4,i,m⟩:=hD.kit;refine ⟨ps1.SF hl,re _ _ k1,k2.trans hK.psE,k3,by rw [<- hK.psE];exact k4,f▸i,λj c=>?_⟩;rcases m j c with q|q
   . exact hK.bl j q
   . exact .inr ec
def MR {Kind:aR->Prop} {ps ps':aR} {l2:a8} {v7:ZT} (t:GtG w q v p r g N sz D L G Kind ps A F cs d k u wr) (hK:mM w v p D L G Kind ps A ps' wr) (hD:my wr.drew r v y g N p D L G Kind ps' A F l2 e w6) (I:N=D+L+G) (re:∀ ps h,Kind ps->Kind (ps.SF h))
 (K:w7.ownsRow w.heap.size 5 1 v7 (min ((k+1)*sz) d.length) (aJ (d.take ((k+1)*sz)))) (b:w6.grownBy w7 u.ownBlock) (x:w6.ownsRow w.heap.size 5 1 u m (aJ l)) (E:∀ k,F.S k->k<w.heap.size) (R:v<w.heap.size) (U:w.heap.size<=q) (P:q≠r) (M:q≠g) (hr:w.heap.size<=r) (O:w.heap.size<=g):GtG w q v p r g N sz D L G Kind ps A F cs d (k+1) v7 w7:=by
 obtain ⟨H,c,i⟩:=RE t hK hD I re hr O;have s:∀ {j:Nat} {cs:Array ZT} {T:ZP},w6.heap[j]?=ZX (Z5 cs T (0,0))->5≠T->w7.heap[j]?=w6.heap[j]?:=by
  intro j cs T a o;exact b.block j (TX.1 a).1 (λe=>bC x a o e.symm)
 have B:∀ j,j<w.heap.size->w7.heap[j]?=w6.heap[j]?:=λj a=>b.block j (T7 a H.size) (λe=>e9 (dY x e.symm));have z:ai w6 q 152 cs:=t.box.keep (hD.out.block _ t.box.lt (λh=>by
  rcases h with h|h|h|h|h
  . exact M h
  . exact P h
  . omega
  . have n:=E _ h;omega
  . exact bU hK.kit t.box Ju h))
 obtain ⟨gone,sp,C⟩:=hD.rd;refine ⟨K,⟨y,gone,sp,C.keep (s C ee)⟩,?_,⟨c,{ i with kit:=c.keep _ _ i.kit (λj a=>b.block j (c.lt _ i.kit j a) (λe=>by obtain ⟨cur,J⟩:=bw x e.symm;exact bU i.kit J oY a)),vol:=i.vol.keep (s i.vol ee) }⟩,hD.arr.keep λj a=>B j (E j a),?_,z.keep (s z ee)⟩
 . obtain ⟨f,cs,n,o⟩:=hD.row;exact ⟨f,cs,(s n ee).trans n,o⟩
 . exact H.later (T:=λj=>w.heap.size<=j) ⟨b.os,b.tape,b.output,b.size,λj _ Q=>B j ec⟩ (λj n o=>ec)
def aS.got {Kind:aR->Prop} {ps ps':aR} {xs:aL} (h:aS w ar v p ps D L G t pg ob P xs A F) (a:aa (λj=>F.S j\/j=v\/ps.bl j) w w') (x:aA w' p A F) (hK:mM w v p D L G Kind ps A ps' w'):aS w' ar v p ps' D L G t pg ob P xs A F:=by
 have o:=hK.bl;have r:2<3:=ee
 have s:1<3:=ee
 have:=h.vlt;have d:∀ k,k<3->¬ F.S k->k<w.heap.size->w'.heap[k]?=w.heap[k]?:=λk f i l=>a.block k l (λq=>by
  rcases q with q|q|q
  . exact i q
  . omega
  . have:=(h.apt k q).1;omega)
 have m:ef (λk=>ar<k/\¬ F.S k/\¬ ps.bl k/\¬ ps'.bl k) w w':=⟨a.size,λk c b=>a.block k c (λq=>by
  rcases q with q|q|q
  . exact b.2.1 q
  . have:=b.1;omega
  . exact b.2.2.1 q)⟩
 have n:∀ k,(ar<k/\¬ F.S k/\¬ ps.bl k)->k<w.heap.size->(ar<k/\¬ F.S k/\¬ ps.bl k/\¬ ps'.bl k):=λk q f=>⟨q.1,q.2.1,q.2.2,λe=>(o k e).elim q.2.2 ec⟩;have u:∀ k,ps'.bl k->3<=k/\k≠ar/\k≠v/\¬ F.S k:=λk c=>by
  rcases o k c with q|q
  . exact h.apt k q
  . have:=h.arc.lt;have:=h.vol.vol.lt;have:=h.vlt;exact ⟨ec,ec,ec,λe=>e9 (h.vol.arr.RN e)⟩
 exact { h with
  arc:=h.arc.keep (a.block _ h.arc.lt λq=>by
   rcases q with q|q|q
   . exact h.nar q
   . omega
   . exact (h.apt _ q).2.1 rfl)
  vol:={ h.vol with vol:=Zz,arr:=x,laid:=h.vol.laid.keep (d _ r h.vol.g h.vol.laid.lt),tab:=h.vol.tab.keep (d _ s h.vol.t h.vol.tab.lt),room:=TU h.vol.room a.size }
  pgs:=((h.pgs.wk n).keep m).wk λk q _=>⟨q.1,q.2.1,q.2.2.2⟩
  cat:=((h.cat.wk n).keep m).wk λk q _=>⟨q.1,q.2.1,q.2.2.2⟩
  kit:=hK.kit
  apt:=u
  hl:=hK.hol }
def vu (xs:aL) (x:ByteArray) (base:Nat) (u r:ZT) (w:ZU):Prop:=
 (u=Z6 ZY 0 0/\((r=AK 6/\bZ x=ZV)\/(r=AK 9/\bZ x=ZW/\x∉xs.names)))\/(r=.nilIface/\bZ x=ZW/\∃ X∈xs,X.1.name=x/\w.ownsRow base 5 1 u X.2.length (aJ X.2))
def RF (w:ZU) (ar v p:Nat) (Kind:aR->Prop) (ps:aR) (D L G t:Nat) (pg ob:ZT) (P:a8) (xs:aL) (A:az) (F:aK) (ps':aR) (w':ZU):Prop:=aS w' ar v p ps' D L G t pg ob P xs A F/\Kind ps'/\∀ k,ps'.bl k->ps.bl k\/w.heap.size<=k
def mz (w:ZU) (ar v p:Nat) (Kind:aR->Prop) (ps:aR) (D L G t:Nat) (pg ob:ZT) (P:a8) (xs:aL) (A:az) (F:aK) (x:ByteArray) (e:ZQ) (w':ZU):Prop:=
 ∃ u r ps',e=Z4 (ZZ #[u,r])/\RF w ar v p Kind ps D L G t pg ob P xs A F ps' w'/\aa (λj=>F.S j\/j=v\/ps.bl j) w w'/\vu xs x w.heap.size u r w'
theorem O9 {Kind:aR->Prop} {ps:aR} {xs:aL} (h:aS w ar v p ps D L G t pg ob P xs A F) (hv:vt D L G Kind ps) (x:ByteArray) (hx:bZ x=ZW) (K:Nat) (x8:K<xs.length) (hm:xs[K].1.name=x) :
 ZS ZN 71 #[Z7 (ZX ⟨ar,0,ZY⟩),Z0 x] w (mz w ar v p Kind ps D L G t pg ob P xs A F x):=by
 obtain ⟨_,_,_,_,c8⟩:=h.arc.cells;have q1:=h.find x;have xf:xs.names.length=xs.length:=by rw [<- eC,bj];simp [aL.os]
 have qe:xs.names[K]' ec=x:=by simp [aL.names,hm,aU,aL.os]
 have k9:x∈xs.names:=by rw [<- qe];exact T6 _
 have x1:aI xs.names x=K:=ij h.disk.up ec qe;rw [x1,h.there k9] at q1;have k7:=h.disk.fits _ (T6 x8);obtain ⟨oo,oc,rfl,hol,_⟩:=id h.cat;have qf:xs.os.length=xs.length:=KP
 have ka:∀ hh:K<xs.os.length,xs.os[K]=xs[K].1:=λhh=>KP
 obtain ⟨X,hX⟩:=nM (xs[K]);rw [hX] at k7 hm ka;obtain ⟨nn,qy⟩:=nM (xs.os.length);have qn:X∈xs:=by rw [<- hX];exact T6 _
 have B:=a7 h k7 k9 ka qy qn;have HV:=ak hv;have qb:K<nn:=ec
 have x9:(K:Int)<(nn:Int):=ec
 rw [qy] at q1 c8;clear h hv xf qe k9 x1 k7 ka qf hol hX qn;go_enter func71,ntmps71;go_wp2_with fail;refine q1.mono ?_;rintro e w1 ⟨rfl,hb⟩;have H:=ak hb;clear hb q1 c8;go_wp2_with fail;refine (jW x w1).mono ?_;rintro e w2 ⟨rfl,rfl⟩;rw [hx];dsimp only;have a:=B.o.1.below H.o;obtain ⟨d0,_,_,_,d8⟩:=a.arc.cells;rw [B.o.2.2.2.2.1] at d8;obtain ⟨GK,off,sv,rfl,xg,xh,r1,r2,r3,r4⟩:=a.cat.at' (k:=K) (by rw [B.o.2.2.2.2.1];exact qb);rw [B.o.2.2.2.1 _] at r1 r2 r4;rw [hm] at r1;obtain ⟨n,hn⟩:=nM (X.1.size);rw [hn] at r2;obtain ⟨sa,sc,rfl,x6,_⟩:=id r4;obtain ⟨S,hS⟩:=nM (X.1.RK);rw [hS] at r3 r4 x6;have Q:=a5 a r4 hn hS;clear a r4 hn hS;have q8:bW w2 (w2.alloc (Z5 #[Z0 x,Z8 Z9 (n:Nat),.slice sa S.length sc] 152)):=bA w2 _;have ky:ai (w2.alloc (Z5 #[Z0 x,Z8 Z9 (n:Nat),.slice sa S.length sc] 152)) w2.heap.size 152 [Z0 x,Z8 Z9 (n:Nat),.slice sa S.length sc]:=UC w2 _;have qj:(w2.alloc (Z5 #[Z0 x,Z8 Z9 (n:Nat),.slice sa S.length sc] 152)).heap.size=w2.heap.size+1:=ek
 have E:X.2.length=n:=B.o.2.1.len.trans Q.o.2.2.1;have xd:n<=1500:=by rw [<- Q.o.2.2.1];exact B.o.2.1.fit.size
 obtain ⟨w3,xk⟩:=nM (w2.alloc (Z5 #[Z0 x,Z8 Z9 (n:Nat),.slice sa S.length sc] 152));rw [xk] at q8 ky qj;have y1:=ky.cell (j:=1) (u:=Z8 Z9 (n:Nat)) rfl;obtain ⟨ib,qs,kk,km,ko⟩:=Uu Tryz.Sy;have H3:=aE q8 ky qj;clear q8 ky qj;go_wp2_with (at_make;refine ab3 w3 rfl (.const (Z8 Z9 0)) (Z1 41) 40 rfl w2.heap.size 5 ib (Z8 .u8 0) 1 Un qs kk km .i64 .i64 _ n um um rfl (by rw [ko];omega) eD (by exact H3.o.1.size) ?_;intro w4 qz q9;have q7:bW w2 w4:=H3.o.1.grown q9 H3.o.1.size (λk e=>Y4);have e0:=(q7.cell (p:=⟨ar,0,ZY⟩) Q.o.1.arc.lt).trans d0;have Z:=aE qz q9 q7;clear qz q9 q7);have Y:=Q.o.1.below Z.o.2.2;have O:=qJ Y.vol.vol Y.vol.par.d Y.vol.par.l4 Y.vol.par.g Y.vol.n;have kx:=ak Y;clear Y d8 r1 r2 r3 y1;refine O.mono ?_;rintro e w5 ⟨rfl,q4,hf,kg⟩;have kp:=kx.out.below kg;have q3:ai w4 w2.heap.size 152 _:=H3.o.2.1.keep (Z.o.2.1.block _ H3.o.2.1.lt ek);have hc:ai w5 w2.heap.size 152 _:=q3.keep (kg.block _ q3.lt);have x2:=hc.cell (j:=2) (u:=.slice sa S.length sc) rfl;have kf:bW w2 w5:=Z.o.2.2.trans (kg.mono Z.o.2.2.size);obtain ⟨sz,J⟩:=nM (D*44);have W:S.length=mL D n:=by rw [<- Q.o.2.2.2,B.o.2.1.st,Q.o.2.2.1];rfl
 obtain ⟨r,hr⟩:=nM (w4.heap.size+2);obtain ⟨g,hg⟩:=nM (w4.heap.size+1);have xv:=Z.o.2.2.size;rw [hr,hg] at q4;rw [hg] at hf;obtain ⟨d,I⟩:=nM (X.2);rw [I] at E;have x3:GtG w2 w2.heap.size v p r g A.n sz D L G Kind ps A F [Z0 x,Z8 Z9 (n:Nat),.slice sa S.length sc] d 0 (Z6 (ZX ⟨w3.heap.size,0,ZY⟩) 0 n) w5:=
  ⟨by rw [abt,Nat.zero_min];exact aq Z.o.1 kg,⟨_,_,_,q4⟩,⟨_,hf⟩,⟨ps,HV.o.kind,rfl,kp.kit,kp.vol.vol,kp.hl,λ_ q=>.inl q⟩,kp.vol.arr,aa.RL kf _,hc⟩
 have H5:=a6 x3 J W I E;have xi:r≠g:=ec
 have xm:w2.heap.size<g:=ec
 have xq:w2.heap.size<r:=ec
 rw [hr];clear x3 J W I E q4 hf hc q3 kp kf O kg hr hg;have xj:44<=sz/\sz<=528:=by rw [<- H5.o.2.1];have:=kx.out.vol.par.d1;have:=kx.out.vol.par.d;omega
 go_wp2_with fail;go_loopw [9,51] (λu i wr=>abc w2 w2.heap.size v p r g A.n sz D L G Kind ps A F [Z0 x,Z8 Z9 (n:Nat),.slice sa S.length sc] d S.length u i wr) (λ_ i _=>S.length-(intOf i).toNat)
 case atStart=>exact ⟨0,T8 _,rfl,H5.o.1⟩
 case round=>
  clear x2 e0;obtain ⟨k,xn,rfl,R⟩:=hrel;by_cases ke:k<S.length
  . obtain ⟨s,⟨b0,gone,sp,O⟩,⟨f0,he⟩,⟨c,b⟩,ha,T,kh⟩:=id R;obtain ⟨_,J,W,I,E⟩:=H5.o;obtain ⟨a,qm,xe,kz⟩:=Q.o;have hr:=a.vol.par;have qv:k*sz<=n:=(by rw [<- J];exact Dy hr.d1 ec);have N:∀ j,F.S j->j<w2.heap.size:=λj U=>a.vol.arr.RN U;rw [E,Wo qv] at s;obtain ⟨l,hl⟩:=nM (d.take (k*sz));rw [hl] at s;obtain ⟨pa,pc,rfl⟩:=bm s;obtain ⟨f,C⟩:=nM (k*sz);have qh:=a.vlt;have qk:ef (λk=>ar<k/\¬ F.S k/\¬ ps.bl k) w2 wr:=⟨T.size,λj U hK=>T.block j U (λq=>by rcases q with q|q|q;exact hK.2.1 q;omega;exact hK.2.2 q)⟩;obtain ⟨sb,so,xx,e1,qo⟩:=sC (qm.keep qk) (λe=>by rw [e] at ke;simp at ke);simp only [Vx] at e1;obtain ⟨rfl,_,rfl⟩:=e1;have g1:=qo k ke;obtain ⟨y,hy⟩:=nM (S[k]);rw [hy] at g1;have kv:X.1.RK.getD k 0=y:=(by rw [kz,ik ke,hy]);have x5:y<A.nb:=by
     refine (a.disk.Tl y (VQ _ (uG B.o.2.2.2.2.2 ?_))).2;rw [kz,<- hy];exact T6 ke
    have qi:=a.disk.held X B.o.2.2.2.2.2 k (by rw [kz];exact ke);rw [kv,I] at qi;have kc:=a.got T ha b;have q5:pG wr.drew v p D L G c.ps c.ho A F:=kc.vol.below ((TW _ wr).drew) lR;obtain ⟨ca,_⟩:=kc.arc.cells;have cz:=kh.cell (j:=1) (u:=Z8 Z9 (n:Nat)) rfl;have qg:=dE q5.vol (e9 hr.d);rw [J] at qg;obtain ⟨M,qc⟩:=nM (min (n-f) sz);have xc:∀ qr ty w,(Builtin.min_ qr ty #[Z8 Z9 ((n:Int)-(f:Int)),Z8 Z9 (sz:Nat)]).run ZN w=.ok (Z8 Z9 (M:Nat)) w:=λqr ty w=>by
     rw [je];by_cases h1:((sz:Nat):Int)<(n:Int)-(f:Int)
     . rw [TT h1,(ec:M=sz)]
     . rw [TS h1,(ec:(M:Int)=(n:Int)-(f:Int))]
    have kb:=a.vol.n;have qx:(M+43)/44<=D:=ec;have kj:(dz D d k).length=M:=(by unfold dz;rw [Uo,Um,J,C,E];omega);have kr:qK wr.drew r v y g A.n p D L G Kind c A F (dz D d k):=
     { vol:=q5,nN:=kb,hol:=by rw [kb];exact b.hol,kit:=c.keep _ _ b.kit (λ_ _=>rfl),kind:=b.kind,apt:=λj U=>⟨(kc.apt j U).1,(kc.apt j U).2.2.1,(kc.apt j U).2.2.2⟩,vr:=λe=>e9 a.vol.vol.lt,vg:=λe=>e9 a.vol.vol.lt,rg:=xi,gF:=λe=>e9 (N _ e),rF:=λe=>e9 (N _ e),rK:=e9 a.vol.room,vK:=a.vlt.1,gK:=e9 a.vol.room,nb:=x5,cw:=qi,len:=by rw [kj];omega,fine:=a.fine,byt:=λz hz=>B.o.2.1.byt z (by rw [I];exact U0 (UX hz)) }
    have qp:=DD kr HV.o.sh (O.keep rfl) (he.of_block rfl) kj.symm (m:=(M+43)/44) rfl qx;have q0:dz D d k=(d.drop f).take sz:=(by unfold dz;rw [J,C]);have HR:=hide15 R O he s qp qg N C b kb a.vol.vol.lt hl kj qc q0;rw [C] at qv s ⊢;have xb:M<=528:=ec;have xo:IntKind.i64.wrap ((k:Int)+1)=(k:Int)+1:=l3;have xp:IntKind.i64.wrap ((n:Int)-(f:Int))=(n:Int)-(f:Int):=l3;clear R b kc kr qh O he s qp qg N C q5 qk qo hy T kh ha J W a qm xe kz hr qc qx kb hl x5 qi kv kj q0 I E;go_wp2;go_region_with (first
     | (go_at_call 100;refine HR.o.2.2.2.2.2.1.mono ?_;rintro e wq ⟨rfl,rfl⟩)
     | (go_at_call 99;refine HR.o.2.2.2.2.1.mono ?_;rintro e w6 V;obtain ⟨u2,x7,x4,_⟩:=V.ans;have H6:=al V x4;subst x7;clear V x4))
    all_goals (
     obtain ⟨V,ki⟩:=H6.o;have hp:w6.ownsRow w2.heap.size 5 1 (.slice pa f pc) f (aJ l):=by
      obtain ⟨_,O,he,s,_,_,N,C,b,_⟩:=HR.o;rw [C] at s;exact O8 (aq s ((TW _ wr).drew)) (O.keep rfl) (he.of_block rfl) (by rw [b.psE];exact b.vol) (c.keep _ _ b.kit (λ_ _=>rfl)) V.out N
     obtain ⟨l2,a⟩:=nM (dz D d k);have hs:Src ZN 1 40 u2 M (aJ l2) w6:=by
      have:=Jt ki;rw [HR.o.2.2.2.2.2.2.2.2.2.2.2.2.1,a] at this;exact this
     have HO:=a5 hp hs (TU HR.o.1.out.size V.out.size) a;clear hp hs V a ki;go_wp2_with (at_builtin;refine ae _ rfl (Z1 75) (Z1 76) 40 40 rfl w2.heap.size 5 ib (Z8 .u8 0) 1 1 Un qs kk km ko rfl (.slice pa f pc) f (aJ l) um (by exact HO.o.1) _ um M (aJ l2) (by exact HO.o.2.1) eD ec (by exact HO.o.2.2.1) ?_;intro v7 w7 x0 qq q6;have H7:=al x0 qq;clear x0 qq q6);go_roundw
     case rel=>
      obtain ⟨R,_,_,_,_,_,N,C,b,kb,qh,hl,kj,qc,q0⟩:=HR.o;have qd:(k+1)*sz=f+sz:=(by rw [<- C];exact W5 k sz);have E:=H5.o.2.2.2.2;rw [C] at R;refine ⟨k+1,ec,eT,MR R b H6.o.1 kb HV.o.re ?_ H7.o.2 HO.o.1 N qh lR ec ec ec ec⟩;have h7:=H7.o.1;rw [qd,E,(ec:min (f+sz) n=f+M),acb,<- q0,HO.o.2.2.2,<- C,hl,bJ];rw [C];exact h7
     case measure=>simp only [intOf];omega)
  . have xa:k=S.length:=ec;subst xa;obtain ⟨s,_,_,⟨c,b⟩,ha,T,_⟩:=R;obtain ⟨_,J,W,I,E⟩:=H5.o;have qa:d.length<=S.length*sz:=(by rw [E,W,<- J];exact O7 kx.out.vol.par.d1);rw [acd qa,UI qa] at s;have q2:aa (λj=>F.S j\/j=v\/ps.bl j) w wr:=(aa.RL H.o _).trans T;have HF:=a5 (And.intro (cV s H.o.size) q2) (B.o.1.got q2 ha (b.early H.o.size)) (b.early H.o.size) I;clear s ha T q2 b qa J W I E;go_wp2;go_ret2;obtain ⟨⟨h1,h2⟩,h3,h6,I⟩:=HF.o;subst I;exact ⟨_,_,c,rfl,⟨h3,h6.kind,h6.bl⟩,h2,.inr ⟨rfl,hx,X,B.o.2.2.2.2.2,hm,h1⟩⟩
def Pa {Kind:aR->Prop} {ps:aR} {xs:aL} (h:aS w ar v p ps D L G t pg ob P xs A F) (d:vt D L G Kind ps) (x:ByteArray) :
 ZS ZN 71 #[Z7 (ZX ⟨ar,0,ZY⟩),Z0 x] w (mz w ar v p Kind ps D L G t pg ob P xs A F x):=by
 have c:∀ n:Int,(∀ w',vu xs x w.heap.size (Z6 ZY 0 0) (AK n) w')->∀ e w',AQ w n e w'->mz w ar v p Kind ps D L G t pg ob P xs A F x e w':=by
  rintro n f e w' ⟨rfl,b⟩;exact ⟨_,_,ps,rfl,⟨h.below b,d.kind,λ_ q=>.inl q⟩,aa.RL b _,f w'⟩
 cases hx:bZ x with
 | false=>exact (MQ h x hx).mono (c 6 λ_=>.inl ⟨rfl,.inl ⟨rfl,hx⟩⟩)
 | true=>
  by_cases a:x∈xs.names
  . obtain ⟨g,j,e⟩:=UR a;have:xs.names.length=xs.length:=(by rw [<- eC,bj];simp [aL.os]);exact O9 h d x hx g ec (by rw [<- e];simp [aL.names,aU,aL.os])
  . exact (DE h x hx a).mono (c 9 λ_=>.inl ⟨rfl,.inr ⟨rfl,hx,a⟩⟩)
section
def oZ (os:List Ob):∀ x∈an os,x<256:=by
 intro x a;unfold an at a;obtain ⟨o,_,a⟩:=XR.1 a;unfold bL at a;simp only [Ui] at a;rcases a with ((h|h)|h)|h
 . exact qT _ _ x h
 . unfold fM at h;rcases Ui.1 h with h|h
   . obtain ⟨b,_,rfl⟩:=T9.1 h;exact b.toNat_lt
   . rw [VF h];decide
 . exact qT _ _ x h
 . obtain ⟨s,_,h⟩:=XR.1 h;exact qT _ _ x h
def di (w:ZU) (ar v p:Nat) (ps:aR) (D L G t:Nat) (xs:aL) (A:az) (F:aK) (Q:Int->Prop) (N:aL->Prop) (e:ZQ) (w':ZU):Prop:=
 ∃ er t' pg ob P' xs' B,e=Z4 er/\aS w' ar v p ps D L G t' pg ob P' xs' B F/\dJ A B/\aa (λk=>k=ar\/F.S k) w w'/\((er=.nilIface/\t'=t+1/\N xs')\/(xs'=xs/\t'=t/\∃ n,er=AK n/\Q n))
def wI (D nb:Nat) (xs:aL) (x:ByteArray) (n:Nat) (k:Int):Prop:=
 (bZ x=ZV/\k=6)\/(bZ x=ZW/\((1500<n/\k=7)\/(n<=1500/\((x∈xs.names/\k=8)\/(x∉xs.names/\nb<(af xs.os).length+mL D n+2*AL D (an xs.os).length n+2/\k=10)))))
def wJ (D nb:Nat) (xs:aL) (x:ByteArray) (d:a8) (xs':aL):Prop:=
 bZ x=ZW/\d.length<=1500/\x∉xs.names/\(af xs.os).length+mL D d.length+2*AL D (an xs.os).length d.length+2<=nb/\∃ o:Ob,o.name=x/\xs'=xs.ins (o,d)
structure b8 (w w1:ZU) (ar v p:Nat) (ps:aR) (D L G t:Nat) (pg ob:ZT) (P:a8) (xs:aL) (A:az) (F:aK) (x:ByteArray) (d fr:a8) (g cnt pgn c1:Nat):Prop where
 live:aS w ar v p ps D L G t pg ob P xs A F
 tl:t<1000000
 out:aa F.S w w1
 arr:aA w1 p (A.wrTo D L G (fr.take cnt) (dz D d) cnt) F
 nm:bZ x=ZW
 no:x∉xs.names
 dl:d.length<=1500
 dx:∀ b∈d,b<256
 c:cnt=mL D d.length
 pn:pgn=AL D (an xs.os).length d.length
 f:fr=(aZ (tk A.nb (P++af xs.os)).1 A.nb).take (cnt+pgn)
 fl:fr.length=cnt+pgn
 room:(af xs.os).length+cnt+2*pgn+2<=A.nb
 s:bf (λk=>ar<k/\¬ F.S k/\¬ ps.bl k) w1 (Z6 (ZX ⟨g,0,ZY⟩) cnt cnt) (fr.take cnt)
 q:bf (λk=>ar<k/\¬ F.S k/\¬ ps.bl k) w1 (Z6 (ZX ⟨g,cnt,ZY⟩) pgn c1) (fr.drop cnt)
section
variable {w w1:ZU} {ar v p D L G t:Nat} {ps:aR} {pg ob:ZT} {P:a8} {xs:aL} {A:az} {F:aK} {x:ByteArray} {d fr:a8} {g cnt pgn c1:Nat}
def kW (x:ByteArray) (d fr:a8) (cnt:Nat):Ob:=⟨x,d.length,fr.take cnt⟩
def b8.stl (h:b8 w w1 ar v p ps D L G t pg ob P xs A F x d fr g cnt pgn c1):(fr.take cnt).length=cnt:=by rw [Uo,h.fl];omega
def b8.pgl (h:b8 w w1 ar v p ps D L G t pg ob P xs A F x d fr g cnt pgn c1):(fr.drop cnt).length=pgn:=by rw [Um,h.fl];omega
def b8.apart (h:b8 w w1 ar v p ps D L G t pg ob P xs A F x d fr g cnt pgn c1):(fr++(P++af xs.os)).Nodup/\∀ b∈fr++(P++af xs.os),2<=b/\b<A.nb:=by
 rw [h.f];exact nA h.live.disk.nod h.live.disk.Tl _
def b8.TG (h:b8 w w1 ar v p ps D L G t pg ob P xs A F x d fr g cnt pgn c1):ll D (kW x d fr cnt,d):=by
 have e:1<=x.size/\x.size<=16:=by have:=h.nm;unfold bZ at this;exact WE this
 refine ⟨⟨e,h.dl,λb a=>?_,?_⟩,?_,rfl,h.dx⟩
 . have:=(h.apart.2 b (UG _ (UX a))).2;have:=h.live.nb;omega
 . show (fr.take cnt).length<=1000;rw [h.stl,h.c];have:=AM h.live.vol.par.d1 h.dl;omega
 . show (fr.take cnt).length=_;rw [h.stl,h.c];rfl
def b8.packed (h:b8 w w1 ar v p ps D L G t pg ob P xs A F x d fr g cnt pgn c1):(an (xs.ins (kW x d fr cnt,d)).os).length=(an xs.os).length+(19+4*cnt):=by
 rw [I9];have e:(bL (kW x d fr cnt)).length=19+4*(fr.take cnt).length:=cZ h.TG.fit;rw [h.stl] at e;exact Ux _ e
def b8.kept (h:b8 w w1 ar v p ps D L G t pg ob P xs A F x d fr g cnt pgn c1):ef (λk=>ar<k/\¬ F.S k/\¬ ps.bl k) w w1:=⟨h.out.size,λk a hK=>h.out.block k a hK.2.1⟩
def MT (h:b8 w w1 ar v p ps D L G t pg ob P xs A F x d fr g cnt pgn c1) :
 ZS ZN 130 #[ob,Z8 Z9 (aI xs.names x:Nat),.agg #[Z0 x,Z8 Z9 (d.length:Nat),Z6 (ZX ⟨g,0,ZY⟩) cnt cnt]] w1 (uK (λk=>ar<k/\¬ F.S k/\¬ ps.bl k) w1 (xs.ins (kW x d fr cnt,d)).os):=by
 have hl:xs.os.length=xs.names.length:=by rw [<- eC,bj]
 have a:=Dh (h.live.cat.keep h.kept) (e9 h.live.Sj.1) (λk b=>⟨by have:=h.live.arc.lt;have:=h.out.size;omega,λe=>by have:=h.live.vol.arr.RN e;have:=h.out.size;omega,λe=>by have:=ps.lt _ h.live.kit _ e;have:=h.out.size;omega⟩) (i:=aI xs.names x) (by rw [hl];exact yJ _ _) (kW x d fr cnt) _ h.s;rw [L8];exact a
def b8.n (h:b8 w w1 ar v p ps D L G t pg ob P xs A F x d fr g cnt pgn c1):wJ D A.nb xs x d (xs.ins (kW x d fr cnt,d)):=⟨h.nm,h.dl,h.no,by rw [<- h.c,<- h.pn];exact h.room,_,rfl,rfl⟩
theorem FG (h:b8 w w1 ar v p ps D L G t pg ob P xs A F x d fr g cnt pgn c1) {w2:ZU} {u:ZT} (j:eN (λk=>ar<k/\¬ F.S k/\¬ ps.bl k) w2 u (xs.ins (kW x d fr cnt,d)).os) (l:bW w1 w2) :
 ZS ZN 105 #[Z7 (ZX ⟨ar,0,ZY⟩),u,Z6 (ZX ⟨g,cnt,ZY⟩) pgn c1] w2 (di w ar v p ps D L G t xs A F (wI D A.nb xs x d.length) (wJ D A.nb xs x d)):=by
 obtain ⟨oo,Z,rfl,hol,_⟩:=id j;have hr:=h.live.vol.par;have C:=h.stl;have f:=h.pgl;have i:=Rx A D L G (fr.take cnt) (dz D d) cnt;have r:aa F.S w w2:=h.out.trans (aa.RL l _);have m:=h.live.disk;have k6:1<=pgn:=by rw [h.pn];unfold AL pgs;omega
 have W:fr.drop cnt≠[]:=λe=>by rw [e] at f;simp at f;omega
 have Q:∀ b∈fr.drop cnt,b<A.nb:=λb X=>(h.apart.2 b (UG _ (U0 X))).2;have K:=h.packed;have h4:=h.live.Sj.1;have h5:xs.os.length=xs.length:=KP
 have R:(an (xs.ins (kW x d fr cnt,d)).os).length<=1000000:=by
  have h2:=AM hr.d1 h.dl;have h3:=jl (xs:=xs) hr.d1 m.fits;have h6:1500/(D*44)<=34:=by
   have:=hr.d1;have:1500/(D*44)<=1500/44:=abD ec ee;omega
  have h7:xs.length*(19+4*(1500/(D*44)+1))<=1000*(19+4*(34+1)):=Xm ec ec;rw [K,h.c];omega
 have hs:(fr.drop cnt).length=pgs D (an (xs.ins (kW x d fr cnt,d)).os).length:=by rw [f,h.pn,K,h.c];rfl
 have O:∀ o∈(xs.ins (kW x d fr cnt,d)).os,o.fit:=λo ho=>by
  obtain ⟨y,V,rfl⟩:=T9.1 ho;rcases Uv.1 ((jV xs (kW x d fr cnt,d)).mem_iff.1 V) with e|e
  . rw [e];exact h.TG.fit
  . exact (m.fits y e).fit
 have T:(xs.ins (kW x d fr cnt,d)).os.length<=10000:=by
  have:=(jV xs (kW x d fr cnt,d)).length_eq;have e:(xs.ins (kW x d fr cnt,d)).os.length=(xs.ins (kW x d fr cnt,d)).length:=KP
  rw [e,this,UA];omega
 have U:aA w2 p (A.wrTo D L G (fr.take cnt) (dz D d) cnt) F:=h.arr.below l lR;have M:bf (λk=>ar<k/\¬ F.S k/\¬ ps.bl k) w2 (Z6 (ZX ⟨g,cnt,ZY⟩) pgn c1) (fr.drop cnt):=h.q.keep (ef.RM l);have E:=nz (w:=w2) (h.live.arc.keep (r.block _ h.live.arc.lt h.live.nar)) (h.live.vol.turn r U i.n) (i.fine h.live.fine) h.live.nar
  oo _ Z (an (xs.ins (kW x d fr cnt,d)).os) (oZ _) R (uk j.any O T) g cnt c1 (fr.drop cnt) (by rw [f];exact M.TD λk a=>a.2.1) W (by rw [i.nb];exact Q) (λk a=>Dx hr.d1 (by rw [<- hs];exact a))
 rw [f] at E;have Y:nx t=t+1:=by have:=h.tl;unfold nx;omega
 refine E.mono ?_;rintro e w3 ⟨s,rfl,H,J⟩;have z:aa (λk=>k=ar\/F.S k) w w3:=(r.mono λ_ _ e=>.inr e).trans s
 . have I:ef (λk=>ar<k/\¬ F.S k/\¬ ps.bl k) w2 w3:=⟨s.size,λk a hK=>s.block k a (λe=>e.elim (λq=>e9 hK.1) hK.2.1)⟩;have B:=Ma m h.live.fine (kW x d fr cnt,d) h.TG h.no hs (by
    show ((fr.take cnt++fr.drop cnt)++(P++af xs.os)).Nodup;rw [Wn];exact h.apart.1) (by
    show ∀ b∈(fr.take cnt++fr.drop cnt)++(P++af xs.os),2<=b/\b<A.nb;rw [Wn];exact h.apart.2) (by
    show (af xs.os).length+(fr.take cnt).length+2*(fr.drop cnt).length+2<=A.nb;rw [C,f];exact h.room)
   have N:(kW x d fr cnt,d).1.RK.length=cnt:=C;rw [N] at B;rw [Y] at H J;have a:=i.trans (AN _ D L G (t+1) (fr.drop cnt) (an (xs.ins (kW x d fr cnt,d)).os));exact ⟨_,_,_,_,_,_,_,rfl,qG h.live J H z a (e9 h.tl) B (M.keep I) (j.keep I),a,z,.inl ⟨rfl,rfl,h.n⟩⟩
end
def MU {ps:aR} {xs:aL} (h:aS w ar v p ps D L G t pg ob P xs A F) {n cnt pgn:Nat} (k:cnt=mL D n) (o:pgn=AL D (an xs.os).length n) (c:(af xs.os).length+cnt+2*pgn+2<=A.nb) :
 ZS ZN 102 #[Z7 (ZX ⟨ar,0,ZY⟩),Z8 Z9 ((cnt:Int)+(pgn:Int))] w λe w'=>∃ g cap,e=Z4 (ZZ #[Z6 (ZX ⟨g,0,ZY⟩) (cnt+pgn) cap,Z3 ZW])/\w'.ownsRow w.heap.size 3 1 (Z6 (ZX ⟨g,0,ZY⟩) (cnt+pgn) cap) (cnt+pgn) (jZ ((aZ (tk A.nb (P++af xs.os)).1 A.nb).take (cnt+pgn)))/\((aZ (tk A.nb (P++af xs.os)).1 A.nb).take (cnt+pgn)).length=cnt+pgn/\cnt+pgn<=cap/\w.heap.size<=g/\g<w'.heap.size/\bW w w':=by
 have j:=Fl h.disk (count:=cnt) (pages:=pgn) (l:=19+4*mL D n) o c;have:=h.nb;have:1<=cnt:=by rw [k];unfold mL;omega
 have a:=lM h.arc h.vol.vol h.vol.arr h.n0 P xs.os h.pgs.any h.cat.any (cnt+pgn) ec;rw [UZ j,YO] at a;have b:((aZ (tk A.nb (P++af xs.os)).1 A.nb).take (cnt+pgn)).length=cnt+pgn:=Jx
 rw [b] at a;refine a.mono ?_;rintro e w' ⟨u,rfl,ho,d⟩;rcases ho.2 with ⟨_,q⟩|⟨g,cap,cur,rfl,f,m,i,_⟩
 . omega
 . exact ⟨g,cap,rfl,ho,b,i,f,(TX.1 m).1,d⟩
def Jv {e:ZP} {a b c:ZT} (h:ai w q e [a,b,c]):ai (((w.setCell ⟨q,0,ZY⟩ a').setCell ⟨q,1,ZY⟩ b').setCell ⟨q,2,ZY⟩ c') q e [a',b',c']:=
 ai.set h 0 [a',b',c'] ek
def Jw {a b c:ZT} (h:Below w7.drew.heap.size w7.drew w8):∃ q,Value.pointer (ZX ⟨w8.heap.size,0,ZY⟩)=Z7 (ZX ⟨q,0,ZY⟩)/\ai (w8.alloc (Z5 #[a,b,c] 152)) q 152 [a,b,c]/\w7.heap.size<=q/\bW w7 (w8.alloc (Z5 #[a,b,c] 152)):=by
 have d:bW w7 w8:=(TW _ w7).drew.trans h;exact ⟨_,rfl,UC w8 _,d.size,d.alloc d.size _⟩
def Jy {a b c:ZT} (h:Below (w7.drew.alloc (Z5 #[a',b',c'] 152)).heap.size (w7.drew.alloc (Z5 #[a',b',c'] 152)) w8) (f:ai w8 w7.heap.size 152 [a',b',c']):∃ q,Value.pointer (ZX ⟨w7.heap.size,0,ZY⟩)=Z7 (ZX ⟨q,0,ZY⟩)/\ai (((w8.setCell ⟨w7.heap.size,0,ZY⟩ a).setCell ⟨w7.heap.size,1,ZY⟩ b).setCell ⟨w7.heap.size,2,ZY⟩ c) q 152 [a,b,c]/\w7.heap.size<=q/\bW w7 (((w8.setCell ⟨w7.heap.size,0,ZY⟩ a).setCell ⟨w7.heap.size,1,ZY⟩ b).setCell ⟨w7.heap.size,2,ZY⟩ c):=by
 have d:bW w7 (w7.drew.alloc (Z5 #[a',b',c'] 152)):=(TW _ w7).drew.alloc lR _;have e:bW w7 w8:=d.trans (h.mono d.size);refine ⟨_,rfl,Jv f,TV _,?_⟩;exact Xs (p:=⟨w7.heap.size,2,ZY⟩) (Xs (p:=⟨w7.heap.size,1,ZY⟩) (Xs (p:=⟨w7.heap.size,0,ZY⟩) e lR a) lR b) lR c
theorem Pb {ps:aR} {xs:aL} (h:aS w ar v p ps D L G t pg ob P xs A F) (kx:t<1000000) (x:ByteArray) (ao:Option ZR) (c:Nat) (d:a8) (hd:∀ w',aa F.S w w'->Bs w' (.slice ao d.length c) d) (ki:d.length<=c) :
 ZS ZN 96 #[Z7 (ZX ⟨ar,0,ZY⟩),Z0 x,.slice ao d.length c] w (di w ar v p ps D L G t xs A F (wI D A.nb xs x d.length) (wJ D A.nb xs x d)):=by
 obtain ⟨n,b⟩:=nM (d.length);rw [b];have ks:∀ w' j,bW w w'->wI D A.nb xs x n j->di w ar v p ps D L G t xs A F (wI D A.nb xs x n) (wJ D A.nb xs x d) (Z4 (AK j)) w':=λw' j hb hq=>⟨_,_,_,_,_,_,_,rfl,h.below hb,dJ.refl A,aa.RL hb _,.inr ⟨rfl,rfl,j,rfl,hq⟩⟩;have J:=a6 hd b ki kx ks;clear hd b ki kx ks;obtain ⟨_,_,_,_,c8⟩:=h.arc.cells;have q6:=h.find x;obtain ⟨k,m⟩:=nM (aI xs.names x);obtain ⟨i,B⟩:=nM (mJ xs.os x);rw [m,B] at q6;have kr:=al m B;have E:=ak h;clear m B h;go_enter func96,ntmps96;go_wp2_with fail;refine q6.mono ?_;rintro e w1 ⟨rfl,hb⟩;have H:=ak hb;clear hb q6 c8;go_wp2_with fail;refine (jW x w1).mono ?_;rintro e w2 ⟨rfl,rfl⟩;cases hx:bZ x
 . dsimp only;go_wp2;go_ret;exact J.o.2.2.2.2 _ 6 H.o (.inl ⟨hx,rfl⟩)
 by_cases U:1500<n
 . have qy:(1500:Int)<(n:Int):=ec;dsimp only;go_wp2;go_ret;exact J.o.2.2.2.2 _ 7 H.o (.inr ⟨hx,.inl ⟨U,rfl⟩⟩)
 have qy:¬ (1500:Int)<(n:Int):=ec
 replace U:n<=1500:=ec
 by_cases T:x∈xs.names
 . have B:=E.o.there T;rw [kr.out.2] at B;subst B;have HM:=ak T;clear T kr;dsimp only;go_wp2;go_ret;exact J.o.2.2.2.2 _ 8 H.o (.inr ⟨hx,.inr ⟨U,.inl ⟨HM.o,rfl⟩⟩⟩)
 have B:=E.o.Sp T;rw [kr.out.2] at B;subst B;have HM:=ak T;clear T;have q5:=E.o.vol.par.d1;have qv:=E.o.vol.par.d;have qx:=E.o.packL_le;have qs:=AM q5 U;have qg:AL D (an xs.os).length n<=1000000:=Rw q5 ec;have qp:=E.o.Sj.2.1;obtain ⟨len,hz⟩:=nM ((an xs.os).length);obtain ⟨cnt,hh⟩:=nM (mL D n);obtain ⟨pgn,k0⟩:=nM (AL D len n);rw [hz] at qg qx;rw [k0] at qg;rw [hh] at qs;have a:=a5 E.o hh k0 hz;clear hz hh k0 E;dsimp only;have Y:=a.o.1.below H.o;obtain ⟨d0,_,d6,_,_⟩:=Y.arc.cells;rw [a.o.2.2.2] at d6;have qb:=dE Y.vol.vol ec;obtain ⟨q,hq⟩:=nM (D*44);rw [hq] at qb;have qa:=m3 n q ec ⟨ec,ec⟩ w2;have qf:max 1 ((n+q-1)/q)=cnt:=by rw [<- a.o.2.1,<- hq];rfl
 rw [qf] at qa;have q8:=λW=>gv cnt ec W;obtain ⟨pk,k5⟩:=nM (19+4*cnt);have qh:∀ W,W.heap=w2.heap->ZS ZN 103 #[Z7 (ZX ⟨ar,0,ZY⟩),Z8 Z9 ((len:Int)+(pk:Int))] W λe w'=>e=Z4 (Z8 Z9 (pgn:Nat))/\w'=W:=λW hW=>by
  have:=jh (w:=W) (Y.arc.keep (by rw [hW])) (Y.vol.vol.keep (by rw [hW])) q5 ec (len+(19+4*cnt)) ec;have e:YF D (len+(19+4*cnt))=pgn:=by rw [<- a.o.2.2.1,<- a.o.2.1];rfl
  rw [e,k5,YO] at this;exact this
 rw [k5] at q8;have x4:pk<=200:=ec
 have x7:IntKind.i64.wrap ((len:Int)+(pk:Int))=(len:Int)+(pk:Int):=l3
 have HP:=aE Y q8 qh;clear Y q8 qh qf hq k5;go_wp2_with fail;refine qb.mono ?_;rintro e w3 ⟨rfl,rfl⟩;clear qb;go_wp2_with fail;refine qa.mono ?_;rintro e w4 ⟨rfl,rfl⟩;clear qa;go_wp2_with fail;go_quiet (first|(go_at_call 126;refine abF (HP.o.2.1 _))|(go_at_call 103;refine abF (HP.o.2.2 _ rfl)));have q2:bW w4 (w4.drewN nq):=⟨rfl,rfl,rfl,TV _,λ_ _=>rfl⟩;have hs:=HP.o.1.below q2;have kv:=CL hs.arc hs.vol.vol hs.vol.arr hs.n0 xs.os hs.cat.any ec cnt pgn ec ec;have I:=al hs (H.o.trans (q2.mono H.o.size));clear q2 hs d0 d6;obtain ⟨w5,qo⟩:=nM (w4.drewN nq);rw [qo] at kv I ⊢;clear qo;go_wp2_with fail;refine kv.mono ?_;rintro e w6 ⟨rfl,kg⟩;by_cases M:(af xs.os).length+cnt+2*pgn+2<=A.nb;rotate_left
 . rw [Vr M];have r:=al M (I.o.2.trans (kg.mono I.o.2.size));clear kg kv I M;dsimp only;go_wp2;go_ret;exact J.o.2.2.2.2 _ 10 r.out.2 (.inr ⟨hx,.inr ⟨U,.inr ⟨HM.o,by have h1:=r.out.1;have h2:=a.o.2.1;have h3:=a.o.2.2.1;rw [<- a.o.2.2.2] at h3;rw [h2,h3];omega,rfl⟩⟩⟩)
 rw [UZ M];have q7:=I.o.1.below kg;have qn:=MU q7 (n:=n) (cnt:=cnt) (pgn:=pgn) a.o.2.1.symm (by rw [a.o.2.2.2];exact a.o.2.2.1.symm) M;have kz:=ak M;clear M;have r:=al q7 (I.o.2.trans (kg.mono I.o.2.size));clear kg kv I q7;dsimp only;have x8:IntKind.i64.wrap ((cnt:Int)+(pgn:Int))=(cnt:Int)+(pgn:Int):=l3
 go_wp2_with fail;refine qn.mono ?_;rintro e w7 ⟨g,cap,rfl,Z,f,qq,ko,kp,V⟩;have HT:=a7 Z f ko kp V (r.out.1.below V);clear qn Z f ko kp V;have k1:cnt<=cap:=ec
 have k3:(cnt:Int)<=(cap:Int):=ec
 dsimp only;go_upto_region 15 with fail;have qz:1<=x.size/\x.size<=16:=by have:=hx;unfold bZ at this;exact WE this
 have qk:=uJ x w7.drew ec ec;have qm:=uJ x (w7.drew.alloc (Z5 #[.string ⟨#[]⟩,Z8 Z9 0,Z6 ZY 0 0] 152)) ec ec;have qe:ai (w7.drew.alloc (Z5 #[.string ⟨#[]⟩,Z8 Z9 0,Z6 ZY 0 0] 152)) w7.heap.size 152 [.string ⟨#[]⟩,Z8 Z9 0,Z6 ZY 0 0]:=UC w7.drew _;have HS:=aE qk qm qe;clear qk qm qe qz;go_cut [13] from 72 to 80 (λqr wx=>∃ q,qr=Z7 (ZX ⟨q,0,ZY⟩)/\ai wx q 152 [Z0 x,Z8 Z9 (n:Nat),Z6 (ZX ⟨g,0,ZY⟩) cnt cnt]/\w7.heap.size<=q/\bW w7 wx)
 case first=>
  go_region_with (first
   | (go_at_call 128;refine HS.o.1.mono ?_;rintro e w8 ⟨rfl,X⟩;have H8:=ak X;clear X)
   | (go_at_call 128;refine HS.o.2.1.mono ?_;rintro e w8 ⟨rfl,X⟩;have K:ai w8 w7.heap.size 152 [.string ⟨#[]⟩,Z8 Z9 0,Z6 ZY 0 0]:=HS.o.2.2.keep (X.block _ HS.o.2.2.lt);have z0:=K.cell (j:=0) (u:=.string ⟨#[]⟩) rfl;have z1:=K.cell (j:=1) (u:=Z8 Z9 0) rfl;have z2:=K.cell (j:=2) (u:=Z6 ZY 0 0) rfl;have y0:=K.R2 0;have y1:=K.R2 1;have y2:=K.R2 2;have H9:=al X K;clear X K))
  all_goals first
   | (go_wp2_with fail;go_meet;case rel=>exact Jw H8.o)
   | (go_wp2_with fail;go_meet;case rel=>exact Jy H9.o.1 H9.o.2)
 case rest=>
  obtain ⟨q,rfl,s,x5,kh⟩:=hcut;have x0:=s.cell (j:=0) (u:=Z0 x) rfl;have x1:=s.cell (j:=1) (u:=Z8 Z9 (n:Nat)) rfl;have x2:=s.cell (j:=2) (u:=Z6 (ZX ⟨g,0,ZY⟩) cnt cnt) rfl;obtain ⟨fr,N⟩:=nM ((aZ (tk A.nb (P++af xs.os)).1 A.nb).take (cnt+pgn));rw [N] at HT;obtain ⟨Z,f,ko,kp,V,O⟩:=HT.o;have l:=O.below kh;have hg:bW w w7:=r.out.2.trans (V.mono r.out.2.size);have R:bW w wc:=hg.trans (kh.mono hg.size);have hp:ar<g/\¬ F.S g/\¬ ps.bl g:=⟨e9 r.out.1.arc.lt,λe=>e9 (r.out.1.vol.arr.RN e),λe=>e9 (ps.lt _ r.out.1.kit _ e)⟩;have km:¬ F.S q:=λe=>e9 (O.vol.arr.RN e)
  have x6:=O.nb;have q9:∀ c1,bf (λk=>ar<k/\¬ F.S k/\¬ ps.bl k) wc (Z6 (ZX ⟨g,0,ZY⟩) cnt c1) (fr.take cnt):=λc1=>(yT Z f hp (e9 kz.out)).keep (ef.RM kh);have kk:∀ c1,bf (λk=>ar<k/\¬ F.S k/\¬ ps.bl k) wc (Z6 (ZX ⟨g,cnt,ZY⟩) pgn c1) (fr.drop cnt):=λc1=>(Jp Z f hp (e9 kz.out)).keep (ef.RM kh);have k6:(fr.take cnt).length=cnt:=by rw [Uo,f];omega
  have q1:=nA O.disk.nod O.disk.Tl (cnt+pgn);rw [N] at q1;have hr:=O.vol.par;obtain ⟨hd,b,ki,kx,ks⟩:=J.o;have ky:=rW l.arc l.vol l.fine l.nar x _ (fr.take cnt) ((q9 cnt).TD λk m=>m.2.1) (λy hy=>(q1.2 y (UG _ (UX hy))).2) ao c d (λw' hO=>hd w' ((aa.RL R _).trans hO)) ec ki (λk m=>by
   rw [k6,<- a.o.2.1] at m;rw [b];exact Dy hr.d1 m)
  unfold E4 at ky;rw [k6,b] at ky;have H9:=hide9 l R s km q9 kk f N b;have x3:1<=pgn:=by rw [<- a.o.2.2.1];unfold AL pgs;omega
  clear s kh Z f ko kp V O l hg R hp km q9 kk k6 q1 hr hd b ki kx ks N HT HS HP H x5;go_wp2_with fail;refine ky.mono ?_;rintro e C ⟨rfl,kb,Q⟩;obtain ⟨l,R,s,km,qj,qi,f,N,b⟩:=H9.o;have hc:ai C q 152 _:=s.keep (Q.block _ s.lt km);have xd:=hc.cell (j:=0) (u:=Z0 x) rfl;have xe:=hc.cell (j:=1) (u:=Z8 Z9 (n:Nat)) rfl;have xf:=hc.cell (j:=2) (u:=Z6 (ZX ⟨g,0,ZY⟩) cnt cnt) rfl;have ke:=l.arc.keep (Q.block _ l.arc.lt l.nar);obtain ⟨_,_,_,_,y8⟩:=ke.cells;have qd:aa (F.S) w C.drew:=(aa.RL R _).trans (Q.trans (aa.drew _));have q0:ef (λk=>ar<k/\¬ F.S k/\¬ ps.bl k) wc C.drew:=⟨Q.size,λk m hK=>Q.block k m hK.2.1⟩;have q4:∀ z∈d,z<256:=by obtain ⟨_,_,_,_,_,q3,_⟩:=J.o.1 w (aa.refl _ _);exact q3
  have h4:b8 w C.drew ar v p ps D L G t pg ob P xs A F x d fr g cnt pgn (cap-cnt):=⟨a.o.1,J.o.2.2.2.1,qd,kb.keep λ_ _=>rfl,hx,HM.o,by rw [b];exact U,q4,by rw [b];exact a.o.2.1.symm,by rw [b,a.o.2.2.2];exact a.o.2.2.1.symm,N.symm,f,kz.out,(qj _).keep q0,(qi _).keep q0⟩;have qc:=MT h4;rw [b,kr.out.1] at qc;have HR:=al qc h4;clear qc h4 hc qd q0 l R s km qj qi f N b kb Q ky x0 x1 x2 ke;have k4:¬ cap=cnt:=ec
  go_wp2_with fail;go_region_with (first
   | (go_at_call 130;refine HR.o.1.mono ?_;rintro e xb ⟨u,rfl,kc,kf⟩;have HC:=ak (FG HR.o.2 kc kf);clear kc kf)
   | (go_at_call 105;refine HC.o.mono ?_;rintro e xc ⟨er,t',xa,x9,P',xs',B',rfl,kj⟩;have HF:=ak kj;clear kj))
  all_goals (
   rw [J.o.2.1] at HF;go_wp2;go_ret;exact ⟨_,_,_,_,_,_,_,rfl,HF.o⟩)
end
structure Rt where
 D:Nat
 L:Nat
 G:Nat
 t:Nat
 f:Nat
 n:Nat
def Jz (x:Rt):Array ZT:=aj x.D x.L x.G x.t x.f x.n
def lX (x:Rt):Option bG->Rt
 | some (.root D L G t f n)=>if x.t<t then ⟨D,L,G,t,f,n⟩ else x
 | _=>x
def bt (R:Nat->Option bG):Nat->Rt
 | 0=>⟨0,0,0,0,0,0⟩
 | k+1=>lX (bt R k) (R k)
def FH (x k:Nat):Option bG->Nat
 | some .blank=>x|||2^k
 | _=>x
def cy (R:Nat->Option bG):Nat->Nat
 | 0=>0
 | k+1=>FH (cy R k) k (R k)
theorem iY (R:Nat->Option bG):∀ k,k<=60->cy R k<2^k
 | 0,_=>by simp [cy]
 | k+1,h=>by
  have:=iY R k ec;have a:2^k<2^(k+1):=VE ee ec;show FH (cy R k) k (R k)<2^(k+1);unfold FH;split
  . exact WO ec a
  . omega
def vv {o:Oper} {a:Act} (e:o.guard=ZY) (x y:Operand) (ho:o.op=.store 142 x y) {b D L G t f n:Nat} {cs:Array ZT}
 (g:a.eval x=Z7 (ZX ⟨b,0,ZY⟩)) (i:a.eval y=.agg (aj D L G t f n)) (c:w.heap[b]?=ZX (Z5 cs 142 (0,0))) (d:cs.size=6) (h:wpList ZN ops Q rest (a.put o.dst undef) (w.setRow b (aj D L G t f n))):wpList ZN ops Q (o::rest) a w:=by
 refine V0 e λK hK=>?_;unfold Oper.wp;simp [execOp,ho,g,i,ui c d,Result.andThen];exact hK _ _ h
def Pc (v:ZT) (w:ZU):(Instr.typeAssert (.iface 142 v) 215 142 ZW).run ZN w=.ok (ZZ #[v,Z3 ZW]) w:=by
 simp [Instr.typeAssert,UL XF]
def FJ:Option bG->Bool
 | some (.root ..)=>ZW
 | _=>ZV
def FK (h:FJ o=ZV) (w:ZU):(Instr.typeAssert (fU o) 215 142 ZW).run ZN w=.ok (ZZ #[.agg (aj 0 0 0 0 0 0),Z3 ZV]) w:=by
 match o,h with
 | none,_|some .blank,_|some .filled,_|some (.shard _),_=>simp [fU,dI,Instr.typeAssert,UL XF];rfl
def FL (w:ZU):(zeroValue 231).run ZN w=.ok (.agg #[]) w:=by
 obtain ⟨a,b,c⟩:∃ a,ZN.info? 231=ZX a/\a.zero=ZX (.agg #[]):=by
  have:(ZN.info? 231).map (λi=>i.zero)=ZX (ZX (.agg #[])):=ei
  rw [Wk] at this;exact this
 simp [zeroValue,typeInfo,UE,b,c]
def MV (v:ZT) (w:ZU):(Instr.typeAssert (.iface 231 v) 215 231 ZW).run ZN w=.ok (ZZ #[v,Z3 ZW]) w:=by
 simp [Instr.typeAssert,UL underlying231]
def sH:Option bG->Bool
 | some .blank=>ZW
 | _=>ZV
def DF (h:sH o=ZV) (w:ZU):(Instr.typeAssert (fU o) 215 231 ZW).run ZN w=.ok (ZZ #[.agg #[],Z3 ZV]) w:=by
 match o,h with
 | none,_|some (.root ..),_|some .filled,_|some (.shard _),_=>simp [fU,dI,Instr.typeAssert,UL underlying231]
def G0 {x:Nat} (h:sH o=ZV):FH x k o=x:=by
 match o,h with
 | none,_|some (.root ..),_|some .filled,_|some (.shard _),_=>rfl
def JA {x:Rt} (h:FJ o=ZV):lX x o=x:=by
 match o,h with
 | none,_|some .blank,_|some .filled,_|some (.shard _),_=>rfl
def fR (w:ZU) (D L G t f n:Nat):ZU:=(w.alloc (Z5 (aj 0 0 0 0 0 0) 142)).setRow w.heap.size (aj D L G t f n)
def vw (w:ZU) (D L G t f n:Nat):(fR w D L G t f n).heap[w.heap.size]?=ZX (Z5 (aj D L G t f n) 142 (0,0)):=Vt _ _ _ _ _ _ (Ug w (Z5 (aj 0 0 0 0 0 0) 142))
def eX (w:ZU) (D L G t f n:Nat):bW w (fR w D L G t f n):=(bA w _).trans ⟨rfl,rfl,rfl,by unfold fR;rw [jd];exact TV _,λk a=>(aY _ _ _).block k en (λq=>e9 (UM q))⟩
def AR {o:Oper} {a:Act} (b:o.guard=ZY) (x y:Operand) (ho:o.op=.store 142 x y) {D L G t f n:Nat}
 (c:a.eval x=Z7 (ZX ⟨w.heap.size,0,ZY⟩)) (d:a.eval y=.agg (aj D L G t f n)) (h:wpList ZN ops Q rest (a.put o.dst undef) (fR w D L G t f n)):wpList ZN ops Q (o::rest) a (w.alloc (Z5 (aj 0 0 0 0 0 0) 142)):=
 vv b x y ho c d (Ug _ _) rfl h
def BkR (w:ZU) (R:Nat->Option bG) (N:Nat) (s i:ZT) (wr:ZU):Prop:=∃ k:Nat,k<=N/\i=Z8 Z9 k/\s=Z8 .u64 (cy R k:Nat)/\bW w wr
theorem vz (R:Nat->Option bG) (t:N<=60) (b:w.rowIs g 215 N (λi=>fU (R i))) :
 ZS ZN 93 #[Z6 (ZX ⟨g,0,ZY⟩) N N] w λe w'=>e=Z4 (Z8 .u64 (cy R N:Nat))/\bW w w':=by
 have p:=b.lt;have x:=FL;go_enter func93,ntmps93;go_wp2_with fail;go_loopw [2,9] (λs i wr=>BkR w R N s i wr) (λ_ i _=>N-(intOf i).toNat)
 case atStart=>exact ⟨0,T8 _,rfl,rfl,TW _ _⟩
 case round=>
  obtain ⟨k,v,rfl,rfl,a⟩:=hrel;by_cases r:k<N
  . have h:wr.rowIs g 215 N (λi=>fU (R i)):=b.of_block (a.block g p);have c:=h.cell (i:=k) r;have hs:cy R (k+1)=FH (cy R k) k (R k):=rfl;have f:=iY R k ec;have n:cy R k<18446744073709551616:=Xg f (Ca ec);have j:=a.size;cases d:sH (R k) with
    | false=>
     have m:=DF d;rw [G0 d] at hs;obtain ⟨u,l⟩:=nM (fU (R k));simp only [l] at c m;have H:=al a hs;clear a h hs f b l;go_wp2;refine ⟨⟨k+1,ec,eT,by rw [H.o.2],H.o.1.alloc j _⟩,l7⟩
    | true=>
     have d:R k=ZX .blank:=by
      match R k,d with
      | some .blank,_=>rfl
     have m:=MV;rw [d] at c hs;simp only [fU,dI] at c;have H:=al a hs;clear a h hs f b;go_wp2_with fail;refine (eU _ k n ec _).mono ?_;rintro e w2 ⟨rfl,rfl⟩;go_wp2;refine ⟨⟨k+1,ec,eT,by rw [H.o.2];rfl,H.o.1.alloc j _⟩,l7⟩
  . have q:k=N:=ec;subst q;have H:=ak a;clear a b;go_wp2;go_ret;exact ⟨rfl,H.o⟩
def LrR (w:ZU) (R:Nat->Option bG) (N:Nat) (i:ZT) (wr:ZU):Prop:=∃ k:Nat,k<=N/\i=Z8 Z9 k/\wr.heap[w.heap.size]?=ZX (Z5 (Jz (bt R k)) 142 (0,0))/\bW w wr
theorem AS (R:Nat->Option bG) (V:N<=60) (h:w.rowIs g 215 N (λi=>fU (R i))) :
 ZS ZN 90 #[Z6 (ZX ⟨g,0,ZY⟩) N N] w λe w'=>e=Z4 (.agg (Jz (bt R N)))/\bW w w':=by
 have P:=h.lt;have E:(w.alloc (Z5 (aj 0 0 0 0 0 0) 142)).heap[w.heap.size]?=ZX (Z5 (Jz (bt R 0)) 142 (0,0)):=Ug _ _;have I:bW w (w.alloc (Z5 (aj 0 0 0 0 0 0) 142)):=bA w _;have W:=pZ;go_enter func90,ntmps90;go_wp2_with fail;go_loopw [9] (λi wr=>LrR w R N i wr) (λi _=>N-(intOf i).toNat)
 case atStart=>exact ⟨0,T8 _,rfl,E,I⟩
 case round=>
  clear E I;obtain ⟨k,p,rfl,d,a⟩:=hrel;by_cases S:k<N
  . have z:wr.rowIs g 215 N (λi=>fU (R i)):=h.of_block (a.block g P);have c:=z.cell (i:=k) S;have hl:bt R (k+1)=lX (bt R k) (R k):=rfl;have K:=a.size;have F:w.heap.size<wr.heap.size:=(TX.1 d).1;have x:(fR wr 0 0 0 0 0 0).heap[w.heap.size]?=ZX (Z5 (Jz (bt R k)) 142 (0,0)):=((eX wr 0 0 0 0 0 0).block _ F).trans d;have s:bW w (fR wr 0 0 0 0 0 0):=a.trans ((eX wr 0 0 0 0 0 0).mono K);cases j:FJ (R k) with
    | false=>
     have t1:=FK j;rw [JA j] at hl;obtain ⟨u,M⟩:=nM (fU (R k));simp only [M] at c t1;have H:=aE x s hl;clear d a z hl h x s M;go_wp2_with (show wpList _ _ _ ({ dst:=ZY,op:=Op.store 142 (Z1 5) (Z1 16),type:=_,pos:=_,after:=_,guard:=_ }::_) _ _;refine AR (w:=wr) (D:=0) (L:=0) (G:=0) (t:=0) (f:=0) (n:=0) rfl (Z1 5) (Z1 16) rfl um um ?_);refine ⟨⟨k+1,ec,eT,by rw [H.o.2.2];exact H.o.1,H.o.2.1⟩,l7⟩
    | true=>
     obtain ⟨D,L,G,t,f,n,j⟩:∃ D L G t f n,R k=ZX (.root D L G t f n):=by
      match R k,j with
      | some (.root ..),_=>exact ⟨_,_,_,_,_,_,rfl⟩
     have t1:=Pc;rw [j] at c hl;simp only [fU,dI] at c;have m:=vw wr D L G t f n;have l:(fR wr D L G t f n).heap[w.heap.size]?=ZX (Z5 (Jz (bt R k)) 142 (0,0)):=((eX wr D L G t f n).block _ F).trans d;have y:bW w (fR wr D L G t f n):=a.trans ((eX wr D L G t f n).mono K);obtain ⟨w6,A⟩:=nM (fR wr D L G t f n);rw [A] at m l y;have U:w6.cell? ⟨wr.heap.size,3,ZY⟩=ZX (Z8 .u64 t):=(by simp [World.cell?,m,aj]);have c0:w6.cell? ⟨w.heap.size,3,ZY⟩=ZX (Z8 .u64 (bt R k).t):=(by simp [World.cell?,l,Jz,aj]);have H:=a6 A m l y hl;clear d a z hl h A m l y x s;by_cases J:(bt R k).t<t
     . go_wp2_with (first|(show wpList _ _ _ ({ dst:=ZY,op:=Op.store 142 (Z1 5) (Z1 16),type:=_,pos:=_,after:=_,guard:=_ }::_) _ _;refine AR (w:=wr) (D:=D) (L:=L) (G:=G) (t:=t) (f:=f) (n:=n) rfl (Z1 5) (Z1 16) rfl um um ?_;rw [H.o.1])|(show wpList _ _ _ ({ dst:=ZX 26,op:=_,type:=_,pos:=_,after:=_,guard:=_ }::_) _ _;refine kS (D:=D) (L:=L) (G:=G) (t:=t) (f:=f) (n:=n) (b:=wr.heap.size) rfl (Z1 5) rfl rfl um (by exact H.o.2.1) ?_)|(show wpList _ _ _ ({ dst:=ZY,op:=Op.store 142 (Z1 2) (Z1 26),type:=_,pos:=_,after:=_,guard:=_ }::_) _ _;refine vv (D:=D) (L:=L) (G:=G) (t:=t) (f:=f) (n:=n) (b:=w.heap.size) (cs:=Jz (bt R k)) rfl (Z1 2) (Z1 26) rfl um um (by exact H.o.2.2.1) rfl ?_));obtain ⟨_,T,B,r,C⟩:=H.o;refine ⟨⟨k+1,ec,eT,?_,r.trans ⟨rfl,rfl,rfl,by rw [jd];exact TV _,λk p=>(aY _ _ _).block k (T7 p r.size) (λq=>e9 (UM q))⟩⟩,l7⟩;rw [C];rw [show lX (bt R k) (ZX (.root D L G t f n))=⟨D,L,G,t,f,n⟩ from TT J];exact Vt _ _ _ _ _ _ B
     . go_wp2_with (show wpList _ _ _ ({ dst:=ZY,op:=Op.store 142 (Z1 5) (Z1 16),type:=_,pos:=_,after:=_,guard:=_ }::_) _ _;refine AR (w:=wr) (D:=D) (L:=L) (G:=G) (t:=t) (f:=f) (n:=n) rfl (Z1 5) (Z1 16) rfl um um ?_;rw [H.o.1]);obtain ⟨_,T,B,r,C⟩:=H.o;refine ⟨⟨k+1,ec,eT,?_,r⟩,l7⟩;rw [C];rw [show lX (bt R k) (ZX (.root D L G t f n))=bt R k from TS J];exact B
  . have Q:k=N:=ec;subst Q;have H:=al d a;clear d a h;go_wp2_with (first|(show wpList _ _ _ ({ dst:=ZX 28,op:=_,type:=_,pos:=_,after:=_,guard:=_ }::_) _ _;refine kS (b:=w.heap.size) (ra:=Jz (bt R k)) rfl (Z1 2) rfl rfl um acr ?_)|(show wpList _ _ _ ({ dst:=ZY,op:=Op.store 142 (Z1 2) (Z1 28),type:=_,pos:=_,after:=_,guard:=_ }::_) _ _;refine vv (b:=w.heap.size) (cs:=Jz (bt R k)) (D:=(bt R k).D) (L:=(bt R k).L) (G:=(bt R k).G) (t:=(bt R k).t) (f:=(bt R k).f) (n:=(bt R k).n) rfl (Z1 2) (Z1 28) rfl um um acr rfl ?_));have O:=Vt _ _ _ (Jz (bt R k)) _ _ H.o.1;refine Ut (v:=.agg (Jz (bt R k))) (Wp results90 _ _ w.heap.size 142 (Jz (bt R k)) (0,0) _ rfl O XF rfl (kR _ _ _ _ _ _)) rfl ?_;exact ⟨rfl,H.o.2.trans ⟨rfl,rfl,rfl,by rw [jd];exact TV _,λk p=>(aY _ _ _).block k (T7 p H.o.2.size) (λq=>e9 (UM q))⟩⟩
def yY (t:ZP) (y:ZT) (w:ZU):(Op.equalIn 10000 215 .nilIface (.iface t y)).run ZN w=.ok ZV w:=by
 rw [Op.equalIn];simp [UE,UL acf,UT]
def MW:bG->Prop
 | .filled=>True
 | .root ..=>True
 | _=>False
def DG:∃ i:TypeInfo,ZN.info? 180=ZX i/\i.comparable=ZW:=by
 have:(ZN.info? 180).map (λi=>i.comparable)=ZX ZW:=ei
 rw [Wk] at this;exact this
def Fnd (o:Option bG) (r:bG):Prop:=o=ZY\/o=ZX .blank\/o=ZX r
def rI {t:ZP} (a:t≠231) (y:ZT) (w:ZU):(Op.equalIn 10000 215 (dI .blank) (.iface t y)).run ZN w=.ok ZV w:=by
 rw [Op.equalIn];simp [dI,UE,UL acf,UT,a.symm]
theorem JB {r:bG} (d:MW r) (h:Fnd o r):∃ b,(o=ZY\/o=ZX .blank->b=ZV)/\∀ w:ZU,(Op.equalIn 10000 215 (fU o) (dI r)).run ZN w=.ok b w:=by
 match r,d with
 | .filled,_=>
  rcases h with rfl|rfl|rfl
  . exact ⟨_,λ_=>rfl,yY _ _⟩
  . exact ⟨_,λ_=>rfl,rI ee _⟩
  . obtain ⟨i,a,c⟩:=DG;exact ⟨ZW,λq=>(by rcases q with q|q<;>cases q),λw=>(uX 9999 180 _ _ i a c w).trans ua⟩
 | .root D L G t f n,_=>
  rcases h with rfl|rfl|rfl
  . exact ⟨_,λ_=>rfl,yY _ _⟩
  . exact ⟨_,λ_=>rfl,rI ee _⟩
  . obtain ⟨i,a,c⟩:=Mx;exact ⟨ZW,λq=>(by rcases q with q|q<;>cases q),λw=>(uX 9999 142 _ _ i a c w).trans (by unfold aj;go_simp)⟩
def vA (o:Option bG):fU o=.nilIface\/∃ t x,fU o=.iface t x:=by
 cases o with
 | none=>exact .inl rfl
 | some r=>exact .inr (iP r)
def FM {r:bG} (d:MW r) (h:Fnd o r):∃ b,(o=ZY\/o=ZX .blank->b=ZW)/\∀ w:ZU,(binOp .neq 215 (fU o) (dI r)).run ZN w=.ok (Z3 b) w:=by
 obtain ⟨b,f,c⟩:=JB d h;refine ⟨!b,λq=>(by rw [f q];rfl),λw=>?_⟩;have a:=c w;obtain ⟨t,x,g⟩:=iP r;rcases vA o with e|⟨i,y,e⟩<;>(rw [e,g] at a ⊢;simp only [binOp];simp [Op.equal,Op.maxDepth,a])
def UgR (w:ZU) (N:Nat) (R:Nat->Option bG) (s i:ZT) (wr:ZU):Prop:=∃ k x:Nat,k<=N/\i=Z8 Z9 k/\s=Z8 .u64 x/\x<2^k/\(∀ i,i<k->R i=ZY\/R i=ZX .blank->x.testBit i=ZW)/\wr=w
theorem vC {r:bG} {R:Nat->Option bG} (M:N<=60) (D:MW r) (hr:∀ i,i<N->Fnd (R i) r) (d:w.rowIs g 215 N (λi=>fU (R i))) :
 ZS ZN 117 #[Z6 (ZX ⟨g,0,ZY⟩) N N,dI r] w λe w'=>∃ x:Nat,e=Z4 (Z8 .u64 x)/\x<2^N/\(∀ i,i<N->R i=ZY\/R i=ZX .blank->x.testBit i=ZW)/\w'=w:=by
 have l:∀ i,i<N->∃ b,(R i=ZY\/R i=ZX .blank->b=ZW)/\∀ w:ZU,(binOp .neq 215 (fU (R i)) (dI r)).run ZN w=.ok (Z3 b) w:=λi a=>FM D (hr i a);obtain ⟨P,rv,C⟩:=iP r;rw [C] at l ⊢;clear C hr D;have HN:=ak l;clear l;go_enter func117,ntmps117;go_wp2_with fail;go_loopw [4,9] (λs i wr=>UgR w N R s i wr) (λ_ i _=>N-(intOf i).toNat)
 case atStart=>exact ⟨0,0,T8 _,rfl,rfl,ee,λi a=>absurd a (XK _),rfl⟩
 case round=>
  obtain ⟨k,x,O,rfl,rfl,f,F,rfl⟩:=hrel;have HT:=ak F;clear F;by_cases B:k<N
  . have c:=d.cell (i:=k) B;have K:x<18446744073709551616:=Xg f (Ca ec);have n:=eU x k K ec wr;have m:x|||2^k<2^(k+1):=WO (Xg f (VE ee ec)) (VE ee ec);have E:x<2^(k+1):=Xg f (VE ee ec);have H:=ak d;clear d;obtain ⟨b,A,I⟩:=HN.o k B;have z:b=ZV->∀ i,i<k+1->R i=ZY\/R i=ZX .blank->x.testBit i=ZW:=λe i a q=>by
     by_cases h:i=k
     . rw [h] at q;rw [A q] at e;cases e
     . exact HT.o i ec q
    have j:∀ i,i<k+1->R i=ZY\/R i=ZX .blank->(x|||2^k).testBit i=ZW:=λi a q=>by
     rw [V6];by_cases h:i=k
     . rw [h];simp
     . rw [HT.o i ec q,Bool.true_or]
    obtain ⟨y,L⟩:=nM (x|||2^k);rw [L] at n m j;have t:=ak z;have v:=ak j;clear z j A;have p:=ak n;clear n;rcases vA (R k) with G|⟨Q,u,G⟩<;>simp only [G] at c I<;>cases b
    . go_wp2;exact ⟨⟨k+1,x,ec,eT,rfl,E,t.out rfl,rfl⟩,l7⟩
    . go_wp2_with fail;refine p.o.mono ?_;rintro e w' ⟨rfl,rfl⟩;go_wp2;exact ⟨⟨k+1,y,ec,eT,rfl,m,v.out,rfl⟩,l7⟩
    . go_wp2;exact ⟨⟨k+1,x,ec,eT,rfl,E,t.out rfl,rfl⟩,l7⟩
    . go_wp2_with fail;refine p.o.mono ?_;rintro e w' ⟨rfl,rfl⟩;go_wp2;exact ⟨⟨k+1,y,ec,eT,rfl,m,v.out,rfl⟩,l7⟩
  . have J:k=N:=ec;subst J;clear d;go_wp2;go_ret;exact ⟨x,rfl,f,HT.o,rfl⟩
def RG (h:pF w sb room) (D L G:Nat):gM w sb room D L G [] []:=by
 obtain ⟨d,⟨n,f⟩,g,_⟩:=h.parts;refine ⟨d,h.RY,⟨n,f⟩,⟨λ_=>⟨0,0,0,0,ZV,0,Z6 ZY 0 0⟩,λ_=>sb,λ_=>sb,λa c=>?_,⟨rfl,rfl⟩,λq b=>acw⟩,by simp [j7],by simp [cO],λe i=>(by cases i),λq b=>acw,rfl,λq b=>acw,λq b=>acw,λq b=>acw,λq b=>acw⟩;rcases c with rfl|c
 . exact g
 . cases c
def aS.other {ps:aR} {xs:aL} (h:aS w ar v p ps D L G t pg ob P xs A F) (g:w.heap.size<=w'.heap.size) {b:Nat} (a:∀ j,j≠b->j<w.heap.size->w'.heap[j]?=w.heap[j]?) (q:b<ar) (m:b≠v) (i:¬ F.S b) (o:3<=b) (l:¬ ps.bl b):aS w' ar v p ps D L G t pg ob P xs A F:=by
 have c:ef (λk=>ar<k/\¬ F.S k/\¬ ps.bl k) w w':=⟨g,λk n hK=>a k (e9 hK.1) n⟩;exact { h with arc:=h.arc.keep (a _ ec h.arc.lt),vol:={ h.vol with vol:=h.vol.vol.keep (a _ (Vn m) h.vol.vol.lt),arr:=h.vol.arr.keep λj f=>a j (λe=>i (e▸f)) (h.vol.arr.RN f),laid:=h.vol.laid.keep (a _ ec h.vol.laid.lt),tab:=h.vol.tab.keep (a _ ec h.vol.tab.lt),room:=TU h.vol.room g },pgs:=h.pgs.keep c,cat:=h.cat.keep c,kit:=ps.keep _ _ h.kit λk d=>a k (λe=>l (e▸d)) (ps.lt _ h.kit k d) }
def aA.kind {X:ZU} (h:aA X p A F) {k:Nat} (e:F.S k):∃ cs T,X.heap[k]?=ZX (Z5 cs T (0,0))/\(T=75\/T=79\/T=114\/T=4):=by
 obtain ⟨R,h,_⟩:=h;rcases (h.S k).1 e with rfl|rfl|⟨i,b,rfl|rfl⟩
 . exact ⟨_,_,h.top,.inl rfl⟩
 . obtain ⟨cs,d,_⟩:=h.drv;exact ⟨_,_,d,.inr (.inl rfl)⟩
 . obtain ⟨c,a,_⟩:=h.blk i b;exact ⟨_,_,a,.inr (.inr (.inl rfl))⟩
 . obtain ⟨c,a,_⟩:=h.bad i b;exact ⟨_,_,a,.inr (.inr (.inr rfl))⟩
def vD {L:List (ByteArray×ZT)} (hs:∀ o∈L,kG o.2):∀ u∈aO L,u.oneCell'=ZW:=by
 intro u a;unfold aO at a;rw [XR] at a;obtain ⟨q,d,b⟩:=a;simp at b;rcases b with rfl|rfl
 . rfl
 . obtain ⟨ao,n,c,e,_⟩:=hs q d;rw [e];rfl
def MX {v:ZT} {L:List (ByteArray×ZT)} (h:w.ownsRow base 101 2 v L.length (aO L)) (hs:∀ o∈L,kG o.2):Src ZN 2 36 v L.length (aO L) w:=by
 rcases h.2 with ⟨rfl,a⟩|⟨g,cap,cur,rfl,b,c,d,e,f,i⟩
 . have:L=[]:=UW a;subst this;exact XS w U2 0
 . exact Vl w U2 ⟨g,0,ZY⟩ L.length cap (aO L) (kF L) (h.cells (g:=g) rfl) (vD hs)
def Tryz.Sd:(ZN.info? 101).map (λi=>(i.zero,i.size,i.bytes))=ZX (ZX (.agg #[Z0 YJ,Z6 ZY 0 0]),2,40):=ei
theorem yZ {v:ZT} {L:List (ByteArray×ZT)} (h:rT w r base v L) (hl:L.length<=1000000) (hs:∀ o∈L,kG o.2) :
 ZS ZN 32 #[Z7 (ZX ⟨r,0,ZY⟩)] w λe w'=>e=Z4 (Z7 (ZX ⟨w.heap.size,0,ZY⟩))/\(∃ u,rT w' w.heap.size (w.heap.size+1) u L)/\bW w w':=by
 have B:r<w.heap.size:=(TX.1 h.top).1;obtain ⟨w1,j⟩:=nM (w.alloc (Z5 #[Z6 ZY 0 0] 38));have l:w1.heap.size=w.heap.size+1:=by rw [<- j];simp
 have b:bW w w1:=by rw [<- j];exact bA w _
 have m:w1.heap[w.heap.size]?=ZX (Z5 #[Z6 ZY 0 0] 38 (0,0)):=by rw [<- j];exact Ug w (Z5 #[Z6 ZY 0 0] 38)
 have s:World.ownsRow w1.drew base 101 2 v L.length (aO L):=by rw [<- j];exact h.own.alloc _
 have t:=(b.block r B).trans h.top;obtain ⟨id,n,A,z,y⟩:=Uu Tryz.Sd;obtain ⟨F,w2,hr,a,d,x⟩:=ld (P:=ZN) w1.drew w1.heap.size 36 36 36 101 id _ 2 40 U2 n A z y rfl (Z6 ZY 0 0) 0 [] (UK _ _ _ _) v L.length (aO L) (MX s hs) eD ec lR;rw [Uj,Uq] at a;obtain ⟨q,sl,sc,rfl⟩:∃ q sl sc,F=.slice q sl sc:=by
  rcases a.2 with ⟨e,_⟩|⟨g,cap,cur,e,_⟩
  . exact ⟨_,_,_,e⟩
  . exact ⟨_,_,_,e⟩
 have f:bW w1 w2:=⟨d.os,d.tape,d.output,d.size,λk E=>d.block k E vm⟩;have c:=(f.block _ ec).trans m;have c0:w1.cell? ⟨w.heap.size,0,ZY⟩=ZX (Z6 ZY 0 0):=by simp [World.cell?,m]
 have c1:w1.cell? ⟨r,0,ZY⟩=ZX v:=acu
 have G:w2.cell? ⟨w.heap.size,0,ZY⟩=ZX (Z6 ZY 0 0):=by simp [World.cell?,c]
 have I:w2.frozen? ⟨w.heap.size,0,ZY⟩=ZV:=by simp [World.frozen?,c]
 have H:=a7 hr a f c b l;clear hr a d x f c b m s t l;go_enter func32,ntmps32;go_wp2_with fail;go_region_law (refine lW rfl _ _ 36 36 rfl _ _ ZH ZH H.o.1 ?_)
 all_goals (
  go_wp2;go_ret;obtain ⟨_,a,f,c,b,l⟩:=H.o;have C:w2.grownBy (w2.setCell ⟨w.heap.size,0,ZY⟩ (.slice q sl sc)) (ZX w.heap.size):=⟨rfl,rfl,rfl,oB,λi _ D=>Ud _ _ _ _ (λe=>D Wb)⟩;rw [l] at a;exact ⟨rfl,⟨_,by simp [World.setCell,Vy,c],a.kept C (.inr λe=>e9 ((a.lt _ e).1))⟩,(b.trans (f.mono b.size)).setCell (p:=⟨w.heap.size,0,ZY⟩) lR _⟩)
def zd {L:List (ByteArray×ZT)} (hs:∀ o∈L,kG o.2) (k:Nat):∀ o∈L.take k,kG o.2:=λo h=>hs o (UX h)
def qN {L:List (ByteArray×ZT)} (hs:∀ o∈L,kG o.2) (k:Nat):∀ o∈L.drop k,kG o.2:=λo h=>hs o (U0 h)
def pd {off n:Nat} {L:List (ByteArray×ZT)} (h:L.length=n) (f:∀ k (l:k<L.length),w.cell? ⟨g,off+k*2,ZY⟩=ZX (Z0 L[k].1)/\w.cell? ⟨g,off+k*2+1,ZY⟩=ZX L[k].2) (hs:∀ o∈L,kG o.2) :
 Src ZN 2 36 (Z6 (ZX ⟨g,off,ZY⟩) n c) n (aO L) w:=by
 subst h;refine Vl w U2 ⟨g,off,ZY⟩ L.length c (aO L) (kF L) (λj u a=>?_) (vD hs);rw [Vo];have:j<L.length*2:=by
  obtain ⟨q,_⟩:=Va.1 a;rwa [kF] at q
 obtain ⟨q1,q2⟩:=tG L (j/2) ec;obtain ⟨c1,d⟩:=f (j/2) ec;by_cases e:j%2=0
 . have b:j/2*2=j:=ec;rw [b] at q1 c1;rw [q1] at a;rw [c1,a]
 . have b:j/2*2+1=j:=ec;rw [b] at q2;rw [q2] at a;rw [(ec:off+j/2*2+1=off+j)] at d;rw [d,a]
def vF {e:ZP} {v:ZT} {n:Nat} {xs:List ZT} (h:w.ownsRow base e size v n xs):∃ a sl sc,v=.slice a sl sc:=by
 rcases h.2 with ⟨q,_⟩|⟨g,cap,cur,q,_⟩
 . exact ⟨_,_,_,q⟩
 . exact ⟨_,_,_,q⟩
def aaS (w:ZU) (r:Nat) (L:List (ByteArray×ZT)) (name:ByteArray) (e:ZQ) (w':ZU):Prop:=
 (¬ eK name/\e=Z4 (Z8 Z9 6)/\w'=w)\/(eK name/\pE L name/\e=Z4 (Z8 Z9 9)/\w'=w) \/
 (eK name/\∃ k,Oe L name k/\e=Z4 (Z8 Z9 0)/\(∃ u,rT w' r w.heap.size u (L.take k++L.drop (k+1)))/\aa (λj=>j=r) w w')
theorem DH {v:ZT} {L:List (ByteArray×ZT)} (h:rT w r base v L) (hl:L.length<=1000000) (hs:∀ o∈L,kG o.2) (name:ByteArray) :
 ZS ZN 33 #[Z7 (ZX ⟨r,0,ZY⟩),Z0 name] w λe w'=>aaS w r L name e w':=by
 obtain ⟨c0,f0⟩:=h.cell;have Y:=h.shape;have F:=jJ h hl name;have hm:=BX h hl name;obtain ⟨id,s,I,H,G⟩:=Uu Tryz.Sd;go_enter func33,ntmps33;go_wp2_with fail;refine hm.mono ?_;clear hm;rintro e w1 ⟨rfl,hg⟩;rcases hg with ⟨kk,rfl⟩|⟨hr,E,rfl⟩|⟨hr,k0,V,rfl⟩
 . have HN:=ak kk;clear kk F Y;go_wp2;go_ret;exact .inl ⟨HN.o,rfl,rfl⟩
 . have HN:=al hr E;clear hr E F Y;go_wp2;go_ret;exact .inr (.inl ⟨HN.o.1,HN.o.2,rfl,rfl⟩)
 . obtain ⟨x,hx⟩:=nM ((L.getD k0 (YJ,undef)).2);rw [hx];clear hx;go_wp2_with fail;refine F.mono ?_;clear F;rintro e w2 ⟨rfl,hf⟩;rcases hf with ⟨k,hk,rfl,hn,h3⟩|⟨rfl,E⟩
   . rcases Y with ⟨rfl,rfl⟩|⟨g,cap,rfl,kr,ko,D⟩
     . exact absurd hk ek
     . have kh:Oe L name k:=⟨hk,hn,h3⟩;have ki:g<w2.heap.size:=Uf (D 0 ec).1;have hp:r≠g:=by
        intro e;rcases h.own.2 with ⟨q,_⟩|⟨g',Z,cur,e1,e2,N,_⟩
        . cases q
        . simp at e1;rw [<- e1.1] at N;rw [<- e,h.top] at N;simp at N
       have km:Src ZN 2 36 (Z6 (ZX ⟨g,0,ZY⟩) k cap) k (aO (L.take k)) w2:=pd Jx (λj l=>by
        rw [Uo] at l;obtain ⟨q1,q2⟩:=D j ec;rw [Uj,YG];exact ⟨q1,q2⟩) (zd hs k)
       have n:=a6 hr kh D h hp;clear hr kh hn h3 D h hp V;have kx:r<w2.heap.size:=Uf c0;have J:¬ cap=k+1\/cap=k+1:=(Decidable.em (cap=k+1)).symm;have ks:wrap64 ((k:Int)+1)=(k:Int)+1:=E3;rcases J with J|J
       . have kv:¬ (cap:Int)-((k:Int)+1)=0:=ec;go_wp2_with (first
          | (at_builtin;refine ae _ rfl (Z1 21) (Z1 27) 36 36 rfl w2.heap.size 101 id _ 2 40 U2 s I H G rfl (Z6 ZY 0 0) 0 [] rfl (UK _ _ _ _) _ rfl k (aO (L.take k)) km eD ec lR ?_;intro C w3 z d k9
             have p:∀ j,j<w2.heap.size->w3.heap[j]?=w2.heap[j]?:=λj l=>d.block j l vm;have t:w3.heap[r]?=_:=(p r (Uf c0)).trans n.o.2.2.2.1.top;have M:w3.cell? ⟨r,0,ZY⟩=ZX (Z6 (ZX ⟨g,0,ZY⟩) L.length cap):=acu;have f3:w3.frozen? ⟨r,0,ZY⟩=ZV:=(by simp [World.frozen?,t]);have B:=d.size;have Q:=d.os;have O:=d.tape;have P:=d.output;have A:Src ZN 2 36 (Z6 (ZX ⟨g,(k+1)*2,ZY⟩) (L.length-(k+1)) (cap-(k+1))) (L.length-(k+1)) (aO (L.drop (k+1))) w3:=pd (by rw [Um]) (λj l=>by
              rw [Um] at l;obtain ⟨q1,q2⟩:=n.o.2.2.1 (k+1+j) ec;rw [Yo,(ec:(k+1)*2+j*2=(k+1+j)*2)];exact ⟨(Uk (p g ki)).trans q1,(Uk (p g ki)).trans q2⟩) (qN hs (k+1))
             have c:=aE z p A;clear z d p A t)
          | (at_builtin;refine ae _ rfl (Z1 29) (Z1 36) 36 36 rfl w2.heap.size 101 id _ 2 40 U2 s I H G rfl C (0+k) _ rfl c.o.1 _ rfl (L.length-(k+1)) (aO (L.drop (k+1))) c.o.2.2 eD ec B ?_;intro v2 b m a ka
             obtain ⟨u,sl,sc,rfl⟩:=vF m;have X:¬ ZX r=C.ownBlock:=λe=>e9 ((c.o.1.lt r e.symm).1)
             have f:b.heap[r]?=_:=(a.block r (Uf M) X).trans ((c.o.2.1 r (Uf c0)).trans n.o.2.2.2.1.top);have c4:b.cell? ⟨r,0,ZY⟩=ZX (Z6 (ZX ⟨g,0,ZY⟩) L.length cap):=V2;have f4:b.frozen? ⟨r,0,ZY⟩=ZV:=(by simp [World.frozen?,f]);have K:=aE m a f;clear m a f))
         have W:(L.take k++L.drop (k+1)).length=0+k+(L.length-(k+1)):=(by rw [Ua,Uo,Um];omega);obtain ⟨m,a,f⟩:=K.o;have y:b.ownsRow w2.heap.size 101 2 (.slice u sl sc) (L.take k++L.drop (k+1)).length (aO (L.take k++L.drop (k+1))):=(by rw [W,jx];exact m);have R:aa (λj=>j=r) w2 b:=⟨a.os.trans Q,a.tape.trans O,a.output.trans P,TU B a.size,λj l kp=>(a.block j ec (λe=>e9 ((c.o.1.lt j e.symm).1))).trans (c.o.2.1 j l)⟩;go_ret;have U:b.grownBy (b.setCell ⟨r,0,ZY⟩ (.slice u sl sc)) (ZX r):=⟨rfl,rfl,rfl,oB,λi _ S=>Ud _ _ _ _ (λe=>S Wb)⟩;refine .inr (.inr ⟨n.o.1,k,n.o.2.1,rfl,⟨.slice u sl sc,⟨by simp [World.setCell,Vy,f],y.kept U (.inr λe=>e9 ((y.lt r e).1))⟩⟩,R.trans (aa.setCell _ _ _ rfl)⟩)
       . subst J;have kj:L.length=k+1:=ec;have T:=ak kj;clear kj;go_wp2_with (first
          | (at_builtin;refine ae _ rfl (Z1 21) (Z1 27) 36 36 rfl w2.heap.size 101 id _ 2 40 U2 s I H G rfl (Z6 ZY 0 0) 0 [] rfl (UK _ _ _ _) _ rfl k (aO (L.take k)) km eD ec lR ?_;intro C w3 z d k9
             have p:∀ j,j<w2.heap.size->w3.heap[j]?=w2.heap[j]?:=λj l=>d.block j l vm;have t:w3.heap[r]?=_:=(p r (Uf c0)).trans n.o.2.2.2.1.top;have M:w3.cell? ⟨r,0,ZY⟩=ZX (Z6 (ZX ⟨g,0,ZY⟩) L.length (k+1)):=acu;have f3:w3.frozen? ⟨r,0,ZY⟩=ZV:=(by simp [World.frozen?,t]);have B:=d.size;have Q:=d.os;have O:=d.tape;have P:=d.output;have A:Src ZN 2 36 (Z6 (ZX ⟨g,0,ZY⟩) 0 0) 0 (aO (L.drop (k+1))) w3:=pd (by rw [Um,T.out];omega) (λj l=>absurd l (by rw [Um,T.out];omega)) (qN hs (k+1));have c:=aE z p A;clear z d p A t)
          | (at_builtin;refine ae _ rfl (Z1 29) (Z1 36) 36 36 rfl w2.heap.size 101 id _ 2 40 U2 s I H G rfl C (0+k) _ rfl c.o.1 _ rfl 0 (aO (L.drop (k+1))) c.o.2.2 eD ec B ?_;intro v2 b m a ka
             obtain ⟨u,sl,sc,rfl⟩:=vF m;have X:¬ ZX r=C.ownBlock:=λe=>e9 ((c.o.1.lt r e.symm).1)
             have f:b.heap[r]?=_:=(a.block r (Uf M) X).trans ((c.o.2.1 r (Uf c0)).trans n.o.2.2.2.1.top);have c4:b.cell? ⟨r,0,ZY⟩=ZX (Z6 (ZX ⟨g,0,ZY⟩) L.length (k+1)):=V2;have f4:b.frozen? ⟨r,0,ZY⟩=ZV:=(by simp [World.frozen?,f]);have K:=aE m a f;clear m a f))
         have W:(L.take k++L.drop (k+1)).length=0+k+0:=(by rw [Ua,Uo,Um,T.out];omega);obtain ⟨m,a,f⟩:=K.o;have y:b.ownsRow w2.heap.size 101 2 (.slice u sl sc) (L.take k++L.drop (k+1)).length (aO (L.take k++L.drop (k+1))):=(by rw [W,jx];exact m);have R:aa (λj=>j=r) w2 b:=⟨a.os.trans Q,a.tape.trans O,a.output.trans P,TU B a.size,λj l kp=>(a.block j ec (λe=>e9 ((c.o.1.lt j e.symm).1))).trans (c.o.2.1 j l)⟩;go_ret;have U:b.grownBy (b.setCell ⟨r,0,ZY⟩ (.slice u sl sc)) (ZX r):=⟨rfl,rfl,rfl,oB,λi _ S=>Ud _ _ _ _ (λe=>S Wb)⟩;refine .inr (.inr ⟨n.o.1,k,n.o.2.1,rfl,⟨.slice u sl sc,⟨by simp [World.setCell,Vy,f],y.kept U (.inr λe=>e9 ((y.lt r e).1))⟩⟩,R.trans (aa.setCell _ _ _ rfl)⟩)
   . exact absurd V.2.1 (E k0 V.1)
def vG {v:ZT} (h:Bs w v l):Src ZN 1 40 v l.length (aJ l) w:=by
 obtain ⟨ao,c,rfl,m,n,o,g⟩:=h;have i:∀ u∈aJ l,u.oneCell'=ZW:=λu a=>by unfold aJ at a;rw [T9] at a;obtain ⟨x,_,rfl⟩:=a;rfl
 by_cases hl:l=[]
 . subst hl;cases ao with
   | none=>exact XS w Un c
   | some f=>exact Vl w Un f 0 c [] rfl (λj u d=>by simp at d) (λu a=>Zm)
 . obtain ⟨b,off,rfl,k⟩:=g hl;refine Vl w Un ⟨b,off,ZY⟩ l.length c (aJ l) (by rw [aX,Wg]) (λj u d=>?_) i;rw [Vo];have e:j<l.length:=(by obtain ⟨q,_⟩:=Va.1 d;rwa [aX] at q);rw [k j e,<- d];unfold aJ;rw [UD,Uc e,Ub,Uc e];rfl
def Tryz.SA:(ZN.info? 5).map (λi=>(i.zero,i.size,i.bytes))=ZX (ZX (Z8 .u8 0),1,1):=ei
theorem JC (r:Nat) (name:ByteArray) (ao:Option ZR) (n c:Nat) (a:¬ eK name) (w:ZU) :
 ZS ZN 48 #[Z7 (ZX ⟨r,0,ZY⟩),Z0 name,.slice ao n c] w λe w'=>e=Z4 (Z8 Z9 6)/\w'=w:=by
 by_cases b:name.size=0
 . have n0:(name.size:Int)=0:=ec;go_enter func48,ntmps48;go_wp2;go_ret;exact ⟨rfl,rfl⟩
 . have n0:¬ (name.size:Int)=0:=ec;have d:(16:Int)<(name.size:Int):=(by unfold eK at a;omega);go_enter func48,ntmps48;go_wp2;go_ret;exact ⟨rfl,rfl⟩
theorem JD (r:Nat) (name:ByteArray) (ao:Option ZR) (n c:Nat) (a:eK name) (d:1500<n) (w:ZU) :
 ZS ZN 48 #[Z7 (ZX ⟨r,0,ZY⟩),Z0 name,.slice ao n c] w λe w'=>e=Z4 (Z8 Z9 7)/\w'=w:=by
 have b:¬ name.size=0:=e9 a.1
 have n0:¬ (name.size:Int)=0:=ec
 have f:¬ (16:Int)<(name.size:Int):=e9 a.2
 have g:(1500:Int)<(n:Int):=ec
 clear a;go_enter func48,ntmps48;go_wp2;go_ret;exact ⟨rfl,rfl⟩
theorem DI {v:ZT} {L:List (ByteArray×ZT)} (h:rT w r base v L) (hl:L.length<=1000000) (name:ByteArray) (ao:Option ZR) (n c:Nat) (a:eK name) (l:n<=1500) (b:¬ pE L name) :
 ZS ZN 48 #[Z7 (ZX ⟨r,0,ZY⟩),Z0 name,.slice ao n c] w λe w'=>e=Z4 (Z8 Z9 8)/\w'=w:=by
 have d:=jJ h hl name;have i:¬ name.size=0:=e9 a.1
 have n0:¬ (name.size:Int)=0:=ec
 have m:¬ (16:Int)<(name.size:Int):=e9 a.2
 have o:¬ (1500:Int)<(n:Int):=ec
 clear a h;go_enter func48,ntmps48;go_wp2_with fail;refine d.mono ?_;rintro e w1 ⟨rfl,g⟩;rcases g with ⟨k,j,rfl,_⟩|⟨rfl,f⟩
 . have k2:(0:Int)<=(k:Int):=ec;clear d b;go_wp2;go_ret;exact ⟨rfl,rfl⟩
 . exact absurd f b
def bx {n:Nat} {e:ZP} {v:ZT} {xs:List ZT} (h:w.ownsRow base e size v n xs):∃ d f,v=.slice d n f:=by
 rcases h.2 with ⟨b,c⟩|⟨g,cap,cur,a,_⟩
 . exact ⟨ZY,0,by rw [b,c]⟩
 . exact ⟨_,_,a⟩
def cC (L:List (ByteArray×ZT)):List ByteArray:=L.map (·.1)
def vH {L:List (ByteArray×ZT)} (e:∀ k (i:k<L.length),w1.cell? ⟨g,k*2,ZY⟩=ZX (Z0 L[k].1)/\w1.cell? ⟨g,k*2+1,ZY⟩=ZX L[k].2) (d:g<w1.heap.size) (b:bW w1 w3) (hs:∀ o∈L,kG o.2) (h:a<=L.length):∀ c,Src ZN 2 36 (Z6 (ZX ⟨g,0,ZY⟩) a c) a (aO (L.take a)) w3:=λc=>
 pd Jx (λj f=>by
  rw [Uo] at f;obtain ⟨q1,q2⟩:=e j ec;rw [Uj,YG];exact ⟨(Uk (b.block g d)).trans q1,(Uk (b.block g d)).trans q2⟩) (zd hs a)
def vI {L:List (ByteArray×ZT)} (e:∀ k (i:k<L.length),w1.cell? ⟨g,k*2,ZY⟩=ZX (Z0 L[k].1)/\w1.cell? ⟨g,k*2+1,ZY⟩=ZX L[k].2) (d:g<w1.heap.size) (b:bW w1 w3) (hs:∀ o∈L,kG o.2) (h:a<=L.length):∀ c,Src ZN 2 36 (Z6 (ZX ⟨g,a*2,ZY⟩) (L.length-a) c) (L.length-a) (aO (L.drop a)) w3:=λc=>
 pd (by rw [Um]) (λj f=>by
  rw [Um] at f;obtain ⟨q1,q2⟩:=e (a+j) ec;rw [Yo,(ec:a*2+j*2=(a+j)*2)];exact ⟨(Uk (b.block g d)).trans q1,(Uk (b.block g d)).trans q2⟩) (qN hs a)
def ze {L:List (ByteArray×ZT)} (h:k=L.length) (off c:Nat) (w:ZU):Src ZN 2 36 (Z6 (ZX ⟨g,off,ZY⟩) (L.length-k) c) (L.length-k) (aO (L.drop k)) w:=by
 subst h;rw [Xb,List.drop_length];exact Vl w U2 ⟨g,off,ZY⟩ 0 c [] rfl (λj u a=>Zm) (λu b=>by simp at b)
def sI (c:ZU) (name:ByteArray) (a:Option ZR) (n b:Nat):Src ZN 2 36 (Z6 (ZX ⟨c.heap.size,0,ZY⟩) 1 1) 1 [Z0 name,.slice a n b] (c.alloc (Z5 #[Z0 name,.slice a n b] 101)):=
 Vl _ U2 ⟨c.heap.size,0,ZY⟩ 1 1 [Z0 name,.slice a n b] rfl (λj u f=>by
  rw [Vo,Uj];have g:=UC c (Z5 #[Z0 name,.slice a n b] 101);have e:(#[Value.string name,.slice a n b]:Array ZT)[j]?=ZX u:=oD f
  simp only [World.cell?,g];exact e) (λu d=>by
  simp only [Uv,Xd,or_false] at d;rcases d with rfl|rfl<;>rfl)
def PV {b1 b2 n:Nat} {v:ZT} {xs:List ZT} (f:w.ownsRow b1 5 1 v n xs) (hr:w.ownsRow b2 101 2 u m ys) (o:w.grownBy w' u.ownBlock):w'.ownsRow b1 5 1 v n xs:=by
 refine ⟨f.1,?_⟩;rcases f.2 with l|⟨g,cap,cur,i,j,b,p⟩
 . exact .inl l
 . refine .inr ⟨g,cap,cur,i,j,(o.block g (TX.1 b).1 (λe=>?_)).trans b,p⟩;rcases hr.2 with ⟨rfl,_⟩|⟨k,c,d,rfl,_,a,_⟩
   . cases e
   . have h:k=g:=(by simpa [Value.ownBlock] using e.symm);subst h;rw [b] at a;cases a
def G2 {n:Nat} {e:ZP} {v:ZT} {xs:List ZT} (h:w.ownsRow base e size v n xs) {k:Nat} (a:v.ownBlock=ZX k):base<=k:=by
 rcases h.2 with ⟨rfl,_⟩|⟨g,cap,cur,rfl,c,_⟩
 . cases a
 . have:g=k:=(by simpa [Value.ownBlock] using a);omega
def mB {w4:ZU} {n:Nat} {v vb:ZT} {L:List (ByteArray×ZT)} {xs:List ZT} {o:Obj} (_:rT w r base v L) (j:w3.ownsRow w.heap.size 5 1 vb n xs) (f:bW w w3) (l:w4.ownsRow w.heap.size 101 2 u a ys) (g:bW w3 w4) (h:(w4.alloc o).grownBy w5 u.ownBlock):bW w w5/\w5.ownsRow w.heap.size 5 1 vb n xs:=by
 have b:bW w4 (w4.alloc o):=bA w4 _;have c:bW w w4:=f.trans (g.mono f.size);have d:bW w (w4.alloc o):=c.trans (b.mono c.size);have i:=aq l b;exact ⟨d.grown h d.size (λk e=>G2 i e),PV (aq (aq j g) b) i h⟩
def kX {n:Nat} {vb:ZT} {xs:List ZT} (d:w5.ownsRow w.heap.size 101 2 u a ys) (b:bW w w5) (f:w5.ownsRow w.heap.size 5 1 vb n xs) (c:w5.grownBy w6 u.ownBlock):bW w w6/\w6.ownsRow w.heap.size 5 1 vb n xs:=
 ⟨b.grown c b.size (λ_ e=>G2 d e),PV f d c⟩
def MY (w:ZU) (r:Nat) (L:List (ByteArray×ZT)) (x:ByteArray) (d:a8) (e:ZQ) (w':ZU):Prop:=
 e=Z4 (Z8 Z9 0)/\∃ u vb,rT w' r w.heap.size u (L.take (aI (cC L) x)++(x,vb)::L.drop (aI (cC L) x))/\w'.ownsRow w.heap.size 5 1 vb d.length (aJ d)/\aa (λj=>j=r) w w'
def pe {n:Nat} {v vb:ZT} {L:List (ByteArray×ZT)} (D:d.length=n) (y:aI (cC L) x=a) (c:w6.ownsRow w.heap.size 101 2 u m (aO (L.take a)++[Z0 x,vb]++aO (L.drop a))) (t:bW w w6) (B:w6.ownsRow w.heap.size 5 1 vb n (aJ d)) (A:w6.heap[r]?=ZX (Z5 #[v] 38 (0,0))) (hr:r<w.heap.size):MY w r L x d (Z4 (Z8 Z9 0)) (w6.setCell ⟨r,0,ZY⟩ u):=by
 have l:∀ j,j≠r->(w6.setCell ⟨r,0,ZY⟩ u).heap[j]?=w6.heap[j]?:=λj f=>Ud _ _ _ _ f;have i:aO (L.take a)++[Z0 x,vb]++aO (L.drop a)=aO (L.take a++(x,vb)::L.drop a):=by
  rw [jx,Uz];rfl
 have C:m=(L.take a++(x,vb)::L.drop a).length:=by
  have:=c.1;rw [i,kF] at this;omega
 rw [i,C] at c;have b:∀ {e:ZP} {size k:Nat} {z:ZT} {xs:List ZT},w6.ownsRow w.heap.size e size z k xs->(w6.setCell ⟨r,0,ZY⟩ u).ownsRow w.heap.size e size z k xs:=λ{e size k z xs} h=>by
  refine ⟨h.1,?_⟩;rcases h.2 with s|⟨g,cap,cur,o,p,q,E⟩
  . exact .inl s
  . exact .inr ⟨g,cap,cur,o,p,(l g ec).trans q,E⟩
 refine ⟨rfl,u,vb,?_,?_,?_⟩
 . rw [y];refine ⟨?_,b c⟩;have:=ag (j:=0) A u;exact this
 . rw [D];exact b B
 . exact (aa.RL t _).trans ⟨rfl,rfl,rfl,oB,λj _ f=>l j f⟩
def PuR (w:ZU) (L:List (ByteArray×ZT)) (x:ByteArray) (i:ZT) (wr:ZU):Prop:=∃ k:Nat,k<=L.length/\i=Z8 Z9 k/\wr=w/\∀ j (hj:j<L.length),j<k->jC L[j].1 x=ZW
theorem MZ {L:List (ByteArray×ZT)} (h:rT w r base (Z6 (ZX ⟨g,0,ZY⟩) L.length cap) L) (hl:L.length<=100000) (hs:∀ o∈L,kG o.2) (name:ByteArray) (ao:Option ZR) (c:Nat) (d:a8) (hd:Bs w (.slice ao d.length c) d) (q4:d.length<=1500) (ky:eK name) (q3:pE L name) (M:∀ k (hk:k<L.length),w.cell? ⟨g,k*2,ZY⟩=ZX (Z0 L[k].1)/\w.cell? ⟨g,k*2+1,ZY⟩=ZX L[k].2) (U:g<w.heap.size) (q6:L.length<=cap) :
 ZS ZN 48 #[Z7 (ZX ⟨r,0,ZY⟩),Z0 name,.slice ao d.length c] w (MY w r L name d):=by
 obtain ⟨c0,f0⟩:=h.cell;have hc:=jJ h ec name;obtain ⟨id,f,I,H,G⟩:=Uu Tryz.Sd;obtain ⟨ib,ks,ke,kf,kg⟩:=Uu Tryz.SA;have h0:¬ name.size=0:=e9 ky.1
 have n0:¬ (name.size:Int)=0:=ec
 have n1:¬ (16:Int)<(name.size:Int):=e9 ky.2
 obtain ⟨n,Y⟩:=nM (d.length);have kz:=vG hd;rw [Y] at kz q4 ⊢;have n2:¬ (1500:Int)<(n:Int):=ec
 have B:r<w.heap.size:=Uf c0;have p:=aE kz h Y;clear ky h kz hd Y;go_enter func48,ntmps48;go_wp2_with fail;refine hc.mono ?_;rintro e w1 ⟨rfl,hf⟩;rcases hf with ⟨k,hk,rfl,Y,kp⟩|⟨rfl,kk⟩
 . exact absurd Y (q3 k hk)
 clear hc kk q3;go_wp2;go_loopw [8] (λi wr=>PuR w1 L name i wr) (λi _=>L.length-(intOf i).toNat)
 case atStart=>exact ⟨0,T8 _,rfl,rfl,λj _ h=>ec⟩
 case round=>
  obtain ⟨k,hk,rfl,rfl,T⟩:=hrel;by_cases kv:k<L.length
  . obtain ⟨q1,q2⟩:=M k kv;obtain ⟨nm,kj⟩:=nM (L[k].1);rw [kj] at q1;have kx:(k:Int)<(L.length:Int):=ec;cases h6:jC nm name with
    | true=>
     have q5:Op.bytesLess nm.toList name.toList=ZW:=h6;have ka:PuR wr L name (Z8 Z9 ((k+1:Nat):Int)) wr:=⟨k+1,ec,rfl,rfl,λj l h=>by
      rcases XT (Nat.le_of_lt_succ h) with e|h'
      . subst e;rw [kj];exact h6
      . exact T j l h'⟩
     have HN:=ak ka;clear ka T q2 kj M;go_wp2;refine ⟨oD HN.o,?_⟩;show L.length-((k:Int)+1).toNat<L.length-((k:Int)).toNat;omega
    | false=>
     have q5:Op.bytesLess nm.toList name.toList=ZV:=h6;have S:aI (cC L) name=k:=gL _ _ _ (by unfold cC;rw [Ue];omega) (λj l h=>by
      unfold cC at l ⊢;rw [UN];exact T j (by rwa [Ue] at l) h) (λhi=>by simp only [cC,UN,kj];exact h6)
     have k3:¬ cap=k:=ec;have k4:k<=cap:=ec;have k5:(k:Int)<=(cap:Int):=ec;clear T q2 kj;have HP:=al S M;clear S M;go_wp2_with (first
      | (at_builtin;refine ae _ rfl (Z1 48) (Z1 49) 40 40 rfl wr.heap.size 5 ib (Z8 .u8 0) 1 1 Un ks ke kf kg rfl (Z6 ZY 0 0) 0 [] rfl (UK _ _ _ _) _ rfl n (aJ d) p.o.1 eD ec lR ?_;intro vb w3 x a V;rw [Uj,Uq] at x;have u:bW wr w3:=⟨a.os,a.tape,a.output,a.size,λj l=>a.block j l vm⟩;have E:=(u.block r B).trans p.o.2.1.top;have c3:w3.cell? ⟨r,0,ZY⟩=ZX (Z6 (ZX ⟨g,0,ZY⟩) L.length cap):=by simp [World.cell?,E]
         have f3:w3.frozen? ⟨r,0,ZY⟩=ZV:=Zi;obtain ⟨J,K,rfl⟩:=bx x;have q:=aE x u (vH HP.o.2 U u hs (ec:k<=L.length));clear x a V u E)
      | (at_builtin;refine ae _ rfl (Z1 51) (Z1 57) 36 36 rfl wr.heap.size 101 id _ 2 40 U2 f I H G rfl (Z6 ZY 0 0) 0 [] rfl (UK _ _ _ _) _ rfl (k) (aO (L.take (k))) (q.o.2.2 cap) eD ec q.o.2.1.size ?_;intro v4 A y b W;rw [Uj,Uq] at y;have N:bW w3 A:=⟨b.os,b.tape,b.output,b.size,λj l=>b.block j l vm⟩
         obtain ⟨la,lc,rfl⟩:=bx y;have s:=al y N;clear y b W N)
      | (at_builtin;refine ae _ rfl (Z1 59) (Z1 63) 36 36 rfl wr.heap.size 101 id _ 2 40 U2 f I H G rfl (.slice la (k) lc) (k) (aO (L.take (k))) rfl (aq s.o.1 (bA A _)) _ rfl 1 [Z0 name,.slice J n K] (sI A name J n K) eD ec (TU q.o.2.1.size (TU s.o.2.size (bA A _).size)) ?_;intro v5 w5 hr O X
         have km:=mB p.o.2.1 q.o.1 q.o.2.1 s.o.1 s.o.2 O;obtain ⟨v,Q⟩:=km;have F:=(v.block r B).trans p.o.2.1.top;have c5:w5.cell? ⟨r,0,ZY⟩=ZX (Z6 (ZX ⟨g,0,ZY⟩) L.length cap):=ZJ;have f5:w5.frozen? ⟨r,0,ZY⟩=ZV:=ZA;obtain ⟨ma,mc,rfl⟩:=bx hr;have m:=a5 hr v Q (vI HP.o.2 U v hs (ec:k<=L.length));clear hr O X v Q F)
      | (at_builtin;refine ae _ rfl (Z1 65) (Z1 71) 36 36 rfl wr.heap.size 101 id _ 2 40 U2 f I H G rfl (.slice ma (k+1) mc) (k+1) _ rfl m.o.1 _ rfl (L.length-(k)) (aO (L.drop (k))) (m.o.2.2.2 _) eD ec m.o.2.1.size ?_;intro v6 w6 D P Z
         have ko:=kX m.o.1 m.o.2.1 m.o.2.2.1 P;obtain ⟨C,R⟩:=ko;have z:=(C.block r B).trans p.o.2.1.top;have c6:w6.cell? ⟨r,0,ZY⟩=ZX (Z6 (ZX ⟨g,0,ZY⟩) L.length cap):=acq;have f6:w6.frozen? ⟨r,0,ZY⟩=ZV:=ZB;obtain ⟨na,nc,rfl⟩:=bx D;have t:=a5 D C R z;clear D P Z C R z))
     all_goals (go_ret;exact pe p.o.2.2 HP.o.1 t.o.1 t.o.2.1 t.o.2.2.1 t.o.2.2.2 B)
  . have q0:k=L.length:=ec;have kx:¬ (k:Int)<(L.length:Int):=ec;have S:aI (cC L) name=k:=gL _ _ _ (by unfold cC;rw [Ue];omega) (λj l h=>by
     unfold cC at l ⊢;rw [UN];exact T j (by rwa [Ue] at l) h) (λhi=>by unfold cC at hi;rw [Ue] at hi;omega)
    have HK:=ak q0;clear T q0;by_cases kr:cap=k
    . subst kr;clear q6 kv;have HP:=al S M;clear S M;go_wp2_with (first
       | (at_builtin;refine ae _ rfl (Z1 48) (Z1 49) 40 40 rfl wr.heap.size 5 ib (Z8 .u8 0) 1 1 Un ks ke kf kg rfl (Z6 ZY 0 0) 0 [] rfl (UK _ _ _ _) _ rfl n (aJ d) p.o.1 eD ec lR ?_;intro vb w3 x a V;rw [Uj,Uq] at x;have u:bW wr w3:=⟨a.os,a.tape,a.output,a.size,λj l=>a.block j l vm⟩;have E:=(u.block r B).trans p.o.2.1.top;have c3:w3.cell? ⟨r,0,ZY⟩=ZX (Z6 (ZX ⟨g,0,ZY⟩) L.length cap):=by simp [World.cell?,E]
          have f3:w3.frozen? ⟨r,0,ZY⟩=ZV:=Zi;obtain ⟨J,K,rfl⟩:=bx x;have q:=aE x u (vH HP.o.2 U u hs (ec:cap<=L.length));clear x a V u E)
       | (at_builtin;refine ae _ rfl (Z1 51) (Z1 57) 36 36 rfl wr.heap.size 101 id _ 2 40 U2 f I H G rfl (Z6 ZY 0 0) 0 [] rfl (UK _ _ _ _) _ rfl (cap) (aO (L.take (cap))) (q.o.2.2 cap) eD ec q.o.2.1.size ?_;intro v4 A y b W;rw [Uj,Uq] at y;have N:bW w3 A:=⟨b.os,b.tape,b.output,b.size,λj l=>b.block j l vm⟩
          obtain ⟨la,lc,rfl⟩:=bx y;have s:=al y N;clear y b W N)
       | (at_builtin;refine ae _ rfl (Z1 59) (Z1 63) 36 36 rfl wr.heap.size 101 id _ 2 40 U2 f I H G rfl (.slice la (cap) lc) (cap) (aO (L.take (cap))) rfl (aq s.o.1 (bA A _)) _ rfl 1 [Z0 name,.slice J n K] (sI A name J n K) eD ec (TU q.o.2.1.size (TU s.o.2.size (bA A _).size)) ?_;intro v5 w5 hr O X
          have km:=mB p.o.2.1 q.o.1 q.o.2.1 s.o.1 s.o.2 O;obtain ⟨v,Q⟩:=km;have F:=(v.block r B).trans p.o.2.1.top;have c5:w5.cell? ⟨r,0,ZY⟩=ZX (Z6 (ZX ⟨g,0,ZY⟩) L.length cap):=ZJ;have f5:w5.frozen? ⟨r,0,ZY⟩=ZV:=ZA;obtain ⟨ma,mc,rfl⟩:=bx hr;have m:=a5 hr v Q (vI HP.o.2 U v hs (ec:cap<=L.length));clear hr O X v Q F)
       | (at_builtin;refine ae _ rfl (Z1 65) (Z1 71) 36 36 rfl wr.heap.size 101 id _ 2 40 U2 f I H G rfl (.slice ma (cap+1) mc) (cap+1) _ rfl m.o.1 _ rfl (L.length-(cap)) (aO (L.drop (cap))) (ze HK.o _ _ _) eD ec m.o.2.1.size ?_;intro v6 w6 D P Z
          have ko:=kX m.o.1 m.o.2.1 m.o.2.2.1 P;obtain ⟨C,R⟩:=ko;have z:=(C.block r B).trans p.o.2.1.top;have c6:w6.cell? ⟨r,0,ZY⟩=ZX (Z6 (ZX ⟨g,0,ZY⟩) L.length cap):=acq;have f6:w6.frozen? ⟨r,0,ZY⟩=ZV:=ZB;obtain ⟨na,nc,rfl⟩:=bx D;have t:=a5 D C R z;clear D P Z C R z))
      all_goals (go_ret;exact pe p.o.2.2 HP.o.1 t.o.1 t.o.2.1 t.o.2.2.1 t.o.2.2.2 B)
    . have k4:k<=cap:=ec;have k5:(k:Int)<=(cap:Int):=ec;clear kv;have HP:=al S M;clear S M;go_wp2_with (first
       | (at_builtin;refine ae _ rfl (Z1 48) (Z1 49) 40 40 rfl wr.heap.size 5 ib (Z8 .u8 0) 1 1 Un ks ke kf kg rfl (Z6 ZY 0 0) 0 [] rfl (UK _ _ _ _) _ rfl n (aJ d) p.o.1 eD ec lR ?_;intro vb w3 x a V;rw [Uj,Uq] at x;have u:bW wr w3:=⟨a.os,a.tape,a.output,a.size,λj l=>a.block j l vm⟩;have E:=(u.block r B).trans p.o.2.1.top;have c3:w3.cell? ⟨r,0,ZY⟩=ZX (Z6 (ZX ⟨g,0,ZY⟩) L.length cap):=by simp [World.cell?,E]
          have f3:w3.frozen? ⟨r,0,ZY⟩=ZV:=Zi;obtain ⟨J,K,rfl⟩:=bx x;have q:=aE x u (vH HP.o.2 U u hs (ec:k<=L.length));clear x a V u E)
       | (at_builtin;refine ae _ rfl (Z1 51) (Z1 57) 36 36 rfl wr.heap.size 101 id _ 2 40 U2 f I H G rfl (Z6 ZY 0 0) 0 [] rfl (UK _ _ _ _) _ rfl (k) (aO (L.take (k))) (q.o.2.2 cap) eD ec q.o.2.1.size ?_;intro v4 A y b W;rw [Uj,Uq] at y;have N:bW w3 A:=⟨b.os,b.tape,b.output,b.size,λj l=>b.block j l vm⟩
          obtain ⟨la,lc,rfl⟩:=bx y;have s:=al y N;clear y b W N)
       | (at_builtin;refine ae _ rfl (Z1 59) (Z1 63) 36 36 rfl wr.heap.size 101 id _ 2 40 U2 f I H G rfl (.slice la (k) lc) (k) (aO (L.take (k))) rfl (aq s.o.1 (bA A _)) _ rfl 1 [Z0 name,.slice J n K] (sI A name J n K) eD ec (TU q.o.2.1.size (TU s.o.2.size (bA A _).size)) ?_;intro v5 w5 hr O X
          have km:=mB p.o.2.1 q.o.1 q.o.2.1 s.o.1 s.o.2 O;obtain ⟨v,Q⟩:=km;have F:=(v.block r B).trans p.o.2.1.top;have c5:w5.cell? ⟨r,0,ZY⟩=ZX (Z6 (ZX ⟨g,0,ZY⟩) L.length cap):=ZJ;have f5:w5.frozen? ⟨r,0,ZY⟩=ZV:=ZA;obtain ⟨ma,mc,rfl⟩:=bx hr;have m:=a5 hr v Q (vI HP.o.2 U v hs (ec:k<=L.length));clear hr O X v Q F)
       | (at_builtin;refine ae _ rfl (Z1 65) (Z1 71) 36 36 rfl wr.heap.size 101 id _ 2 40 U2 f I H G rfl (.slice ma (k+1) mc) (k+1) _ rfl m.o.1 _ rfl (L.length-(k)) (aO (L.drop (k))) (ze HK.o _ _ _) eD ec m.o.2.1.size ?_;intro v6 w6 D P Z
          have ko:=kX m.o.1 m.o.2.1 m.o.2.2.1 P;obtain ⟨C,R⟩:=ko;have z:=(C.block r B).trans p.o.2.1.top;have c6:w6.cell? ⟨r,0,ZY⟩=ZX (Z6 (ZX ⟨g,0,ZY⟩) L.length cap):=acq;have f6:w6.frozen? ⟨r,0,ZY⟩=ZV:=ZB;obtain ⟨na,nc,rfl⟩:=bx D;have t:=a5 D C R z;clear D P Z C R z))
      all_goals (go_ret;exact pe p.o.2.2 HP.o.1 t.o.1 t.o.2.1 t.o.2.2.1 t.o.2.2.2 B)
theorem M0 (h:rT w r base (Z6 ZY 0 0) []) (name:ByteArray) (ao:Option ZR) (c:Nat) (d:a8) (P:Bs w (.slice ao d.length c) d) (kb:d.length<=1500) (J:eK name) :
 ZS ZN 48 #[Z7 (ZX ⟨r,0,ZY⟩),Z0 name,.slice ao d.length c] w (MY w r [] name d):=by
 obtain ⟨c0,f0⟩:=h.cell;have O:=jJ h ek name;obtain ⟨id,b,G,E,C⟩:=Uu Tryz.Sd;obtain ⟨ib,kc,hq,hr,hs⟩:=Uu Tryz.SA;have h0:¬ name.size=0:=e9 J.1
 have n0:¬ (name.size:Int)=0:=ec
 have n1:¬ (16:Int)<(name.size:Int):=e9 J.2
 obtain ⟨n,F⟩:=nM (d.length);have K:=vG P;rw [F] at K kb ⊢;have n2:¬ (1500:Int)<(n:Int):=ec
 have v:r<w.heap.size:=Uf c0;have f:=aE K h F;clear J h K P F;go_enter func48,ntmps48;go_wp2_with fail;refine O.mono ?_;rintro e w1 ⟨rfl,hf⟩;rcases hf with ⟨k,hk,_⟩|⟨rfl,_⟩
 . exact absurd hk ek
 clear O;go_wp2;go_loopw [8] (λi wr=>i=Z8 Z9 0/\wr=w1) (λ_ _=>0)
 case atStart=>exact ⟨rfl,rfl⟩
 case round=>
  obtain ⟨rfl,rfl⟩:=hrel;go_wp2_with (first
   | (at_builtin;refine ae _ rfl (Z1 48) (Z1 49) 40 40 rfl wr.heap.size 5 ib (Z8 .u8 0) 1 1 Un kc hq hr hs rfl (Z6 ZY 0 0) 0 [] rfl (UK _ _ _ _) _ rfl n (aJ d) f.o.1 eD ec lR ?_;intro vb w3 t g X;rw [Uj,Uq] at t;have z:bW wr w3:=⟨g.os,g.tape,g.output,g.size,λj D=>g.block j D vm⟩;have T:=(z.block r v).trans f.o.2.1.top;have c3:w3.cell? ⟨r,0,ZY⟩=ZX (Z6 ZY 0 0):=by simp [World.cell?,T]
      obtain ⟨M,N,rfl⟩:=bx t;have p:=al t z;clear t g X z T)
   | (at_builtin;refine ae _ rfl (Z1 51) (Z1 57) 36 36 rfl wr.heap.size 101 id _ 2 40 U2 b G E C rfl (Z6 ZY 0 0) 0 [] rfl (UK _ _ _ _) _ rfl 0 [] (XS _ U2 0) eD ec p.o.2.size ?_;intro v4 y u l Y;rw [Uj,Uq] at u;have Q:bW w3 y:=⟨l.os,l.tape,l.output,l.size,λj D=>l.block j D vm⟩
      obtain ⟨la,lc,rfl⟩:=bx u;have q:=al u Q;clear u l Y Q)
   | (at_builtin;refine ae _ rfl (Z1 59) (Z1 63) 36 36 rfl wr.heap.size 101 id _ 2 40 U2 b G E C rfl (.slice la 0 lc) 0 [] rfl (aq q.o.1 (bA y _)) _ rfl 1 [Z0 name,.slice M n N] (sI y name M n N) eD ec (TU p.o.2.size (TU q.o.2.size (bA y _).size)) ?_;intro v5 w5 H R Z
      have ke:=mB f.o.2.1 p.o.1 p.o.2 q.o.1 q.o.2 R;obtain ⟨A,V⟩:=ke;have U:=(A.block r v).trans f.o.2.1.top;have c5:w5.cell? ⟨r,0,ZY⟩=ZX (Z6 ZY 0 0):=(by simp [World.cell?,U]);obtain ⟨ma,mc,rfl⟩:=bx H;have m:=aE H A V;clear H R Z A V U)
   | (at_builtin;refine ae _ rfl (Z1 65) (Z1 71) 36 36 rfl wr.heap.size 101 id _ 2 40 U2 b G E C rfl (.slice ma 1 mc) 1 _ rfl m.o.1 _ rfl 0 [] (XS _ U2 0) eD ec m.o.2.1.size ?_;intro v6 w6 I S ha
      have kf:=kX m.o.1 m.o.2.1 m.o.2.2 S;obtain ⟨B,W⟩:=kf;have x:=(B.block r v).trans f.o.2.1.top;have c6:w6.cell? ⟨r,0,ZY⟩=ZX (Z6 ZY 0 0):=(by simp [World.cell?,x]);have f6:w6.frozen? ⟨r,0,ZY⟩=ZV:=(by simp [World.frozen?,x]);obtain ⟨na,nc,rfl⟩:=bx I;have s:=a5 I B W x;clear I S ha B W x))
  all_goals (go_ret;exact pe (a:=0) (L:=[]) f.o.2.2 rfl s.o.1 s.o.2.1 s.o.2.2.1 s.o.2.2.2 v)
def G3 {v:ZT} {L:List (ByteArray×ZT)} (h:rT w r base v L) (hl:L.length<=100000) (hs:∀ o∈L,kG o.2) (name:ByteArray) (ao:Option ZR) (c:Nat) (d:a8) (i:Bs w (.slice ao d.length c) d) (e:d.length<=1500) (f:eK name) (s:pE L name) :
 ZS ZN 48 #[Z7 (ZX ⟨r,0,ZY⟩),Z0 name,.slice ao d.length c] w (MY w r L name d):=by
 rcases h.shape with ⟨rfl,rfl⟩|⟨g,cap,rfl,u,n,m⟩
 . exact M0 h name ao c d i e f
 . have p:g<w.heap.size:=by
    rcases h.own.2 with ⟨q,_⟩|⟨l,a,cur,b,t,k,_⟩
    . cases q
    . have j:g=l:=by
       simp only [Vx,UB,abC] at b;exact b.1.1
      rw [j];exact (TX.1 k).1
   exact MZ h hl hs name ao c d i e f s m p n
section
def wK (xs:aL) (x:ByteArray) (k:Int):Prop:=(bZ x=ZV/\k=6)\/(bZ x=ZW/\x∉xs.names/\k=9)
def DJ (xs:aL) (x:ByteArray) (xs':aL):Prop:=bZ x=ZW/\x∈xs.names/\xs'=xs.del (aI xs.names x)
section
variable {w:ZU} {ar v p D L G t:Nat} {ps:aR} {pg ob:ZT} {P:a8} {xs:aL} {A:az} {F:aK}
def aS.TN (h:aS w ar v p ps D L G t pg ob P xs A F) (k:Nat):(an (xs.del k).os).length<=1000000:=TU (qE xs k) h.packL_le
def Pd (h:aS w ar v p ps D L G t pg ob P xs A F) (k:Nat) {pgn:Nat} (d:pgn=pgs D (an (xs.del k).os).length) :
 ZS ZN 102 #[Z7 (ZX ⟨ar,0,ZY⟩),Z8 Z9 (pgn:Nat)] w λe w'=>∃ g cap,e=Z4 (ZZ #[Z6 (ZX ⟨g,0,ZY⟩) pgn cap,Z3 ZW])/\w'.ownsRow w.heap.size 3 1 (Z6 (ZX ⟨g,0,ZY⟩) pgn cap) pgn (jZ ((aZ (tk A.nb (P++af xs.os)).1 A.nb).take pgn))/\((aZ (tk A.nb (P++af xs.os)).1 A.nb).take pgn).length=pgn/\w.heap.size<=g/\g<w'.heap.size/\bW w w'/\pgn<=1000:=by
 have:=h.nb;have:1<=pgn:=by rw [d];unfold pgs;omega
 have c:=Fm h.disk k;have:=lS h.disk.nod h.disk.Tl;rw [<- d] at c;have a:=lM h.arc h.vol.vol h.vol.arr h.n0 P xs.os h.pgs.any h.cat.any pgn ec;rw [UZ c] at a;have b:((aZ (tk A.nb (P++af xs.os)).1 A.nb).take pgn).length=pgn:=Jx
 rw [b] at a;refine a.mono ?_;rintro e w' ⟨u,rfl,ho,f⟩;rcases ho.2 with ⟨_,l⟩|⟨g,cap,cur,rfl,i,j,q,_⟩
 . omega
 . exact ⟨g,cap,rfl,ho,b,i,(TX.1 j).1,f,ec⟩
def JE (h:aS w ar v p ps D L G t pg ob P xs A F) (k7:t<1000000) (x:ByteArray) (U:bZ x=ZW) (R:x∈xs.names) (k:Nat) (X:aI xs.names x=k) {w2:ZU} {u:ZT} {pgn g cap:Nat} (J:pgn=pgs D (an (xs.del k).os).length) (m:eN (λk=>ar<k/\¬ F.S k/\¬ ps.bl k) w2 u (xs.del k).os) (z:bW w w2)
 (n:bf (λk=>ar<k/\¬ F.S k/\¬ ps.bl k) w2 (Z6 (ZX ⟨g,0,ZY⟩) pgn cap) ((aZ (tk A.nb (P++af xs.os)).1 A.nb).take pgn)) (a:((aZ (tk A.nb (P++af xs.os)).1 A.nb).take pgn).length=pgn) :
 ZS ZN 105 #[Z7 (ZX ⟨ar,0,ZY⟩),u,Z6 (ZX ⟨g,0,ZY⟩) pgn cap] w2 (di w ar v p ps D L G t xs A F (wK xs x) (DJ xs x)):=by
 obtain ⟨oo,Z,rfl,hol,_⟩:=id m;have hr:=h.vol.par;have i:=h.disk;have d:=nA i.nod i.Tl pgn;obtain ⟨fr,W⟩:=nM ((aZ (tk A.nb (P++af xs.os)).1 A.nb).take pgn);rw [W] at n a d;have:1<=pgn:=by rw [J];unfold pgs;omega
 have hs:fr≠[]:=λe=>by rw [e] at a;simp at a;omega
 have M:∀ b∈fr,b<A.nb:=λb T=>(d.2 b (UG _ T)).2;have N:=h.TN k;have I:fr.length=pgs D (an (xs.del k).os).length:=by rw [a,J]
 have s:=kU xs k;have K:∀ o∈(xs.del k).os,o.fit:=λo ho=>by
  obtain ⟨y,V,rfl⟩:=T9.1 ho;exact (i.fits y (s.subset V)).fit
 have O:(xs.del k).os.length<=10000:=by
  have:=s.length_le;have e:(xs.del k).os.length=(xs.del k).length:=KP
  have:=h.Sj.1;have:xs.os.length=xs.length:=KP
  omega
 have f:=h.below z;have B:=nz (w:=w2) f.arc f.vol f.fine f.nar
  oo _ Z (an (xs.del k).os) (oZ _) N (uk m.any K O) g 0 cap fr (by rw [a];exact n.TD λk c=>c.2.1) hs M (λj Q=>Dx hr.d1 (by rw [<- I];exact Q))
 rw [a] at B;refine B.mono ?_;rintro e w3 ⟨l,rfl,C,H⟩;have Y:nx t=t+1:=by unfold nx;omega
 have r:aa (λk=>k=ar\/F.S k) w w3:=(aa.RL z _).trans l
 . have E:ef (λk=>ar<k/\¬ F.S k/\¬ ps.bl k) w2 w3:=⟨l.size,λk c hK=>l.block k c (λe=>e.elim (λq=>e9 hK.1) hK.2.1)⟩;rw [Y] at C H;have c:=AN A D L G (t+1) fr (an (xs.del k).os);exact ⟨_,_,_,_,_,_,_,rfl,qG h H C r c ec (Mc i h.fine k I d.1 d.2) (n.keep E) (m.keep E),c,r,.inl ⟨rfl,rfl,U,R,by rw [X]⟩⟩
end
theorem FN {ps:aR} {xs:aL} (h:aS w ar v p ps D L G t pg ob P xs A F) (kc:t<1000000) (x:ByteArray) :
 ZS ZN 73 #[Z7 (ZX ⟨ar,0,ZY⟩),Z0 x] w (di w ar v p ps D L G t xs A F (wK xs x) (DJ xs x)):=by
 have k8:∀ w' j,bW w w'->wK xs x j->di w ar v p ps D L G t xs A F (wK xs x) (DJ xs x) (Z4 (AK j)) w':=λw' j E hq=>⟨_,_,_,_,_,_,_,rfl,h.below E,dJ.refl A,aa.RL E _,.inr ⟨rfl,rfl,j,rfl,hq⟩⟩;obtain ⟨_,_,_,_,c8⟩:=h.arc.cells;have R:=h.find x;obtain ⟨k,Q⟩:=nM (aI xs.names x);obtain ⟨i,l⟩:=nM (mJ xs.os x);rw [Q,l] at R;have f:=a6 h Q l kc k8;clear Q l h k8 kc;go_enter func73,ntmps73;go_wp2_with fail;refine R.mono ?_;rintro e w1 ⟨rfl,E⟩;have H:=ak E;clear E R c8;go_wp2_with fail;refine (jW x w1).mono ?_;rintro e w2 ⟨rfl,rfl⟩;cases hx:bZ x
 . dsimp only;go_wp2;go_ret;exact f.o.2.2.2.2 _ 6 H.o (.inl ⟨hx,rfl⟩)
 by_cases r:x∈xs.names;rotate_left
 . have l:=f.o.1.Sp r;rw [f.o.2.2.1] at l;subst l;have J:=ak r;clear r;dsimp only;go_wp2;go_ret;exact f.o.2.2.2.2 _ 9 H.o (.inr ⟨hx,J.o,rfl⟩)
 have l:=f.o.1.there r;rw [f.o.2.2.1] at l;subst l;have T:aI xs.names x<xs.os.length:=by
  obtain ⟨q,_⟩:=uD f.o.1.disk.up r;rwa [<- eC,bj] at q
 rw [f.o.2.1] at T;obtain ⟨pgn,hc⟩:=nM (pgs D (an (xs.del k).os).length);obtain ⟨len,h9⟩:=nM ((an (xs.del k).os).length);have m:=a5 f.o.1 T hc h9;have J:=ak r;clear r T hc h9;dsimp only;have n:=m.o.1.below H.o;obtain ⟨_,_,_,_,d8⟩:=n.arc.cells;have W:=uL n.cat (e9 n.Sj.1) (λj hj=>⟨e9 n.arc.lt,λe=>e9 (n.vol.arr.RN e),λe=>e9 (ps.lt _ n.kit _ e)⟩) m.o.2.1;rw [<- L9] at W;have X:=ak n;clear n;go_wp2_with fail;refine W.mono ?_;rintro e w3 ⟨u,rfl,M,N⟩;have C:=X.o.below N;have Z:∀ o∈(xs.del k).os,o.fit:=λo ho=>by
  obtain ⟨y,hy,rfl⟩:=T9.1 ho;exact (C.disk.fits y ((kU xs k).subset hy)).fit
 have ha:(xs.del k).os.length<=10000:=by
  have h1:=(kU xs k).length_le;have e:(xs.del k).os.length=(xs.del k).length:=KP
  have h4:=C.Sj.1;have h5:xs.os.length=xs.length:=KP
  omega
 have U:=uj M Z ha;have kg:=C.TN k;rw [m.o.2.2.2] at U kg;have z:=aE C M (H.o.trans (N.mono H.o.size));clear W M N C Z ha d8 X;dsimp only;go_wp2_with fail;refine U.mono ?_;rintro e w4 ⟨rfl,I⟩;have c:=z.o.1.below I;have V:=jh c.arc c.vol.vol c.vol.par.d1 (e9 c.vol.par.d) len ec;have B:pgs D len=pgn:=by rw [<- m.o.2.2.2];exact m.o.2.2.1
 rw [B] at V;have kb:=Pd c k m.o.2.2.1.symm;have s:bW w w4:=z.o.2.2.trans (I.mono z.o.2.2.size);have Y:=aE c (z.o.2.1.keep (ef.RM I)) s;clear c I s B U z;dsimp only;go_wp2_with fail;refine V.mono ?_;rintro e ki ⟨rfl,rfl⟩;clear V;dsimp only;go_wp2_with fail;refine kb.mono ?_;rintro e w5 ⟨g,cap,rfl,k9,hr,ke,kf,O,hs⟩;obtain ⟨c,k6,s⟩:=Y.o;have h7:ar<g/\¬ F.S g/\¬ ps.bl g:=⟨e9 c.arc.lt,λe=>e9 (c.vol.arr.RN e),λe=>e9 (ps.lt _ c.kit _ e)⟩;have ka:bf (λk=>ar<k/\¬ F.S k/\¬ ps.bl k) w5 (Z6 (ZX ⟨g,0,ZY⟩) pgn cap) ((aZ (tk A.nb (P++af xs.os)).1 A.nb).take pgn):=by
  have:=yT (K:=λk=>ar<k/\¬ F.S k/\¬ ps.bl k) (a:=pgn) (b:=0) (c1:=cap) k9 hr h7 ec;rwa [UI ec] at this
 have k7:=JE m.o.1 f.o.2.2.2.1 x hx J.o k f.o.2.1 m.o.2.2.1.symm (k6.keep (ef.RM O)) (s.trans (O.mono s.size)) ka hr;clear c k6 s h7 hs ka kb k9 hr ke kf O Y;dsimp only;go_wp2_with fail;refine k7.mono ?_;rintro e w6 ⟨er,t',kh,hd,P',xs',B',rfl,hp⟩;have HF:=ak hp;clear hp k7;dsimp only;go_wp2;go_ret;exact ⟨_,_,_,_,_,_,_,rfl,HF.o⟩
end
def di.later {ps:aR} {xs:aL} {Q:Int->Prop} {N:aL->Prop} (h:di w ar v p ps D L G t xs A F Q N e w') (j:bW w0 w):di w0 ar v p ps D L G t xs A F Q N e w':=by
 obtain ⟨x,k,b,a,P',xs',B,c,d,f,g,i⟩:=h;exact ⟨x,k,b,a,P',xs',B,c,d,f,(aa.RL j _).trans g,i⟩
def DoQ (t:Nat) (xs:aL) (Q:Int->Prop) (N:aL->Prop) (er:ZT) (t':Nat) (xs':aL):Prop:=(er=.nilIface/\t'=t+1/\N xs')\/(xs'=xs/\t'=t/\∃ n,er=AK n/\Q n)
def aaT {ps:aR} {xs:aL} {Q:Int->Prop} {N:aL->Prop} (r:¬ Q 13) (h:aS w ar v p ps D L G t pg ob P xs A F) (k:FuncId) (cap:Array ZT) (m:∀ (args:Array ZT) (w:ZU),(callFunc k args).run ZN w=.ok (.enter k args) w) (o:∀ w1,bW w w1->ZS ZN k (#[]++cap) w1 (di w1 ar v p ps D L G t xs A F Q N)) :
 ZS ZN 52 #[Z7 (ZX ⟨ar,0,ZY⟩),.func (.func k) #[] cap] w (di w ar v p ps D L G t xs A F Q N):=by
 refine (aaP h k #[] cap m (λx c xs' _ _=>DoQ t xs Q N x c xs') (λ_ _ _ _ _ _ _ q=>q) λw1 l _=>(o w1 l).mono ?_).mono ?_
 . rintro e w2 ⟨x,c,b,a,P',xs',B,f,g,i,j,d⟩;refine ⟨x,c,b,a,P',xs',B,f,?_,g,i,j,d⟩;rcases d with ⟨rfl,_⟩|⟨_,_,n,rfl,s⟩
   . exact .inl rfl
   . exact .inr ⟨n,λe=>r (e▸s),rfl⟩
 . rintro e w2 ⟨x,c,b,a,P',xs',B,f,_,g,i,j,d⟩;exact ⟨x,c,b,a,P',xs',B,f,g,i,j,d⟩
def Pe {nb:Nat} {xs:aL} {n:Nat}:¬ wI D nb xs x n 13:=by
 rintro (⟨_,h⟩|⟨_,⟨_,h⟩|⟨_,⟨_,h⟩|⟨_,_,h⟩⟩⟩)<;>exact absurd h ee
def Pf {xs:aL}:¬ wK xs x 13:=by
 rintro (⟨_,h⟩|⟨_,_,h⟩)<;>exact absurd h ee
theorem abd {ps:aR} {xs:aL} (h:aS w ar v p ps D L G t pg ob P xs A F) (J:t<1000000) (x:ByteArray) (ao:Option ZR) (c:Nat) (d:a8) (z:∀ w',aa F.S w w'->Bs w' (.slice ao d.length c) d) (E:d.length<=c) :
 ZS ZN 69 #[Z7 (ZX ⟨ar,0,ZY⟩),Z0 x,.slice ao d.length c] w (di w ar v p ps D L G t xs A F (wI D A.nb xs x d.length) (wJ D A.nb xs x d)):=by
 have I:∀ (args:Array ZT) (w:ZU),(callFunc 95 args).run ZN w=.ok (.enter 95 args) w:=U5 func95 ei rfl;obtain ⟨n,s⟩:=nM (d.length);obtain ⟨w3,g⟩:=nM (((w.alloc (Z5 #[Z7 (ZX ⟨ar,0,ZY⟩)] 103)).alloc (Z5 #[Z0 x] 9)).alloc (Z5 #[.slice ao n c] 40));have f:ZO w3 w.heap.size 103 (Z7 (ZX ⟨ar,0,ZY⟩)):=by rw [<- g];exact ((Us w _ _).alloc _).alloc _
 have i:ZO w3 (w.heap.size+1) 9 (Z0 x):=by
  have:=(Us (w.alloc (Z5 #[Z7 (ZX ⟨ar,0,ZY⟩)] 103)) 9 (Z0 x)).alloc (Z5 #[.slice ao n c] 40);rw [Ul] at this;rw [<- g];exact this
 have j:ZO w3 (w.heap.size+2) 40 (.slice ao n c):=by
  have:=Us ((w.alloc (Z5 #[Z7 (ZX ⟨ar,0,ZY⟩)] 103)).alloc (Z5 #[Z0 x] 9)) 40 (.slice ao n c);simp only [Ul] at this;rw [<- g];exact this
 have b:bW w w3:=by rw [<- g];exact ((bA w _).alloc ek _).alloc en _
 have y:∀ w1,bW w3 w1->ZS ZN 95 #[Z7 (ZX ⟨w.heap.size,0,ZY⟩),Z7 (ZX ⟨w.heap.size+1,0,ZY⟩),Z7 (ZX ⟨w.heap.size+2,0,ZY⟩)] w1 (di w1 ar v p ps D L G t xs A F (wI D A.nb xs x d.length) (wJ D A.nb xs x d)):=λw1 a=>by
  have K:=(show ZO w1 w.heap.size 103 _ from (a.block _ f.lt).trans f).cell;have M:=(show ZO w1 (w.heap.size+1) 9 _ from (a.block _ i.lt).trans i).cell;have N:=(show ZO w1 (w.heap.size+2) 40 _ from (a.block _ j.lt).trans j).cell;have k:bW w w1:=b.trans (a.mono b.size);have u:=Pb (h.below k) J x ao c d (λw' C=>z w' ((aa.RL k _).trans C)) E;rw [s] at u ⊢;clear f i j a k g b;go_enter func95,ntmps95;go_wp2_with fail;refine u.mono ?_;rintro e w2 l;obtain ⟨r,_,_,_,_,_,_,rfl,_⟩:=id l;have H:=ak l;clear l u;go_wp2;go_ret;exact H.o
 have q:=aaT Pe (h.below b) 95 #[Z7 (ZX ⟨w.heap.size,0,ZY⟩),Z7 (ZX ⟨w.heap.size+1,0,ZY⟩),Z7 (ZX ⟨w.heap.size+2,0,ZY⟩)] I (λw1 a=>y w1 a);have c1:=f.cell;rw [s] at q ⊢;have H:=al q b;clear q b y f i j h z s;go_enter func69,ntmps69;go_wp2_with fail;refine H.o.1.mono ?_;rintro e w8 m;obtain ⟨r,_,_,_,_,_,_,rfl,_⟩:=id m;have B:=ak (di.later m H.o.2);clear m;go_wp2;go_ret;exact B.o
theorem Pg {ps:aR} {xs:aL} (h:aS w ar v p ps D L G t pg ob P xs A F) (s:t<1000000) (x:ByteArray) :
 ZS ZN 50 #[Z7 (ZX ⟨ar,0,ZY⟩),Z0 x] w (di w ar v p ps D L G t xs A F (wK xs x) (DJ xs x)):=by
 have q:∀ (args:Array ZT) (w:ZU),(callFunc 72 args).run ZN w=.ok (.enter 72 args) w:=U5 func72 ei rfl;obtain ⟨w3,f⟩:=nM ((w.alloc (Z5 #[Z7 (ZX ⟨ar,0,ZY⟩)] 103)).alloc (Z5 #[Z0 x] 9));have c:ZO w3 w.heap.size 103 (Z7 (ZX ⟨ar,0,ZY⟩)):=by rw [<- f];exact (Us w _ _).alloc _
 have d:ZO w3 (w.heap.size+1) 9 (Z0 x):=by
  have:=Us (w.alloc (Z5 #[Z7 (ZX ⟨ar,0,ZY⟩)] 103)) 9 (Z0 x);rw [Ul] at this;rw [<- f];exact this
 have b:bW w w3:=by rw [<- f];exact (bA w _).alloc ek _
 have k:∀ w1,bW w3 w1->ZS ZN 72 #[Z7 (ZX ⟨w.heap.size,0,ZY⟩),Z7 (ZX ⟨w.heap.size+1,0,ZY⟩)] w1 (di w1 ar v p ps D L G t xs A F (wK xs x) (DJ xs x)):=λw1 a=>by
  have u:=(show ZO w1 w.heap.size 103 _ from (a.block _ c.lt).trans c).cell;have y:=(show ZO w1 (w.heap.size+1) 9 _ from (a.block _ d.lt).trans d).cell;have j:bW w w1:=b.trans (a.mono b.size);have m:=FN (h.below j) s x;clear c d a j f b;go_enter func72,ntmps72;go_wp2_with fail;refine m.mono ?_;rintro e w2 g;obtain ⟨r,_,_,_,_,_,_,rfl,_⟩:=id g;have H:=ak g;clear g m;go_wp2;go_ret;exact H.o
 have l:=aaT Pf (h.below b) 72 #[Z7 (ZX ⟨w.heap.size,0,ZY⟩),Z7 (ZX ⟨w.heap.size+1,0,ZY⟩)] q (λw1 a=>k w1 a);have c1:=c.cell;have H:=al l b;clear l b k c d h;go_enter func50,ntmps50;go_wp2_with fail;refine H.o.1.mono ?_;rintro e w8 i;obtain ⟨r,_,_,_,_,_,_,rfl,_⟩:=id i;have n:=ak (di.later i H.o.2);clear i;go_wp2;go_ret;exact n.o
theorem abe {ps:aR} {xs:aL} (hs:ZO w sa 105 (Z7 (ZX ⟨ar,0,ZY⟩))) (h:aS w ar v p ps D L G t pg ob P xs A F) (j:t<1000000) (x:ByteArray) (ao:Option ZR) (c:Nat) (d:a8) (f:∀ w',aa F.S w w'->Bs w' (.slice ao d.length c) d) (i:d.length<=c) :
 ZS ZN 46 #[Z7 (ZX ⟨sa,0,ZY⟩),Z0 x,.slice ao d.length c] w (di w ar v p ps D L G t xs A F (wI D A.nb xs x d.length) (wJ D A.nb xs x d)):=by
 have cs:=hs.cell;have b:=abd h j x ao c d f i;clear hs h f;go_enter func46,ntmps46;go_wp2_with fail;refine b.mono ?_;rintro e w8 a;obtain ⟨r,_,_,_,_,_,_,rfl,_⟩:=id a;have g:=ak a;clear a b;go_wp2;go_ret;exact g.o
theorem Ph {ps:aR} {xs:aL} (hs:ZO w sa 105 (Z7 (ZX ⟨ar,0,ZY⟩))) (h:aS w ar v p ps D L G t pg ob P xs A F) (d:t<1000000) (x:ByteArray) :
 ZS ZN 31 #[Z7 (ZX ⟨sa,0,ZY⟩),Z0 x] w (di w ar v p ps D L G t xs A F (wK xs x) (DJ xs x)):=by
 have cs:=hs.cell;have b:=Pg h d x;clear hs h;go_enter func31,ntmps31;go_wp2_with fail;refine b.mono ?_;rintro e w8 a;obtain ⟨r,_,_,_,_,_,_,rfl,_⟩:=id a;have c:=ak a;clear a b;go_wp2;go_ret;exact c.o
def vu.isSlice {xs:aL} {r:ZT} (h:vu xs x base u r w):(∃ ao n c,u=.slice ao n c)/\mX r:=by
 rcases h with ⟨rfl,h⟩|⟨rfl,_,X,_,_,ho⟩
 . refine ⟨⟨_,_,_,rfl⟩,.inr ?_⟩;rcases h with ⟨rfl,_⟩|⟨rfl,_⟩<;>exact ⟨_,ee,rfl⟩
 . obtain ⟨a,b,e⟩:=bm ho;exact ⟨⟨_,_,_,e⟩,.inl rfl⟩
def vu.keep {xs:aL} {r:ZT} (h:vu xs x base u r w) (l:base'<=base) (m:∀ (j:Nat) (cs:Array ZT),w.heap[j]?=ZX (Z5 cs 5 (0,0))->w'.heap[j]?=w.heap[j]?):vu xs x base' u r w':=by
 refine h.imp id ?_;rintro ⟨e,f,X,i,k,ho⟩;refine ⟨e,f,X,i,k,ho.1,?_⟩;rcases ho.2 with d|⟨g,cap,cur,b,c,a,n⟩
 . exact .inl d
 . exact .inr ⟨g,cap,cur,b,TU l c,(m _ _ a).trans a,n⟩
def DK {n:Nat} (d:ZO w b 40 (.slice ao n c)):ve w b:=λoff u h=>by
 have a:w.heap[b]?=ZX (Z5 #[.slice ao n c] 40 (0,0)):=d;cases off with
 | zero=>simp [World.cell?,a] at h;subst h;exact ⟨λ_=>nofun,λ_=>nofun⟩
 | succ n=>simp [World.cell?,a] at h
def FO (w:ZU) (ar v p:Nat) (Kind:aR->Prop) (ps:aR) (D L G t:Nat) (xs:aL) (A:az) (F:aK) (x:ByteArray) (e:ZQ) (w':ZU):Prop:=
 ∃ u r ps' pg ob P,e=Z4 (ZZ #[u,r])/\RF w ar v p Kind ps D L G t pg ob P xs A F ps' w'/\aa (λj=>j=ar\/F.S j\/j=v\/ps.bl j) w w'/\vu xs x w.heap.size u r w'
theorem M1 {q3:Nat} {Kind:aR->Prop} {ps:aR} {xs:aL} (h:aS w ar v p ps D L G t pg ob P xs A F) (x:ByteArray) (hG:∀ w1,bW w w1->ZS ZN 71 #[Z7 (ZX ⟨ar,0,ZY⟩),Z0 x] w1 (mz w1 ar v p Kind ps D L G t pg ob P xs A F x)) (d:bW w w1) (z:ZO w1 q1 103 (Z7 (ZX ⟨ar,0,ZY⟩))) (C:ZO w1 q2 9 (Z0 x)) (f:ZO w1 q3 40 (Z6 ZY 0 0)) (R:w.heap.size<=q3) :
 ZS ZN 70 #[Z7 (ZX ⟨q1,0,ZY⟩),Z7 (ZX ⟨q2,0,ZY⟩),Z7 (ZX ⟨q3,0,ZY⟩)] w1 λe w2=>∃ u r i,e=Z4 r/\RF w ar v p Kind ps D L G t pg ob P xs A F i w2/\aa (λj=>F.S j\/j=v\/ps.bl j\/j=q3) w1 w2/\vu xs x w.heap.size u r w2/\ZO w2 q3 40 u:=by
 have J:=z.cell;have K:=C.cell;have E:=hG w1 d;have g:∀ j,F.S j->j<w.heap.size:=λj a=>h.vol.arr.RN a;have H:=a5 h f g d;clear h z C f g d hG;go_enter func70,ntmps70;go_wp2_with fail;refine E.mono ?_;rintro e w2 ⟨u,r,i,rfl,hG,l,m⟩;obtain ⟨h,f,g,d⟩:=H.o;have b:ZO w2 q3 40 (Z6 ZY 0 0):=(l.block _ f.lt (λe=>by
  rcases e with e|e|e
  . have:=g _ e;omega
  . have:=h.vol.vol.lt;omega
  . have:=ps.lt _ h.kit _ e;omega)).trans f
 have T:=b.cell;have U:=b.frozen;obtain ⟨ao,n,c,rfl⟩:=m.isSlice.1;have I:=a5 hG l m b;clear hG l m b E J K h f g d;go_wp2;go_ret;obtain ⟨⟨hl,O,Q⟩,l,m,b⟩:=I.o;obtain ⟨h,f,g,d⟩:=H.o;have M:ZO (w2.setCell ⟨q3,0,ZY⟩ (.slice ao n c)) q3 40 (.slice ao n c):=b.set _;have s:∀ j,j≠q3->(w2.setCell ⟨q3,0,ZY⟩ (.slice ao n c)).heap[j]?=w2.heap[j]?:=λj a=>Ud _ _ _ _ a;have N:ve w2 q3:=DK b;refine ⟨_,r,i,rfl,⟨hl.aside (B:=w.heap.size) N (bU hl.kit b oV) oB (λk y _=>s k y) R (by exact g) h.vol.vol.lt h.arc.lt h.vol.room,O,λk y=>(Q k y).imp id λq=>TU d.size q⟩,?_,m.keep d.size (λj cs a=>s j (λe=>by subst e;rw [b] at a;cases a)),M⟩;exact (l.mono λj _ a=>by
  rcases a with q|q|q
  . exact .inl q
  . exact .inr (.inl q)
  . exact .inr (.inr (.inl q))).trans ⟨rfl,rfl,rfl,oB,λj _ a=>s j (λe=>a (.inr (.inr (.inr e))))⟩
theorem abf {Kind:aR->Prop} {ps:aR} {xs:aL} (h:aS w ar v p ps D L G t pg ob P xs A F) (x:ByteArray) (hG:∀ w1,bW w w1->ZS ZN 71 #[Z7 (ZX ⟨ar,0,ZY⟩),Z0 x] w1 (mz w1 ar v p Kind ps D L G t pg ob P xs A F x)) :
 ZS ZN 49 #[Z7 (ZX ⟨ar,0,ZY⟩),Z0 x] w (FO w ar v p Kind ps D L G t xs A F x):=by
 have hm:∀ (args:Array ZT) (w:ZU),(callFunc 70 args).run ZN w=.ok (.enter 70 args) w:=U5 func70 ei rfl;obtain ⟨w3,J⟩:=nM (((w.alloc (Z5 #[Z7 (ZX ⟨ar,0,ZY⟩)] 103)).alloc (Z5 #[Z0 x] 9)).alloc (Z5 #[Z6 ZY 0 0] 40));have g:ZO w3 w.heap.size 103 (Z7 (ZX ⟨ar,0,ZY⟩)):=by rw [<- J];exact ((Us w _ _).alloc _).alloc _
 have i:ZO w3 (w.heap.size+1) 9 (Z0 x):=by
  have:=(Us (w.alloc (Z5 #[Z7 (ZX ⟨ar,0,ZY⟩)] 103)) 9 (Z0 x)).alloc (Z5 #[Z6 ZY 0 0] 40);rw [Ul] at this;rw [<- J];exact this
 have m:ZO w3 (w.heap.size+2) 40 (Z6 ZY 0 0):=by
  have:=Us ((w.alloc (Z5 #[Z7 (ZX ⟨ar,0,ZY⟩)] 103)).alloc (Z5 #[Z0 x] 9)) 40 (Z6 ZY 0 0);simp only [Ul] at this;rw [<- J];exact this
 have f:bW w w3:=by rw [<- J];exact ((bA w _).alloc ek _).alloc en _
 have U:=h.below f;have hr:=m.lt;have W:=AO (R:=dJ A) U 70 #[] #[Z7 (ZX ⟨w.heap.size,0,ZY⟩),Z7 (ZX ⟨w.heap.size+1,0,ZY⟩),Z7 (ZX ⟨w.heap.size+2,0,ZY⟩)] hm
  (λr O xs' B a w2=>∃ u,vu xs x w.heap.size u r w2/\ZO w2 (w.heap.size+2) 40 u/\(Kind a/\∀ k,a.bl k->ps.bl k\/w.heap.size<=k)/\O=t/\xs'=xs/\B=A) (λj=>j=w.heap.size+2\/j=v\/ps.bl j) (λj e=>by
   rcases e with e|e|e
   . omega
   . have:=h.vol.vol.lt;have:=f.size;omega
   . have:=ps.lt _ h.kit _ e;have:=f.size;omega)
  (λr O xs' B a w2 w' Q=>by
   rintro ⟨u,E,C,Z⟩;have V:∀ j,w2.heap[j]?≠ZX (Obj.cells #[Value.nilIface] 64 (0,0))->w'.heap[j]?=w2.heap[j]?:=λj d=>Q.2.2 j (λe=>by subst e;exact d Q.1);refine ⟨u,E.keep lR (λj cs d=>V j (by rw [d];simp)),(V _ (by rw [C];simp)).trans C,Z⟩)
  (λw1 z hq=>(M1 h x hG (f.trans (z.mono f.size)) ((z.block _ g.lt).trans g) ((z.block _ i.lt).trans i) ((z.block _ m.lt).trans m) ec).mono (by
   rintro e w2 ⟨u,r,a,rfl,⟨hl,hG⟩,hO,E,C⟩;exact ⟨r,t,pg,ob,P,xs,A,a,rfl,E.isSlice.2,hl,dJ.refl A,hO.mono λj _ d=>by
    rcases d with q|q|q|q
    . exact .inr (.inl q)
    . exact .inr (.inr (.inr (.inl q)))
    . exact .inr (.inr (.inr (.inr q)))
    . exact .inr (.inr (.inl q)),u,E,C,hG,rfl,rfl,rfl⟩))
 have c1:=g.cell;have H:=aE W f h;clear W f g i m h U hG;go_enter func49,ntmps49;go_wp2_with fail;refine H.o.1.mono ?_;rintro e w8 ⟨r,O,N,M,P',xs',B,a,rfl,hp,I,hn,y,u,l,T,s,rfl,rfl,rfl⟩;have b:ZO w8 (w.heap.size+1+1) 40 u:=T;have y0:=b.cell;have y1:=b.frozen;obtain ⟨ao,n,c,rfl⟩:=l.isSlice.1;have X:=a6 y l b I s;clear s I y l T b hp hn;go_wp2;obtain ⟨y,l,b,I,s⟩:=X.o;have Y:=(b.set (.slice ao n c)).cell;refine Ut (v:=ZZ #[.slice ao n c,r]) (by simp [results,results49,go_sem,Y]) rfl ?_;have K:bW w8 (w8.setCell ⟨w.heap.size+1+1,0,ZY⟩ (.slice ao n c)):=⟨rfl,rfl,rfl,oB,λj d=>by
  by_cases e:j=w.heap.size+1+1
  . subst e;exact (b.set (.slice ao n c)).trans b.symm
  . exact Ud _ _ _ _ e⟩
 refine ⟨_,r,a,N,M,P',rfl,⟨I.below K,s⟩,?_,l.keep lR (λj cs d=>K.block j (TX.1 d).1)⟩;have hk:aa (λj=>j=ar\/F.S j\/j=v\/ps.bl j) w w8:=(aa.RL H.o.2.1 (λj=>j=ar\/F.S j\/j=v\/ps.bl j)).later y (λj g i=>by
  rcases i with q|q|q|q|q
  . exact .inl q
  . exact .inr (.inl q)
  . omega
  . exact .inr (.inr (.inl q))
  . exact .inr (.inr (.inr q)))
 exact hk.trans (aa.RL K _)
theorem abg {Kind:aR->Prop} {ps:aR} {xs:aL} (hs:ZO w sa 105 (Z7 (ZX ⟨ar,0,ZY⟩))) (h:aS w ar v p ps D L G t pg ob P xs A F) (x:ByteArray) (hG:∀ w1,bW w w1->ZS ZN 71 #[Z7 (ZX ⟨ar,0,ZY⟩),Z0 x] w1 (mz w1 ar v p Kind ps D L G t pg ob P xs A F x)) :
 ZS ZN 28 #[Z7 (ZX ⟨sa,0,ZY⟩),Z0 x] w (FO w ar v p Kind ps D L G t xs A F x):=by
 have cs:=hs.cell;have f:=abf h x hG;clear hs h hG;go_enter func28,ntmps28;go_wp2_with fail;refine f.mono ?_;rintro e w8 ⟨u,r,c,b,a,P',rfl,d⟩;have g:=ak d;clear d f;go_wp2;go_ret2;exact ⟨u,r,c,b,a,P',rfl,g.o⟩
def en2 (o:Ob):List ZT:=[Z0 o.name,Z8 Z9 (o.size:Nat)]
def lY (os:List Ob):List ZT:=os.flatMap en2
def JF (os:List Ob) (k:Nat) (a:k<os.length):lY (os.take (k+1))=lY (os.take k)++en2 os[k]:=by
 unfold lY;rw [Ve,Uc a,WN];simp
def Tryz.Tg:(ZN.info? 99).map (λi=>(i.zero,i.size,i.bytes))=ZX (ZX (.agg #[Z0 YJ,Z8 Z9 0]),2,24):=ei
def LiR (w:ZU) (q:Nat) (os:List Ob) (i:ZT) (wr:ZU):Prop:=∃ k:Nat,k<=os.length/\i=Z8 Z9 (k:Nat)/\∃ u,ZO wr q 95 u/\wr.ownsRow w.heap.size 99 2 u k (lY (os.take k))/\aa (λj=>j=q) w wr
theorem JG {f n:Nat} (M:ZO w q1 103 (Z7 (ZX ⟨ar,0,ZY⟩))) (N:ZO w q2 95 (Z6 ZY 0 0)) (P:a9 w ar v D L G t f n pg ob ZV) (y:eN K w ob os) (hK:∀ k,K k->k≠q2) (ke:os.length<=10000) :
 ZS ZN 74 #[Z7 (ZX ⟨q1,0,ZY⟩),Z7 (ZX ⟨q2,0,ZY⟩)] w λe w'=>e=Z4 .nilIface/\∃ u,ZO w' q2 95 u/\w'.ownsRow w.heap.size 99 2 u os.length (lY os)/\aa (λj=>j=q2) w w':=by
 obtain ⟨_,_,_,_,J⟩:=P.cells;have Z:=M.cell;obtain ⟨ie,k6,hf,hg,hh⟩:=Uu Tryz.Tg;obtain ⟨oo,oc,rfl,hol,_⟩:=id y;obtain ⟨s,V⟩:=nM (os.length);rw [V] at J;have H:=aE N y V;have kb:s<=10000:=ec
 clear M N P y hol;go_enter func74,ntmps74;go_wp2;go_loopw [10] (λi wr=>LiR w q2 os i wr) (λi _=>s-(intOf i).toNat)
 case atStart=>exact ⟨0,T8 _,rfl,_,H.o.1,UK _ _ _ _,aa.refl _ _⟩
 case round=>
  clear J Z;obtain ⟨k,hk,rfl,u,l,ho,a⟩:=hrel;by_cases T:k<os.length
  . have hs:ef K w wr:=⟨a.size,λj d k5=>a.block j d (λe=>hK j k5 e)⟩;obtain ⟨b,off,sv,rfl,hb,_,r1,r2,r3,X⟩:=(H.o.2.1.keep hs).at' (k:=k) T;obtain ⟨sa,sc,rfl,_⟩:=id X;obtain ⟨nm,A⟩:=nM (os[k].name);obtain ⟨sz,C⟩:∃ sz:Int,((os[k].size:Nat):Int)=sz:=⟨_,rfl⟩;obtain ⟨sl,W⟩:=nM (os[k].RK.length);have r:lY (os.take (k+1))=lY (os.take k)++[Z0 nm,Z8 Z9 sz]:=(by rw [JF os k T];unfold en2;rw [A,C]);rw [A] at r1;rw [C] at r2;rw [W] at r3;have k9:(k:Int)<(s:Int):=ec;obtain ⟨w3,E⟩:=nM (wr.alloc (Z5 #[Z0 nm,Z8 Z9 sz,.slice sa sl sc] 152));have z:ai w3 wr.heap.size 152 [Z0 nm,Z8 Z9 sz,.slice sa sl sc]:=(by rw [<- E];exact UC wr _);have q:bW wr w3:=(by rw [<- E];exact bA wr _);have ka:w3.heap.size=wr.heap.size+1:=(by rw [<- E];simp);have x0:=z.cell (j:=0) (u:=Z0 nm) rfl;have x1:=z.cell (j:=1) (u:=Z8 Z9 sz) rfl;have hr:ZO w3 q2 95 u:=(q.block _ l.lt).trans l;have xq:=hr.cell;have R:ai (w3.alloc (Z5 #[Z0 nm,Z8 Z9 sz] 99)) w3.heap.size 99 [Z0 nm,Z8 Z9 sz]:=UC w3 _;have g:bW wr (w3.alloc (Z5 #[Z0 nm,Z8 Z9 sz] 99)):=q.alloc ec _;have x:Src ZN 2 95 (Z6 (ZX ⟨w3.heap.size,0,ZY⟩) 1 1) 1 [Z0 nm,Z8 Z9 sz] (w3.alloc (Z5 #[Z0 nm,Z8 Z9 sz] 99)):=
     Vl _ underlying95 ⟨w3.heap.size,0,ZY⟩ 1 1 [Z0 nm,Z8 Z9 sz] rfl (λj u d=>by rw [Vo,Uj];exact R.cell d) (λu Q=>by
      simp only [Uv,Xd,or_false] at Q;rcases Q with rfl|rfl<;>rfl)
    have B:(w3.alloc (Z5 #[Z0 nm,Z8 Z9 sz] 99)).ownsRow w.heap.size 99 2 u k (lY (os.take k)):=aq ho g;have c:=hide8 l ho a x B g r q;have kc:IntKind.i64.wrap ((k:Int)+1)=(k:Int)+1:=l3;clear l ho a x B g r q z R hr hs X A C W hb ka;go_wp2_with (at_builtin;refine ae _ rfl (Z1 14) (Z1 20) 95 95 rfl w.heap.size 99 ie _ 2 24 underlying95 k6 hf hg hh rfl u k (lY (os.take k)) um (by exact c.o.2.2.2.2.1) _ um 1 [Z0 nm,Z8 Z9 sz] (by exact c.o.2.2.2.1) eD ec (by exact TU c.o.2.2.1.size c.o.2.2.2.2.2.1.size) ?_;intro v7 w7 p h he;have m:ZO w7 q2 95 u:=(h.block _ (T7 c.o.1.lt c.o.2.2.2.2.2.1.size) (λe=>bC c.o.2.1 c.o.1 ee e.symm)).trans ((c.o.2.2.2.2.2.1.block _ c.o.1.lt).trans c.o.1);have z0:=m.cell;have z1:=m.frozen;obtain ⟨F,I,rfl⟩:=bm p;have Y:=aE p h m;clear p h he m);obtain ⟨l,ho,a,x,B,g,r,q⟩:=c.o;obtain ⟨p,h,m⟩:=Y.o;have hn:ZO (w7.setCell ⟨q2,0,ZY⟩ (.slice F (k+1) I)) q2 95 (.slice F (k+1) I):=m.set _;have O:∀ j,j≠q2->(w7.setCell ⟨q2,0,ZY⟩ (.slice F (k+1) I)).heap[j]?=w7.heap[j]?:=λj d=>Ud _ _ _ _ d;have kg:=h.size;have kf:=g.size;refine ⟨⟨k+1,ec,eT,_,hn,?_,?_⟩,?_⟩
    . rw [r];exact bR p (S:=λj=>j=q2) ⟨rfl,rfl,rfl,oB,λj _ d=>O j d⟩ λj d e=>bC p (e▸m:w7.heap[j]?=_) ee d
    . refine ⟨h.os.trans (g.os.trans a.os),h.tape.trans (g.tape.trans a.tape),h.output.trans (g.output.trans a.output),by have:=a.size;simp [World.setCell];omega,λj d U=>?_⟩;have k7:j<wr.heap.size:=T7 d a.size;exact (O j U).trans ((h.block j ec (λe=>e9 (dY ho e.symm))).trans ((g.block j k7).trans (a.block j d U)))
    . simp only [intOf];omega
  . have k8:k=s:=(e9 H.o.2.2);subst k8;have HF:=aE l ho a;clear l ho a;go_wp2;go_ret;obtain ⟨l,ho,a⟩:=HF.o;refine ⟨rfl,u,l,?_,a⟩;rw [UI (e9 H.o.2.2),<- H.o.2.2] at ho;exact ho
def M6 (w:ZU) (xs:aL) (e:ZQ) (w':ZU):Prop:=∃ u,e=Z4 (ZZ #[u,.nilIface])/\bW w w'/\w'.ownsRow w.heap.size 99 2 u xs.os.length (lY xs.os)
def JH {n:Nat} {l:List ZT} (h:w.ownsRow base 99 2 u n l) (i:w.heap[b]?=ZX (Z5 #[.nilIface] 64 (0,0))) (k:∀ j,j≠b->w'.heap[j]?=w.heap[j]?):w'.ownsRow base 99 2 u n l:=by
 refine ⟨h.1,?_⟩;rcases h.2 with f|⟨g,cap,cur,c,d,a,m⟩
 . exact .inl f
 . exact .inr ⟨g,cap,cur,c,d,(k g (λe=>by subst e;rw [i] at a;cases a)).trans a,m⟩
theorem aaU {ps:aR} {xs:aL} (h:aS w ar v p ps D L G t pg ob P xs A F) :
 ZS ZN 51 #[Z7 (ZX ⟨ar,0,ZY⟩)] w (M6 w xs):=by
 have hm:∀ (args:Array ZT) (w:ZU),(callFunc 74 args).run ZN w=.ok (.enter 74 args) w:=U5 func74 ei rfl;obtain ⟨w3,I⟩:=nM ((w.alloc (Z5 #[Z7 (ZX ⟨ar,0,ZY⟩)] 103)).alloc (Z5 #[Z6 ZY 0 0] 95));have x:ZO w3 w.heap.size 103 (Z7 (ZX ⟨ar,0,ZY⟩)):=by rw [<- I];exact (Us w _ _).alloc _
 have y:ZO w3 (w.heap.size+1) 95 (Z6 ZY 0 0):=by
  have:=Us (w.alloc (Z5 #[Z7 (ZX ⟨ar,0,ZY⟩)] 103)) 95 (Z6 ZY 0 0);rw [Ul] at this;rw [<- I];exact this
 have m:bW w w3:=by rw [<- I];exact (bA w _).alloc ek _
 have O:=h.below m;have hx:=y.lt;have Q:=AO (R:=dJ A) O 74 #[] #[Z7 (ZX ⟨w.heap.size,0,ZY⟩),Z7 (ZX ⟨w.heap.size+1,0,ZY⟩)] hm
  (λr U xs' B q w2=>r=.nilIface/\xs'=xs/\(∀ j,j<w.heap.size->w2.heap[j]?=w.heap[j]?)/\∃ u,ZO w2 (w.heap.size+1) 95 u/\w2.ownsRow w.heap.size 99 2 u xs.os.length (lY xs.os)) (λj=>j=w.heap.size+1) (λj e=>ec)
  (λr U xs' B q w2 w' l=>by
   rintro ⟨X,Y,Z,u,z,ho⟩;exact ⟨X,Y,λj f=>(l.2.2 j ec).trans (Z j f),u,(l.2.2 _ (λe=>by have J:=l.1;rw [<- e,z] at J;cases J)).trans z,JH ho l.1 l.2.2⟩)
  (λw1 E hv=>by
   have i:bW w w1:=m.trans (E.mono m.size);have hq:=h.below i;have hC:eN (λk=>k<w.heap.size) w1 ob xs.os:=h.cat.any.keep (ef.RM i);refine (JG ((E.block _ x.lt).trans x) ((E.block _ y.lt).trans y) hq.arc hC (λk T=>ec) (e9 h.Sj.1)).mono ?_;rintro e w2 ⟨rfl,u,z,ho,M⟩;have N:bW w w2:=i.trans (M.below (B:=w.heap.size) λk T=>⟨T7 T i.size,ec⟩);exact ⟨_,t,pg,ob,P,xs,A,ps,rfl,.inl rfl,h.below N,dJ.refl A,M.mono λj _ f=>.inr (.inr f),rfl,rfl,λj f=>N.block j f,u,z,cV ho i.size⟩)
 have c1:=x.cell;have H:=aE Q m h;clear Q m x y h O;go_enter func51,ntmps51;go_wp2_with fail;refine H.o.1.mono ?_;rintro e w8 ⟨r,U,hd,hb,P',xs',B,q,rfl,hs,hr,hp,b,rfl,rfl,C,u,a,d⟩;have y0:=a.cell;have y1:=a.frozen;obtain ⟨ao,c,rfl⟩:=bm d;obtain ⟨n,g⟩:=nM (xs'.os.length);rw [g] at y0 a;have V:=a6 b d a C g;clear hr b d a C hs hp g;go_wp2;obtain ⟨b,d,a,C,g⟩:=V.o;have W:=(a.set (.slice ao n c)).cell;refine Ut (v:=ZZ #[.slice ao n c,.nilIface]) (by simp [results,results51,go_sem,W]) rfl ?_;have K:bW w8 (w8.setCell ⟨w.heap.size+1,0,ZY⟩ (.slice ao n c)):=⟨rfl,rfl,rfl,oB,λj f=>by
  by_cases e:j=w.heap.size+1
  . subst e;exact (a.set (.slice ao n c)).trans a.symm
  . exact Ud _ _ _ _ e⟩
 rw [g] at d;have s:=H.o.2.1;have S:w.heap.size<=w8.heap.size:=TU s.size b.size;exact ⟨_,rfl,(Below.mk (b.os.trans s.os) (b.tape.trans s.tape) (b.output.trans s.output) S C).trans (K.mono S),by rw [g];exact aq d K⟩
theorem aaV {ps:aR} {xs:aL} (hs:ZO w sa 105 (Z7 (ZX ⟨ar,0,ZY⟩))) (h:aS w ar v p ps D L G t pg ob P xs A F) :
 ZS ZN 35 #[Z7 (ZX ⟨sa,0,ZY⟩)] w (M6 w xs):=by
 have cs:=hs.cell;have b:=aaU h;clear hs h;go_enter func35,ntmps35;go_wp2_with fail;refine b.mono ?_;rintro e w8 ⟨u,rfl,a⟩;have c:=ak a;clear a b;go_wp2;go_ret2;exact ⟨u,rfl,c.o⟩
