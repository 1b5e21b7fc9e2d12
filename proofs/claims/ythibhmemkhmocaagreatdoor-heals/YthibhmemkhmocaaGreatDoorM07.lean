import Derived.Test.YthibhmemkhmocaaGreatDoorM06
set_option maxRecDepth 100000
set_option linter.all false
set_option maxHeartbeats 8000000
open Go.IntKind renaming i64 -> Z9, u64 -> Z8
open Go.Value renaming int -> Z7, pointer -> Z6, slice -> Z5, bool -> Z1, string -> ZZ, tuple -> ZY
open Go.Obj renaming cells -> Z4
open Go.Ending renaming returned -> Z3
open Go.Operand renaming tmp -> Z0
open Option renaming none -> ZX, some -> ZW
open Bool renaming true -> ZV, false -> ZU
open Go renaming World -> ZT, Value -> ZS, Calls -> ZR, Addr -> ZQ, Ending -> ZP, TypeId -> ZO, Boxed -> ZN
open List renaming range -> YE, getElem_take -> YI, take_add -> YM
open Go.Proofs.YthibhmemkhmocaaGreatDoor renaming pgs -> YF
open Nat renaming le_max_right -> YG, le_div_iff_mul_le -> YH, left_le_or -> YL, min_eq_right -> YN
open Bool renaming true_or -> YJ
open ByteArray renaming empty -> YK
open Int renaming natCast_add -> YO, natCast_emod -> YP
open Go.Proofs.Tryz renaming prog -> ZM
open Go.Proofs.Tryz
namespace Go.Proofs.YthibhmemkhmocaaGreatDoor
def aaO:=@Go.Calls.quiet_of_same
def U1:=@Go.Proofs.Tryz.underlying36
end Go.Proofs.YthibhmemkhmocaaGreatDoor
namespace Go.Proofs.YthibhmemkhmocaaGreatDoor
open Go.RowKit Go.Deep Gf Go.Shelf
variable {A:aB} {off:Bool} {x:ByteArray} {e:ZP} {F:aK} {room z cache:Int} {Q:List (ByteArray×ZS)} {d P l dl ds page:a8} {os:List Ob} {cs ys:List ZS} {D m c ar v p L G ps ho D' L' G' t f nn B k base g cap a b c1 size sb q l1 r N sp gone b0 sz y po sk n1 f1 D1 L1 G1 t1 i tt wb blocks nb sa q1 q2 B' rb:Nat} {R:Nat->Option bE} {K:Nat->Prop} {f0:Nat->ZS} {o:Obj} {xs':aL} {ao:Option ZQ} {T:ZO} {a' pg ob u er s v7 up uq b' c' out want rv:ZS} {w w' w3 w1 w0 wr w6 w7 w5 w8 KW:ZT}
def An (n:Int):ZS:=.iface 66 (Z7 Z9 n)
def my (D n:Nat):Nat:=max 1 ((n+D*44-1)/(D*44))
def Ao (D m n:Nat):Nat:=YF D (m+(19+4*my D n))
def Ap {n:Nat} (hD:1<=D) (d:n<=1500):my D n<=36:=by
 unfold my;have e:(n+D*44-1)/(D*44)<=n/(D*44)+1:=by
  have:=F0 (D*44) n (by omega);exact TV (YG _ _) this
 have f:n/(D*44)<=1500/44:=by
  have a:=Yk (c:=D*44) d;have b:1500/(D*44)<=1500/44:=aaM (by omega) (by decide);omega
 omega
def Qw (hD:1<=D) (c:m<=2000000):YF D m<=1000000:=by
 unfold YF;have:(m+(D*44-4)-1)/(D*44-4)<=(m+(D*44-4)-1)/40:=aaM (by omega) (by decide);have:(m+(D*44-4)-1)/(D*44-4)<=m/40+1:=by
  refine TV ((Nat.div_le_iff_le_mul_add_pred (by omega)).2 ?_) lR;have:40*(m/40+1)<=(D*44-4)*(m/40+1):=WU _ (by omega);omega
 omega
theorem IE (ao:Option ZQ) (n c a bb:Nat) (f:a<=bb) (g:bb<=c):∃ a',(∀ w,(Instr.sliceAt 40 (.slice ao n c) (ZW (Z7 Z9 (a:Nat))) (ZW (Z7 Z9 (bb:Nat))) ZX).run ZM w=.ok (.slice a' (bb-a) (c-a)) w)/\∀ b off,ao=ZW ⟨b,off,ZX⟩->c≠a->a'=ZW ⟨b,off+a,ZX⟩:=by
 match ao with
 | none=>exact ⟨ZX,λw=>by go_simp,λ_ _ h=>by cases h⟩
 | some ⟨b,off,x⟩=>exact ⟨if c=a then ZW ⟨b,off,x⟩ else ZW (Addr.add ⟨b,off,x⟩ a),λw=>by go_simp,λb' d h e=>by rw [TS e];cases h;rw [Vl]⟩
def Qx {a':Option ZQ} {n:Nat} (h:Bs w (.slice ao n c) d) (z:n=d.length) {ks m a:Nat} (q:∀ b off,ao=ZW ⟨b,off,ZX⟩->c≠ks->a'=ZW ⟨b,off+ks,ZX⟩) (f:((d.drop ks).take m).length=a) (y:ks+a<=n):Bs w (.slice a' a (c-ks)) ((d.drop ks).take m):=by
 obtain ⟨g,c',e,t,u,l,o⟩:=h;simp only [Vs] at e;obtain ⟨rfl,_,rfl⟩:=e;refine ⟨_,_,by rw [f],by omega,by omega,λx s=>l x (UZ (UV s)),λhl=>?_⟩;obtain ⟨b,off,i,r⟩:=o (λe=>by rw [e] at hl;simp at hl);have:0<a:=by rw [<- f];exact Yh.2 hl
 refine ⟨b,off+ks,q b off i (by omega),λk j=>?_⟩;have p:k<m:=by rw [Uo] at j;omega
 rw [Vq,r (ks+k) (by omega)];simp only [Ub,VF p,Wi]
theorem rJ {ofb:Bool} (r:a9 w ar v D' L' G' t f nn pg ob ofb) (b:pd w v p D L G ps ho A F) (kc:A.fine D L G) (k6:¬ F.S ar)
 (nm:ByteArray) (sv:ZS) (S:a8) (B:bf (λk=>¬ F.S k) w sv S) (k5:∀ x∈S,x<A.nb) (ao:Option ZQ) (c:Nat) (d:a8) (K:∀ w',aa F.S w w'->Bs w' (.slice ao d.length c) d) (kb:d.length<=1500) (ka:d.length<=c) (hm:∀ k,k<S.length->k*(D*44)<=d.length) :
 ZR ZM 129 #[Z6 (ZW ⟨ar,0,ZX⟩),.agg #[ZZ nm,Z7 Z9 (d.length:Nat),sv],.slice ao d.length c] w (Eg w p D L G S (dA D d) A F):=by
 have kr:=b.par.d1;have hD:=b.par.d;obtain ⟨sa,sc,rfl,hn,_⟩:=id B;obtain ⟨c0,_⟩:=r.cells;have hz:=λW (hW:bW w W)=>dI (b.vol.keep (hW.block _ b.vol.lt)) (by omega);obtain ⟨sz,J⟩:=nM (D*44);have km:44<=sz/\sz<=528:=by omega
 have l:bW w (w.alloc (Z4 #[ZZ nm,Z7 Z9 (d.length:Nat),.slice sa S.length sc] 152)):=bA w _;have g:ai (w.alloc (Z4 #[ZZ nm,Z7 Z9 (d.length:Nat),.slice sa S.length sc] 152)) w.heap.size 152 [ZZ nm,Z7 Z9 (d.length:Nat),.slice sa S.length sc]:=UC w _;obtain ⟨n,q⟩:=nM (d.length);rw [q] at l g ka kb ⊢;have g2:=g.cell (j:=2) (u:=.slice sa S.length sc) rfl;have H:=(l.cell (p:=⟨ar,0,ZX⟩) r.lt).trans c0;have P:=hz _ l;obtain ⟨w1,ko⟩:=nM (w.alloc (Z4 #[ZZ nm,Z7 Z9 (n:Nat),.slice sa S.length sc] 152));rw [ko] at P g2 H l g;rw [J] at P hm;have N:=hide8 r b B K l g q J;clear r b B K hz l g q c0;go_enter func129,ntmps129;go_wp2_with fail;refine P.mono ?_;rintro e M ⟨rfl,rfl⟩;clear P;go_wp2;go_loopw [19] (λi wr=>∃ k:Nat,i=Z7 Z9 (k:Nat)/\k<=S.length/\az wr p (A.wrTo D L G S (dA D d) k) F/\aa (F.S) M wr) (λi _=>S.length-(intOf i).toNat)
 case atStart=>exact ⟨0,rfl,T8 _,N.o.2.1.arr.below N.o.2.2.2.2.1 lR,aa.refl _ _⟩
 case round=>
  clear g2 H;obtain ⟨k,rfl,hk,Q,z⟩:=hrel;by_cases s:k<S.length
  . obtain ⟨r,b,B,K,l,g,q,J⟩:=N.o;have I:aa (F.S) w wr:=(aa.RL l _).trans z;obtain ⟨sb,so,hb,Z,hq⟩:=r9 (B.keep (eo.R8 I)) (λe=>by rw [e] at s;simp at s);simp only [Vs] at Z;obtain ⟨rfl,_,rfl⟩:=Z;have g1:=hq k s;obtain ⟨y,T⟩:=nM (S[k]);rw [T] at g1;have kp:y<A.nb:=(by rw [<- T];exact k5 _ (T6 s));have X:=r.keep (I.block _ r.lt k6);obtain ⟨ca,_⟩:=X.cells;have kk:¬ F.S w.heap.size:=λh=>by have:=b.arr.RN h;omega
    have Y:ai wr w.heap.size 152 _:=g.keep (z.block _ g.lt kk);have cz:=Y.cell (j:=1) (u:=Z7 Z9 (n:Nat)) rfl;have hv:=hm k s;obtain ⟨m,hx⟩:=nM (k*sz);obtain ⟨a,hh⟩:=nM ((k+1)*sz);have V:(k+1)*sz=k*sz+sz:=WW k sz;have kh:(k:Int)*(sz:Int)=((k*sz:Nat):Int):=(by rw [XD]);have ki:((k:Int)+1)*(sz:Int)=(((k+1)*sz:Nat):Int):=(by rw [XD];rfl);rw [hx] at kh V hv;rw [hh] at ki V;rw [q] at hv;obtain ⟨bb,k9⟩:=nM (min a n);have k7:m<=bb:=(by omega);have k8:bb<=c:=(by omega);have hs:dA D d k=(d.drop m).take sz:=(by unfold dA;rw [J,hx]);have U:((d.drop m).take sz).length=bb-m:=(by rw [Uo,Un];omega);have kj:∀ E ty w,(Builtin.min_ E ty #[Z7 Z9 (a:Nat),Z7 Z9 (n:Nat)]).run ZM w=.ok (Z7 Z9 (bb:Nat)) w:=λE ty w=>by
     rw [iX];by_cases O:((n:Nat):Int)<((a:Nat):Int)
     . rw [TT O,show bb=n by omega]
     . rw [TS O,show bb=a by omega]
    obtain ⟨a',kx,hp⟩:=IE ao n c m bb k7 k8;have R:=kH A D L G S (dA D d) k;have k0:ZR ZM 165 #[Z6 (ZW ⟨v,0,ZX⟩),Z7 Z9 y,.slice a' (bb-m) (c-m)] wr.drew λe w'=>e=Z3 .nilIface/\az w' p (A.wrTo D L G S (dA D d) (k+1)) F/\aa F.S M w':=by
     have hr:=K wr.drew (I.trans (aa.drew _));rw [q] at hr;refine (kV (b.turn (I.trans (aa.drew _)) (Q.keep λ_ _=>rfl) R.1) (R.2.2.fine kc) y (by rw [R.2.1];exact kp) _ _ (Qx hr q.symm hp U (by omega)) (by rw [U];omega)).mono ?_;rintro e w' ⟨rfl,O,h2⟩;refine ⟨rfl,?_,z.trans ((aa.drew _).trans h2)⟩;rw [aB.wrTo,hs,ia s,T];exact O
    have HW:=aE k0 X Y;have kv:IntKind.i64.wrap ((k:Int)+1)=(k:Int)+1:=(by rw [Ux];omega);have kf:IntKind.i64.wrap (m:Int)=(m:Int):=(by rw [Ux];omega);have kg:IntKind.i64.wrap (a:Int)=(a:Int):=(by rw [Ux];omega);clear hp k0 X Y z I Q R hs U hq T r b B K l g q J k9 V;go_wp2;go_region_with (go_at_call 165;refine HW.o.1.mono ?_;rintro e w2 ⟨rfl,hi,hj⟩;have C:=al hi hj;clear hi hj);all_goals (
     go_wp2;go_roundw
     case rel=>exact ⟨k+1,by go_num,by omega,C.o.1,C.o.2⟩
     case measure=>simp only [intOf];omega)
  . have ke:k=S.length:=(by omega);subst ke;have C:=al Q z;clear Q z;go_wp2;go_ret;exact ⟨rfl,C.o.1,(aa.RL N.o.2.2.2.2.1 _).trans C.o.2⟩
def Qy (A:aB) (D L G:Nat) (S:a8) (c:Nat->a8) (k:Nat):dM A (A.wrTo D L G S c k):=(kH A D L G S c k).2.2
def Aq (A:aB) (D L G t:Nat) (P l:a8):dM A (A.TQ D L G t P l):=(OR A D L G t P l).2.2
def pY {t':Nat} {ps:aN} {vp vo:ZS} {P':a8} {xs:aL} {B:aB} (h:aS w ar v p ps D L G t pg ob P xs A F) (i:a9 w' ar v D L G t' (P'.getD 0 0) (an xs'.os).length vp vo ZU) (c:az w' p B F) (b:aa (λk=>k=ar\/F.S k) w w') (a:dM A B) (l:t'<=1000000)
 (j:cJ B D L G t' P' xs') (f:bf (λk=>ar<k/\¬ F.S k/\¬ ps.bl k) w' vp P') (d:eO (λk=>ar<k/\¬ F.S k/\¬ ps.bl k) w' vo xs'.os):aS w' ar v p ps D L G t' vp vo P' xs' B F:=by
 have:=h.vlt;exact ⟨i,{ h.vol with vol:=h.vol.vol.keep (b.block _ h.vol.vol.lt (λe=>e.elim h.vne h.vol.v)),arr:=c,laid:=h.vol.laid.keep (b.block _ h.vol.laid.lt (λe=>e.elim (λq=>by omega) h.vol.g)),tab:=h.vol.tab.keep (b.block _ h.vol.tab.lt (λe=>e.elim (λq=>by omega) h.vol.t)),room:=TV h.vol.room b.size,n:=a.n.trans h.vol.n },h.nar,h.vlt,j,f,d,by rw [a.nb];exact h.nb,l,ps.keep _ _ h.kit λk a=>b.block k (ps.lt _ h.kit k a) (λq=>q.elim (h.apt k a).2.1 (h.apt k a).2.2.2),h.apt,h.hl,a.fine h.fine⟩
def IF {ps:aN} {xs:aL} {B:aB} (h:aS w ar v p ps D L G t pg ob P xs A F) (d:a9 w' ar v D L G t (P.getD 0 0) (an xs.os).length pg ob ZU) (c:az w' p B F) (a:aa (λk=>k=ar\/F.S k) w w') (b:dM A B) (f:cJ B D L G t P xs):aS w' ar v p ps D L G t pg ob P xs B F:=
 have hK:eo (λk=>ar<k/\¬ F.S k/\¬ ps.bl k) w w':=⟨a.size,λk b hK=>a.block k b (λe=>e.elim (λq=>by have:=hK.1;omega) hK.2.1)⟩;pY h d c a b h.turn f (h.pgs.keep hK) (h.cat.keep hK)
def CR (hD:1<=D) (h:k<YF D m):k*(D*44-4)<=m:=by
 unfold YF at h;rcases WA k with rfl|c
 . simp
 . have a:k<(m+(D*44-4)-1)/(D*44-4):=(by omega);have b:(k+1)*(D*44-4)<=m+(D*44-4)-1:=(YH (by omega)).1 a;rw [WW] at b;omega
def CS {n:Nat} (hD:1<=D) (h:k<my D n):k*(D*44)<=n:=by
 unfold my at h;rcases WA k with rfl|c
 . simp
 . have a:k<(n+D*44-1)/(D*44):=(by omega);have b:(k+1)*(D*44)<=n+D*44-1:=(YH (by omega)).1 a;rw [WW] at b;omega
def yC (ho:w.ownsRow base 3 1 (Z5 (ZW ⟨g,0,ZX⟩) (a+b) cap) (a+b) (jR l)) (hl:l.length=a+b) (hK:K g) (q:a+b<=100000):bf K w (Z5 (ZW ⟨g,0,ZX⟩) a c1) (l.take a):=by
 rcases ho.2 with ⟨e,_⟩|⟨j,c,cur,e,m,h,p,n,o,k⟩
 . cases e
 . simp only [Vs,UD,aaL] at e;obtain ⟨⟨rfl,_,_⟩,_,rfl⟩:=e;have f:(l.take a).length=a:=(by rw [Uo];omega);refine ⟨_,c1,by rw [f],by omega,λ_=>⟨g,0,rfl,hK,⟨_,_,_,h,by decide⟩,λi r=>?_⟩⟩;have d:=ho.cells (g:=g) rfl i (Z7 Z9 ((l[i]'(by omega):Nat):Int)) (by unfold jR;rw [UG,Uc (by omega)];rfl);rw [jy] at d;rw [Uj,YI];exact d
def IG (ho:w.ownsRow base 3 1 (Z5 (ZW ⟨g,0,ZX⟩) (a+b) cap) (a+b) (jR l)) (hl:l.length=a+b) (hK:K g) (q:a+b<=100000):bf K w (Z5 (ZW ⟨g,a,ZX⟩) b c1) (l.drop a):=by
 rcases ho.2 with ⟨e,_⟩|⟨j,c,cur,e,m,h,p,n,o,k⟩
 . cases e
 . simp only [Vs,UD,aaL] at e;obtain ⟨⟨rfl,_,_⟩,_,rfl⟩:=e;have f:(l.drop a).length=b:=(by rw [Un];omega);refine ⟨_,c1,by rw [f],by omega,λ_=>⟨g,a,rfl,hK,⟨_,_,_,h,by decide⟩,λi r=>?_⟩⟩;have d:=ho.cells (g:=g) rfl (a+i) (Z7 Z9 ((l[a+i]'(by omega):Nat):Int)) (by unfold jR;rw [UG,Uc (by omega)];rfl);rw [jy] at d;rw [Yj];exact d
def uO (w:ZT) (b:Nat):Prop:=∀ off u,w.cell? ⟨b,off,ZX⟩=ZW u->(∀ x,u≠Z7 Z9 x)/\∀ s,u≠ZZ s
def yD (a:w.heap[b]?=ZW (Z4 #[.nilIface] 64 (0,0))):uO w b:=λoff u h=>by
 cases off with
 | zero=>simp [World.cell?,a] at h;subst h;exact ⟨λ_=>nofun,λ_=>nofun⟩
 | succ n=>simp [World.cell?,a] at h
def bf.aside {v:ZS} (h:bf K w v l) (o:uO w b) (q:w.heap.size<=w'.heap.size) (f:∀ k,k≠b->k<w.heap.size->w'.heap[k]?=w.heap[k]?):bf K w' v l:=by
 obtain ⟨ao,c,j,m,n⟩:=h;refine ⟨ao,c,j,m,λhl=>?_⟩;obtain ⟨b',off,q1,q2,a,g⟩:=n hl;have d:b'≠b:=λe=>by
  subst e;exact (o _ _ (g 0 (Yh.2 hl))).1 _ rfl
 exact ⟨b',off,q1,q2,a.keep (f b' d a.lt),λi p=>(Uk (f b' d a.lt)).trans (g i p)⟩
def eO.aside {v:ZS} (h:eO K w v os) (l:uO w b) (r:w.heap.size<=w'.heap.size) (d:∀ k,k≠b->k<w.heap.size->w'.heap[k]?=w.heap[k]?):eO K w' v os:=by
 obtain ⟨ao,c,n,o,p⟩:=h;refine ⟨ao,c,n,o,λhl=>?_⟩;obtain ⟨b',off,q1,q2,f,m⟩:=p hl;have j:b'≠b:=λe=>by
  subst e;obtain ⟨sv,g,_⟩:=m 0 (Yh.2 hl);exact (l _ _ g).2 _ rfl
 refine ⟨b',off,q1,q2,f.keep (d b' j f.lt),λi q=>?_⟩;obtain ⟨sv,g,s,t,u⟩:=m i q;have a:=d b' j f.lt;exact ⟨sv,(Uk a).trans g,(Uk a).trans s,(Uk a).trans t,u.aside l r d⟩
def aS.aside {ps:aN} {xs:aL} (h:aS w ar v p ps D L G t pg ob P xs A F) (f:uO w b) (i:¬ ps.bl b) (c:w.heap.size<=w'.heap.size) (a:∀ k,k≠b->k<w.heap.size->w'.heap[k]?=w.heap[k]?) (m:B<=b) (l:∀ k,F.S k->k<B) (o:v<B) (n:ar<B) (hK:3<=B):aS w' ar v p ps D L G t pg ob P xs A F:=by
 exact { h with arc:=h.arc.keep (a _ (by omega) h.arc.lt),vol:={ h.vol with vol:=h.vol.vol.keep (a _ (by omega) h.vol.vol.lt),arr:=h.vol.arr.keep λj g=>a j (by have:=l j g;omega) (h.vol.arr.RN g),laid:=h.vol.laid.keep (a _ (by omega) h.vol.laid.lt),tab:=h.vol.tab.keep (a _ (by omega) h.vol.tab.lt),room:=TV h.vol.room c },pgs:=h.pgs.aside f c a,cat:=h.cat.aside f c a,kit:=ps.keep _ _ h.kit λk d=>a k (λe=>i (e▸d)) (ps.lt _ h.kit k d) }
def aS.TG {ps:aN} {xs:aL} {cs:Array ZS} (h:aS w ar v p ps D L G t pg ob P xs A F) (a:w.heap[b]?=ZW (Z4 cs 64 (0,0))):¬ ps.bl b:=λq=>by
 exact absurd (ps.kd _ h.kit b q _ _ _ a) (by unfold jP;decide)
def LO (b:Nat) (w w':ZT):Prop:=w.heap[b]?=ZW (Z4 #[.nilIface] 64 (0,0))/\w'.heap.size=w.heap.size/\∀ j,j≠b->w'.heap[j]?=w.heap[j]?
def Ar {R:aB->Prop} {ps:aN} {xs:aL} (h:aS w ar v p ps D L G t pg ob P xs A F) (k:FuncId) (first cap:Array ZS) (K:∀ (args:Array ZS) (w:ZT),(callFunc k args).run ZM w=.ok (.enter k args) w) (Q:ZS->Nat->aL->aB->aN->ZT->Prop) (T:Nat->Prop) (I:∀ j,T j->j≠w.heap.size)
 (V:∀ x d xs' B ps' w2 w',LO w.heap.size w2 w'->Q x d xs' B ps' w2->Q x d xs' B ps' w')
 (M:∀ w1,bW w w1->w1.heap.size=w.heap.size+1->ZR ZM k (first++cap) w1 λe w2=>∃ x d c a P' xs' B ps',e=Z3 x/\mN x/\aS w2 ar v p ps' D L G d c a P' xs' B F/\R B/\aa (λj=>j=ar\/F.S j\/T j) w1 w2/\Q x d xs' B ps' w2) :
 ZR ZM 52 #[Z6 (ZW ⟨ar,0,ZX⟩),.func (.func k) first cap] w λe w'=>∃ x d c a P' xs' B ps',e=Z3 x/\mN x/\aS w' ar v p ps' D L G d c a P' xs' B F/\R B/\aa (λj=>j=ar\/F.S j\/T j) w w'/\Q x d xs' B ps' w':=by
 have C:=h.arc.lt;have W:=h.vol.vol.lt;have s:∀ j,F.S j->j<w.heap.size:=λj f=>h.vol.arr.RN f;have z:=h.vol.room;have U:=lK k first cap K w ar _ h.arc rfl (λw1 x w2=>bW w w1/\w1.heap.size=w.heap.size+1/\w2.heap[w.heap.size]?=ZW (Z4 #[.nilIface] 64 (0,0))/\∃ d c a P' xs' B ps',aS w2 ar v p ps' D L G d c a P' xs' B F/\R B/\aa (λj=>j=ar\/F.S j\/T j) w1 w2/\Q x d xs' B ps' w2)
  (λw1 i m N=>(M w1 i m).mono (by
   rintro e w2 ⟨x,d,c,a,P',xs',B,ps',rfl,r,hl,q,n,o⟩;have u:=n;have y:w2.heap[w.heap.size]?=w1.heap[w.heap.size]?:=u.block _ (by omega) (λe=>by
    rcases e with e|e|e
    . omega
    . have:=s _ e;omega
    . exact I _ e rfl)
   exact ⟨x,rfl,r,⟨i,m,y.trans N,d,c,a,P',xs',B,ps',hl,q,u,o⟩,y,_,hl.arc,rfl⟩))
 refine U.mono ?_;rintro e w' ⟨x,w1,w2,rfl,r,_,_,⟨i,m,l,d,c,a,P',xs',B,ps',hl,q,n,o⟩,rfl⟩;have E:(w2.setCell ⟨w.heap.size,0,ZX⟩ x).heap[ar]?=ZW (Z4 (jE v D L G d (P'.getD 0 0) (an xs'.os).length c a ZU) 146 (0,0)):=(Ud _ _ _ _ (by show ar≠w.heap.size;omega)).trans hl.arc;have H:=ag (j:=9) E (Z1 ZU);have g:LO w.heap.size w2 ((w2.setCell ⟨w.heap.size,0,ZX⟩ x).setCell ⟨ar,9,ZX⟩ (Z1 ZU)):=by
  refine ⟨l,by simp [World.setCell],λj f=>?_⟩;by_cases e:j=ar
  . subst e;exact H.trans hl.arc.symm
  . exact (Ud _ _ _ _ e).trans (Ud _ _ _ _ f)
 have O:=hl.aside (w':=(w2.setCell ⟨w.heap.size,0,ZX⟩ x).setCell ⟨ar,9,ZX⟩ (Z1 ZU)) (b:=w.heap.size) (B:=w.heap.size) (yD l) (hl.TG l) (by rw [g.2.1];exact TU _) (λj f _=>g.2.2 j f) lR s W C z;refine ⟨x,d,c,a,P',xs',B,ps',rfl,r,O,q,?_,V _ _ _ _ _ _ _ g o⟩;have J:aa (λj=>j=ar\/F.S j\/T j) w w2:=(aa.RL i _).trans n;exact J.later (T:=λj=>w.heap.size<=j) ⟨rfl,rfl,rfl,by rw [g.2.1];exact TU _,λj _ f=>g.2.2 j (by omega)⟩ (λj X Y=>by omega)
def RA {ps:aN} {xs:aL} (h:aS w ar v p ps D L G t pg ob P xs A F) (k:FuncId) (first cap:Array ZS) (s:∀ (args:Array ZS) (w:ZT),(callFunc k args).run ZM w=.ok (.enter k args) w) (Q:ZS->Nat->aL->aB->ZT->Prop)
 (y:∀ x a xs' B w2 w',LO w.heap.size w2 w'->Q x a xs' B w2->Q x a xs' B w')
 (u:∀ w1,bW w w1->w1.heap.size=w.heap.size+1->ZR ZM k (first++cap) w1 λe w2=>∃ x a c b P' xs' B,e=Z3 x/\mN x/\aS w2 ar v p ps D L G a c b P' xs' B F/\dM A B/\aa (λj=>j=ar\/F.S j) w1 w2/\Q x a xs' B w2) :
 ZR ZM 52 #[Z6 (ZW ⟨ar,0,ZX⟩),.func (.func k) first cap] w λe w'=>∃ x a c b P' xs' B,e=Z3 x/\mN x/\aS w' ar v p ps D L G a c b P' xs' B F/\dM A B/\aa (λj=>j=ar\/F.S j) w w'/\Q x a xs' B w':=by
 refine (Ar (R:=dM A) h k first cap s (λx a xs' B ps' w2=>ps'=ps/\Q x a xs' B w2) (λ_=>False) (λ_ e=>e.elim) (λx a xs' B ps' w2 w' z o=>⟨o.1,y x a xs' B w2 w' z o.2⟩) λw1 r C=>(u w1 r C).mono ?_).mono ?_
 . rintro e w2 ⟨x,a,c,b,P',xs',B,d,f,g,i,l,m⟩;exact ⟨x,a,c,b,P',xs',B,ps,d,f,g,i,l.mono λj _ n=>n.elim .inl (λq=>.inr (.inl q)),rfl,m⟩
 . rintro e w2 ⟨x,a,c,b,P',xs',B,ps',d,f,g,i,l,rfl,m⟩;exact ⟨x,a,c,b,P',xs',B,d,f,g,i,l.mono λj _ n=>n.elim .inl (λq=>q.elim .inr (λq=>q.elim)),m⟩
def uP (h:k<=16):ab (2^k-1)=YE k:=nP h
def CT (R:Nat->a8):∀ m,(∀ i,i<m->(R i).length=44)->((YE m).map R).flatten.length=44*m
 | 0,_=>rfl
 | m+1,h=>by
  rw [Vr,Uv,abb,Ua,CT R m λi a=>h i (by omega)];simp [h m (by omega)];omega
def Qz {M:Nat} {fl:a8} (h:w.ownsRow base 5 1 u M (aJ fl)) (y:fl.length=M) (v:∀ x∈fl,x<256) (hs:size<=M) (z:M<=1000000):∃ ao cp,u=.slice ao M cp/\M<=cp/\cp<=9223372036854775807/\(ao=ZX->M=0/\cp=0)/\(∀ a,ao=ZW a->base<=a.block)/\Bs w (.slice ao size size) (fl.take size):=by
 have hl:(fl.take size).length=size:=by rw [Uo];omega
 rcases h.2 with ⟨d,e⟩|⟨b,cp,cur,d,m,n,o,p,A,r⟩
 . have s:size=0:=(by omega);subst s;exact ⟨ZX,0,by rw [d,e],by omega,by omega,λ_=>⟨e,rfl⟩,λa h=>(by cases h),by rw [WG];exact ⟨ZX,0,rfl,TU _,by decide,λ_ h=>(by cases h),λh=>absurd rfl h⟩⟩
 . have j:cp<=9223372036854775807:=(by unfold maxLen at p;omega);refine ⟨ZW ⟨b,0,ZX⟩,cp,d,o,j,λh=>(by cases h),λa h=>(by cases h;exact m),ZW ⟨b,0,ZX⟩,size,by rw [hl],by rw [hl];exact TU _,?_,λx t=>v x (UV t),λ_=>⟨b,0,rfl,λk g=>?_⟩⟩
   . rw [hl];omega
   . rw [hl] at g;have f:k<fl.length:=(by omega);have q:cur[k]?=ZW (Z7 .u8 ((fl[k]:Nat):Int)):=by
      have c:=Uy (λl=>l[k]?) r;simp only [V9,aJ] at c;rw [VF (by omega),abc,UG,Uc f] at c;exact c
     have i:(fl.take size).getD k 0=fl[k]:=(by simp [Ub,g,f]);rw [i];simp [World.cell?,n,q]
theorem pZ (D L G:Int) (w:ZT) (a:0<=D/\D<=100) (b:0<=L/\L<=100) (c:0<=G/\G<=100):ZR ZM 9 #[.agg #[Z7 Z9 D,Z7 Z9 L,Z7 Z9 G]] w λe w'=>e=Z3 (Z7 Z9 (D+L+G))/\w'=w.alloc (Z4 #[Z7 Z9 D,Z7 Z9 L,Z7 Z9 G] 27):=by
 obtain ⟨d,f⟩:=a;obtain ⟨b1,b2⟩:=b;obtain ⟨c1,g⟩:=c;go_enter func9,ntmps9;go_wp2;go_ret;exact ⟨rfl,rfl⟩
theorem qt (h:bg w v p D L G ps ho) (hD:D<=12) (hL:L<=4) (hG:G<=4) {N:Nat} (l:N=D+L+G):ZR ZM 83 #[Z6 (ZW ⟨v,0,ZX⟩)] w λe w'=>e=Z3 (Z6 (ZW ⟨w.heap.size+2,0,ZX⟩))/\eh w' (w.heap.size+2) v 0 (w.heap.size+1) N 0 0/\w'.rowIs (w.heap.size+1) 40 N (λ_=>Z5 ZX 0 0)/\bW w w':=by
 obtain ⟨_,c1,g,i,_⟩:=h.cells;go_enter func83,ntmps83;go_wp2_with fail;refine (pZ (D:Int) (L:Int) (G:Int) w ⟨by omega,by omega⟩ ⟨by omega,by omega⟩ ⟨by omega,by omega⟩).mono ?_;rintro e w5 ⟨rfl,c⟩;rw [show ((D:Int)+(L:Int)+(G:Int))=(N:Int) by omega];have m:N<=20:=by omega
 have a:bW w w5:=by rw [c];exact bA w _
 have b:w5.heap.size=w.heap.size+1:=by rw [c];simp
 have f:=al a b;clear a c1 g i h l c b;go_wp2_with (at_make;refine vQ _ rfl (Z0 8) (Z0 8) rfl _ N rfl rfl rfl (by omega) ?_;intro w6 d k n);go_ret;obtain ⟨a,b⟩:=f.o;have j:w6.heap.size=w.heap.size+2:=by omega
 rw [b] at d ⊢;refine ⟨rfl,?_,?_,?_⟩
 . have:=Ug w6 (Z4 (Rk v 0 (w.heap.size+1) N 0 0) 200);rw [j] at this;exact this
 . exact d.of_block (UB _ _ _ (by omega))
 . exact (a.trans (k.mono a.size)).alloc (by omega) _
section
section
variable (D L G lost:Nat) (hr:cV D L G=ZV) (hD1:1<=D) (hD:D<=12) (hL:1<=L) (hL4:L<=4) (hG:G<=4) (hdiv:D%L=0) (h16:D+L+G<=16) (hl:lost<2^(D+L+G))
include hr hD1 hD hL hL4 hG hdiv h16 hl
theorem IH (rd:Bool) (w:ZT) (g:aG w) (i:3<=w.heap.size):ZR ZM 174 #[bH D L G lost rd] w (Qo D L G lost w):=by
 have a:=vU.new w D L G lost rd;obtain ⟨w2,n⟩:=nM ((w.alloc (Z4 #[Z7 Z9 (D:Int),Z7 Z9 (L:Int),Z7 Z9 (G:Int),Z7 Z8 (lost:Int),Z1 rd] 221)).alloc (Z4 #[Z7 Z9 0,Z5 ZX 0 0] 206));rw [n] at a;obtain ⟨c0,c1,t,u,x⟩:=a.cells;have l:=CD D L G lost hr hD1 hD hL hL4 hG hdiv h16 hl w2 (g.mono (by omega) a.below) (TV i a.below.size);have j:=qZ D L G lost hr hD1 hD hL hL4 hG hdiv h16 hl w2 (g.mono (by omega) a.below) (TV i a.below.size);have H:=aE a l j;clear a j l g;unfold bH;cases rd;all_goals (
  go_enter func174,ntmps174;go_wp2_with fail;first|refine H.o.2.1.mono ?_|refine H.o.2.2.mono ?_
  rintro e w3 ⟨z,ao,m,c,er,rfl,b,f⟩;have a:=H.o.1;have hs:=a.size;have d:=(b.block (w.heap.size+1) (by omega)).trans a.res;obtain ⟨J,K,I,F⟩:=ay d;have r:=a5 f b d hs;clear f b d c0 c1 t u x n a;go_wp2;obtain ⟨f,b,d,hs⟩:=r.o;obtain ⟨n0,n1,_⟩:=ay (iO (y':=.slice ao m c) (iN (x':=Z7 Z9 z) d));refine Us (v:=ZY #[.agg #[Z7 Z9 z,.slice ao m c],er]) (by simp [results,results174,go_sem,n0,n1]) rfl ?_;have y:bW w w3:=H.o.1.below.trans (b.mono H.o.1.below.size);refine ⟨z,ao,m,c,er,rfl,(y.setCell (p:=⟨w.heap.size+1,0,ZX⟩) (by show w.heap.size<=w.heap.size+1;omega) _).setCell (p:=⟨w.heap.size+1,1,ZX⟩) (by show w.heap.size<=w.heap.size+1;omega) _,?_⟩;rcases f with q|⟨B,s,C,q1,q2,E,k⟩
  . exact .inl q
  . have h:(Value.slice ao m c).ownBlock≠ZW (w.heap.size+1):=λe=>by have:=jJ k e;omega
    have A:=(k.kept (dz w3 (w.heap.size+1) 0 (Z7 Z9 z)) (.inr h)).kept (dz _ (w.heap.size+1) 1 (.slice ao m c)) (.inr h);exact .inr ⟨B,s,C,q1,q2,E,gu A (by omega)⟩)
end
def PlA (sb:Nat) (room:Int) (D L G x:Nat) (qs:List Pq) (w w':ZT) (z:Int) (ao:Option ZQ) (m c:Nat) (er:ZS):Prop:=(er=.iface 66 (Z7 Z9 3)/\z=0/\ao=ZX/\m=0/\c=0/\¬ gq D L G (eM x)/\bW w w')\/(er=.nilIface/\∃ s C es' qs',(∀ i,(eM x).testBit i=ZV->s.testBit i=ZV)/\tells (jI D L G) (ab (aw (D+L+G) s))=ZW C/\z=1+((ab (aw (D+L+G) s)).length:Int)/\w'.ownsRow w.heap.size 299 4 (.slice ao m c) (bS D L G s C).length (eB .u8 (bS D L G s C))/\gI w' sb room D L G es' qs'/\(∀ q∈qs',q∈qs\/(w.heap.size<=q.nb/\∀ k,(Value.slice q.ao q.m q.c).ownBlock=ZW k->w.heap.size<=k))/\aa (λk=>oK sb qs k\/k=sb+1) w w')
section
variable (D L G x:Nat) (hr:cV D L G=ZV) (hD1:1<=D) (hD:D<=12) (hL:1<=L) (hL4:L<=4) (hG:G<=4) (hdiv:D%L=0) (h16:D+L+G<=16) (hl:eM x<2^(D+L+G))
include hr hD1 hD hL hL4 hG hdiv h16 hl
theorem LP {es:List (Nat×Nat×Nat)} {qs:List Pq} (V:gI w sb room D L G es qs) (hx:x∉cM es) (hT:aG w) (h2:3<=w.heap.size):ZR ZM 145 #[Z6 (ZW ⟨sb+1+1+1,0,ZX⟩),bH D L G (eM x:Nat) (fP x)] w λe w'=>∃ z ao m c er,e=Z3 (ZY #[.agg #[Z7 Z9 z,.slice ao m c],er])/\PlA sb room D L G x qs w w' z ao m c er:=by
 have j:=vU.new w D L G (eM x:Nat) (fP x);obtain ⟨w2,q4⟩:=nM ((w.alloc (Z4 #[Z7 Z9 (D:Int),Z7 Z9 (L:Int),Z7 Z9 (G:Int),Z7 Z8 ((eM x:Nat):Int),Z1 (fP x)] 221)).alloc (Z4 #[Z7 Z9 0,Z5 ZX 0 0] 206));rw [q4] at j;obtain ⟨c0,c1,R,S,U⟩:=j.cells;have g:=V.keep λk a=>j.below.block k (V.blt k a);have k7:=g.list;obtain ⟨n,k8⟩:=g.map;have q2:=g.cell;have hy:∀ w',bW w2 w'->ZR ZM 173 #[Z6 (ZW ⟨sb+1+1,0,ZX⟩),bH D L G (eM x:Nat) (fP x)] w' λe hd=>e=Z3 (ZY #[.agg #[Z7 Z9 0,Z5 ZX 0 0],Z1 ZU])/\bW w' hd:=λw' hb=>EH ((hb.block _ (T5.1 k7).1).trans k7) ((hb.block _ (T5.1 k8).1).trans k8) hx;have ka:bW w2 (w2.alloc (Z4 #[Z7 Z9 0,Z5 ZX 0 0] 206)):=bA w2 _;obtain ⟨d0,d1,d2,d3,d4⟩:=(j.mono ka).cells;have dp:=(g.keep λk a=>ka.block k (g.blt k a)).cell;have ke:=aE (T5.1 V.RZ).1 (λk (a:oK sb qs k)=>V.blt k (CH a)) hx;have q6:=j.size;have H:=aE j g hy;clear j g hy k7 k8 V ka hx;unfold bH at H ⊢;go_enter func145,ntmps145;go_upto_region 1 with fail;go_cut [6,7] from 10 to 18 (λv6 v7 wx=>v7=Z1 ZU/\bW w2 wx)
 case first=>
  go_region_with (go_at_call 173;refine (H.o.2.2 _ ?_).mono ?_;(first|exact (TW _ _).drew|exact ((TW _ _).drew).alloc lR _);rintro e w3 ⟨rfl,A⟩;(try (have q3:w3.heap[w2.heap.size]?=ZW (Z4 #[Z7 Z9 0,Z5 ZX 0 0] 206 (0,0)):=(A.block w2.heap.size (by simp)).trans (Ug w2.drew _);obtain ⟨r0,r1,g1,g0⟩:=ay q3;clear q3));have hv:bW w2 w3:=(by first|exact ((TW _ w2).drew).trans A|exact ((bA w2 _).drew).trans (A.mono (by simp)));have O:=ak hv;clear A hv);all_goals (go_wp2_with fail;go_meet;case rel=>(refine ⟨rfl,?_⟩;first|exact O.o.alloc O.o.size _|exact (O.o.setCell (p:=⟨w2.heap.size,0,ZX⟩) lR _).setCell (p:=⟨w2.heap.size,1,ZX⟩) lR _))
 case rest=>
  clear c0 c1 R S U d0 d1 d2 d3 d4 dp q2;rename ZT=>w3;obtain ⟨rfl,A⟩:=hcut;obtain ⟨j,g,_⟩:=H.o;have f:=j.mono A;have J:=g.keep λk a=>A.block k (g.blt k a);obtain ⟨c0,c1,R,S,U⟩:=f.cells;have kb:=IH D L G (eM x) hr hD1 hD hL hL4 hG hdiv h16 hl (fP x) w3 (hT.mono (by omega) f.below) (TV h2 f.below.size);unfold bH at kb;have O:=aE f J kb;clear j g f J kb A hT;go_wp2_with fail;refine O.o.2.2.mono ?_;rintro e d ⟨z,ao,m,c,er,rfl,K,kv⟩;clear c0 c1 R S U;obtain ⟨f,J,_⟩:=O.o;have q5:=f.size;rcases kv with ⟨rfl,rfl,rfl,rfl,rfl,ki⟩|⟨rfl,s,C,M,I,N,kj⟩
  . have kr:=ak ki;clear ki;have F:bW d (d.alloc (Z4 #[Z7 Z9 0,Z5 ZX 0 0] 206)):=bA d _;have t:=K.trans (F.mono K.size);have W:=(t.block (w.heap.size+1) (by omega)).trans f.res;have h:(d.alloc (Z4 #[Z7 Z9 0,Z5 ZX 0 0] 206)).heap[d.heap.size]?=ZW (Z4 #[Z7 Z9 0,Z5 ZX 0 0] 206 (0,0)):=Ug _ _;obtain ⟨q0,q1,g1,g0⟩:=ay W;obtain ⟨r0,r1,_,_⟩:=ay h;have Z:bW w (d.alloc (Z4 #[Z7 Z9 0,Z5 ZX 0 0] 206)):=f.below.trans (t.mono f.below.size);have Q:=al W Z;clear K F t W h Z f J;go_wp2;obtain ⟨W,Z⟩:=Q.o;obtain ⟨n0,n1,_⟩:=ay (iO (y':=Z5 ZX 0 0) (iN (x':=Z7 Z9 0) W));refine Us (v:=ZY #[.agg #[Z7 Z9 0,Z5 ZX 0 0],.iface 66 (Z7 Z9 3)]) (by simp [results,results145,go_sem,n0,n1]) rfl ⟨0,ZX,0,0,_,rfl,.inl ⟨rfl,rfl,rfl,rfl,rfl,kr.out,?_⟩⟩;exact (Z.setCell (p:=⟨w.heap.size+1,0,ZX⟩) (by show w.heap.size<=w.heap.size+1;omega) _).setCell (p:=⟨w.heap.size+1,1,ZX⟩) (by show w.heap.size<=w.heap.size+1;omega) _
  have kp:=ak (show w.heap.size+2<=w3.heap.size/\w3.heap.size<=d.heap.size from ⟨f.size,K.size⟩);have F:bW d (d.alloc (Z4 #[Z7 Z9 z,.slice ao m c] 206)):=bA d _;have t:=K.trans (F.mono K.size);have i:=f.mono t;have y:=J.keep λk a=>t.block k (J.blt k a);have kk:=y.cell;have h:(d.alloc (Z4 #[Z7 Z9 z,.slice ao m c] 206)).heap[d.heap.size]?=ZW (Z4 #[Z7 Z9 z,.slice ao m c] 206 (0,0)):=Ug _ _;have u:=aq kj F;obtain ⟨w5,kc⟩:=nM (d.alloc (Z4 #[Z7 Z9 z,.slice ao m c] 206));rw [kc] at F t i y kk h u;obtain ⟨c0,c1,R,S,U⟩:=i.cells;obtain ⟨r0,r1,_,_⟩:=ay h;have Y:=Qr (w:=w5.drew) (y.keep λ_ _=>rfl) ke.out.2.2 (show w5.drew.ownsRow 0 299 4 (.slice ao m c) (bS D L G s C).length (eB .u8 (bS D L G s C)) from gu (aq u (TW _ w5).drew) (T8 _)) M I;rw [<- N] at Y;unfold bH at Y;have Q:=hide8 i y h u Y M I N;clear kj K F t i y h u Y f J M I N;go_upto_region 6 with fail;go_cut [34] from 28 to 33 (λ_v wx=>(∃ l b,gI wx sb room D L G l b/\∀ q∈b,q∈qs\/q=⟨x,w5.drew.heap.size+1+1,s,C,ao,m,c⟩)/\aa (λk=>oK sb qs k\/k=sb+1) w5.drew wx)
  case first=>
   go_region_with (go_at_call 175;refine Q.o.2.2.2.2.1.mono ?_;rintro e w6 ⟨rfl,r,hs⟩;have H6:=al r hs;clear r hs);all_goals (go_wp2_with fail;go_meet;case rel=>exact H6.o)
  case rest=>
   rename ZT=>w6;clear c0 c1 R S U r0 r1 kk;obtain ⟨⟨l,b,r,k5⟩,hs⟩:=hcut;obtain ⟨i,y,h,u,_,M,I,N⟩:=Q.o;have E:aa (λk=>oK sb qs k\/k=sb+1) w5 w6:=(aa.drew w5).trans hs;obtain ⟨ko,kg,_⟩:=ke.out;have km:=i.size;have kz:d.heap.size<w5.heap.size:=(T5.1 h).1;have kf:=kp.out;have k6:∀ k,w.heap.size<=k->¬ (oK sb qs k\/k=sb+1):=λk h1 q=>by
    rcases q with q|q
    . have:=kg k q;omega
    . omega
   have B:=(E.block (w.heap.size+1) (by omega) (k6 _ (by omega))).trans i.res;have kh:=(E.block d.heap.size kz (k6 _ (by omega))).trans h;have P:w6.ownsRow w3.heap.size 299 4 (.slice ao m c) (bS D L G s C).length (eB .u8 (bS D L G s C)):=bR u E (λk a q=>k6 k (by have:=ef u a;omega) q);obtain ⟨q0,q1,g1,g0⟩:=ay B;obtain ⟨r0,r1,_,_⟩:=ay kh;have q7:w5.drew.heap.size=w5.heap.size:=rfl;have X:∀ q∈b,q∈qs\/(w.heap.size<=q.nb/\∀ k,(Value.slice q.ao q.m q.c).ownBlock=ZW k->w.heap.size<=k):=λq hq=>(k5 q hq).imp id λe=>by
    subst e;exact ⟨by show w.heap.size<=w5.drew.heap.size+1+1;omega,λk a=>by have:=ef P a;omega⟩
   have H6:=hide9 B r P E X km ko kf y.blt;clear r k5 X hs i y h u E B kh P M I N kg k6;go_wp2;obtain ⟨B,r,P,E,X,km,ko,kf,ks⟩:=H6.o;obtain ⟨n0,n1,_⟩:=ay (iO (y':=.slice ao m c) (iN (x':=Z7 Z9 z) B));have k9:aa (λk=>k=w.heap.size+1) w6 ((w6.setCell ⟨w.heap.size+1,0,ZX⟩ (Z7 Z9 z)).setCell ⟨w.heap.size+1,1,ZX⟩ (.slice ao m c)):=fM w6 (w.heap.size+1) 0 1 _ _;refine Us (v:=ZY #[.agg #[Z7 Z9 z,.slice ao m c],.nilIface]) (by simp [results,results145,go_sem,n0,n1]) rfl ?_;obtain ⟨i,_,_,_,_,M,I,N⟩:=Q.o;have kx:∀ k,N1 sb b k->k≠w.heap.size+1:=λk a e=>by
    obtain ⟨cs,T,zz,ky⟩:∃ cs T zz,w6.heap[k]?=ZW (Z4 cs T zz):=⟨_,_,_,by rw [e];exact B⟩;rw [e,B] at ky;have:=(mQ sb room D L G l b 0).kd w6 r k a _ _ _ (by rw [e];exact B);exact absurd this (by unfold jP;decide)
   exact ⟨z,ao,m,c,_,rfl,.inr ⟨rfl,s,C,l,b,M,I,N,gu (bR P k9 (λk a q=>by have:=ef P a;omega)) (by omega),r.keep λk a=>k9.block k (r.blt k a) (kx k a),X,(aa.after i.below E).later k9 (λk a q=>by omega)⟩⟩
end
end
section
def PnA (D L G:Nat) (Kind:aN->Prop) (ps:aN) (lost:Nat) (w:ZT) (e:ZP) (w':ZT):Prop:=(e=uE/\¬ gq D L G lost/\bW w w')\/∃ (ps':aN) (s:Nat) (C:Ck) (ao:Option ZQ) (m c:Nat),nj D L G s ao m c e/\Di D L G Kind ps ps' lost s C ao m c w.heap.size w'/\aa ps.bl w w'
section
variable (D L G:Nat) (hr:cV D L G=ZV) (hD1:1<=D) (hD:D<=12) (hL:1<=L) (hL4:L<=4) (hG:G<=4) (hdiv:D%L=0) (h16:D+L+G<=16)
include hr hD1 hD hL hL4 hG hdiv h16
def LQ {x:Nat} (hl:eM x<2^(D+L+G)) {w:ZT} {sb:Nat} {room:Int} {ps:aN} (hK:mR sb room D L G ps) (B:ps.S w) (E:aG w) (b:3<=w.heap.size):ZR ZM 145 #[Z6 (ZW ⟨ps.ps,0,ZX⟩),bH D L G (eM x:Nat) (fP x)] w (PnA D L G (mR sb room D L G) ps (eM x) w):=by
 obtain ⟨g,M,ho,rfl⟩:=hK;have t:gI w sb room D L G g M:=B;by_cases u:x∈cM g
 . obtain ⟨q,a,h,J,n,I⟩:=LC t u;refine I.mono ?_;rintro e w' ⟨v,b,i⟩;have j:=(n q).2 h;exact .inr ⟨mQ sb room D L G g a ho,q.s,q.C,q.ao,q.m,q.c,v,⟨⟨g,a,ho,rfl⟩,rfl,rfl,b,λk d=>.inl (CJ n d),λk d=>.inl (.inr (.inr ⟨q,h,d⟩)),b.own q j,J▸b.Tp q j,b.told q j⟩,i.mono λk _ e=>CH e⟩
 . refine (LP D L G x hr hD1 hD hL hL4 hG hdiv h16 hl t u E b).mono ?_;rintro e w' ⟨z,ao,m,c,er,rfl,⟨rfl,rfl,rfl,rfl,rfl,F,H⟩|⟨rfl,s,C,f,a,b,i,rfl,o,y,r,A⟩⟩
   . exact .inl ⟨rfl,F,H⟩
   refine .inr ⟨mQ sb room D L G f a ho,s,C,ao,m,c,rfl,⟨⟨f,a,ho,rfl⟩,rfl,rfl,y,λk d=>?_,λk d=>.inr (ef o d),gu o (T8 _),b,i⟩,A.mono λk _ e=>?_⟩
   . rcases d with q|q|⟨q,h,q1⟩
     . exact .inl (.inl q)
     . obtain ⟨p,K,l⟩:=T9.1 q;rcases r p K with q2|q2
       . exact .inl (.inr (.inl (T9.2 ⟨p,q2,l⟩)))
       . exact .inr (l▸q2.1)
     . rcases r q h with q2|q2
       . exact .inl (.inr (.inr ⟨q,q2,q1⟩))
       . exact .inr (q2.2 k q1)
   . rcases e with e|e
     . exact CH e
     . exact .inl (by omega)
theorem yE {ps:aN} (hK:mR sb room D L G ps) {w:ZT} (M:ps.S w) (V:aG w) (h:3<=w.heap.size) {l:Nat} (X:l<2^(D+L+G)) {f:FuncId} {b:Bool} (hf:(f=168/\b=ZV)\/(f=113/\b=ZU)):ZR ZM f #[Z6 (ZW ⟨ps.ps,0,ZX⟩),.agg #[Z7 Z9 D,Z7 Z9 L,Z7 Z9 G],Z7 Z8 l] w (PnA D L G (mR sb room D L G) ps l w):=by
 have a:=CI.new w D L G;have i:((w.alloc (Z4 #[Z7 Z9 (D:Int),Z7 Z9 (L:Int),Z7 Z9 (G:Int)] 27)).alloc (Z4 #[Z7 Z9 0,Z5 ZX 0 0] 206)).heap.size=w.heap.size+2:=by simp
 obtain ⟨w2,R⟩:=nM ((w.alloc (Z4 #[Z7 Z9 (D:Int),Z7 Z9 (L:Int),Z7 Z9 (G:Int)] 27)).alloc (Z4 #[Z7 Z9 0,Z5 ZX 0 0] 206));rw [R] at a i;obtain ⟨c0,c1,T⟩:=fw a.par;have P:eM (2*l+b.toNat)=l:=by cases b<;>simp [eM]<;>omega
 have U:fP (2*l+b.toNat)=b:=by cases b<;>simp [fP]<;>omega
 have N:=LQ D L G hr hD1 hD hL hL4 hG hdiv h16 (x:=2*l+b.toNat) (by rw [P];exact X) hK (ps.keep _ _ M λk d=>a.below.block k (ps.lt _ M k d)) (V.mono (by omega) a.below) (TV h a.below.size);rw [P,U] at N;unfold bH at N;have H:=a5 a i N (ps.lt _ M);clear a i N M V X P U;rcases hf with ⟨rfl,rfl⟩|⟨rfl,rfl⟩;go_enter func168,ntmps168;rotate_left
 go_enter func113,ntmps113;all_goals (
  go_wp2_with fail;refine H.o.2.2.1.mono ?_;rintro e w3 (⟨rfl,Y,y⟩|⟨ps',s,C,ao,m,c,W,hP,u⟩)
  . unfold uE;have hs:=ak Y;clear Y;obtain ⟨a,i,_,A⟩:=H.o;have g:=(y.block (w.heap.size+1) (by omega)).trans a.res;obtain ⟨r0,r1,g1,g0⟩:=ay g;have O:=al g (a.below.trans (y.mono a.below.size));clear y g c0 c1 T R a;go_wp2;obtain ⟨g,y⟩:=O.o;obtain ⟨n0,n1,_⟩:=ay (iO (y':=Z5 ZX 0 0) (iN (x':=Z7 Z9 0) g));refine Us (v:=ZY #[.agg #[Z7 Z9 0,Z5 ZX 0 0],.iface 66 (Z7 Z9 3)]) (by simp [results,results168,results113,go_sem,n0,n1]) rfl (.inl ⟨rfl,hs.out,?_⟩);exact (y.setCell (p:=⟨w.heap.size+1,0,ZX⟩) (by show w.heap.size<=w.heap.size+1;omega) _).setCell (p:=⟨w.heap.size+1,1,ZX⟩) (by show w.heap.size<=w.heap.size+1;omega) _
  . obtain ⟨E,h,F,n,r,t,I,J,K⟩:=hP;unfold nj at W;subst W;obtain ⟨z,B⟩:∃ z:Int,1+((ab (aw (D+L+G) s)).length:Int)=z:=⟨_,rfl⟩;rw [B];obtain ⟨a,i,_,A⟩:=H.o;have g:=(u.block (w.heap.size+1) (by omega) (λq=>by have:=A _ q;omega)).trans a.res;obtain ⟨r0,r1,g1,g0⟩:=ay g;have O:=hide12 E h F n r t I J K u g B;clear E h F n r t I J K u g c0 c1 T R B a;go_wp2;obtain ⟨E,h,F,n,r,t,I,J,K,u,g,B⟩:=O.o;obtain ⟨a,i,_,A⟩:=H.o;obtain ⟨n0,n1,_⟩:=ay (iO (y':=.slice ao m c) (iN (x':=Z7 Z9 z) g));have Q:aa (λk=>k=w.heap.size+1) w3 ((w3.setCell ⟨w.heap.size+1,0,ZX⟩ (Z7 Z9 z)).setCell ⟨w.heap.size+1,1,ZX⟩ (.slice ao m c)):=fM w3 (w.heap.size+1) 0 1 _ _;have hv:∀ k,ps'.bl k->k≠w.heap.size+1:=λk d=>by rcases r k d with q|q;have:=A k q;omega;omega
    refine Us (v:=ZY #[.agg #[Z7 Z9 z,.slice ao m c],.nilIface]) (by simp [results,results168,results113,go_sem,n0,n1]) rfl ?_;have j:=(u.mono λ_ _ q=>(.inl q:_\/_)).trans (Q.mono λk _ q=>(.inr q:ps.bl k\/_));refine .inr ⟨ps',s,C,ao,m,c,by unfold nj;rw [B],⟨E,h,F,ps'.keep _ _ n λk d=>Q.block k (ps'.lt _ n k d) (hv k d),λk d=>?_,λk d=>?_,bR I Q λk d q=>?_,J,K⟩,⟨j.os.trans a.below.os,j.tape.trans a.below.tape,j.output.trans a.below.output,TV a.below.size j.size,λk d hn=>(j.block k (by have:=a.below.size;omega) (λq=>q.elim hn (by omega))).trans (a.below.block k d)⟩⟩
    . rcases r k d with q|q
      . exact .inl q
      . exact .inr (by omega)
    . rcases t k d with q|q
      . exact .inl q
      . exact .inr (by omega)
    . rcases t k d with Z|Z
      . have:=A k Z;omega
      . omega)
end
end
section
structure qu (w:ZT) (r v b g N p D L G:Nat) (Kind:aN->Prop) (ps:aN) (A:aB) (F:aK) (dl:a8):Prop where
 vol:pd w v p D L G ps.ps ps.ho A F
 nN:N=D+L+G
 hol:ps.ho<2^N
 kit:ps.S w
 kind:Kind ps
 apt:∀ k,ps.bl k->3<=k/\k≠v/\¬ F.S k
 vr:v≠r
 vg:v≠g
 rg:r≠g
 gF:¬ F.S g
 rF:¬ F.S r
 rK:3<=r
 vK:3<=v
 gK:3<=g
 nb:b<A.nb
 cw:A.at b (OO D L G dl)
 len:dl.length<=D*44
 byt:∀ x∈dl,x<256
 fine:A.fine D L G
structure qw (w0:ZT) (r v b g N p D L G:Nat) (A:aB) (F:aK) (Kind:aN->Prop) (ps ps1:aN) (dl:a8) (sp gone hl:Nat) (ds:a8) (f:Nat->ZS) (w:ZT):Prop where
 rd:eh w r v b g N gone sp
 vol:pd w v p D L G ps.ps hl A F
 row:w.rowIs g 40 N f
 kn:Kn w w0.heap.size vR f (vv D L G dl) ds
 kit:ps1.S w
 kind:Kind ps1
 psE:ps1.ps=ps.ps
 bl:∀ k,ps1.bl k->ps.bl k\/w0.heap.size<=k
 out:aa (λk=>k=g\/k=r\/k=v\/F.S k\/ps.bl k) w0 w
 okd:∀ i∈ds,gnB A b i=ZU/\i<N
 gol:gone<2^N
 hll:hl<2^N
 spl:sp<2^N
 gb:∀ i,gone.testBit i=ZV->gnB A b i=ZV
section
variable {w0 w w':ZT} {r v b g N p D L G:Nat} {Kind:aN->Prop} {ps ps1:aN} {A:aB} {F:aK} {dl:a8} {sp gone hl:Nat} {ds:a8} {f:Nat->ZS}
def qw.apart (h:qw w0 r v b g N p D L G A F Kind ps ps1 dl sp gone hl ds f w) (hs:qu w0 r v b g N p D L G Kind ps A F dl) (hr:r<w0.heap.size) (i:g<w0.heap.size) (c:¬ ps.bl r) (a:¬ ps.bl g) (k:Nat) (d:ps1.bl k):3<=k/\k≠v/\k≠r/\k≠g/\¬ F.S k:=by
 rcases h.bl k d with q|q
 . exact ⟨(hs.apt k q).1,(hs.apt k q).2.1,λe=>c (e▸q),λe=>a (e▸q),(hs.apt k q).2.2⟩
 . have:=hs.vol.vol.lt;have:=hs.vol.room;exact ⟨by omega,by omega,by omega,by omega,λe=>by have:=hs.vol.arr.RN e;omega⟩
def pd.Tw (h:pd w v p D L G q ho A F) {T:Nat->Prop} (a:aa T w w') (b:∀ k,T k->3<=k/\k≠v/\¬ F.S k):pd w' v p D L G q ho A F:=by
 exact { h with vol:=h.vol.keep (a.block _ h.vol.lt λq=>(b _ q).2.1 rfl),arr:=h.arr.keep (λk c=>a.block k (h.arr.RN c) λq=>(b k q).2.2 c),laid:=h.laid.keep (a.block _ h.laid.lt λq=>by have:=(b _ q).1;omega),tab:=h.tab.keep (a.block _ h.tab.lt λq=>by have:=(b _ q).1;omega),room:=TV h.room a.size }
def qw.SD (h:qw w0 r v b g N p D L G A F Kind ps ps1 dl sp gone hl ds f w) (c:∀ k,ps1.bl k->3<=k/\k≠v/\k≠r/\k≠g/\¬ F.S k) {ps2:aN} (a:aa ps1.bl w w') (l:ps2.S w') (hK:Kind ps2) (o:ps2.ps=ps1.ps) (s:∀ k,ps2.bl k->ps1.bl k\/w.heap.size<=k):qw w0 r v b g N p D L G A F Kind ps ps2 dl sp gone hl ds f w':=by
 have u:=h.out.size;refine { h with rd:=h.rd.keep (a.block _ h.rd.lt λq=>(c _ q).2.2.1 rfl),vol:=h.vol.Tw a λk q=>⟨(c k q).1,(c k q).2.1,(c k q).2.2.2.2⟩,row:=h.row.of_block (a.block _ h.row.lt λq=>(c _ q).2.2.2.1 rfl),kn:=⟨h.kn.1,λi t=>?_⟩,kit:=l,kind:=hK,psE:=o.trans h.psE,bl:=λk q=>(s k q).elim (h.bl k) λe=>.inr (TV u e),out:=h.out.later (a.mono λk _ q=>h.bl k q) ?_ }
 . obtain ⟨bl,m,n,d,j⟩:=h.kn.2 i t;exact ⟨bl,m,n,T7 d a.size,(a.block bl d (bU h.kit j LD)).trans j⟩
 . intro k l q;rcases q with q|q
   . exact .inr (.inr (.inr (.inr q)))
   . omega
def nl (h:qw w0 r v b g N p D L G A F Kind ps ps1 dl sp gone hl ds f w) (hs:qu w0 r v b g N p D L G Kind ps A F dl) (hr:r<w0.heap.size) (o:g<w0.heap.size) (R:¬ ps.bl r) (K:¬ ps.bl g) (T:Nat) (P:T<65536) (j:∀ i,i∈ab T->i<N) :
 ZR ZM 111 #[Z6 (ZW ⟨r,0,ZX⟩),Z7 Z8 T] w λe w'=>e=Z3 (ZY #[])/\∃ B U,qw w0 r v b g N p D L G A F Kind ps ps1 dl sp (gone|||jA (gnB A b) (QO T gone sp ds)) U (ds++Cl A b (QO T gone sp ds)) B w'/\aa (λk=>k=g\/k=r\/k=v\/F.S k) w w':=by
 have Q:=h.apart hs hr o R K;have:=hs.vol.n;have O:=hs.nN;have l:N<=16:=by rw [O];exact hs.vol.par.s
 have:2^N<=65536:=jc l;have H:=h.gol;have:=h.spl;have:=hs.gK;have:=hs.rK;have:=hs.vK;have m:∀ i∈QO T gone sp ds,i<N:=λi a=>j i ((oH (by omega) (by omega)).1 a).1;refine (Hx (ds:=ds) (M:=vv D L G dl) h.vol hs.nb (λi a=>⟨(hs.cw i a).1,(pN hs.vol.par dl (by omega)).1⟩) h.rd h.row h.kn T P (by omega) (by omega) (λi a=>⟨j i a,by have:=j i a;omega⟩) h.hll l hs.vr hs.rK hs.vK hs.gF hs.rF hs.rg hs.vg hs.gK h.out.size o hr hs.vol.vol.lt (λk d=>hs.vol.arr.RN d)).mono ?_;rintro e w' ⟨rfl,W,⟨V,J,X⟩,⟨f1,E,I⟩,C,c⟩;refine ⟨rfl,f1,V,{ h with rd:=W,hll:=J,vol:={ h.vol with vol:=X,arr:=C,laid:=h.vol.laid.keep (c.block _ h.vol.laid.lt λq=>?_),tab:=h.vol.tab.keep (c.block _ h.vol.tab.lt λq=>?_),room:=TV h.vol.room c.size },row:=E,kn:=I,kit:=ps1.keep _ _ h.kit λk d=>c.block k (ps1.lt _ h.kit k d) (λq=>?_),out:=h.out.trans (c.mono λk _ q=>q.imp_right λq=>q.imp_right λq=>q.imp_right .inl),okd:=λi a=>?_,gol:=WJ H (wV _ _ m),gb:=λi q=>?_ },c⟩
 . rcases q with q|q|q|q
   . omega
   . omega
   . omega
   . exact hs.vol.g q
 . rcases q with q|q|q|q
   . omega
   . omega
   . omega
   . exact hs.vol.t q
 . obtain ⟨_,u,x,y,z⟩:=Q k d;rcases q with q|q|q|q
   . exact y q
   . exact x q
   . exact u q
   . exact z q
 . rcases Ui.1 a with q|q
   . exact h.okd i q
   . exact ⟨(me.1 q).2,m i (me.1 q).1⟩
 . rw [VZ,Xw] at q;exact q.elim (h.gb i) λq=>((jb _ i _).1 q).2
end
end
section
def EV (N sp gone:Nat):Nat:=(if sp=0 then 0 else 1)+(2^N-gone)
def N3 (h:a|||b≠a):a<a|||b:=Nat.lt_of_le_of_ne YL (Vk h)
def RB (f:FuncId) (D L G:Nat) (Kind:aN->Prop):Prop:=∀ (ps:aN),Kind ps->∀ (w:ZT),ps.S w->aG w->3<=w.heap.size->∀ lost:Nat,lost<2^(D+L+G) ->
 ZR ZM f #[Z6 (ZW ⟨ps.ps,0,ZX⟩),.agg #[Z7 Z9 D,Z7 Z9 L,Z7 Z9 G],Z7 Z8 lost] w (PnA D L G Kind ps lost w)
def oM (D L G:Nat) (Kind:aN->Prop):Prop:=RB 168 D L G Kind/\RB 113 D L G Kind
structure N4 (w:ZT) (r v b g N p D L G:Nat) (Kind:aN->Prop) (ps:aN) (A:aB) (F:aK) (dl M:a8) (e:ZP) (w':ZT):Prop where
 rd:∃ gone sp,eh w' r v b g N gone sp
 row:∃ f,w'.rowIs g 40 N f/\e=Z3 .nilIface/\∀ i∈M,∃ bl c,f i=Z5 (ZW ⟨bl,0,ZX⟩) 44 c/\bl<w'.heap.size/\w'.rangeAt bl 0 (aJ (vv D L G dl i))
 kit:∃ (ps1:aN) (hl:Nat),Kind ps1/\ps1.ps=ps.ps/\ps1.S w'/\bg w' v p D L G ps.ps hl/\hl<2^N/\∀ k,ps1.bl k->ps.bl k\/w.heap.size<=k
 arr:az w' p A F
 out:aa (λk=>k=g\/k=r\/k=v\/F.S k\/ps.bl k) w w'
def N5 (D L G:Nat) (Kind:aN->Prop) (ps:aN) (l1:Nat) (w1:ZT) (v6 v7:ZS) (wx:ZT):Prop:=(v7=.iface 66 (Z7 Z9 3)/\¬ gq D L G l1/\bW w1 wx)\/Qs D L G Kind ps l1 w1 v6 v7 wx
def C2A (D L G:Nat) (Kind:aN->Prop) (ps1:aN) (l1:Nat) (w' w3:ZT) (z:Int) (ao:Option ZQ) (m c:Nat) (er:ZS):Prop:=(er=.iface 66 (Z7 Z9 3)/\¬ gq D L G l1/\bW w' w3)\/(er=.nilIface/\∃ ps' s C,z=1+((ab (aw (D+L+G) s)).length:Int)/\Di D L G Kind ps1 ps' l1 s C ao m c w'.heap.size w3/\aa ps1.bl w' w3)
def uQ {Kind:aN->Prop} {ps1:aN} (h:(e=uE/\¬ gq D L G l1/\bW w' w3)\/∃ ps' s C ao m c,nj D L G s ao m c e/\Di D L G Kind ps1 ps' l1 s C ao m c w'.heap.size w3/\aa ps1.bl w' w3) :
 ∃ z ao m c er,e=Z3 (ZY #[.agg #[Z7 Z9 z,.slice ao m c],er])/\aa ps1.bl w' w3/\b9 (C2A D L G Kind ps1 l1 w' w3 z ao m c er):=by
 rcases h with ⟨b,f,a⟩|⟨ps',s,C,ao,m,c,b,a,d⟩
 . exact ⟨0,ZX,0,0,_,b,aa.RL a _,ak (.inl ⟨rfl,f,a⟩)⟩
 . exact ⟨_,ao,m,c,_,b,d,ak (.inr ⟨rfl,ps',s,C,rfl,a,d⟩)⟩
def yF {Kind:aN->Prop} {ps1:aN} (h:C2A D L G Kind ps1 l1 w' w3 z ao m c er) (a:bW w1 w') (f:w'.heap.size=w1.heap.size):N5 D L G Kind ps1 l1 w1 (Z6 (ZW ⟨w3.heap.size,0,ZX⟩)) er (w3.alloc (Z4 #[Z7 Z9 z,.slice ao m c] 206)):=by
 rcases h with ⟨rfl,b,h⟩|⟨rfl,ps',s,C,rfl,d,e⟩
 . exact .inl ⟨rfl,b,(a.trans (h.mono a.size)).alloc (by have:=h.size;omega) _⟩
 . exact .inr (Iv (d.mono (by omega)) a e)
def uR {Kind:aN->Prop} {ps1:aN} {w2:ZT} (h:C2A D L G Kind ps1 l1 (w2.alloc (Z4 #[Z7 Z9 0,Z5 ZX 0 0] 206)) w3 z ao m c er) (hl:∀ k,ps1.bl k->k<w1.heap.size) (g:w2.heap.size=w1.heap.size) (b:bW w1 w2):N5 D L G Kind ps1 l1 w1 (Z6 (ZW ⟨w1.heap.size,0,ZX⟩)) er ((w3.setCell ⟨w1.heap.size,0,ZX⟩ (Z7 Z9 z)).setCell ⟨w1.heap.size,1,ZX⟩ (.slice ao m c)):=by
 have a:bW w1 (w2.alloc (Z4 #[Z7 Z9 0,Z5 ZX 0 0] 206)):=b.alloc (by omega) _;rcases h with ⟨rfl,e,h⟩|⟨rfl,ps',s,C,rfl,d,f⟩
 . exact .inl ⟨rfl,e,((a.trans (h.mono a.size)).setCell (p:=⟨w1.heap.size,0,ZX⟩) lR _).setCell (p:=⟨w1.heap.size,1,ZX⟩) lR _⟩
 . exact .inr (EL (d.mono (by rw [Ul];omega)) hl g b f)
def KnG (w0:ZT) (r v b g N p D L G:Nat) (A:aB) (F:aK) (Kind:aN->Prop) (ps:aN) (dl:a8) (wr:ZT):Prop:=
 ∃ sp gone hl ds f ps1,qw w0 r v b g N p D L G A F Kind ps ps1 dl sp gone hl ds f wr
def qw.SE {Kind:aN->Prop} {ps ps1:aN} {hl:Nat} {f:Nat->ZS} (h:qw w0 r v b g N p D L G A F Kind ps ps1 dl sp gone hl ds f w) (hs:qu w0 r v b g N p D L G Kind ps A F dl) (hr:r<w0.heap.size) (u:g<w0.heap.size) (s:¬ ps.bl r) (o:¬ ps.bl g):qw w0 r v b g N p D L G A F Kind ps ps1 dl 0 gone hl ds f (w.setCell ⟨r,4,ZX⟩ (Z7 Z8 0)):=by
 have t:=h.apart hs hr u s o;have a:aa (λk=>k=r) w (w.setCell ⟨r,4,ZX⟩ (Z7 Z8 0)):=aa.setCell _ _ _ rfl;refine { h with rd:=ag (j:=4) h.rd _,vol:=h.vol.Tw a λk e=>e▸⟨hs.rK,hs.vr.symm,hs.rF⟩,row:=h.row.of_block (a.block _ h.row.lt λq=>hs.rg q.symm),kn:=⟨h.kn.1,λi x=>?_⟩,kit:=ps1.keep _ _ h.kit λk d=>a.block k (ps1.lt _ h.kit k d) λq=>(t k d).2.2.1 q,out:=h.out.trans (a.mono λk _ q=>.inr (.inl q)),spl:=YD (by decide) };obtain ⟨bl,l,m,c,n⟩:=h.kn.2 i x;exact ⟨bl,l,m,T7 c a.size,(a.block bl c (by omega)).trans n⟩
theorem CU {Kind:aN->Prop} {ps ps1 ps2:aN} {hl:Nat} {f:Nat->ZS} {s:Nat} {C:Ck} (hs:qu w0 r v b g N p D L G Kind ps A F dl) (j:qw w0 r v b g N p D L G A F Kind ps ps2 dl sp gone hl ds f w) (h:Di D L G Kind ps1 ps2 l1 s C ao m c B w) (S:l1≠0) (O:l1<2^N) (T:∀ i,(zw (bS D L G s C)).testBit i=ZV->i<N/\i∈ds) (E:1+((ab (aw (D+L+G) s)).length:Int)=z) :
 ZR ZM 114 #[Z6 (ZW ⟨r,0,ZX⟩),.agg #[Z7 Z9 z,.slice ao m c]] w λe w'=>e=Z3 .nilIface/\Lv w r v b g N gone sp f (ab (aw (D+L+G) s)) (vv D L G dl) w':=by
 have a:=hs.vol.par;have n:=KX a.d a.l4 a.g a.s h.told;have K:=Cd a.d a.g a.s h.told;have V:(bS D L G s C).length<=2000:=n.1.2.2;rw [E] at n;obtain ⟨l,o⟩:∃ i,l1.testBit i=ZV:=Nat.exists_testBit_of_ne_zero S;have u:l<N:=by
  by_cases q:l<N
  . exact q
  . rw [Wz (T7 O (UW (by decide) (by omega)))] at o;cases o
 have y:∀ i∈ds,(vv D L G dl i).length=44/\∀ x∈vv D L G dl i,x<256:=λi t=>pN a dl (by have:=(j.okd i t).2;have:=hs.nN;omega);obtain ⟨I,J⟩:=NA (x:=NU N ds) (Dl:=Ae N ds (vv D L G dl)) (dl:=dV D dl) a.d1 a.d a.g a.div a.s h.told (by rw [<- hs.nN];exact u) (h.Tp l o) (Cv hs.byt).1 (Cv hs.byt).2 (λi t=>by
  obtain ⟨q1,k⟩:=T i t;rw [CC q1,TT k];exact ⟨rfl,uC λe=>((uB N ds i).1 e).2 k⟩)
 have P:(ab (aw (D+L+G) s)).length<=16:=TV (WO _ _) (by simp);have H:ab (aw (D+L+G) s)≠[]:=λq=>by
  have:l∈ab (aw (D+L+G) s):=(bL a.s).2 ⟨by rw [<- hs.nN];exact u,h.Tp l o⟩;rw [q] at this;cases this
 have U:z.toNat=1+(ab (aw (D+L+G) s)).length:=by rw [<- E];omega
 exact Lw (M:=ab (aw (D+L+G) s)) (R:=vv D L G dl) j.rd j.row hs.rg (F9 h.own (by omega)) K (Ru j.row y j.kn) (CB N ds (vv D L G dl)) (Is y) (by omega) (by rw [<- hs.nN] at n;exact n) I (by rw [U];exact J) H (λd Q=>by rw [hs.nN];exact ((bL a.s).1 Q).1) P
section
variable {w:ZT} {r v b g N p D L G:Nat} {Kind:aN->Prop} {ps:aN} {A:aB} {F:aK} {dl:a8} (hs:qu w r v b g N p D L G Kind ps A F dl) (hSh:oM D L G Kind)
include hs hSh
theorem LR (hr:eh w r v b g N 0 ps.ho) (kc:w.rowIs g 40 N vR) (S:Nat) (hS:S<65536) (qz:∀ i,i∈ab S->i<D) :
 ZR ZM 134 #[Z6 (ZW ⟨r,0,ZX⟩),Z7 Z8 S] w λe w'=>N4 w r v b g N p D L G Kind ps A F dl (ab S) e w':=by
 have qc:N<=16:=by rw [hs.nN];exact hs.vol.par.s
 have y0:2^N<=65536:=jc qc;have xh:∀ i,i∈ab S->i<N:=λi I=>by have:=qz i I;rw [hs.nN];omega
 have u:=bU hs.kit hr pX;have f:¬ ps.bl g:=by obtain ⟨cs,h1,_⟩:=kc;exact bU hs.kit h1 oJ
 have h0:KnG w r v b g N p D L G A F Kind ps dl w:=⟨ps.ho,0,ps.ho,[],vR,ps,⟨hr,hs.vol,kc,Kn.nil _ _ _ _,hs.kit,hs.kind,rfl,λk q=>.inl q,aa.refl _ _,λi q=>(by cases q),YD (by decide),hs.hol,hs.hol,λi q=>(by rw [V0] at q;cases q)⟩⟩;have O:=hide7 hs hSh hr.lt kc.lt u f h0;clear hs hSh hr kc u f h0;go_enter func134,ntmps134;go_wp2_with fail;go_loopw [5] (λ_ wr=>KnG w r v b g N p D L G A F Kind ps dl wr) (λ_ wr=>EV N (intOf ((wr.cell? ⟨r,4,ZX⟩).getD undef)).toNat (intOf ((wr.cell? ⟨r,3,ZX⟩).getD undef)).toNat)
 case atStart=>exact O.o.2.2.2.2.2.2
 case round=>
  obtain ⟨sp,gone,hl,ds,f0,ps1,hM⟩:=hrel;obtain ⟨hs,hSh,B,E,u,f,_⟩:=O.o;have qh:=nl hM hs B E u f S hS xh;have kx:EV N (intOf ((wr.cell? ⟨r,4,ZX⟩).getD undef)).toNat (intOf ((wr.cell? ⟨r,3,ZX⟩).getD undef)).toNat=EV N sp gone:=by
   obtain ⟨_,_,_,d3,d4⟩:=hM.rd.cells;rw [d3,d4];simp [intOf]
  have xn:=hM.gol;have qq:=hM.spl;have HM:=ak kx;obtain ⟨nw,qn⟩:=nM (QO S gone sp ds);rw [qn] at qh;have HN:=ak qn;clear kx hM qn hs hSh B E u f;go_wp2_with fail;refine qh.mono ?_;rintro e w1 ⟨rfl,f1,h1,a,_⟩;clear qh;obtain ⟨d1,qg⟩:=nM (ds++Cl A b nw);obtain ⟨X,V⟩:=nM (gone|||jA (gnB A b) nw);rw [qg,V] at a;have Q:∀ i,i∈ab S->(X|||sp).testBit i=ZU->i∈d1:=λi I hb=>by
   rw [VZ,XK,<- V,VZ,XK] at hb;rw [<- qg];by_cases q:i∈ds
   . exact UF _ q
   . have x8:i∈nw:=(by rw [<- HN.o];exact (oH (by omega) (by omega)).2 ⟨I,hb.1.1,hb.2,q⟩);refine VM _ (me.2 ⟨x8,?_⟩);cases hq:gnB A b i
     . rfl
     . rw [(jb _ i nw).2 ⟨x8,hq⟩] at hb;cases hb.1.2
  have kv:=a.gol;have hc:gone<=X:=by rw [<- V];exact YL
  have xv:=Rx X sp (by omega) (by omega);have kh:X|||sp<2^N:=WJ kv qq;obtain ⟨e0,_,_,e3,e4⟩:=a.rd.cells;obtain ⟨l1,U⟩:=nM (X|||sp);rw [U] at xv kh Q;have qd:=fG S l1 (by omega) (by omega);have W:=a6 a Q hc U V;clear a Q hc U qg V;by_cases hz:S &&& l1=0
  . have xd:bits .and .u64 (S:Int) (l1:Int)=0:=(by rw [qd,hz];rfl);go_wp2_with fail;go_region;go_wp2;go_ret;obtain ⟨a,Q,_⟩:=W.o;refine ⟨⟨_,_,a.rd⟩,⟨f1,a.row,rfl,λi I=>?_⟩,⟨ps1,h1,a.kind,a.psE,ps1.keep _ _ a.kit (λ_ _=>rfl),a.vol.vol,a.hll,a.bl⟩,a.vol.arr.keep λ_ _=>rfl,a.out.trans (aa.drew _)⟩;obtain ⟨bl,q1,q2,K,q4⟩:=a.kn.2 i (Q i I (It hz (cE.1 I).2));exact ⟨bl,44,q1,K,jf q4⟩
  . have xd:(bits .and .u64 (S:Int) (l1:Int)==0)=ZU:=by
     rw [qd];generalize S &&& l1=q at hz;simp;omega
    have xo:l1≠0:=λe=>hz (by rw [e,Nat.and_zero]);have xc:∀ w',bW w1 w'->ZR ZM 168 #[Z6 (ZW ⟨ps.ps,0,ZX⟩),.agg #[Z7 Z9 D,Z7 Z9 L,Z7 Z9 G],Z7 Z8 l1] w' λe qr=>(e=uE/\¬ gq D L G l1/\bW w' qr)\/∃ ps' s C ao m c,nj D L G s ao m c e/\Di D L G Kind ps1 ps' l1 s C ao m c w'.heap.size qr/\aa ps1.bl w' qr:=λw' hb=>by
     obtain ⟨a,_⟩:=W.o;obtain ⟨hs,hSh,B,E,u,f,_⟩:=O.o;have hv:=a.vol;have h:=hSh.1 ps1 a.kind w' (ps1.keep _ _ a.kit λk R=>hb.block k (ps1.lt _ a.kit k R)) (hv.tab.keep (hb.block _ hv.tab.lt)) (TV hv.room hb.size) l1 (by rw [<- hs.nN];exact kh);rw [a.psE] at h;exact h
    have HB:=al xc (λk (R:ps1.bl k)=>ps1.lt _ W.o.1.kit k R);have qa:=W.o.1.vol;obtain ⟨_,y1,y2,y3,y4,_⟩:=qa.vol.cells;have qf:bW w1 (w1.alloc (Z4 #[Z7 Z9 0,Z5 ZX 0 0] 206)):=bA w1 _;obtain ⟨_,x1,x2,x3,x4,_⟩:=(qa.vol.keep (qf.block _ qa.vol.lt)).cells;obtain ⟨x0,_,_,_,_⟩:=(W.o.1.rd.keep (qf.block _ W.o.1.rd.lt)).cells;clear qf xc qa;have HY:b9 (∀ (w' w3:ZT),bW w1 w'->aa ps1.bl w' w3->C5 r v ps.ps D L G w3/\(∀ o:Obj,C5 r v ps.ps D L G (w3.alloc o))/\(∀ k x y,w1.heap.size<=k->C5 r v ps.ps D L G ((w3.setCell ⟨k,0,ZX⟩ x).setCell ⟨k,1,ZX⟩ y))):=ak λw' w3 hb hO=>by
     have qy:=aa.after hb hO;have hM:=W.o.1;obtain ⟨hs,_,B,E,u,f,_⟩:=O.o;have ha:=hM.apart hs B E u f;have hv:=hM.vol;have q0:=hM.rd.keep (qy.block _ hM.rd.lt λq=>(ha _ q).2.2.1 rfl);have hv3:=hv.vol.keep (qy.block _ hv.vol.lt λq=>(ha _ q).2.1 rfl);have B:=hM.rd.lt;have y8:=hv.vol.lt;exact ⟨Ly q0 hv3,λo=>Ly (q0.keep (UB _ _ _ q0.lt)) (hv3.keep (UB _ _ _ hv3.lt)),λk x y R=>Ly (q0.keep ((fM w3 k 0 1 x y).block _ q0.lt (by omega))) (hv3.keep ((fM w3 k 0 1 x y).block _ hv3.lt (by omega)))⟩
    go_wp2_with fail;go_region;go_upto_region 5 with fail;have xe:(((S &&& l1:Nat):Int)==0)=ZU:=by
     rw [<- qd];exact xd
    simp only [xe];clear xe;go_cut [6,7] from 24 to 42 (λv6 v7 wx=>N5 D L G Kind ps1 l1 w1 v6 v7 wx)
    case first=>
     go_region_held3 (λw'=>w'.cell? ⟨r,0,ZX⟩=ZW (Z6 (ZW ⟨v,0,ZX⟩))/\w'.cell? ⟨v,1,ZX⟩=ZW (Z7 Z9 (D:Int))/\w'.cell? ⟨v,2,ZX⟩=ZW (Z7 Z9 (L:Int))/\w'.cell? ⟨v,3,ZX⟩=ZW (Z7 Z9 (G:Int))/\w'.cell? ⟨v,4,ZX⟩=ZW (Z6 (ZW ⟨ps.ps,0,ZX⟩))) (first|exact ⟨e0,y1,y2,y3,y4⟩|exact ⟨x0,x1,x2,x3,x4⟩|exact Y0.out|exact Y1.out _|exact Y2.out _ _ _ lR|go_keep)
      (first|(go_at_call 168;refine (HB.o.1 _ ?_).mono ?_;(first|exact ((TW _ _).drew).drew|exact (((TW _ _).drew).drew).alloc lR _);rintro e w3 kz;obtain ⟨z,ao,m,c,er,he,Y,H3⟩:=uQ kz;subst he;clear kz;(try (have K:w3.heap[w1.heap.size]?=ZW (Z4 #[Z7 Z9 0,Z5 ZX 0 0] 206 (0,0)):=(Y.block w1.heap.size (by simp) (λq=>by have:=HB.o.2 _ q;omega)).trans (Ug w1.drew.drew _);obtain ⟨r0,r1,X,g0⟩:=ay K;clear K));obtain ⟨Y0,Y1,Y2⟩:b9 (C5 r v ps.ps D L G w3)/\b9 (∀ o:Obj,C5 r v ps.ps D L G (w3.alloc o))/\b9 (∀ k x y,w1.heap.size<=k->C5 r v ps.ps D L G ((w3.setCell ⟨k,0,ZX⟩ x).setCell ⟨k,1,ZX⟩ y)):=HY.o _ w3 (by first|exact ((TW _ w1).drew).drew|exact (((TW _ w1).drew).drew).alloc lR _) Y;clear Y))
     all_goals (go_wp2_with fail;go_meet;case rel=>first|(refine yF (w':=w1.drew.drew) H3.o ?_ rfl;exact ((TW _ _).drew).drew)|(refine uR (w2:=w1.drew.drew) H3.o HB.o.2 rfl ?_;exact ((TW _ _).drew).drew))
    case rest=>
     clear e0 e3 e4 y1 y2 y3 y4 x0 x1 x2 x3 x4 HY HB;rename ZT=>w3;rcases hcut with ⟨rfl,xb,qe⟩|hcut
     . have xf:=ak xb;clear xb;obtain ⟨a,Q,hc,U,V⟩:=W.o;obtain ⟨hs,hSh,B,E,u,f,_⟩:=O.o;have M:=a.SD (a.apart hs B E u f) (aa.RL qe _) (ps1.keep _ _ a.kit λk R=>qe.block k (ps1.lt _ a.kit k R)) a.kind rfl (λk q=>.inl q);obtain ⟨_,_,_,e3,e4⟩:=M.rd.cells;have f4:w3.frozen? ⟨r,4,ZX⟩=ZU:=by
        have h':w3.heap[r]?=_:=M.rd;simp [World.frozen?,h']
       have H3:=ak M;clear M a Q U V hs hSh B E u f qe;by_cases qp:sp=0
       . refine absurd (lG O.o.1.fine.1 λi q=>?_) xf.out;have q2:X.testBit i=ZV:=(by rw [<- W.o.2.2.2.1,qp,Nat.or_zero] at q;exact q);refine (O.o.1.cw i ?_).2 (H3.o.gb i q2);rw [O.o.1.vol.n,<- O.o.1.nN];by_cases e:i<N
         . exact e
         . rw [Wz (T7 kv (UW (by decide) (by omega)))] at q2;cases q2
       . have y7:((sp:Int)==0)=ZU:=(by simp;omega);have HQ:=al qp hc;clear qp hc;go_wp2;go_roundw
         case rel=>
          obtain ⟨hs,_,B,E,u,f,_⟩:=O.o;exact ⟨0,X,h1,d1,f1,ps1,H3.o.SE hs B E u f⟩
         case measure=>
          obtain ⟨hs,_,B,E,u,f,_⟩:=O.o;obtain ⟨_,_,_,K,q4⟩:=(H3.o.SE hs B E u f).rd.cells;rw [HM.o,K,q4];have q:=HQ.o.2;unfold EV;rw [TS HQ.o.1];simp [intOf];omega
     . obtain ⟨rfl,gb,J,s,C,ao,m,c,rfl,hm,Z,P,Y⟩:=hcut;obtain ⟨a,Q,hc,U,V⟩:=W.o;obtain ⟨hs,hSh,B,E,u,f,_⟩:=O.o;have M:=a.SD (a.apart hs B E u f) Y P.kit P.kind P.psE P.bl;have k8:=hs.vol.par;have hg:=KX k8.d k8.l4 k8.g k8.s P.told;have hn:=Cd k8.d k8.g k8.s P.told;have hf:(bS D L G s C).length<=2000:=hg.1.2.2;have ka:∀ t∈bS D L G s C,t.k=0->0<=t.b/\t.b<16:=λt ht h0=>by
        obtain ⟨i,q1,q2,_⟩:=jK k8.s ht h0;have:=k8.s;omega
       have qk:=G6 (1+((ab (aw (D+L+G) s)).length:Int)) (F9 P.own (by omega)) ka (by omega);obtain ⟨z,ke⟩:∃ z:Int,1+((ab (aw (D+L+G) s)).length:Int)=z:=⟨_,rfl⟩;rw [ke] at Z hg qk;obtain ⟨k0,k1,_,_⟩:=ay Z;have H3:=hide11 M P Z hg hn hf ka qk ke Y hm;clear M P Z hg hn hf ka qk ke Y hm k8 a Q hc U V hs hSh B E u f;go_wp2_with fail;refine H3.o.2.2.2.2.2.2.2.1.mono ?_;rintro e w4 ⟨rfl,k9⟩;clear k0 k1;obtain ⟨M,P,Z,hg,hn,hf,ka,_,ke,Y,hm⟩:=H3.o;obtain ⟨hs,hSh,B,E,u,f,_⟩:=O.o;have qx:=M.SD (M.apart hs B E u f) (aa.RL k9 _) (J.keep _ _ M.kit λk R=>k9.block k (J.lt _ M.kit k R)) M.kind rfl (λk q=>.inl q);obtain ⟨T,hT⟩:=nM (zw (bS D L G s C));have ko:T<65536:=by rw [<- hT];exact Kl λt ht h0=>by have:=ka t ht h0;omega
       have x5:∀ i,T.testBit i=ZV->i<N/\s.testBit i=ZU:=λi I=>by
        rw [<- hT] at I;obtain ⟨t,ht,h0,xz⟩:=(nZ _ _).1 I;obtain ⟨j,q1,q2,K⟩:=jK hs.vol.par.s ht h0;have:j=i:=by rw [<- xz,q1];rfl
        subst this;exact ⟨by rw [hs.nN];exact q2,K⟩
       have kf:∀ i,i∈ab T->i<N/\s.testBit i=ZU:=λi I=>x5 i (cE.1 I).2;have kr:=nl qx hs B E u f T ko (λi I=>(kf i I).1);have km:=(k9.block gb (T5.1 Z).1).trans Z;have H4:=a5 kf hT km k9;clear kf qx km k9 M P Z hg hn hf ka ke Y hm hs hSh B E u f x5;rw [hT];clear hT;go_wp2_with fail;refine kr.mono ?_;rintro e w5 ⟨rfl,f5,h2,H,q9⟩;clear kr;obtain ⟨kf,hT,km,k9⟩:=H4.o;obtain ⟨M,P,Z,hg,hn,hf,ka,_,ke,Y,hm⟩:=H3.o;obtain ⟨a,Q,hc,U,V⟩:=W.o;obtain ⟨hs,hSh,B,E,u,f,_⟩:=O.o;have kk:=hs.vol;obtain ⟨hd,kb⟩:=nM (QO T X sp d1);rw [kb] at H;have hx:∀ i,i∈hd↔i∈ab T/\X.testBit i=ZU/\sp.testBit i=ZU/\i∉d1:=λi=>by rw [<- kb];exact oH (by omega) (by omega)
       obtain ⟨d2,kg⟩:=nM (d1++Cl A b hd);obtain ⟨g2,kj⟩:=nM (X|||jA (gnB A b) hd);rw [kg,kj] at H;have qi:=H.gol;have xx:=Rx g2 sp (by omega) (by omega);have qv:=k9.size;have q8:=a.out.size;have qs:=(q9.block gb (T7 (T5.1 Z).1 qv) (λq=>by
        rcases q with q|q|q|q
        . omega
        . omega
        . have:=kk.vol.lt;omega
        . have:=kk.arr.RN q;omega)).trans km
       obtain ⟨_,_,_,e3,e4⟩:=H.rd.cells;obtain ⟨k0,k1,_,_⟩:=ay qs;by_cases ks:g2|||sp=l1
       . have ky:∀ i∈hd,gnB A b i=ZU:=λi I=>by
          cases hq:gnB A b i
          . rfl
          . have q:=(jb (gnB A b) i hd).2 ⟨I,hq⟩;have q2:(g2|||sp).testBit i=ZV:=(by rw [VZ,<- kj,VZ,q,Bool.or_true,YJ]);obtain ⟨_,K,q4,_⟩:=(hx i).1 I;rw [ks,<- U,VZ,K,q4] at q2;cases q2
         have kp:=a.apart hs B E u f;have ki:Di D L G Kind ps1 J l1 s C ao m c w1.heap.size w5:=(P.keep (T:=λ_=>False) (aa.RL k9 _) (λ_ q=>q.elim)).keep q9 (λk q=>by
          rcases q with q|q|q|q
          . subst q;exact ⟨by omega,λe=>(kp _ e).2.2.2.1 rfl⟩
          . subst q;exact ⟨by omega,λe=>(kp _ e).2.2.1 rfl⟩
          . subst q;exact ⟨by have:=kk.vol.lt;omega,λe=>(kp _ e).2.1 rfl⟩
          . exact ⟨by have:=kk.arr.RN q;omega,λe=>(kp _ e).2.2.2.2 q⟩)
         have x6:=CU hs (H.SD (H.apart hs B E u f) (aa.drew _) (J.keep _ _ H.kit λ_ _=>rfl) H.kind rfl (λk q=>.inl q)) (ki.keep (T:=λ_=>False) (aa.drew w5) (λ_ q=>q.elim)) xo kh (λi I=>by
          rw [hT] at I;have qj:i<16:=by
           by_cases q:i<16
           . exact q
           . rw [Wz (T7 ko (UW (n:=2) (i:=16) (by decide) (by omega)))] at I;cases I
          have x7:i∈ab T:=cE.2 ⟨qj,I⟩;obtain ⟨q1,q2⟩:=kf i x7;refine ⟨q1,?_⟩;rw [<- kg];by_cases q:i∈d1
          . exact UF _ q
          . have qm:l1.testBit i=ZU:=uC λe=>by rw [ki.Tp i e] at q2;cases q2
            rw [<- U,VZ,XK] at qm;have K:=(hx i).2 ⟨x7,qm.1,qm.2,q⟩;exact VM _ (me.2 ⟨K,ky i K⟩)) ke
         have H5:=a5 x6 H ki kg;clear x6 ki qs H q9 kf hT km k9 M P Z hg hn hf ka ke Y hm a Q U V hs hSh B E u f kb hx kg kj qv q8 ky kp kk hc;go_wp2_with fail;go_region;go_wp2_with fail;refine H5.o.1.mono ?_;rintro e w6 ⟨rfl,hF⟩;clear e3 e4 k0 k1;have H6:=ak hF;clear hF;go_wp2;go_ret;obtain ⟨xy,⟨f6,q7,xk,xm⟩,xg⟩:=H6.o;obtain ⟨_,H,ki,kg⟩:=H5.o;obtain ⟨hs,hSh,B,E,u,f,_⟩:=O.o;obtain ⟨a,Q,_,U,V⟩:=W.o;have hy:aa (λk=>k=g) w5 w6:=(aa.drew w5).trans xg;have xi:=H.apart hs B E u f;have qb:=H.vol;refine ⟨⟨_,_,xy⟩,⟨f6,q7,rfl,λi I=>?_⟩,⟨J,h2,H.kind,H.psE,J.keep _ _ H.kit (λk R=>hy.block k (J.lt _ H.kit k R) (λq=>(xi k R).2.2.2.1 q)),qb.vol.keep (hy.block _ qb.vol.lt hs.vg),H.hll,H.bl⟩,qb.arr.keep (λk R=>hy.block k (qb.arr.RN R) λq=>hs.gF (q▸R)),H.out.trans (hy.mono λk _ q=>.inl q)⟩;have y5:=qz i I;by_cases qo:s.testBit i=ZV
         . obtain ⟨bl,mm,l,q1,q2,K,q4,q5,q6⟩:=xm i ((bL hs.vol.par.s).2 ⟨by have:=hs.nN;omega,qo⟩);obtain ⟨h1,h2⟩:=yu q4 K q5;rw [(pN hs.vol.par dl (by have:=hs.nN;omega)).1] at h2;subst h2;exact ⟨bl,l.length,q1,aM.lt q4,h1⟩
         . have xq:i∉ab (aw (D+L+G) s):=λq=>qo ((bL hs.vol.par.s).1 q).2;have y9:i∈d2:=by
            rw [<- kg];exact UF _ (Q i I (uC λe=>qo (ki.Tp i e)))
           obtain ⟨bl,q1,q2,K,q4⟩:=H.kn.2 i y9;have xj:bl≠g:=(by omega);exact ⟨bl,44,by rw [xk i xq];exact q1,T7 K hy.size,jf ((hy.block bl K xj).trans q4)⟩
       . have x9:X<g2:=(by rw [<- kj];exact N3 λe=>ks (by rw [<- kj,e,U]));have hR:KnG w r v b g N p D L G A F Kind ps dl w5.drew:=⟨sp,g2,h2,d2,f5,J,H.SD (H.apart hs B E u f) (aa.drew _) (J.keep _ _ H.kit λ_ _=>rfl) H.kind rfl (λk q=>.inl q)⟩;have xa:EV N (intOf ((w5.drew.cell? ⟨r,4,ZX⟩).getD undef)).toNat (intOf ((w5.drew.cell? ⟨r,3,ZX⟩).getD undef)).toNat=EV N sp g2:=by
          rw [show w5.drew.cell? ⟨r,3,ZX⟩=w5.cell? ⟨r,3,ZX⟩ from rfl,show w5.drew.cell? ⟨r,4,ZX⟩=w5.cell? ⟨r,4,ZX⟩ from rfl,e3,e4];simp [intOf]
         have y6:((g2|||sp:Nat):Int)≠(l1:Int):=(by omega);have xp:((((g2|||sp:Nat):Int))==(l1:Int))=ZU:=(by simp;omega);have H5:=a6 hR x9 xa hc qi;clear hR x9 xa qs H q9 kf hT km k9 M P Z hg hn hf ka ke Y hm a Q U V hs hSh B E u f kb hx kg kj qv q8 kk hc;go_wp2_with fail;go_region;go_wp2;go_roundw
         case rel=>exact H5.o.1
         case measure=>
          rw [H5.o.2.2.1,HM.o];have q1:=H5.o.2.1;have q2:=H5.o.2.2.2;unfold EV;omega
end
def Gg (ps:aN) (w:ZT) (c:mR sb room D L G ps) (b:ps.S w):ps.ps<w.heap.size:=by
 obtain ⟨a,d,ho,rfl⟩:=c;exact (mQ sb room D L G a d ho).lt w b _ (.inl ⟨by show sb<=sb+1+1+1;omega,TU _⟩)
def yG (a:vG D L G) {sb:Nat} {room:Int}:oM D L G (mR sb room D L G):=
 ⟨λ_ hK _ c e b _ hl=>yE D L G a.r a.d1 a.d a.l1 a.l4 a.g a.div a.s hK c e b hl (.inl ⟨rfl,rfl⟩),λ_ hK _ c e b _ hl=>yE D L G a.r a.d1 a.d a.l1 a.l4 a.g a.div a.s hK c e b hl (.inr ⟨rfl,rfl⟩)⟩
end
structure mj (w:ZT) (r v b g N p D L G:Nat) (Kind:aN->Prop) (ps:aN) (A:aB) (F:aK) (l:a8) (e:ZP) (w':ZT):Prop where
 rd:∃ gone sp,eh w' r v b g N gone sp
 row:∃ f,w'.rowIs g 40 N f
 kit:∃ (ps1:aN) (hl:Nat),Kind ps1/\ps1.ps=ps.ps/\ps1.S w'/\bg w' v p D L G ps.ps hl/\hl<2^N/\∀ k,ps1.bl k->ps.bl k\/w.heap.size<=k
 arr:az w' p A F
 out:aa (λk=>k=g\/k=r\/k=v\/F.S k\/ps.bl k) w w'
 ans:∃ u,e=Z3 (ZY #[u,.nilIface])/\Bs w' u l/\(∀ k,u.ownBlock=ZW k->w.heap.size<=k)/\∃ ao n,u=.slice ao n n
def qu.turn {Kind:aN->Prop} {ps:aN} (h:qu w r v b g N p D L G Kind ps A F dl) (hr:¬ ps.bl r) (d:¬ ps.bl g) (c:aa (λk=>k=r\/k=g) w w'):qu w' r v b g N p D L G Kind ps A F dl:=
 { h with
  vol:=h.vol.Tw c λk q=>q.elim (λe=>e▸⟨h.rK,h.vr.symm,h.rF⟩) λe=>e▸⟨h.gK,h.vg.symm,h.gF⟩
  kit:=ps.keep _ _ h.kit λk a=>c.block k (ps.lt _ h.kit k a) (λq=>q.elim (λe=>hr (e▸a)) (λe=>d (e▸a))) }
theorem CV {Kind:aN->Prop} {ps:aN} (hs:qu w r v b g N p D L G Kind ps A F dl) (kf:oM D L G Kind) (hr:eh w r v b0 g N gone sp) (W:w.rowIs g 40 N f0) {size:Nat} (km:size=dl.length) {m:Nat} (X:m=(size+43)/44) (ki:m<=D) :
 ZR ZM 99 #[Z6 (ZW ⟨r,0,ZX⟩),Z7 Z9 b,Z7 Z9 size] w (mj w r v b g N p D L G Kind ps A F dl):=by
 have ka:=ak km;clear km;have kr:N<=16:=by rw [hs.nN];exact hs.vol.par.s
 have q2:D<=N:=by rw [hs.nN];omega
 have V:m<=16:=by omega
 have q5:size<=704:=by omega
 have I:ab (2^m-1)=YE m:=uP V;have U:2^m-1<65536:=by
  have:2^m<=2^16:=UW (by decide) V;omega
 obtain ⟨S,Z⟩:=nM (2^m-1);rw [Z] at I U;have ko:=FM hr hs.vol.vol W (by have:=hs.vol.par.d1;omega) (λe=>hs.rg e.symm) hs.vg b;have kc:=bU hs.kit hr pX;have kb:¬ ps.bl g:=by obtain ⟨cs,h1,_⟩:=W;exact bU hs.kit h1 oJ
 have j:=a5 hs kf kc kb;have e1:((size:Nat):Int)+44-1=((size+43:Nat):Int):=by omega
 clear hr W hs kf kc kb;go_enter func99,ntmps99;go_wp2_with fail;refine ko.mono ?_;rintro e w1 ⟨rfl,kj,ha,Y⟩;have kk:=j.o.1.turn j.o.2.2.1 j.o.2.2.2 Y;have kh:=LR kk j.o.2.1 kj ha S U (λi d=>by rw [I,Uu] at d;omega);have E:=al kh Y;clear ko kj ha Y kk kh;go_wp2_with fail;rw [show ((size:Int)+43)/44=(m:Int) by omega];refine (lX m V w1).mono ?_;rw [Z];rintro e w2 ⟨rfl,rfl⟩;clear e1;go_wp2_with fail;refine E.o.1.mono ?_;rintro e w3 ⟨⟨T,hb,t⟩,⟨f,n,rfl,P⟩,h9,h8,ke⟩;have Q:=E.o.2.size;have B:aa (λk=>k=g\/k=r\/k=v\/F.S k\/ps.bl k) w w3:=(E.o.2.mono λ_ _ q=>q.elim (λe=>.inr (.inl e)) .inl).trans ke;rw [I] at P;obtain ⟨R,K⟩:=nM (vv D L G dl);rw [K] at P;have J:∀ i,i<m->(R i).length=44/\∀ x∈R i,x<256:=λi d=>by rw [<- K];exact pN j.o.1.vol.par dl (by omega)
 have O:((YE m).map R).flatten.take size=dl:=by
  rw [<- K,show vv D L G dl=λi=>(dg D L G dl).getD i [] from rfl,Il X ki j.o.1.len j.o.1.byt (Nat.le_of_eq ka.out),ka.out,Vu]
 obtain ⟨_,_,d2,_,_⟩:=t.cells;have z:((YE m).map R).length=m:=by simp
 have hn:ML w3 0 g ((YE m).map R):=by
  refine ⟨T8 _,n.lt,λi d=>?_⟩;rw [z] at d;obtain ⟨bl,c,q1,q3,q4⟩:=P i (Uu.2 d);have cg:=n.cell (i:=i) (by omega);rw [q1] at cg;have e:((YE m).map R)[i]'(by rw [z];exact d)=R i:=by simp
  rw [e];exact ⟨bl,0,c,cg,T8 _,q3,q4,(J i d).1,(J i d).2⟩
 have k7:=Hf (c:=N) hn (by rw [z];omega);rw [z] at k7;have H3:=hide8 t n h9 h8 B k7 Q O;clear t n P h9 h8 ke k7 B hn z Q O K;go_wp2_with fail;rw [show (size+43)/44=m from X.symm];refine H3.o.2.2.2.2.2.1.mono ?_;rintro e w4 ⟨u,rfl,hj,h⟩;have k8:((YE m).map R).flatten.length=44*m:=CT R m (λi d=>(J i d).1);have kg:∀ x∈((YE m).map R).flatten,x<256:=λx hx=>by
  obtain ⟨l,ky,kz⟩:=List.mem_flatten.1 hx;obtain ⟨i,kx,rfl⟩:=T9.1 ky;exact (J i (Uu.1 kx)).2 x kz
 have k9:size<=44*m:=by omega
 have kp:=ak k8;obtain ⟨ao,cp,rfl,hh,ks,kv,H,C⟩:=Qz hj k8 kg k9 (by omega);have H4:=aE h C H;clear k8 kg;obtain ⟨M,hM⟩:=nM (44*m);rw [hM] at kp k9 hh ⊢;have q0:size<=cp:=TV k9 hh;clear h C H hj hM X d2 j I Z U E ki;go_wp2;go_ret2;obtain ⟨t,n,⟨ps',hl,k1,k2,k3,k4,k5,k6⟩,a3,B,_,Q,O⟩:=H3.o;obtain ⟨h,C,H⟩:=H4.o;rw [O] at C;refine ⟨⟨_,_,t.keep (h.block _ t.lt)⟩,⟨_,n.of_block (h.block _ n.lt)⟩,⟨ps',hl,k1,k2,ps'.keep _ _ k3 (λk y=>h.block k (ps'.lt _ k3 k y)),k4.keep (h.block _ k4.lt),k5,λk y=>(k6 k y).imp id λq=>TV Q q⟩,a3.below h lR,B.trans (aa.RL h _),⟨_,rfl,C,λk y=>?_,⟨_,_,rfl⟩⟩⟩;cases ao with
 | none=>simp [Value.ownBlock] at y
 | some a=>
  simp [Value.ownBlock] at y;have h1:=H a rfl;have h2:=B.size;omega
def II {v:ZS} (h:Bs w v l):Src ZM 1 40 v l.length (aJ l) w:=by
 obtain ⟨ao,c,rfl,m,n,o,g⟩:=h;have i:∀ u∈aJ l,u.oneCell'=ZV:=λu a=>by unfold aJ at a;rw [T9] at a;obtain ⟨x,_,rfl⟩:=a;rfl
 by_cases hl:l=[]
 . subst hl;cases ao with
   | none=>exact XM w Um c
   | some f=>exact Vi w Um f 0 c [] rfl (λj u d=>by simp at d) (λu a=>by simp at a)
 . obtain ⟨b,off,rfl,k⟩:=g hl;refine Vi w Um ⟨b,off,ZX⟩ l.length c (aJ l) (by rw [aW,V9]) (λj u d=>?_) i;rw [Vl];have e:j<l.length:=(by obtain ⟨q,_⟩:=U9.1 d;rwa [aW] at q);rw [k j e,<- d];unfold aJ;rw [UG,Uc e,Ub,Uc e];rfl
def As (w:ZT) (n:Int) (e:ZP) (w':ZT):Prop:=e=Z3 (ZY #[Z5 ZX 0 0,An n])/\bW w w'
theorem LS {ps:aN} {xs:aL} (h:aS w ar v p ps D L G t pg ob P xs A F) (x:ByteArray) (g:bY x=ZU) :
 ZR ZM 71 #[Z6 (ZW ⟨ar,0,ZX⟩),ZZ x] w (As w 6):=by
 obtain ⟨_,_,_,_,f⟩:=h.arc.cells;have a:=h.find x;obtain ⟨k,d⟩:=nM (aI xs.names x);obtain ⟨i,c⟩:=nM (mx xs.os x);rw [d,c] at a;clear d c h;go_enter func71,ntmps71;go_wp2_with fail;refine a.mono ?_;rintro e w1 ⟨rfl,b⟩;have H:=ak b;clear b a f;go_wp2_with fail;refine (jO x w1).mono ?_;rintro e w2 ⟨rfl,rfl⟩;rw [g];dsimp only;go_wp2;go_ret2;exact ⟨rfl,H.o⟩
theorem CW {ps:aN} {xs:aL} (h:aS w ar v p ps D L G t pg ob P xs A F) (x:ByteArray) (g:bY x=ZV) (f:x∉xs.names) :
 ZR ZM 71 #[Z6 (ZW ⟨ar,0,ZX⟩),ZZ x] w (As w 9):=by
 obtain ⟨_,_,_,_,d⟩:=h.arc.cells;have a:=h.find x;obtain ⟨k,c⟩:=nM (aI xs.names x);rw [c,h.Sp f] at a;clear c h;go_enter func71,ntmps71;go_wp2_with fail;refine a.mono ?_;rintro e w1 ⟨rfl,b⟩;have H:=ak b;clear b a d;go_wp2_with fail;refine (jO x w1).mono ?_;rintro e w2 ⟨rfl,rfl⟩;rw [g];dsimp only;go_wp2;go_ret2;exact ⟨rfl,H.o⟩
structure mz (w:ZT) (v p D L G:Nat) (Kind:aN->Prop) (ps:aN) (A:aB) (ps':aN) (wr:ZT):Prop where
 kind:Kind ps'
 psE:ps'.ps=ps.ps
 kit:ps'.S wr
 vol:bg wr v p D L G ps.ps ps'.ho
 hol:ps'.ho<2^(D+L+G)
 bl:∀ k,ps'.bl k->ps.bl k\/w.heap.size<=k
def mz.early {Kind:aN->Prop} {ps ps':aN} (h:mz w v p D L G Kind ps A ps' wr) (b:w0.heap.size<=w.heap.size):mz w0 v p D L G Kind ps A ps' wr:={ h with bl:=λk a=>(h.bl k a).imp_right (TV b) }
def aN.SG (ps:aN) (h:Nat):aN:={ ps with ho:=h }
structure uS (D L G:Nat) (Kind:aN->Prop) (ps:aN):Prop where
 sh:oM D L G Kind
 re:∀ ps h,Kind ps->Kind (ps.SG h)
 pk:∀ ps w,Kind ps->ps.S w->ps.ps<w.heap.size
 kind:Kind ps
structure RD (w:ZT) (q v p r g N sz D L G:Nat) (Kind:aN->Prop) (ps:aN) (A:aB) (F:aK) (cs:List ZS) (d:a8) (k:Nat) (u:ZS) (wr:ZT):Prop where
 pk:wr.ownsRow w.heap.size 5 1 u (min (k*sz) d.length) (aJ (d.take (k*sz)))
 rd:∃ b gone sp,eh wr r v b g N gone sp
 row:∃ f,wr.rowIs g 40 N f
 kit:∃ ps',mz w v p D L G Kind ps A ps' wr
 arr:az wr p A F
 out:aa (λj=>F.S j\/j=v\/ps.bl j) w wr
 box:ai wr q 152 cs
def aas (w:ZT) (q v p r g N sz D L G:Nat) (Kind:aN->Prop) (ps:aN) (A:aB) (F:aK) (cs:List ZS) (d:a8) (K:Nat) (u i:ZS) (wr:ZT):Prop:=∃ k:Nat,k<=K/\i=Z7 Z9 (k:Nat)/\RD w q v p r g N sz D L G Kind ps A F cs d k u wr
def N6 {n:Nat} (hD:1<=D):n<=my D n*(D*44):=by
 unfold my;obtain ⟨q,d⟩:=nM (D*44);rw [d];have a:0<q:=by omega
 have h:=Nat.lt_mul_div_succ (n+q-1) a;obtain ⟨c,b⟩:=nM ((n+q-1)/q);rw [b] at h ⊢;have:q*(c+1)=c*q+q:=by rw [Nat.mul_add,V9,Wx]
 have:c*q<=max 1 c*q:=WU _ (YG _ _);omega
def oN:¬ jP 5:=by unfold jP;decide
def IJ:¬ jP 152:=by unfold jP;decide
def N7 {ks:Nat} {ps:aN} (a:w.ownsRow base 5 1 u ks (aJ l)) (f:eh w r v b0 g N gone sp) (c:w.rowIs g 40 N f0) (n:bg w v p D L G ps.ps ps.ho) (j:ps.S w) (i:aa (λk=>k=g\/k=r\/k=v\/F.S k\/ps.bl k) w w6) (d:∀ k,F.S k->k<base):w6.ownsRow base 5 1 u ks (aJ l):=bR a i λq b h=>by
 rcases h with h|h|h|h|h
 . subst h;obtain ⟨cs,e,_⟩:=c;exact bC a e (by decide) b
 . subst h;exact bC a f (by decide) b
 . subst h;exact bC a n (by decide) b
 . have:=d q h;have:=ef a b;omega
 . obtain ⟨cur,m⟩:=bw a b;exact bU j m oN h
def QA {Kind:aN->Prop} {ps ps':aN} (b:RD w q v p r g N sz D L G Kind ps A F cs d k u wr) (hK:mz w v p D L G Kind ps A ps' wr) (hD:mj wr.drew r v y g N p D L G Kind ps' A F l e w6) (f:N=D+L+G) (re:∀ ps h,Kind ps->Kind (ps.SG h)) (hr:w.heap.size<=r) (s:w.heap.size<=g):aa (λj=>F.S j\/j=v\/ps.bl j) w w6/\∃ a,mz w v p D L G Kind ps A a w6:=by
 have:w.heap.size<=wr.heap.size:=b.out.size;have:wr.drew.heap.size=wr.heap.size:=rfl;refine ⟨(b.out.trans (aa.drew _)).later hD.out λj c h=>?_,?_⟩
 . rcases h with h|h|h|h|h
   . omega
   . omega
   . exact .inr (.inl h)
   . exact .inl h
   . rcases hK.bl j h with q|q
     . exact .inr (.inr q)
     . omega
 . obtain ⟨ps1,hl,k1,k2,k3,k4,i,m⟩:=hD.kit;refine ⟨ps1.SG hl,re _ _ k1,k2.trans hK.psE,k3,by rw [<- hK.psE];exact k4,f▸i,λj c=>?_⟩;rcases m j c with q|q
   . exact hK.bl j q
   . exact .inr (by omega)
def LU {Kind:aN->Prop} {ps ps':aN} {l2:a8} (t:RD w q v p r g N sz D L G Kind ps A F cs d k u wr) (hK:mz w v p D L G Kind ps A ps' wr) (hD:mj wr.drew r v y g N p D L G Kind ps' A F l2 e w6) (I:N=D+L+G) (re:∀ ps h,Kind ps->Kind (ps.SG h))
 (K:w7.ownsRow w.heap.size 5 1 v7 (min ((k+1)*sz) d.length) (aJ (d.take ((k+1)*sz)))) (b:w6.grownBy w7 u.ownBlock) (x:w6.ownsRow w.heap.size 5 1 u m (aJ l)) (E:∀ k,F.S k->k<w.heap.size) (R:v<w.heap.size) (U:w.heap.size<=q) (P:q≠r) (M:q≠g) (hr:w.heap.size<=r) (O:w.heap.size<=g):RD w q v p r g N sz D L G Kind ps A F cs d (k+1) v7 w7:=by
 obtain ⟨H,c,i⟩:=QA t hK hD I re hr O;have s:∀ {j:Nat} {cs:Array ZS} {T:ZO},w6.heap[j]?=ZW (Z4 cs T (0,0))->5≠T->w7.heap[j]?=w6.heap[j]?:=by
  intro j cs T a o;exact b.block j (T5.1 a).1 (λe=>bC x a o e.symm)
 have B:∀ j,j<w.heap.size->w7.heap[j]?=w6.heap[j]?:=λj a=>b.block j (T7 a H.size) (λe=>by have:=ef x e.symm;omega);have z:ai w6 q 152 cs:=t.box.keep (hD.out.block _ t.box.lt (λh=>by
  rcases h with h|h|h|h|h
  . exact M h
  . exact P h
  . omega
  . have n:=E _ h;omega
  . exact bU hK.kit t.box IJ h))
 obtain ⟨gone,sp,C⟩:=hD.rd;refine ⟨K,⟨y,gone,sp,C.keep (s C (by decide))⟩,?_,⟨c,{ i with kit:=c.keep _ _ i.kit (λj a=>b.block j (c.lt _ i.kit j a) (λe=>by obtain ⟨cur,J⟩:=bw x e.symm;exact bU i.kit J oN a)),vol:=i.vol.keep (s i.vol (by decide)) }⟩,hD.arr.keep λj a=>B j (E j a),?_,z.keep (s z (by decide))⟩
 . obtain ⟨f,cs,n,o⟩:=hD.row;exact ⟨f,cs,(s n (by decide)).trans n,o⟩
 . exact H.later (T:=λj=>w.heap.size<=j) ⟨b.os,b.tape,b.output,b.size,λj _ Q=>B j (by omega)⟩ (λj n o=>by omega)
def aS.got {Kind:aN->Prop} {ps ps':aN} {xs:aL} (h:aS w ar v p ps D L G t pg ob P xs A F) (a:aa (λj=>F.S j\/j=v\/ps.bl j) w w') (x:az w' p A F) (hK:mz w v p D L G Kind ps A ps' w'):aS w' ar v p ps' D L G t pg ob P xs A F:=by
 have o:=hK.bl;have r:2<3:=by decide
 have s:1<3:=by decide
 have:=h.vlt;have d:∀ k,k<3->¬ F.S k->k<w.heap.size->w'.heap[k]?=w.heap[k]?:=λk f i l=>a.block k l (λq=>by
  rcases q with q|q|q
  . exact i q
  . omega
  . have:=(h.apt k q).1;omega)
 have m:eo (λk=>ar<k/\¬ F.S k/\¬ ps.bl k/\¬ ps'.bl k) w w':=⟨a.size,λk c b=>a.block k c (λq=>by
  rcases q with q|q|q
  . exact b.2.1 q
  . have:=b.1;omega
  . exact b.2.2.1 q)⟩
 have n:∀ k,(ar<k/\¬ F.S k/\¬ ps.bl k)->k<w.heap.size->(ar<k/\¬ F.S k/\¬ ps.bl k/\¬ ps'.bl k):=λk q f=>⟨q.1,q.2.1,q.2.2,λe=>(o k e).elim q.2.2 (by omega)⟩;have u:∀ k,ps'.bl k->3<=k/\k≠ar/\k≠v/\¬ F.S k:=λk c=>by
  rcases o k c with q|q
  . exact h.apt k q
  . have:=h.arc.lt;have:=h.vol.vol.lt;have:=h.vlt;exact ⟨by omega,by omega,by omega,λe=>by have:=h.vol.arr.RN e;omega⟩
 exact { h with
  arc:=h.arc.keep (a.block _ h.arc.lt λq=>by
   rcases q with q|q|q
   . exact h.nar q
   . omega
   . exact (h.apt _ q).2.1 rfl)
  vol:={ h.vol with vol:=by rw [hK.psE];exact hK.vol,arr:=x,laid:=h.vol.laid.keep (d _ r h.vol.g h.vol.laid.lt),tab:=h.vol.tab.keep (d _ s h.vol.t h.vol.tab.lt),room:=TV h.vol.room a.size }
  pgs:=((h.pgs.wk n).keep m).wk λk q _=>⟨q.1,q.2.1,q.2.2.2⟩
  cat:=((h.cat.wk n).keep m).wk λk q _=>⟨q.1,q.2.1,q.2.2.2⟩
  kit:=hK.kit
  apt:=u
  hl:=hK.hol }
def uT (xs:aL) (x:ByteArray) (base:Nat) (u r:ZS) (w:ZT):Prop:=
 (u=Z5 ZX 0 0/\((r=An 6/\bY x=ZU)\/(r=An 9/\bY x=ZV/\x∉xs.names)))\/(r=.nilIface/\bY x=ZV/\∃ X∈xs,X.1.name=x/\w.ownsRow base 5 1 u X.2.length (aJ X.2))
def QB (w:ZT) (ar v p:Nat) (Kind:aN->Prop) (ps:aN) (D L G t:Nat) (pg ob:ZS) (P:a8) (xs:aL) (A:aB) (F:aK) (ps':aN) (w':ZT):Prop:=aS w' ar v p ps' D L G t pg ob P xs A F/\Kind ps'/\∀ k,ps'.bl k->ps.bl k\/w.heap.size<=k
def mn (w:ZT) (ar v p:Nat) (Kind:aN->Prop) (ps:aN) (D L G t:Nat) (pg ob:ZS) (P:a8) (xs:aL) (A:aB) (F:aK) (x:ByteArray) (e:ZP) (w':ZT):Prop:=
 ∃ u r ps',e=Z3 (ZY #[u,r])/\QB w ar v p Kind ps D L G t pg ob P xs A F ps' w'/\aa (λj=>F.S j\/j=v\/ps.bl j) w w'/\uT xs x w.heap.size u r w'
theorem N8 {Kind:aN->Prop} {ps:aN} {xs:aL} (h:aS w ar v p ps D L G t pg ob P xs A F) (hv:uS D L G Kind ps) (x:ByteArray) (hx:bY x=ZV) (J:Nat) (x8:J<xs.length) (hm:xs[J].1.name=x) :
 ZR ZM 71 #[Z6 (ZW ⟨ar,0,ZX⟩),ZZ x] w (mn w ar v p Kind ps D L G t pg ob P xs A F x):=by
 obtain ⟨_,_,_,_,c8⟩:=h.arc.cells;have q1:=h.find x;have xf:xs.names.length=xs.length:=by rw [<- eE,bh];simp [aL.os]
 have qe:xs.names[J]'(by omega)=x:=by simp [aL.names,hm,aU,aL.os]
 have k9:x∈xs.names:=by rw [<- qe];exact T6 _
 have x1:aI xs.names x=J:=gZ h.disk.up (by omega) qe;rw [x1,h.there k9] at q1;have k7:=h.disk.fits _ (T6 x8);obtain ⟨oo,oc,rfl,hol,_⟩:=id h.cat;have qf:xs.os.length=xs.length:=by simp [aL.os]
 have ka:∀ hh:J<xs.os.length,xs.os[J]=xs[J].1:=λhh=>by simp [aL.os]
 obtain ⟨X,hX⟩:=nM (xs[J]);rw [hX] at k7 hm ka;obtain ⟨nn,qy⟩:=nM (xs.os.length);have qn:X∈xs:=by rw [<- hX];exact T6 _
 have s:=a7 h k7 k9 ka qy qn;have HV:=ak hv;have qb:J<nn:=by omega
 have x9:(J:Int)<(nn:Int):=by omega
 rw [qy] at q1 c8;clear h hv xf qe k9 x1 k7 ka qf hol hX qn;go_enter func71,ntmps71;go_wp2_with fail;refine q1.mono ?_;rintro e w1 ⟨rfl,hb⟩;have H:=ak hb;clear hb q1 c8;go_wp2_with fail;refine (jO x w1).mono ?_;rintro e w2 ⟨rfl,rfl⟩;rw [hx];dsimp only;have a:=s.o.1.below H.o;obtain ⟨d0,_,_,_,d8⟩:=a.arc.cells;rw [s.o.2.2.2.2.1] at d8;obtain ⟨FV,off,sv,rfl,xg,xh,r1,r2,r3,r4⟩:=a.cat.at' (k:=J) (by rw [s.o.2.2.2.2.1];exact qb);rw [s.o.2.2.2.1 _] at r1 r2 r4;rw [hm] at r1;obtain ⟨n,hn⟩:=nM (X.1.size);rw [hn] at r2;obtain ⟨sa,sc,rfl,x6,_⟩:=id r4;obtain ⟨S,hS⟩:=nM (X.1.RK);rw [hS] at r3 r4 x6;have O:=a5 a r4 hn hS;clear a r4 hn hS;have q8:bW w2 (w2.alloc (Z4 #[ZZ x,Z7 Z9 (n:Nat),.slice sa S.length sc] 152)):=bA w2 _;have ky:ai (w2.alloc (Z4 #[ZZ x,Z7 Z9 (n:Nat),.slice sa S.length sc] 152)) w2.heap.size 152 [ZZ x,Z7 Z9 (n:Nat),.slice sa S.length sc]:=UC w2 _;have qj:(w2.alloc (Z4 #[ZZ x,Z7 Z9 (n:Nat),.slice sa S.length sc] 152)).heap.size=w2.heap.size+1:=by simp
 have C:X.2.length=n:=s.o.2.1.len.trans O.o.2.2.1;have xd:n<=1500:=by rw [<- O.o.2.2.1];exact s.o.2.1.fit.size
 obtain ⟨w3,xk⟩:=nM (w2.alloc (Z4 #[ZZ x,Z7 Z9 (n:Nat),.slice sa S.length sc] 152));rw [xk] at q8 ky qj;have y1:=ky.cell (j:=1) (u:=Z7 Z9 (n:Nat)) rfl;obtain ⟨ib,qs,kk,km,ko⟩:=Ut Tryz.Sw;have H3:=aE q8 ky qj;clear q8 ky qj;go_wp2_with (at_make;refine aa6 w3 rfl (.const (Z7 Z9 0)) (Z0 41) 40 rfl w2.heap.size 5 ib (Z7 .u8 0) 1 Um qs kk km .i64 .i64 _ n (by rfl) (by rfl) rfl (by rw [ko];omega) (by unfold maxLen;omega) (by exact H3.o.1.size) ?_;intro w4 qz q9;have q7:bW w2 w4:=H3.o.1.grown q9 H3.o.1.size (λk e=>by cases e);have e0:=(q7.cell (p:=⟨ar,0,ZX⟩) O.o.1.arc.lt).trans d0;have Y:=aE qz q9 q7;clear qz q9 q7);have W:=O.o.1.below Y.o.2.2;have N:=qt W.vol.vol W.vol.par.d W.vol.par.l4 W.vol.par.g W.vol.n;have kx:=ak W;clear W d8 r1 r2 r3 y1;refine N.mono ?_;rintro e w5 ⟨rfl,q4,hf,kg⟩;have kp:=kx.out.below kg;have q3:ai w4 w2.heap.size 152 _:=H3.o.2.1.keep (Y.o.2.1.block _ H3.o.2.1.lt (by simp));have hc:ai w5 w2.heap.size 152 _:=q3.keep (kg.block _ q3.lt);have x2:=hc.cell (j:=2) (u:=.slice sa S.length sc) rfl;have kf:bW w2 w5:=Y.o.2.2.trans (kg.mono Y.o.2.2.size);obtain ⟨sz,I⟩:=nM (D*44);have V:S.length=my D n:=by rw [<- O.o.2.2.2,s.o.2.1.st,O.o.2.2.1];rfl
 obtain ⟨r,hr⟩:=nM (w4.heap.size+2);obtain ⟨g,hg⟩:=nM (w4.heap.size+1);have xv:=Y.o.2.2.size;rw [hr,hg] at q4;rw [hg] at hf;obtain ⟨d,E⟩:=nM (X.2);rw [E] at C;have x3:RD w2 w2.heap.size v p r g A.n sz D L G Kind ps A F [ZZ x,Z7 Z9 (n:Nat),.slice sa S.length sc] d 0 (Z5 (ZW ⟨w3.heap.size,0,ZX⟩) 0 n) w5:=
  ⟨by rw [aaD,Nat.zero_min];exact aq Y.o.1 kg,⟨_,_,_,q4⟩,⟨_,hf⟩,⟨ps,HV.o.kind,rfl,kp.kit,kp.vol.vol,kp.hl,λ_ q=>.inl q⟩,kp.vol.arr,aa.RL kf _,hc⟩
 have H5:=a6 x3 I V E C;have xi:r≠g:=by omega
 have xm:w2.heap.size<g:=by omega
 have xq:w2.heap.size<r:=by omega
 rw [hr];clear x3 I V E C q4 hf hc q3 kp kf N kg hr hg;have xj:44<=sz/\sz<=528:=by rw [<- H5.o.2.1];have:=kx.out.vol.par.d1;have:=kx.out.vol.par.d;omega
 go_wp2_with fail;go_loopw [9,51] (λu i wr=>aas w2 w2.heap.size v p r g A.n sz D L G Kind ps A F [ZZ x,Z7 Z9 (n:Nat),.slice sa S.length sc] d S.length u i wr) (λ_ i _=>S.length-(intOf i).toNat)
 case atStart=>exact ⟨0,T8 _,rfl,H5.o.1⟩
 case round=>
  clear x2 e0;obtain ⟨k,xn,rfl,Q⟩:=hrel;by_cases ke:k<S.length
  . obtain ⟨f,⟨b0,gone,sp,N⟩,⟨f0,he⟩,⟨ps',b⟩,ha,R,kh⟩:=id Q;obtain ⟨_,I,V,E,C⟩:=H5.o;obtain ⟨a,qm,xe,kz⟩:=O.o;have hr:=a.vol.par;have qv:k*sz<=n:=(by rw [<- I];exact CS hr.d1 (by omega));have M:∀ j,F.S j->j<w2.heap.size:=λj T=>a.vol.arr.RN T;rw [C,Wj qv] at f;obtain ⟨l,hl⟩:=nM (d.take (k*sz));rw [hl] at f;obtain ⟨pa,pc,rfl⟩:=bj f;obtain ⟨c,B⟩:=nM (k*sz);have qh:=a.vlt;have qk:eo (λk=>ar<k/\¬ F.S k/\¬ ps.bl k) w2 wr:=⟨R.size,λj T hK=>R.block j T (λq=>by rcases q with q|q|q;exact hK.2.1 q;omega;exact hK.2.2 q)⟩;obtain ⟨sb,so,xx,e1,qo⟩:=r9 (qm.keep qk) (λe=>by rw [e] at ke;simp at ke);simp only [Vs] at e1;obtain ⟨rfl,_,rfl⟩:=e1;have g1:=qo k ke;obtain ⟨y,hy⟩:=nM (S[k]);rw [hy] at g1;have kv:X.1.RK.getD k 0=y:=(by rw [kz,ia ke,hy]);have x5:y<A.nb:=by
     refine (a.disk.Tk y (VM _ (ur s.o.2.2.2.2.2 ?_))).2;rw [kz,<- hy];exact T6 ke
    have qi:=a.disk.held X s.o.2.2.2.2.2 k (by rw [kz];exact ke);rw [kv,E] at qi;have kc:=a.got R ha b;have q5:pd wr.drew v p D L G ps'.ps ps'.ho A F:=kc.vol.below ((TW _ wr).drew) lR;obtain ⟨ca,_⟩:=kc.arc.cells;have cz:=kh.cell (j:=1) (u:=Z7 Z9 (n:Nat)) rfl;have qg:=dI q5.vol (by have:=hr.d;omega);rw [I] at qg;obtain ⟨K,qc⟩:=nM (min (n-c) sz);have xc:∀ qr ty w,(Builtin.min_ qr ty #[Z7 Z9 ((n:Int)-(c:Int)),Z7 Z9 (sz:Nat)]).run ZM w=.ok (Z7 Z9 (K:Nat)) w:=λqr ty w=>by
     rw [iX];by_cases h1:((sz:Nat):Int)<(n:Int)-(c:Int)
     . rw [TT h1,show K=sz by omega]
     . rw [TS h1,show (K:Int)=(n:Int)-(c:Int) by omega]
    have kb:=a.vol.n;have qx:(K+43)/44<=D:=(by omega);have kj:(dA D d k).length=K:=(by unfold dA;rw [Uo,Un,I,B,C];omega);have kr:qu wr.drew r v y g A.n p D L G Kind ps' A F (dA D d k):=
     { vol:=q5,nN:=kb,hol:=by rw [kb];exact b.hol,kit:=ps'.keep _ _ b.kit (λ_ _=>rfl),kind:=b.kind,apt:=λj T=>⟨(kc.apt j T).1,(kc.apt j T).2.2.1,(kc.apt j T).2.2.2⟩,vr:=λe=>by have:=a.vol.vol.lt;omega,vg:=λe=>by have:=a.vol.vol.lt;omega,rg:=xi,gF:=λe=>by have:=M _ e;omega,rF:=λe=>by have:=M _ e;omega,rK:=by have:=a.vol.room;omega,vK:=a.vlt.1,gK:=by have:=a.vol.room;omega,nb:=x5,cw:=qi,len:=by rw [kj];omega,fine:=a.fine,byt:=λz hz=>s.o.2.1.byt z (by rw [E];exact UZ (UV hz)) }
    have qp:=CV kr HV.o.sh (N.keep rfl) (he.of_block rfl) kj.symm (m:=(K+43)/44) rfl qx;have q0:dA D d k=(d.drop c).take sz:=(by unfold dA;rw [I,B]);have Z:=hide15 Q N he f qp qg M B b kb a.vol.vol.lt hl kj qc q0;rw [B] at qv f ⊢;have xb:K<=528:=(by omega);have xo:IntKind.i64.wrap ((k:Int)+1)=(k:Int)+1:=(by rw [Ux];omega);have xp:IntKind.i64.wrap ((n:Int)-(c:Int))=(n:Int)-(c:Int):=(by rw [Ux];omega);clear Q b kc kr qh N he f qp qg M B q5 qk qo hy R kh ha I V a qm xe kz hr qc qx kb hl x5 qi kv kj q0 E C;go_wp2;go_region_with (first
     | (go_at_call 100;refine Z.o.2.2.2.2.2.1.mono ?_;rintro e wq ⟨rfl,rfl⟩)
     | (go_at_call 99;refine Z.o.2.2.2.2.1.mono ?_;rintro e w6 U;obtain ⟨u2,x7,x4,_⟩:=U.ans;have H6:=al U x4;subst x7;clear U x4))
    all_goals (
     obtain ⟨U,ki⟩:=H6.o;have hp:w6.ownsRow w2.heap.size 5 1 (.slice pa c pc) c (aJ l):=by
      obtain ⟨_,N,he,f,_,_,M,B,b,_⟩:=Z.o;rw [B] at f;exact N7 (aq f ((TW _ wr).drew)) (N.keep rfl) (he.of_block rfl) (by rw [b.psE];exact b.vol) (ps'.keep _ _ b.kit (λ_ _=>rfl)) U.out M
     obtain ⟨l2,a⟩:=nM (dA D d k);have hs:Src ZM 1 40 u2 K (aJ l2) w6:=by
      have:=II ki;rw [Z.o.2.2.2.2.2.2.2.2.2.2.2.2.1,a] at this;exact this
     have HO:=a5 hp hs (TV Z.o.1.out.size U.out.size) a;clear hp hs U a ki;go_wp2_with (at_builtin;refine ae _ rfl (Z0 75) (Z0 76) 40 40 rfl w2.heap.size 5 ib (Z7 .u8 0) 1 1 Um qs kk km ko rfl (.slice pa c pc) c (aJ l) (by rfl) (by exact HO.o.1) _ (by rfl) K (aJ l2) (by exact HO.o.2.1) (by unfold maxLen;omega) (by omega) (by exact HO.o.2.2.1) ?_;intro v7 w7 x0 qq q6;have H7:=al x0 qq;clear x0 qq q6);go_roundw
     case rel=>
      obtain ⟨Q,_,_,_,_,_,M,B,b,kb,qh,hl,kj,qc,q0⟩:=Z.o;have qd:(k+1)*sz=c+sz:=(by rw [<- B];exact WW k sz);have C:=H5.o.2.2.2.2;rw [B] at Q;refine ⟨k+1,by omega,by go_num,LU Q b H6.o.1 kb HV.o.re ?_ H7.o.2 HO.o.1 M qh lR (by omega) (by omega) (by omega) (by omega)⟩;have h7:=H7.o.1;rw [qd,C,show min (c+sz) n=c+K by omega,YM,<- q0,HO.o.2.2.2,<- B,hl,bJ];rw [B];exact h7
     case measure=>simp only [intOf];omega)
  . have xa:k=S.length:=(by omega);subst xa;obtain ⟨f,_,_,⟨ps',b⟩,ha,R,_⟩:=Q;obtain ⟨_,I,V,E,C⟩:=H5.o;have qa:d.length<=S.length*sz:=(by rw [C,V,<- I];exact N6 kx.out.vol.par.d1);rw [YN qa,UI qa] at f;have q2:aa (λj=>F.S j\/j=v\/ps.bl j) w wr:=(aa.RL H.o _).trans R;have HF:=a5 (And.intro (cU f H.o.size) q2) (s.o.1.got q2 ha (b.early H.o.size)) (b.early H.o.size) E;clear f ha R q2 b qa I V E C;go_wp2;go_ret2;obtain ⟨⟨h1,h2⟩,h3,h6,E⟩:=HF.o;subst E;exact ⟨_,_,ps',rfl,⟨h3,h6.kind,h6.bl⟩,h2,.inr ⟨rfl,hx,X,s.o.2.2.2.2.2,hm,h1⟩⟩
def N9 {Kind:aN->Prop} {ps:aN} {xs:aL} (h:aS w ar v p ps D L G t pg ob P xs A F) (d:uS D L G Kind ps) (x:ByteArray) :
 ZR ZM 71 #[Z6 (ZW ⟨ar,0,ZX⟩),ZZ x] w (mn w ar v p Kind ps D L G t pg ob P xs A F x):=by
 have c:∀ n:Int,(∀ w',uT xs x w.heap.size (Z5 ZX 0 0) (An n) w')->∀ e w',As w n e w'->mn w ar v p Kind ps D L G t pg ob P xs A F x e w':=by
  rintro n f e w' ⟨rfl,b⟩;exact ⟨_,_,ps,rfl,⟨h.below b,d.kind,λ_ q=>.inl q⟩,aa.RL b _,f w'⟩
 cases hx:bY x with
 | false=>exact (LS h x hx).mono (c 6 λ_=>.inl ⟨rfl,.inl ⟨rfl,hx⟩⟩)
 | true=>
  by_cases a:x∈xs.names
  . obtain ⟨g,j,e⟩:=US a;have:xs.names.length=xs.length:=(by rw [<- eE,bh];simp [aL.os]);exact N8 h d x hx g (by omega) (by rw [<- e];simp [aL.names,aU,aL.os])
  . exact (CW h x hx a).mono (c 9 λ_=>.inl ⟨rfl,.inr ⟨rfl,hx,a⟩⟩)
section
structure mB (w:ZT) (ar v p:Nat) (ps:aN) (D L G:Nat) (A:aB) (F:aK):Prop where
 vol:pd w v p D L G ps.ps ps.ho A F
 nar:¬ F.S ar
 vlt:3<=v/\v<ar
 arl:ar<w.heap.size
 kit:ps.S w
 apt:∀ k,ps.bl k->3<=k/\k≠ar/\k≠v/\¬ F.S k
 hl:ps.ho<2^(D+L+G)
 fine:A.fine D L G
section
variable {w w':ZT} {ar v p D L G:Nat} {ps ps':aN} {A:aB} {F:aK}
def mB.below (h:mB w ar v p ps D L G A F) (a:bW w w'):mB w' ar v p ps D L G A F:=
 { h with vol:=h.vol.below a lR,arl:=T7 h.arl a.size,kit:=ps.keep _ _ h.kit λk b=>a.block k (ps.lt _ h.kit k b) }
def mB.got (h:mB w ar v p ps D L G A F) {Kind:aN->Prop} (a:aa (λj=>F.S j\/j=v\/ps.bl j) w w') (m:az w' p A F) (hK:mz w v p D L G Kind ps A ps' w'):mB w' ar v p ps' D L G A F:=by
 have i:2<3:=by decide
 have l:1<3:=by decide
 have:=h.vlt;have b:∀ k,k<3->¬ F.S k->k<w.heap.size->w'.heap[k]?=w.heap[k]?:=λk d f c=>a.block k c (λq=>by
  rcases q with q|q|q
  . exact f q
  . omega
  . have:=(h.apt k q).1;omega)
 exact { h with
  vol:={ h.vol with vol:=by rw [hK.psE];exact hK.vol,arr:=m,laid:=h.vol.laid.keep (b _ i h.vol.g h.vol.laid.lt),tab:=h.vol.tab.keep (b _ l h.vol.t h.vol.tab.lt),room:=TV h.vol.room a.size }
  arl:=T7 h.arl a.size
  kit:=hK.kit
  apt:=λk n=>by
   rcases hK.bl k n with q|q
   . exact h.apt k q
   . have:=h.arl;have:=h.vol.room;exact ⟨by omega,by omega,by omega,λe=>by have:=h.vol.arr.RN e;omega⟩
  hl:=hK.hol }
def mB.arc (h:mB w ar v p ps D L G A F) (a:aa (λj=>F.S j\/j=v\/ps.bl j) w w') {D' L' G' t f n:Nat} {pg ob:ZS} {off:Bool} (b:a9 w ar v D' L' G' t f n pg ob off):a9 w' ar v D' L' G' t f n pg ob off:=
 b.keep (a.block _ h.arl λq=>by
  rcases q with q|q|q
  . exact h.nar q
  . have:=h.vlt;omega
  . exact (h.apt _ q).2.1 rfl)
end
structure OV (A:aB) (D L G:Nat) (P l:a8):Prop where
 on:A.holds D L G P (cj D P l)
 pl:P.length=YF D l.length
 nb:∀ x∈P,x<A.nb
 le:P.length<=A.nb
 byt:∀ x∈l,x<256
def Oa {n:Nat} (e:1<=D) {k:Nat} (d:k<pgs D n):k*(D*44-4)<=n:=by
 unfold pgs at d;by_cases a:k=0
 . subst a;omega
 . have b:k<(n+(D*44-4)-1)/(D*44-4):=(by omega);have hs:0<D*44-4:=(by omega);have c:=(YH hs).1 (Nat.succ_le_of_lt b);rw [WW] at c;omega
def Oc {n:Nat} (c:1<=D):n<=pgs D n*(D*44-4):=by
 have hs:0<D*44-4:=by omega
 have a:(n+(D*44-4)-1)/(D*44-4)<=pgs D n:=YG _ _;have:=WU (D*44-4) a;have b:=Nat.div_add_mod (n+(D*44-4)-1) (D*44-4);have:=V5 (n+(D*44-4)-1) hs;rw [Wx] at b;omega
def EX (P l:a8) (k:Nat):(cj D P l k).length=4+min (l.length-k*(D*44-4)) (D*44-4):=by
 unfold cj;rw [Ua,aD,Uo,Un,Nat.min_comm]
def IK (w:ZT) (pb po n:Nat) (page:a8):Prop:=∀ q,q<n->w.cell? ⟨pb,po+q,ZX⟩=ZW (Z7 .u8 ((page.getD q 0:Nat):Int))
def IK.grown {pb n:Nat} {row:Option Nat} (h:IK w pb po n page) (b:w.grownBy w' row) (a:row≠ZW pb):IK w' pb po n page:=λq c=>b.cell (h q c) (λe=>a e.symm)
def IK.alloc {pb n:Nat} (h:IK w pb po n page) (o:Obj):IK (w.alloc o) pb po n page:=h.grown (abd w o ZX) (λe=>by cases e)
theorem IK.src {pb:Nat} (h:IK w pb po (4+sk) page) (hl:page.length=4+sk):Src ZM 1 40 (Z5 (ZW ⟨pb,po+4,ZX⟩) sk sk) sk (aJ (page.drop 4)) w:=by
 refine Vi w Um ⟨pb,po+4,ZX⟩ sk sk (aJ (page.drop 4)) (by rw [aW,Un,hl];omega) (λq u a=>?_) (λu f=>by obtain ⟨x,_,rfl⟩:=T9.1 f;rfl);have g:q<sk:=by
  have:=(U9.1 a).1;rw [aW,Un,hl] at this;omega
 have d:=h (4+q) (by omega);have e:(Value.int .u8 ((page.getD (4+q) 0:Nat):Int))=u:=by
  unfold aJ at a;rw [UG,Wi,Uc (by omega)] at a;simp at a;rw [<- a];simp [Ub,show 4+q<page.length by omega]
 have b:w.cell? ⟨pb,po+4+q,ZX⟩=ZW u:=by rw [<- e,Vq];exact d
 unfold Addr.add;split
 . rename_i c;subst c;exact b
 . exact b
def IK.src0 {pb:Nat}:Src ZM 1 40 (Z5 (ZW ⟨pb,po,ZX⟩) 0 0) 0 [] w:=Vi w Um ⟨pb,po,ZX⟩ 0 0 [] rfl (λq u a=>by simp at a) (λu b=>by cases b)
def IK.head {pb n x:Nat} (h:IK w pb po n page) (e:4<=n) (b:4<=c) (d:page.take 4=be x 4):Bs w (Z5 (ZW ⟨pb,po,ZX⟩) 4 c) (be x 4):=by
 refine ⟨ZW ⟨pb,po,ZX⟩,c,by rw [aD],by rw [aD];exact b,by rw [aD];decide,qG _ _,λ_=>⟨pb,po,rfl,λq a=>?_⟩⟩;rw [aD] at a;rw [h q (by omega),<- d];have:(page.take 4).getD q 0=page.getD q 0:=by
  rw [Ub,Ub,VF a]
 rw [this]
structure RE (w:ZT) (v p r g N sz n1 f1 D L G:Nat) (Kind:aN->Prop) (ps:aN) (A:aB) (F:aK) (P l:a8) (D1 L1 G1 t1 k:Nat) (up uq:ZS) (wr:ZT):Prop where
 pk:wr.ownsRow w.heap.size 5 1 up (min (k*sz) n1) (aJ (l.take (k*sz)))
 pg:wr.ownsRow w.heap.size 3 1 uq k (jR (P.take k))
 rd:∃ b gone sp,eh wr r v b g N gone sp
 row:∃ f,wr.rowIs g 40 N f
 kit:∃ ps',mz w v p D L G Kind ps A ps' wr
 arr:az wr p A F
 out:aa (λj=>F.S j\/j=v\/ps.bl j) w wr
 box:wr.heap[w.heap.size]?=ZW (Z4 (aj D1 L1 G1 t1 f1 n1) 142 (0,0))
def aat (w:ZT) (v p r g N sz n1 f1 D L G:Nat) (Kind:aN->Prop) (ps:aN) (A:aB) (F:aK) (P l:a8) (D1 L1 G1 t1 K:Nat) (up uq nx i:ZS) (wr:ZT):Prop:=∃ k:Nat,k<=K/\i=Z7 Z9 k/\nx=Z7 Z9 ((P.getD k 0:Nat):Int)/\RE w v p r g N sz n1 f1 D L G Kind ps A F P l D1 L1 G1 t1 k up uq wr
def EY:¬ jP 3:=by unfold jP;decide
def Od:¬ jP 142:=by unfold jP;decide
def LV {Kind:aN->Prop} {ps ps':aN} (a:RE w v p r g N sz n1 f1 D L G Kind ps A F P l D1 L1 G1 t1 k up uq wr) (hK:mz w v p D L G Kind ps A ps' wr) (hD:mj wr.drew r v y g N p D L G Kind ps' A F dl e w5) (B:N=D+L+G) (re:∀ ps h,Kind ps->Kind (ps.SG h)) (i:∀ k,F.S k->k<w.heap.size) (I:v<w.heap.size) (hr:w.heap.size<r) (M:w.heap.size<g):aa (λj=>F.S j\/j=v\/ps.bl j) w w5/\(∃ b,mz w v p D L G Kind ps A b w5)/\w5.heap[w.heap.size]?=ZW (Z4 (aj D1 L1 G1 t1 f1 n1) 142 (0,0))/\(∀ {T:ZO} {s n:Nat} {u:ZS} {xs:List ZS},wr.ownsRow w.heap.size T s u n xs->¬ jP T->T≠200->T≠40->w5.ownsRow w.heap.size T s u n xs):=by
 have:w.heap.size<=wr.heap.size:=a.out.size;have:wr.drew.heap.size=wr.heap.size:=rfl;obtain ⟨_,_,_,z⟩:=a.rd;obtain ⟨f0,o⟩:=a.row;refine ⟨(a.out.trans (aa.drew _)).later hD.out λj m h=>?_,?_,?_,?_⟩
 . rcases h with h|h|h|h|h
   . omega
   . omega
   . exact .inr (.inl h)
   . exact .inl h
   . rcases hK.bl j h with q|q
     . exact .inr (.inr q)
     . omega
 . obtain ⟨b,hl,k1,k2,k3,k4,E,H⟩:=hD.kit;refine ⟨b.SG hl,re _ _ k1,k2.trans hK.psE,k3,by rw [<- hK.psE];exact k4,by rw [<- B];exact E,λj m=>?_⟩;rcases H j m with q|q
   . exact hK.bl j q
   . exact .inr (by omega)
 . refine (hD.out.block _ (T5.1 a.box).1 (λh=>?_)).trans a.box;rcases h with h|h|h|h|h
   . omega
   . omega
   . omega
   . have:=i _ h;omega
   . exact bU hK.kit a.box Od h
 . intro T s n u xs ho d f t;refine bR (show wr.drew.ownsRow w.heap.size T s u n xs from ho) hD.out λq c h=>?_;rcases h with h|h|h|h|h
   . subst h;obtain ⟨cs,x,_⟩:=o;exact bC ho x t c
   . subst h;exact bC ho z f c
   . subst h;have:=ef ho c;omega
   . have d:=i q h;have:=ef ho c;omega
   . obtain ⟨cur,C⟩:=bw ho c;exact bU hK.kit C d h
theorem LX {x pl:Nat} {Kind:aN->Prop} {ps ps':aN} {v6:ZS} (W:RE w v p r g N sz n1 f1 D L G Kind ps A F P l D1 L1 G1 t1 k up uq wr) (hK:mz w v p D L G Kind ps A ps' wr) (hD:mj wr.drew r v y g N p D L G Kind ps' A F dl e w5) (X:N=D+L+G) (re:∀ ps h,Kind ps->Kind (ps.SG h)) (Q:∀ k,F.S k->k<w.heap.size) (k0:v<w.heap.size) (hr:w.heap.size<r) (E:w.heap.size<g)
 (U:k<P.length) (hx:P.getD k 0=x) (K:w5.ownsRow w.heap.size 3 1 uq k (jR (P.take k))) (V:w6.ownsRow w.heap.size 3 1 v6 (k+1) (jR (P.take k)++[Z7 Z9 (x:Int)])) (m:(w5.alloc o).grownBy w6 uq.ownBlock) (C:w6.ownsRow w.heap.size 5 1 up pl (aJ (l.take pl))) (hv:w7.ownsRow w.heap.size 5 1 v7 (pl+sk) (aJ (l.take pl)++aJ ((l.drop pl).take sz))) (c:w6.grownBy w7 up.ownBlock)
 (hy:k*sz=pl) (k7:min (n1-pl) sz=sk) (k5:pl<=n1):RE w v p r g N sz n1 f1 D L G Kind ps A F P l D1 L1 G1 t1 (k+1) v7 v6 w7:=by
 obtain ⟨R,⟨n,i⟩,I,_⟩:=LV W hK hD X re Q k0 hr E;have k8:w.heap.size<=w5.heap.size:=R.size;have k9:w5.heap.size+1<=w6.heap.size:=by have:=m.size;simp at this;omega
 have M:=K.alloc o;have u:∀ {q:Nat} {cs:Array ZS} {T:ZO} {z:Nat×Nat},w5.heap[q]?=ZW (Z4 cs T z)->3≠T->5≠T->w7.heap[q]?=w5.heap[q]?:=by
  intro q cs T z s t B;have hz:q<w5.heap.size:=(T5.1 s).1;have b:(w5.alloc o).heap[q]?=w5.heap[q]?:=UB _ _ _ hz;have d:w6.heap[q]?=(w5.alloc o).heap[q]?:=m.block q (by simp;omega) (λe=>by
   obtain ⟨cur,a⟩:=bw M e.symm;rw [b.trans s] at a;simp only [UD,UP] at a;exact t a.2.1.symm)
  refine (c.block q (by omega) (λe=>?_)).trans (d.trans b);obtain ⟨cur,a⟩:=bw C e.symm;rw [(d.trans b).trans s] at a;simp only [UD,UP] at a;exact B a.2.1.symm
 have J:∀ q,q<w.heap.size->w7.heap[q]?=w5.heap[q]?:=λq s=>by
  have b:(w5.alloc o).heap[q]?=w5.heap[q]?:=UB _ _ _ (by omega);have d:w6.heap[q]?=(w5.alloc o).heap[q]?:=m.block q (by simp;omega) (λe=>by have:=ef M e.symm;omega);exact (c.block q (by omega) (λe=>by have:=ef C e.symm;omega)).trans (d.trans b)
 have Z:(k+1)*sz=pl+sz:=by rw [WW,hy]
 obtain ⟨gone,sp,O⟩:=hD.rd;refine ⟨?_,?_,⟨y,gone,sp,O.keep (u O (by decide) (by decide))⟩,?_,⟨n,{ i with kit:=n.keep _ _ i.kit (λj H=>?_),vol:=i.vol.keep (u i.vol (by decide) (by decide)) }⟩,hD.arr.keep λq s=>J q (Q q s),?_,(u I (by decide) (by decide)).trans I⟩
 . rw [Z,YM,bJ,show min (pl+sz) n1=pl+sk by omega];exact hv
 . have e:jR (P.take (k+1))=jR (P.take k)++[Z7 Z9 (x:Int)]:=by
    have E:P.getD k 0=P[k]:=(by simp [Ub,U]);rw [Vd,Uc U,<- hx,E];unfold jR;rw [Uv];rfl
   rw [e];refine V.kept c ?_;cases h8:v6.ownBlock with
   | none=>exact .inl rfl
   | some q=>
    refine .inr λe=>?_;obtain ⟨cur,Y⟩:=bw V h8;exact bC C Y (by decide) e.symm
 . obtain ⟨f,cs,t,B⟩:=hD.row;exact ⟨f,cs,(u t (by decide) (by decide)).trans t,B⟩
 . have hs:=n.lt _ i.kit j H;have b:(w5.alloc o).heap[j]?=w5.heap[j]?:=UB _ _ _ hs;have d:w6.heap[j]?=(w5.alloc o).heap[j]?:=m.block j (by simp;omega) (λe=>by
    obtain ⟨cur,a⟩:=bw K e.symm;exact bU i.kit a EY H)
   refine (c.block j (by omega) (λe=>?_)).trans (d.trans b);obtain ⟨cur,a⟩:=bw C e.symm;rw [d.trans b] at a;exact bU i.kit a oN H
 . exact R.later (T:=λq=>w.heap.size<=q) ⟨c.os.trans (m.os.trans rfl),c.tape.trans (m.tape.trans rfl),c.output.trans (m.output.trans rfl),by have:=c.size;omega,λq _ k6=>J q (by omega)⟩ (λq t B=>by omega)
structure Oe (w:ZT) (v p D L G:Nat) (Kind:aN->Prop) (ps:aN) (A:aB) (F:aK) (P l:a8) (e:ZP) (w':ZT):Prop where
 kit:∃ ps',mz w v p D L G Kind ps A ps' w'
 arr:az w' p A F
 out:aa (λj=>F.S j\/j=v\/ps.bl j) w w'
 ans:∃ up uq,e=Z3 (ZY #[up,uq,.nilIface])/\Bs w' up l/\w'.ownsRow w.heap.size 3 1 uq P.length (jR P)
structure RpD (w w4 w5:ZT) (r v y g N p D L G:Nat) (Kind:aN->Prop) (ps':aN) (A:aB) (F:aK) (sk pl k sz nx' pb po pc:Nat) (pa:Option ZQ) (u5:ZS) (page l P:a8) (e:ZP):Prop where
 dt:mj w4 r v y g N p D L G Kind ps' A F page e w5
 pk5:w5.ownsRow w.heap.size 5 1 (.slice pa pl pc) pl (aJ (l.take pl))
 pg5:w5.ownsRow w.heap.size 3 1 u5 k (jR (P.take k))
 cell:IK w5 pb po (4+sk) page
 len:page.length=4+sk
 pg1:page.take 4=be nx' 4
 pg2:page.drop 4=(l.drop pl).take sz
 bq:(Value.slice pa pl pc).ownBlock=ZX\/(Value.slice pa pl pc).ownBlock≠u5.ownBlock
 pq:u5.ownBlock≠ZW pb
 pp:(Value.slice pa pl pc).ownBlock≠ZW pb
 mul:k*sz=pl
theorem vV {Kind:aN->Prop} {ps:aN} (ho:mB w ar v p ps D L G A F) (s:a9 w ar v D' L' G' t f nn pg ob off) (hv:uS D L G Kind ps) (x8:A.nb<=1000) (Z:OV A D L G P l) :
 ZR ZM 154 #[Z6 (ZW ⟨ar,0,ZX⟩),.agg (aj D1 L1 G1 t1 (P.getD 0 0) l.length)] w (Oe w v p D L G Kind ps A F P l):=by
 obtain ⟨ib,x6,ki,kj,kk⟩:=Ut Tryz.R5;obtain ⟨ii,xn,qf,qg,qh⟩:=Ut Tryz.Sr;have q1:=ho.vol.par.d1;have qb:=ho.vol.par.d;have ky:=ho.vol.vol.lt;have xd:=ho.vol.room;have X:=ho.vol.n;have b:∀ k,F.S k->k<w.heap.size:=λk hk=>ho.vol.arr.RN hk;have c:=Oc (n:=l.length) q1;have x0:P.length<=1000:=TV Z.le x8;have qn:l.length<=524000:=by
  rw [<- Z.pl] at c;exact TV c (TV (Xe x0 (show D*44-4<=524 by omega)) (by decide))
 obtain ⟨n1,q2⟩:=nM (l.length);obtain ⟨f1,qc⟩:=nM (P.getD 0 0);obtain ⟨K,kc⟩:=nM (P.length);have hK:pgs D n1=K:=by rw [<- kc,Z.pl,q2]
 rw [q2] at c qn ⊢;rw [qc];rw [kc] at x0;have HP:=a5 Z q2 qc kc;clear Z q2;have E:(w.alloc (Z4 (aj D1 L1 G1 t1 f1 n1) 142)).heap[w.heap.size]?=ZW (Z4 (aj D1 L1 G1 t1 f1 n1) 142 (0,0)):=Ug _ _;have C:bW w (w.alloc (Z4 (aj D1 L1 G1 t1 f1 n1) 142)):=bA w _;have q4:(w.alloc (Z4 (aj D1 L1 G1 t1 f1 n1) 142)).heap.size=w.heap.size+1:=by simp
 obtain ⟨w1,qy⟩:=nM (w.alloc (Z4 (aj D1 L1 G1 t1 f1 n1) 142));rw [qy] at E C q4;have cl:w1.cell? ⟨w.heap.size,5,ZX⟩=ZW (Z7 Z9 n1):=by simp [World.cell?,E,aj]
 have cf:w1.cell? ⟨w.heap.size,4,ZX⟩=ZW (Z7 Z9 f1):=by simp [World.cell?,E,aj]
 have V:=s.keep (C.block _ s.lt);have H:=ho.below C;obtain ⟨d0,_⟩:=V.cells;have qq:=ja V H.vol.vol q1 (by omega) n1 (by omega);have q9:=jq H.vol.vol H.vol.arr (by omega);obtain ⟨NB,y⟩:=nM (A.nb);rw [y] at x8;have xj:K<=NB:=by rw [<- y,<- kc];exact HP.o.1.le
 rw [hK] at qq;rw [y] at q9;have O:=hide9 V H E C q4 qq q9 hK y;have y0:w.alloc (Z4 #[Z7 Z9 D1,Z7 Z9 L1,Z7 Z9 G1,Z7 Z8 t1,Z7 Z9 f1,Z7 Z9 n1] 142)=w1:=qy;have HV:=a5 ho s b ky;clear ho s E C V H qq q9 q4 qy hK y b kc qc;unfold aj;go_enter func154,ntmps154;go_wp2_with fail;refine O.o.2.2.2.2.2.1.mono ?_;rintro e w2 ⟨rfl,J⟩;obtain rfl:w1=w2:=J.symm;clear J;go_wp2_with fail;refine O.o.2.2.2.2.2.2.1.mono ?_;rintro e w2 ⟨rfl,J⟩;obtain rfl:w1=w2:=J.symm;clear J;have y3:¬ NB<K:=by omega
 have y4:¬ (K:Int)>(NB:Int):=by omega
 have ks:=qt (O.o.2.1.vol.vol.keep (w':=w1.drew) rfl) qb O.o.2.1.vol.par.l4 O.o.2.1.vol.par.g X;go_upto_region 4 with fail;go_cut [8,9] from 25 to 31 (λv8 v9 wx=>v8=Z7 Z9 (f1:Int)/\v9=Z6 (ZW ⟨w1.heap.size+2,0,ZX⟩)/\eh wx (w1.heap.size+2) v 0 (w1.heap.size+1) A.n 0 0/\wx.rowIs (w1.heap.size+1) 40 A.n vR/\bW w1 wx)
 case first=>
  go_region_with (go_at_call 83;refine ks.mono ?_;rintro e w3 ⟨rfl,xb,T,N⟩;have Q:=aE xb T N;clear xb T N;have hd:w3.cell? ⟨w.heap.size,4,ZX⟩=ZW (Z7 Z9 f1):=(Q.o.2.2.cell (p:=⟨w.heap.size,4,ZX⟩) (Uf cf)).trans cf);all_goals (go_wp2_with fail;go_meet;case rel=>exact ⟨rfl,rfl,Q.o.1,Q.o.2.1,(TW _ w1).drew.trans Q.o.2.2⟩)
 case rest=>
  obtain ⟨rfl,rfl,k9,T,N⟩:=hcut;rename ZT=>w3;obtain ⟨V,H,E,C,q4,y1,y2,hK,y⟩:=O.o;clear y1 y2 ks;have kf:=(N.block _ (by omega)).trans E;obtain ⟨ho,s,b,_⟩:=HV.o;have x1:aa (λj=>F.S j\/j=v\/ps.bl j) w w3:=aa.RL (C.trans (N.mono (by omega))) _;have kp:=H.below N;obtain ⟨r,qv⟩:=nM (w1.heap.size+2);obtain ⟨g,qe⟩:=nM (w1.heap.size+1);rw [qv,qe] at k9;rw [qe] at T;rw [qv];have xk:r≠g:=by omega
  have y5:w.heap.size+1<g:=by omega
  have y7:w.heap.size+1<r:=by omega
  obtain ⟨sz,kx⟩:=nM (D*44-4);have qz:RE w v p r g A.n sz n1 f1 D L G Kind ps A F P l D1 L1 G1 t1 0 (Z5 ZX 0 0) (Z5 ZX 0 0) w3:=
   ⟨by rw [aaD,Nat.zero_min,WG];exact UK _ _ _ _,UK _ _ _ _,⟨0,0,0,k9⟩,⟨_,T⟩,⟨ps,hv.kind,rfl,kp.kit,kp.vol.vol,kp.hl,λ_ q=>.inl q⟩,kp.vol.arr,x1,kf⟩
  have Q:=ak qz;have xz:40<=sz/\sz<=524:=by omega
  rw [hK,kx] at c;have km:∀ k,k<K->k*sz<=n1:=λk hk=>by
   have:=Oa (n:=n1) q1 (k:=k) (by omega);rw [kx] at this;exact this
  have HK:=a5 hK y c km;clear V H E C k9 T kp kf x1 N qz cl cf d0 qv qe hK y c km ho s b;go_wp2_with fail;go_loopw [4,5,8,33] (λup uq nx i wr=>aat w v p r g A.n sz n1 f1 D L G Kind ps A F P l D1 L1 G1 t1 K up uq nx i wr) (λ_ _ _ i _=>K-(intOf i).toNat)
  case atStart=>exact ⟨0,T8 _,rfl,by rw [HP.o.2.2.1],Q.o⟩
  case round=>
   obtain ⟨k,y6,rfl,rfl,B⟩:=hrel;by_cases qk:k<K
   . have qj:=HK.o.2.2.2 k qk;obtain ⟨z,kr,⟨b0,gone,sp,xc⟩,⟨f0,kv⟩,⟨ps',kz⟩,hh,Y,ke⟩:=id B;rw [Wj qj] at z;have x7:k<P.length:=(by rw [HP.o.2.2.2];exact qk);obtain ⟨x,I⟩:=nM (P.getD k 0);have xh:x<A.nb:=(by rw [<- I];exact HP.o.1.nb _ (lM x7));rw [I];obtain ⟨pa,pc,rfl⟩:=bj z;obtain ⟨pl,hs⟩:=nM (k*sz);obtain ⟨ho,s,b,_⟩:=HV.o;have qp:=ho.got Y hh kz;have q5:=ho.arc Y s;obtain ⟨ca,_⟩:=q5.cells;have cn:wr.cell? ⟨w.heap.size,5,ZX⟩=ZW (Z7 Z9 n1):=(by simp [World.cell?,ke,aj]);have qs:=j7 (w:=wr.drew) (q5.keep rfl) (qp.vol.vol.keep rfl) q1 (by omega);rw [kx] at qs;obtain ⟨sk,xe⟩:=nM (min (n1-pl) sz);rw [hs] at qj z ⊢;have qm:∀ W ty w,(Builtin.min_ W ty #[Z7 Z9 ((n1:Int)-(pl:Int)),Z7 Z9 (sz:Nat)]).run ZM w=.ok (Z7 Z9 (sk:Nat)) w:=λW ty w=>by
      rw [iX];by_cases h1:((sz:Nat):Int)<(n1:Int)-(pl:Int)
      . rw [TT h1,show sk=sz by omega]
      . rw [TS h1,show (sk:Int)=(n1:Int)-(pl:Int) by omega]
     have xq:IntKind.i64.wrap ((n1:Int)-(pl:Int))=(n1:Int)-(pl:Int):=(by rw [Ux];omega);have hm:(cj D P l k).length=4+sk:=(by rw [EX,kx,hs,HP.o.2.1,<- xe]);have h:=qp.below ((TW _ wr).drew);have xf:qu wr.drew r v x g A.n p D L G Kind ps' A F (cj D P l k):=
      { vol:=h.vol,nN:=X,hol:=by rw [X];exact h.hl,kit:=h.kit,kind:=kz.kind,apt:=λj hj=>⟨(h.apt j hj).1,(h.apt j hj).2.2.1,(h.apt j hj).2.2.2⟩,vr:=by omega,vg:=by omega,rg:=xk,gF:=λe=>by have:=b _ e;omega,rF:=λe=>by have:=b _ e;omega,rK:=by omega,vK:=h.vlt.1,gK:=by omega,nb:=xh,cw:=by rw [<- I];exact HP.o.1.on k x7,len:=by rw [hm];omega,fine:=h.fine,byt:=tR HP.o.1.byt P k }
     have x4:=CV xf hv.sh (xc.keep rfl) (kv.of_block rfl) hm.symm (m:=(4+sk+43)/44) rfl (by omega);have R:=a5 B kz b ky;have HR:=hide7 x4 z kr hs hm I qs;clear B kz b x4 z kr hs qs xf qp h q5 ho s xc kv hh Y ke hm I xh;go_upto_region 7 with fail;go_cut [10] from 35 to 42 (λv10 wx=>v10=Z7 Z9 (sk:Int)/\wx=wr.drew)
     case first=>
      go_region_with (go_at_call 141;refine HR.o.2.2.2.2.2.2.mono ?_;rintro e wq ⟨rfl,rfl⟩);all_goals (go_wp2_with fail;go_meet;case rel=>exact ⟨rfl,rfl⟩)
     case rest=>
      obtain ⟨rfl,rfl⟩:=hcut;clear ca cn qm xq;have y8:IntKind.i64.wrap ((4:Int)+(sk:Int))=(4:Int)+(sk:Int):=(by rw [Ux];omega);go_wp2_with fail;rw [show (4:Int)+(sk:Int)=((4+sk:Nat):Int) by omega];refine HR.o.1.mono ?_;intro e w5 kb;have ko:=LV R.o.1 R.o.2.1 kb X hv.re R.o.2.2.1 ky (by omega) (by omega);obtain ⟨u,rfl,x3,x5,kg⟩:=kb.ans;obtain ⟨_,k7,k5,hs,U,I,_⟩:=HR.o;obtain ⟨ao,uc,hu,xg,_,qa,h7⟩:=id x3;rw [U] at hu xg h7;obtain ⟨pb,po,rfl,he⟩:=h7 (λe=>by rw [e] at U;have h0:(0:Nat)=4+sk:=U;omega);subst hu;have qx:uc=4+sk:=by
       obtain ⟨hb,n',xp⟩:=kg;injection xp with h1 h2 h3;omega
      subst qx;obtain ⟨x2,_,_,k0⟩:=ko;have xv:wr.heap.size<=pb:=x5 pb rfl;have k8:=k0 k7 oN (by decide) (by decide);have k6:=k0 k5 EY (by decide) (by decide);have yb:=x2.size;have q0:(cj D P l k).take 4=be (P.getD (k+1) 0) 4:=(by unfold cj;rw [VQ (by rw [aD];exact TU _),UI (by rw [aD];exact TU _)]);have q6:(cj D P l k).drop 4=(l.drop pl).take sz:=by
       unfold cj;rw [W9 (by rw [aD];exact TU _),WQ (by rw [aD];exact TU _),kx,hs];rfl
      obtain ⟨x',q3⟩:=nM (P.getD (k+1) 0);rw [q3] at q0;have y9:x'<4294967296:=by
       rw [<- q3];by_cases h9:k+1<P.length
       . have:=HP.o.1.nb _ (lM h9);have h8:=HK.o.2.1;omega
       . simp [Ub,Vj (by omega:P.length<=k+1)]
      have qo:fR (be x' 4)=x':=ld x' 4 (by omega) (by omega);obtain ⟨page,hr⟩:=nM (cj D P l k);rw [hr] at kb q0 q6 U he;have a:b9 (RpD w wr.drew w5 r v x g A.n p D L G Kind ps' A F sk pl k sz x' pb po pc pa u5 page l P _):=ak ⟨kb,k8,k6,he,U,q0,q6,by
       cases h8:(Value.slice pa pl pc).ownBlock with
       | none=>exact .inl rfl
       | some q=>
        refine .inr λe=>?_;obtain ⟨cur,hf⟩:=bw k8 h8;exact bC k6 hf (by decide) e.symm,λe=>by
       obtain ⟨cur,hf⟩:=bw k5 e;have:=(T5.1 hf).1;omega,λe=>by
       obtain ⟨cur,hf⟩:=bw k7 e;have:=(T5.1 hf).1;omega,hs⟩
      have HX:=al I q3;clear kb k8 k6 he U qa q3 I x2 k0 k7 k5 hs x3 h7 x5 kg xg HR q0 q6 hr;have ya:IntKind.i64.wrap (x':Int)=(x':Int):=(by rw [Ux];omega);have xy:sk<=1000000:=(by omega);by_cases xx:sk=0;subst xx;rotate_left
      all_goals (
       go_wp2_with (first
        | (show wpList _ _ _ ({ dst:=ZW 57,op:=_,type:=_,pos:=_,after:=_,guard:=_ }::_) _ _;refine Yq _ rfl (Z0 54) (Z0 56) 48 rfl w.heap.size 3 ii (Z7 Z9 0) 1 8 aaK xn qf qg qh rfl (by decide) u5 k (jR (P.take k)) rfl (by exact a.o.pg5.alloc _) ⟨w5.heap.size,0,ZX⟩ 1 1 _ rfl rfl (nG w5 _ _) (by intro u hu;simp at hu;subst hu;rfl) (by unfold maxLen;omega) (by omega) (by simp;omega) ?_;intro v6 w6 x9 kh xm q7;have M:=a5 x9 kh ((a.o.pk5.alloc _).kept kh a.o.bq) ((a.o.cell.alloc _).grown kh a.o.pq);have xi:=kh.size;clear x9 kh xm q7)
        | (show wpList _ _ _ ({ dst:=ZW 61,op:=_,type:=_,pos:=_,after:=_,guard:=_ }::_) _ _;(first|(refine ae _ rfl (Z0 58) (Z0 60) 40 40 rfl w.heap.size 5 ib (Z7 .u8 0) 1 1 Um x6 ki kj kk rfl (.slice pa pl pc) pl (aJ (l.take pl)) (by rfl) (by exact M.o.2.2.1) _ (by rfl) 0 ([]) (by exact IK.src0) (by unfold maxLen;omega) (by omega) (by simp at xi;omega) ?_)|(refine ae _ rfl (Z0 58) (Z0 60) 40 40 rfl w.heap.size 5 ib (Z7 .u8 0) 1 1 Um x6 ki kj kk rfl (.slice pa pl pc) pl (aJ (l.take pl)) (by rfl) (by exact M.o.2.2.1) _ (by rfl) sk (aJ (page.drop 4)) (by exact M.o.2.2.2.src a.o.len) (by unfold maxLen;omega) (by omega) (by simp at xi;omega) ?_));intro v7 w7 xa qd q8;have H7:=aE xa qd (M.o.2.2.2.grown qd a.o.pp);clear xa qd q8))
       refine (ze _ (be x' 4) w7 (H7.o.2.2.head (by omega) (by omega) a.o.pg1)).mono ?_;rintro e w8 ⟨rfl,J⟩;obtain rfl:w7=w8:=J.symm;clear J;rw [qo];go_wp2;go_roundw
       case rel=>
        obtain ⟨B,hK,b,ky⟩:=R.o;rw [a.o.mul] at B;exact ⟨k+1,by omega,by go_num,by rw [HX.o.2],LX B hK a.o.dt X hv.re b ky (by omega) (by omega) (by rw [HP.o.2.2.2];exact qk) HX.o.1 a.o.pg5 M.o.1 M.o.2.1 M.o.2.2.1 (by have h9:=H7.o.1;rw [<- a.o.pg2];first|exact h9|(rw [show page.drop 4=[] from Yd.1 (by rw [Un,a.o.len])];exact h9)) H7.o.2.1 a.o.mul xe qj⟩
       case measure=>simp [intOf];omega)
   . have xo:k=K:=(by omega);subst xo;have R:=ak B;clear B;go_wp2;go_ret3
     obtain ⟨z,kr,_,_,qi,hh,Y,_⟩:=R.o;obtain ⟨hK,y,c,_⟩:=HK.o;rw [YN c,UI (by rw [HP.o.2.1];exact c)] at z;rw [UI (by rw [HP.o.2.2.2];exact TU _)] at kr;refine ⟨qi,hh,Y,_,_,rfl,?_,by rw [HP.o.2.2.2];exact kr⟩;rw [<- HP.o.2.1] at z;exact Bs.Sd z HP.o.1.byt (by rw [HP.o.2.1];omega)
end
section
def oO (os:List Ob):∀ x∈an os,x<256:=by
 intro x a;unfold an at a;obtain ⟨o,_,a⟩:=XL.1 a;unfold bM at a;simp only [Ui] at a;rcases a with ((h|h)|h)|h
 . exact qG _ _ x h
 . unfold fL at h;rcases Ui.1 h with h|h
   . obtain ⟨b,_,rfl⟩:=T9.1 h;exact b.toNat_lt
   . rw [Vz h];decide
 . exact qG _ _ x h
 . obtain ⟨s,_,h⟩:=XL.1 h;exact qG _ _ x h
def di (w:ZT) (ar v p:Nat) (ps:aN) (D L G t:Nat) (xs:aL) (A:aB) (F:aK) (Q:Int->Prop) (N:aL->Prop) (e:ZP) (w':ZT):Prop:=
 ∃ er t' pg ob P' xs' B,e=Z3 er/\aS w' ar v p ps D L G t' pg ob P' xs' B F/\dM A B/\aa (λk=>k=ar\/F.S k) w w'/\((er=.nilIface/\t'=t+1/\N xs')\/(xs'=xs/\t'=t/\∃ n,er=An n/\Q n))
def vW (D nb:Nat) (xs:aL) (x:ByteArray) (n:Nat) (k:Int):Prop:=
 (bY x=ZU/\k=6)\/(bY x=ZV/\((1500<n/\k=7)\/(n<=1500/\((x∈xs.names/\k=8)\/(x∉xs.names/\nb<(af xs.os).length+my D n+2*Ao D (an xs.os).length n+2/\k=10)))))
def vX (D nb:Nat) (xs:aL) (x:ByteArray) (d:a8) (xs':aL):Prop:=
 bY x=ZV/\d.length<=1500/\x∉xs.names/\(af xs.os).length+my D d.length+2*Ao D (an xs.os).length d.length+2<=nb/\∃ o:Ob,o.name=x/\xs'=xs.ins (o,d)
structure bZ (w w1:ZT) (ar v p:Nat) (ps:aN) (D L G t:Nat) (pg ob:ZS) (P:a8) (xs:aL) (A:aB) (F:aK) (x:ByteArray) (d fr:a8) (g cnt pgn c1:Nat):Prop where
 live:aS w ar v p ps D L G t pg ob P xs A F
 tl:t<1000000
 out:aa F.S w w1
 arr:az w1 p (A.wrTo D L G (fr.take cnt) (dA D d) cnt) F
 nm:bY x=ZV
 no:x∉xs.names
 dl:d.length<=1500
 dx:∀ b∈d,b<256
 c:cnt=my D d.length
 pn:pgn=Ao D (an xs.os).length d.length
 f:fr=(aZ (tk A.nb (P++af xs.os)).1 A.nb).take (cnt+pgn)
 fl:fr.length=cnt+pgn
 room:(af xs.os).length+cnt+2*pgn+2<=A.nb
 s:bf (λk=>ar<k/\¬ F.S k/\¬ ps.bl k) w1 (Z5 (ZW ⟨g,0,ZX⟩) cnt cnt) (fr.take cnt)
 q:bf (λk=>ar<k/\¬ F.S k/\¬ ps.bl k) w1 (Z5 (ZW ⟨g,cnt,ZX⟩) pgn c1) (fr.drop cnt)
section
variable {w w1:ZT} {ar v p D L G t:Nat} {ps:aN} {pg ob:ZS} {P:a8} {xs:aL} {A:aB} {F:aK} {x:ByteArray} {d fr:a8} {g cnt pgn c1:Nat}
def kN (x:ByteArray) (d fr:a8) (cnt:Nat):Ob:=⟨x,d.length,fr.take cnt⟩
def bZ.stl (h:bZ w w1 ar v p ps D L G t pg ob P xs A F x d fr g cnt pgn c1):(fr.take cnt).length=cnt:=by rw [Uo,h.fl];omega
def bZ.pgl (h:bZ w w1 ar v p ps D L G t pg ob P xs A F x d fr g cnt pgn c1):(fr.drop cnt).length=pgn:=by rw [Un,h.fl];omega
def bZ.apart (h:bZ w w1 ar v p ps D L G t pg ob P xs A F x d fr g cnt pgn c1):(fr++(P++af xs.os)).Nodup/\∀ b∈fr++(P++af xs.os),2<=b/\b<A.nb:=by
 rw [h.f];exact ni h.live.disk.nod h.live.disk.Tk _
def bZ.TD (h:bZ w w1 ar v p ps D L G t pg ob P xs A F x d fr g cnt pgn c1):kX D (kN x d fr cnt,d):=by
 have e:1<=x.size/\x.size<=16:=by have:=h.nm;unfold bY at this;exact WX this
 refine ⟨⟨e,h.dl,λb a=>?_,?_⟩,?_,rfl,h.dx⟩
 . have:=(h.apart.2 b (UF _ (UV a))).2;have:=h.live.nb;omega
 . show (fr.take cnt).length<=1000;rw [h.stl,h.c];have:=Ap h.live.vol.par.d1 h.dl;omega
 . show (fr.take cnt).length=_;rw [h.stl,h.c];rfl
def bZ.packed (h:bZ w w1 ar v p ps D L G t pg ob P xs A F x d fr g cnt pgn c1):(an (xs.ins (kN x d fr cnt,d)).os).length=(an xs.os).length+(19+4*cnt):=by
 rw [Ip];have e:(bM (kN x d fr cnt)).length=19+4*(fr.take cnt).length:=cY h.TD.fit;rw [h.stl] at e;exact Uy _ e
def bZ.kept (h:bZ w w1 ar v p ps D L G t pg ob P xs A F x d fr g cnt pgn c1):eo (λk=>ar<k/\¬ F.S k/\¬ ps.bl k) w w1:=⟨h.out.size,λk a hK=>h.out.block k a hK.2.1⟩
def LY (h:bZ w w1 ar v p ps D L G t pg ob P xs A F x d fr g cnt pgn c1) :
 ZR ZM 130 #[ob,Z7 Z9 (aI xs.names x:Nat),.agg #[ZZ x,Z7 Z9 (d.length:Nat),Z5 (ZW ⟨g,0,ZX⟩) cnt cnt]] w1 (uy (λk=>ar<k/\¬ F.S k/\¬ ps.bl k) w1 (xs.ins (kN x d fr cnt,d)).os):=by
 have hl:xs.os.length=xs.names.length:=by rw [<- eE,bh]
 have a:=CA (h.live.cat.keep h.kept) (by have:=h.live.Sj.1;omega) (λk b=>⟨by have:=h.live.arc.lt;have:=h.out.size;omega,λe=>by have:=h.live.vol.arr.RN e;have:=h.out.size;omega,λe=>by have:=ps.lt _ h.live.kit _ e;have:=h.out.size;omega⟩) (i:=aI xs.names x) (by rw [hl];exact xX _ _) (kN x d fr cnt) _ h.s;rw [Li];exact a
def bZ.n (h:bZ w w1 ar v p ps D L G t pg ob P xs A F x d fr g cnt pgn c1):vX D A.nb xs x d (xs.ins (kN x d fr cnt,d)):=⟨h.nm,h.dl,h.no,by rw [<- h.c,<- h.pn];exact h.room,_,rfl,rfl⟩
theorem EZ (h:bZ w w1 ar v p ps D L G t pg ob P xs A F x d fr g cnt pgn c1) {w2:ZT} {u:ZS} (j:eO (λk=>ar<k/\¬ F.S k/\¬ ps.bl k) w2 u (xs.ins (kN x d fr cnt,d)).os) (l:bW w1 w2) :
 ZR ZM 105 #[Z6 (ZW ⟨ar,0,ZX⟩),u,Z5 (ZW ⟨g,cnt,ZX⟩) pgn c1] w2 (di w ar v p ps D L G t xs A F (vW D A.nb xs x d.length) (vX D A.nb xs x d)):=by
 obtain ⟨oo,Z,rfl,hol,_⟩:=id j;have hr:=h.live.vol.par;have C:=h.stl;have f:=h.pgl;have i:=Qy A D L G (fr.take cnt) (dA D d) cnt;have r:aa F.S w w2:=h.out.trans (aa.RL l _);have m:=h.live.disk;have k6:1<=pgn:=by rw [h.pn];unfold Ao pgs;omega
 have W:fr.drop cnt≠[]:=λe=>by rw [e] at f;simp at f;omega
 have Q:∀ b∈fr.drop cnt,b<A.nb:=λb X=>(h.apart.2 b (UF _ (UZ X))).2;have K:=h.packed;have h4:=h.live.Sj.1;have h5:xs.os.length=xs.length:=by simp [aL.os]
 have R:(an (xs.ins (kN x d fr cnt,d)).os).length<=1000000:=by
  have h2:=Ap hr.d1 h.dl;have h3:=je (xs:=xs) hr.d1 m.fits;have h6:1500/(D*44)<=34:=by
   have:=hr.d1;have:1500/(D*44)<=1500/44:=aaM (by omega) (by decide);omega
  have h7:xs.length*(19+4*(1500/(D*44)+1))<=1000*(19+4*(34+1)):=Xe (by omega) (by omega);rw [K,h.c];omega
 have hs:(fr.drop cnt).length=pgs D (an (xs.ins (kN x d fr cnt,d)).os).length:=by rw [f,h.pn,K,h.c];rfl
 have O:∀ o∈(xs.ins (kN x d fr cnt,d)).os,o.fit:=λo ho=>by
  obtain ⟨y,V,rfl⟩:=T9.1 ho;rcases Uw.1 ((jN xs (kN x d fr cnt,d)).mem_iff.1 V) with e|e
  . rw [e];exact h.TD.fit
  . exact (m.fits y e).fit
 have T:(xs.ins (kN x d fr cnt,d)).os.length<=10000:=by
  have:=(jN xs (kN x d fr cnt,d)).length_eq;have e:(xs.ins (kN x d fr cnt,d)).os.length=(xs.ins (kN x d fr cnt,d)).length:=by simp [aL.os]
  rw [e,this,UA];omega
 have U:az w2 p (A.wrTo D L G (fr.take cnt) (dA D d) cnt) F:=h.arr.below l lR;have M:bf (λk=>ar<k/\¬ F.S k/\¬ ps.bl k) w2 (Z5 (ZW ⟨g,cnt,ZX⟩) pgn c1) (fr.drop cnt):=h.q.keep (eo.RM l);have E:=ng (w:=w2) (h.live.arc.keep (r.block _ h.live.arc.lt h.live.nar)) (h.live.vol.turn r U i.n) (i.fine h.live.fine) h.live.nar
  oo _ Z (an (xs.ins (kN x d fr cnt,d)).os) (oO _) R (uf j.any O T) g cnt c1 (fr.drop cnt) (by rw [f];exact M.TJ λk a=>a.2.1) W (by rw [i.nb];exact Q) (λk a=>CR hr.d1 (by rw [<- hs];exact a))
 rw [f] at E;have Y:nx t=t+1:=by have:=h.tl;unfold nx;omega
 refine E.mono ?_;rintro e w3 ⟨s,rfl,H,J⟩;have z:aa (λk=>k=ar\/F.S k) w w3:=(r.mono λ_ _ e=>.inr e).trans s
 . have I:eo (λk=>ar<k/\¬ F.S k/\¬ ps.bl k) w2 w3:=⟨s.size,λk a hK=>s.block k a (λe=>e.elim (λq=>by have:=hK.1;omega) hK.2.1)⟩;have B:=Lk m h.live.fine (kN x d fr cnt,d) h.TD h.no hs (by
    show ((fr.take cnt++fr.drop cnt)++(P++af xs.os)).Nodup;rw [Wh];exact h.apart.1) (by
    show ∀ b∈(fr.take cnt++fr.drop cnt)++(P++af xs.os),2<=b/\b<A.nb;rw [Wh];exact h.apart.2) (by
    show (af xs.os).length+(fr.take cnt).length+2*(fr.drop cnt).length+2<=A.nb;rw [C,f];exact h.room)
   have N:(kN x d fr cnt,d).1.RK.length=cnt:=C;rw [N] at B;rw [Y] at H J;have a:=i.trans (Aq _ D L G (t+1) (fr.drop cnt) (an (xs.ins (kN x d fr cnt,d)).os));exact ⟨_,_,_,_,_,_,_,rfl,pY h.live J H z a (by have:=h.tl;omega) B (M.keep I) (j.keep I),a,z,.inl ⟨rfl,rfl,h.n⟩⟩
end
def LZ {ps:aN} {xs:aL} (h:aS w ar v p ps D L G t pg ob P xs A F) {n cnt pgn:Nat} (k:cnt=my D n) (o:pgn=Ao D (an xs.os).length n) (c:(af xs.os).length+cnt+2*pgn+2<=A.nb) :
 ZR ZM 102 #[Z6 (ZW ⟨ar,0,ZX⟩),Z7 Z9 ((cnt:Int)+(pgn:Int))] w λe w'=>∃ g cap,e=Z3 (ZY #[Z5 (ZW ⟨g,0,ZX⟩) (cnt+pgn) cap,Z1 ZV])/\w'.ownsRow w.heap.size 3 1 (Z5 (ZW ⟨g,0,ZX⟩) (cnt+pgn) cap) (cnt+pgn) (jR ((aZ (tk A.nb (P++af xs.os)).1 A.nb).take (cnt+pgn)))/\((aZ (tk A.nb (P++af xs.os)).1 A.nb).take (cnt+pgn)).length=cnt+pgn/\cnt+pgn<=cap/\w.heap.size<=g/\g<w'.heap.size/\bW w w':=by
 have j:=Ez h.disk (count:=cnt) (pages:=pgn) (l:=19+4*my D n) o c;have:=h.nb;have:1<=cnt:=by rw [k];unfold my;omega
 have a:=lE h.arc h.vol.vol h.vol.arr h.n0 P xs.os h.pgs.any h.cat.any (cnt+pgn) (by omega);rw [UY j,YO] at a;have b:((aZ (tk A.nb (P++af xs.os)).1 A.nb).take (cnt+pgn)).length=cnt+pgn:=by rw [Uo];omega
 rw [b] at a;refine a.mono ?_;rintro e w' ⟨u,rfl,ho,d⟩;rcases ho.2 with ⟨_,q⟩|⟨g,cap,cur,rfl,f,m,i,_⟩
 . omega
 . exact ⟨g,cap,rfl,ho,b,i,f,(T5.1 m).1,d⟩
def IL {e:ZO} {a b c:ZS} (h:ai w q e [a,b,c]):ai (((w.setCell ⟨q,0,ZX⟩ a').setCell ⟨q,1,ZX⟩ b').setCell ⟨q,2,ZX⟩ c') q e [a',b',c']:=
 ai.set h 0 [a',b',c'] (by simp)
def IM {a b c:ZS} (h:Below w7.drew.heap.size w7.drew w8):∃ q,Value.pointer (ZW ⟨w8.heap.size,0,ZX⟩)=Z6 (ZW ⟨q,0,ZX⟩)/\ai (w8.alloc (Z4 #[a,b,c] 152)) q 152 [a,b,c]/\w7.heap.size<=q/\bW w7 (w8.alloc (Z4 #[a,b,c] 152)):=by
 have d:bW w7 w8:=(TW _ w7).drew.trans h;exact ⟨_,rfl,UC w8 _,d.size,d.alloc d.size _⟩
def IN {a b c:ZS} (h:Below (w7.drew.alloc (Z4 #[a',b',c'] 152)).heap.size (w7.drew.alloc (Z4 #[a',b',c'] 152)) w8) (f:ai w8 w7.heap.size 152 [a',b',c']):∃ q,Value.pointer (ZW ⟨w7.heap.size,0,ZX⟩)=Z6 (ZW ⟨q,0,ZX⟩)/\ai (((w8.setCell ⟨w7.heap.size,0,ZX⟩ a).setCell ⟨w7.heap.size,1,ZX⟩ b).setCell ⟨w7.heap.size,2,ZX⟩ c) q 152 [a,b,c]/\w7.heap.size<=q/\bW w7 (((w8.setCell ⟨w7.heap.size,0,ZX⟩ a).setCell ⟨w7.heap.size,1,ZX⟩ b).setCell ⟨w7.heap.size,2,ZX⟩ c):=by
 have d:bW w7 (w7.drew.alloc (Z4 #[a',b',c'] 152)):=(TW _ w7).drew.alloc lR _;have e:bW w7 w8:=d.trans (h.mono d.size);refine ⟨_,rfl,IL f,TU _,?_⟩;exact Xh (p:=⟨w7.heap.size,2,ZX⟩) (Xh (p:=⟨w7.heap.size,1,ZX⟩) (Xh (p:=⟨w7.heap.size,0,ZX⟩) e lR a) lR b) lR c
theorem Of {ps:aN} {xs:aL} (h:aS w ar v p ps D L G t pg ob P xs A F) (kx:t<1000000) (x:ByteArray) (ao:Option ZQ) (c:Nat) (d:a8) (hd:∀ w',aa F.S w w'->Bs w' (.slice ao d.length c) d) (ki:d.length<=c) :
 ZR ZM 96 #[Z6 (ZW ⟨ar,0,ZX⟩),ZZ x,.slice ao d.length c] w (di w ar v p ps D L G t xs A F (vW D A.nb xs x d.length) (vX D A.nb xs x d)):=by
 obtain ⟨n,b⟩:=nM (d.length);rw [b];have ks:∀ w' j,bW w w'->vW D A.nb xs x n j->di w ar v p ps D L G t xs A F (vW D A.nb xs x n) (vX D A.nb xs x d) (Z3 (An j)) w':=λw' j hb hq=>⟨_,_,_,_,_,_,_,rfl,h.below hb,dM.refl A,aa.RL hb _,.inr ⟨rfl,rfl,j,rfl,hq⟩⟩;have J:=a6 hd b ki kx ks;clear hd b ki kx ks;obtain ⟨_,_,_,_,c8⟩:=h.arc.cells;have q6:=h.find x;obtain ⟨k,m⟩:=nM (aI xs.names x);obtain ⟨i,B⟩:=nM (mx xs.os x);rw [m,B] at q6;have kr:=al m B;have E:=ak h;clear m B h;go_enter func96,ntmps96;go_wp2_with fail;refine q6.mono ?_;rintro e w1 ⟨rfl,hb⟩;have H:=ak hb;clear hb q6 c8;go_wp2_with fail;refine (jO x w1).mono ?_;rintro e w2 ⟨rfl,rfl⟩;cases hx:bY x
 . dsimp only;go_wp2;go_ret;exact J.o.2.2.2.2 _ 6 H.o (.inl ⟨hx,rfl⟩)
 by_cases U:1500<n
 . have qy:(1500:Int)<(n:Int):=(by omega);dsimp only;go_wp2;go_ret;exact J.o.2.2.2.2 _ 7 H.o (.inr ⟨hx,.inl ⟨U,rfl⟩⟩)
 have qy:¬ (1500:Int)<(n:Int):=by omega
 replace U:n<=1500:=by omega
 by_cases T:x∈xs.names
 . have B:=E.o.there T;rw [kr.out.2] at B;subst B;have HM:=ak T;clear T kr;dsimp only;go_wp2;go_ret;exact J.o.2.2.2.2 _ 8 H.o (.inr ⟨hx,.inr ⟨U,.inl ⟨HM.o,rfl⟩⟩⟩)
 have B:=E.o.Sp T;rw [kr.out.2] at B;subst B;have HM:=ak T;clear T;have q5:=E.o.vol.par.d1;have qv:=E.o.vol.par.d;have qx:=E.o.packL_le;have qs:=Ap q5 U;have qg:Ao D (an xs.os).length n<=1000000:=Qw q5 (by omega);have qp:=E.o.Sj.2.1;obtain ⟨len,hz⟩:=nM ((an xs.os).length);obtain ⟨cnt,hh⟩:=nM (my D n);obtain ⟨pgn,k0⟩:=nM (Ao D len n);rw [hz] at qg qx;rw [k0] at qg;rw [hh] at qs;have a:=a5 E.o hh k0 hz;clear hz hh k0 E;dsimp only;have Y:=a.o.1.below H.o;obtain ⟨d0,_,d6,_,_⟩:=Y.arc.cells;rw [a.o.2.2.2] at d6;have qb:=dI Y.vol.vol (by omega);obtain ⟨q,hq⟩:=nM (D*44);rw [hq] at qb;have qa:=mP n q (by omega) ⟨by omega,by omega⟩ w2;have qf:max 1 ((n+q-1)/q)=cnt:=by rw [<- a.o.2.1,<- hq];rfl
 rw [qf] at qa;have q8:=λW=>gv cnt (by omega) W;obtain ⟨pk,k5⟩:=nM (19+4*cnt);have qh:∀ W,W.heap=w2.heap->ZR ZM 103 #[Z6 (ZW ⟨ar,0,ZX⟩),Z7 Z9 ((len:Int)+(pk:Int))] W λe w'=>e=Z3 (Z7 Z9 (pgn:Nat))/\w'=W:=λW hW=>by
  have:=ja (w:=W) (Y.arc.keep (by rw [hW])) (Y.vol.vol.keep (by rw [hW])) q5 (by omega) (len+(19+4*cnt)) (by omega);have e:YF D (len+(19+4*cnt))=pgn:=by rw [<- a.o.2.2.1,<- a.o.2.1];rfl
  rw [e,k5,YO] at this;exact this
 rw [k5] at q8;have x4:pk<=200:=by omega
 have x7:IntKind.i64.wrap ((len:Int)+(pk:Int))=(len:Int)+(pk:Int):=by rw [Ux];omega
 have HP:=aE Y q8 qh;clear Y q8 qh qf hq k5;go_wp2_with fail;refine qb.mono ?_;rintro e w3 ⟨rfl,rfl⟩;clear qb;go_wp2_with fail;refine qa.mono ?_;rintro e w4 ⟨rfl,rfl⟩;clear qa;go_wp2_with fail;go_quiet (first|(go_at_call 126;refine aaO (HP.o.2.1 _))|(go_at_call 103;refine aaO (HP.o.2.2 _ rfl)));have q2:bW w4 (w4.drewN nq):=⟨rfl,rfl,rfl,TU _,λ_ _=>rfl⟩;have hs:=HP.o.1.below q2;have kv:=BX hs.arc hs.vol.vol hs.vol.arr hs.n0 xs.os hs.cat.any (by omega) cnt pgn (by omega) (by omega);have I:=al hs (H.o.trans (q2.mono H.o.size));clear q2 hs d0 d6;obtain ⟨w5,qo⟩:=nM (w4.drewN nq);rw [qo] at kv I ⊢;clear qo;go_wp2_with fail;refine kv.mono ?_;rintro e w6 ⟨rfl,kg⟩;by_cases M:(af xs.os).length+cnt+2*pgn+2<=A.nb;rotate_left
 . rw [Vc M];have r:=al M (I.o.2.trans (kg.mono I.o.2.size));clear kg kv I M;dsimp only;go_wp2;go_ret;exact J.o.2.2.2.2 _ 10 r.out.2 (.inr ⟨hx,.inr ⟨U,.inr ⟨HM.o,by have h1:=r.out.1;have h2:=a.o.2.1;have h3:=a.o.2.2.1;rw [<- a.o.2.2.2] at h3;rw [h2,h3];omega,rfl⟩⟩⟩)
 rw [UY M];have q7:=I.o.1.below kg;have qn:=LZ q7 (n:=n) (cnt:=cnt) (pgn:=pgn) a.o.2.1.symm (by rw [a.o.2.2.2];exact a.o.2.2.1.symm) M;have kz:=ak M;clear M;have r:=al q7 (I.o.2.trans (kg.mono I.o.2.size));clear kg kv I q7;dsimp only;have x8:IntKind.i64.wrap ((cnt:Int)+(pgn:Int))=(cnt:Int)+(pgn:Int):=by rw [Ux];omega
 go_wp2_with fail;refine qn.mono ?_;rintro e w7 ⟨g,cap,rfl,Z,f,qq,ko,kp,V⟩;have HT:=a7 Z f ko kp V (r.out.1.below V);clear qn Z f ko kp V;have k1:cnt<=cap:=by omega
 have k3:(cnt:Int)<=(cap:Int):=by omega
 dsimp only;go_upto_region 15 with fail;have qz:1<=x.size/\x.size<=16:=by have:=hx;unfold bY at this;exact WX this
 have qk:=ux x w7.drew (by omega) (by omega);have qm:=ux x (w7.drew.alloc (Z4 #[.string ⟨#[]⟩,Z7 Z9 0,Z5 ZX 0 0] 152)) (by omega) (by omega);have qe:ai (w7.drew.alloc (Z4 #[.string ⟨#[]⟩,Z7 Z9 0,Z5 ZX 0 0] 152)) w7.heap.size 152 [.string ⟨#[]⟩,Z7 Z9 0,Z5 ZX 0 0]:=UC w7.drew _;have HS:=aE qk qm qe;clear qk qm qe qz;go_cut [13] from 72 to 80 (λqr wx=>∃ q,qr=Z6 (ZW ⟨q,0,ZX⟩)/\ai wx q 152 [ZZ x,Z7 Z9 (n:Nat),Z5 (ZW ⟨g,0,ZX⟩) cnt cnt]/\w7.heap.size<=q/\bW w7 wx)
 case first=>
  go_region_with (first
   | (go_at_call 128;refine HS.o.1.mono ?_;rintro e w8 ⟨rfl,X⟩;have H8:=ak X;clear X)
   | (go_at_call 128;refine HS.o.2.1.mono ?_;rintro e w8 ⟨rfl,X⟩;have K:ai w8 w7.heap.size 152 [.string ⟨#[]⟩,Z7 Z9 0,Z5 ZX 0 0]:=HS.o.2.2.keep (X.block _ HS.o.2.2.lt);have z0:=K.cell (j:=0) (u:=.string ⟨#[]⟩) rfl;have z1:=K.cell (j:=1) (u:=Z7 Z9 0) rfl;have z2:=K.cell (j:=2) (u:=Z5 ZX 0 0) rfl;have y0:=K.R3 0;have y1:=K.R3 1;have y2:=K.R3 2;have H9:=al X K;clear X K))
  all_goals first
   | (go_wp2_with fail;go_meet;case rel=>exact IM H8.o)
   | (go_wp2_with fail;go_meet;case rel=>exact IN H9.o.1 H9.o.2)
 case rest=>
  obtain ⟨q,rfl,s,x5,kh⟩:=hcut;have x0:=s.cell (j:=0) (u:=ZZ x) rfl;have x1:=s.cell (j:=1) (u:=Z7 Z9 (n:Nat)) rfl;have x2:=s.cell (j:=2) (u:=Z5 (ZW ⟨g,0,ZX⟩) cnt cnt) rfl;obtain ⟨fr,N⟩:=nM ((aZ (tk A.nb (P++af xs.os)).1 A.nb).take (cnt+pgn));rw [N] at HT;obtain ⟨Z,f,ko,kp,V,O⟩:=HT.o;have l:=O.below kh;have hg:bW w w7:=r.out.2.trans (V.mono r.out.2.size);have R:bW w wc:=hg.trans (kh.mono hg.size);have hp:ar<g/\¬ F.S g/\¬ ps.bl g:=⟨by have:=r.out.1.arc.lt;omega,λe=>by have:=r.out.1.vol.arr.RN e;omega,λe=>by have:=ps.lt _ r.out.1.kit _ e;omega⟩;have km:¬ F.S q:=λe=>by have:=O.vol.arr.RN e;omega
  have x6:=O.nb;have q9:∀ c1,bf (λk=>ar<k/\¬ F.S k/\¬ ps.bl k) wc (Z5 (ZW ⟨g,0,ZX⟩) cnt c1) (fr.take cnt):=λc1=>(yC Z f hp (by have:=kz.out;omega)).keep (eo.RM kh);have kk:∀ c1,bf (λk=>ar<k/\¬ F.S k/\¬ ps.bl k) wc (Z5 (ZW ⟨g,cnt,ZX⟩) pgn c1) (fr.drop cnt):=λc1=>(IG Z f hp (by have:=kz.out;omega)).keep (eo.RM kh);have k6:(fr.take cnt).length=cnt:=by rw [Uo,f];omega
  have q1:=ni O.disk.nod O.disk.Tk (cnt+pgn);rw [N] at q1;have hr:=O.vol.par;obtain ⟨hd,b,ki,kx,ks⟩:=J.o;have ky:=rJ l.arc l.vol l.fine l.nar x _ (fr.take cnt) ((q9 cnt).TJ λk m=>m.2.1) (λy hy=>(q1.2 y (UF _ (UV hy))).2) ao c d (λw' hO=>hd w' ((aa.RL R _).trans hO)) (by omega) ki (λk m=>by
   rw [k6,<- a.o.2.1] at m;rw [b];exact CS hr.d1 m)
  unfold Eg at ky;rw [k6,b] at ky;have H9:=hide9 l R s km q9 kk f N b;have x3:1<=pgn:=by rw [<- a.o.2.2.1];unfold Ao pgs;omega
  clear s kh Z f ko kp V O l hg R hp km q9 kk k6 q1 hr hd b ki kx ks N HT HS HP H x5;go_wp2_with fail;refine ky.mono ?_;rintro e C ⟨rfl,kb,Q⟩;obtain ⟨l,R,s,km,qj,qi,f,N,b⟩:=H9.o;have hc:ai C q 152 _:=s.keep (Q.block _ s.lt km);have xd:=hc.cell (j:=0) (u:=ZZ x) rfl;have xe:=hc.cell (j:=1) (u:=Z7 Z9 (n:Nat)) rfl;have xf:=hc.cell (j:=2) (u:=Z5 (ZW ⟨g,0,ZX⟩) cnt cnt) rfl;have ke:=l.arc.keep (Q.block _ l.arc.lt l.nar);obtain ⟨_,_,_,_,y8⟩:=ke.cells;have qd:aa (F.S) w C.drew:=(aa.RL R _).trans (Q.trans (aa.drew _));have q0:eo (λk=>ar<k/\¬ F.S k/\¬ ps.bl k) wc C.drew:=⟨Q.size,λk m hK=>Q.block k m hK.2.1⟩;have q4:∀ z∈d,z<256:=by obtain ⟨_,_,_,_,_,q3,_⟩:=J.o.1 w (aa.refl _ _);exact q3
  have h4:bZ w C.drew ar v p ps D L G t pg ob P xs A F x d fr g cnt pgn (cap-cnt):=⟨a.o.1,J.o.2.2.2.1,qd,kb.keep λ_ _=>rfl,hx,HM.o,by rw [b];exact U,q4,by rw [b];exact a.o.2.1.symm,by rw [b,a.o.2.2.2];exact a.o.2.2.1.symm,N.symm,f,kz.out,(qj _).keep q0,(qi _).keep q0⟩;have qc:=LY h4;rw [b,kr.out.1] at qc;have HR:=al qc h4;clear qc h4 hc qd q0 l R s km qj qi f N b kb Q ky x0 x1 x2 ke;have k4:¬ cap=cnt:=by omega
  go_wp2_with fail;go_region_with (first
   | (go_at_call 130;refine HR.o.1.mono ?_;rintro e xb ⟨u,rfl,kc,kf⟩;have HC:=ak (EZ HR.o.2 kc kf);clear kc kf)
   | (go_at_call 105;refine HC.o.mono ?_;rintro e xc ⟨er,t',xa,x9,P',xs',B',rfl,kj⟩;have HF:=ak kj;clear kj))
  all_goals (
   rw [J.o.2.1] at HF;go_wp2;go_ret;exact ⟨_,_,_,_,_,_,_,rfl,HF.o⟩)
end
def IP {n:Nat} (h:w.ownsRow base 3 1 u n (jR l)) (hll:l.length<=1000000) {K:Nat->Prop} (hK:∀ k,u.ownBlock=ZW k->K k):bf K w u l:=by
 have e:n=l.length:=by have:=h.1;unfold jR at this;rw [Ue,V9] at this;omega
 rcases h.2 with ⟨c,j⟩|⟨g,cap,cur,a,f,b,_⟩
 . have:l=[]:=UU (by omega);subst this;rw [c];exact ⟨ZX,0,rfl,T8 _,λh=>absurd rfl h⟩
 . refine ⟨ZW ⟨g,0,ZX⟩,cap,by rw [a,e],hll,λ_=>⟨g,0,rfl,hK g (by rw [a];rfl),⟨_,_,_,b,by decide⟩,λi d=>?_⟩⟩;have:=h.cells (g:=g) (by rw [a];rfl) i (Z7 Z9 ((l[i]:Nat):Int)) (by unfold jR;simp [d]);rw [jy] at this;rw [Uj];exact this
structure Og (w:ZT) (ar v p D L G t:Nat) (Kind:aN->Prop) (ps:aN) (P:a8) (xs:aL) (A:aB) (F:aK) (e:ZP) (w':ZT):Prop where
 out:aa (λj=>F.S j\/j=v\/ps.bl j\/j=ar) w w'
 ans:∃ ps' pg ob,e=Z3 .nilIface/\(Kind ps'/\∀ k,ps'.bl k->ps.bl k\/w.heap.size<=k)/\aS w' ar v p ps' D L G t pg ob P xs A F
def RF {xs:aL} (h:cJ A D L G t P xs):OV A D L G P (an xs.os):=⟨h.page,h.pl,λx a=>(h.Tk x (UF _ a)).2,by have:=h.room;omega,oO _⟩
theorem rM {Kind:aN->Prop} {ps:aN} {xs:aL} (ho:mB w ar v p ps D L G A F) (K:a9 w ar v D' L' G' t f nn pg ob ZU) (hv:uS D L G Kind ps) (q2:A.nb<=1000) (qg:t1<=1000000) (g:cJ A D L G t1 P xs) :
 ZR ZM 121 #[Z6 (ZW ⟨ar,0,ZX⟩),.agg (aj D L G t1 (P.getD 0 0) (an xs.os).length)] w (Og w ar v p D L G t1 Kind ps P xs A F):=by
 have N:∀ k,F.S k->k<w.heap.size:=λk c=>ho.vol.arr.RN c;have qa:=ho.arl;have qb:=ho.vol.par.d1;have qd:=ho.vol.par.d;have hP:=RF g;have km:=uA g.fits;have kc:=g.room;have hU:CN D (an xs.os) xs.os:=Ak D ⟨qb,by omega⟩ (λo ho=>by obtain ⟨x,hx,rfl⟩:=T9.1 ho;exact (g.fits x hx).fit) (λo ho=>by obtain ⟨x,hx,rfl⟩:=T9.1 ho;exact (g.fits x hx).st) (Aa (by rw [eE];exact g.up)) (by omega);have ke:(tk A.nb (P++af xs.os)).2=ZV:=(Lg g.nod g.Tk).1;obtain ⟨f1,k9⟩:=nM (P.getD 0 0);obtain ⟨n1,ka⟩:=nM ((an xs.os).length);have V:(w.alloc (Z4 (aj D L G t1 f1 n1) 142)).heap[w.heap.size]?=ZW (Z4 (aj D L G t1 f1 n1) 142 (0,0)):=Ug _ _;have z:bW w (w.alloc (Z4 (aj D L G t1 f1 n1) 142)):=bA w _;have ki:(w.alloc (Z4 (aj D L G t1 f1 n1) 142)).heap.size=w.heap.size+1:=by simp
 obtain ⟨w1,kx⟩:=nM (w.alloc (Z4 (aj D L G t1 f1 n1) 142));rw [kx] at V z ki;have U:=K.keep (z.block _ K.lt);have hs:=ho.below z;have kp:=vV (D1:=D) (L1:=L) (G1:=G) (t1:=t1) hs U hv q2 hP;rw [k9,ka] at kp ⊢;have H1:=a7 U hs V z ki kp;have qh:w.alloc (Z4 #[Z7 Z9 D,Z7 Z9 L,Z7 Z9 G,Z7 Z8 t1,Z7 Z9 f1,Z7 Z9 n1] 142)=w1:=kx;have H:=hide8 ho K N g hU ke k9 ka;clear ho K V z U hs ki kx kp N g hU ke k9 ka hP km kc;show ZR ZM 121 #[Z6 (ZW ⟨ar,0,ZX⟩),.agg #[Z7 Z9 D,Z7 Z9 L,Z7 Z9 G,Z7 Z8 t1,Z7 Z9 f1,Z7 Z9 n1]] w _;go_enter func121,ntmps121;go_wp2_with (show wpList _ _ _ ({ dst:=ZW 14,op:=_,type:=_,pos:=_,after:=_,guard:=_ }::_) _ _;refine kJ (D:=D) (L:=L) (G:=G) (t:=t1) (f:=f1) (n:=n1) (b:=w.heap.size) rfl (Z0 3) rfl rfl (by rfl) (by exact H1.o.2.2.1) ?_);refine H1.o.2.2.2.2.2.mono ?_;intro e w2 u;obtain ⟨U,hs,V,z,ki,hx⟩:=H1.o;clear hx;have k7:=u.arr;obtain ⟨ps',r⟩:=u.kit;have i:=hs.got u.out k7 r;have y:=hs.arc u.out U;have q1:aa (λj=>F.S j\/j=v\/ps.bl j) w w2:=(aa.RL z _).trans u.out;have I:aa (λj=>F.S j\/j=v\/ps.bl j\/j=ar) w w2:=q1.mono λj _ q=>by
  rcases q with q|q|q
  . exact .inl q
  . exact .inr (.inl q)
  . exact .inr (.inr (.inl q))
 obtain ⟨up,uq,rfl,kk,m⟩:=u.ans;have E:w2.heap[w.heap.size]?=ZW (Z4 (aj D L G t1 f1 n1) 142 (0,0)):=(u.out.block _ (by omega) (λq=>by
  rcases q with q|q|q
  . have:=H.o.2.2.1 _ q;omega
  . have:=H.o.1.vol.vol.lt;omega
  . have:=ps.lt _ H.o.1.kit _ q;omega)).trans V
 obtain ⟨d0,_⟩:=y.cells;have kr:=dI i.vol.vol (by omega);have ks:=H.o.2.2.2.2.1 w2 up kk;obtain ⟨hb,hj⟩:=nM (D*44);rw [hj] at kr ks;have qm:=u.out.size;obtain ⟨qn,uc,kf,_⟩:=id kk;rw [H.o.2.2.2.2.2.2.2] at kf;obtain ⟨l,qc,kg⟩:=bj m;obtain ⟨X,O⟩:=nM (P.length);rw [O] at kg;have W:=hide10 y i E kr ks m I r O hj;clear U hs V z u y i E kr ks q1 I k7 r O m kk;subst kf;subst kg;go_wp2_with fail;refine W.o.2.2.2.1.mono ?_;rintro e w3 ⟨rfl,q7⟩;obtain rfl:w2=w3:=q7.symm;clear q7;go_wp2_with fail;refine W.o.2.2.2.2.1.mono ?_;rintro e w3 ⟨o,rfl,T,s⟩;obtain ⟨y,i,E,kz,q0,m,I,r,O,hj⟩:=W.o;clear kz q0;have kj:=y.keep (s.block _ y.lt);have a:=i.below s;have k6:aa (λj=>F.S j\/j=v\/ps.bl j\/j=ar) w w3:=I.trans (aa.RL s _);obtain ⟨B,oc,q4,_⟩:=id T;have k8:=(s.block _ (T5.1 E).1).trans E;have q5:=kj.there;have hr:=BW (D:=D) (L:=L) (G:=G) (t:=t1) (f:=f1) (n:=n1) kj;have R:aa (λk=>k=ar) w3 (w3.setCells ar 1 (aj D L G t1 f1 n1).toList):=aa.setCells _ ar 1 _ rfl;obtain ⟨w8,ky⟩:=nM (w3.setCells ar 1 (aj D L G t1 f1 n1).toList);rw [ky] at hr R;obtain ⟨c7,f7,c8,f8⟩:=hr.tail;have qj:=s.size;have H3:=hide9 hr R q5 k8 ky k6 T a s;clear y i E m I r O kj a k8 k6 q5 hr R ky T s d0;obtain ⟨no,q3⟩:=nM (xs.os.length);rw [q3] at q4;clear q3;subst q4;go_wp2_with (first|(show wpList _ _ _ ({ dst:=ZW 38,op:=_,type:=_,pos:=_,after:=_,guard:=_ }::_) _ _;refine kJ (D:=D) (L:=L) (G:=G) (t:=t1) (f:=f1) (n:=n1) (b:=w.heap.size) rfl (Z0 3) rfl rfl (by rfl) (by exact H3.o.2.2.2.1) ?_)|(show wpList _ _ _ ({ dst:=ZX,op:=Op.store 142 (Z0 42) (Z0 38),type:=_,pos:=_,after:=_,guard:=_ }::_) _ _;refine wpList_store_mid rfl 142 (Z0 42) (Z0 38) rfl ar 1 (aj D L G t1 f1 n1) (by rfl) (by rfl) (by exact H3.o.2.2.1) (kI _ _ _ _ _ _) (pQ _ _ _ _ _ _) ?_;rw [H3.o.2.2.2.2.1]));obtain ⟨hr,R,kz,q0,qi,k6,T,a,s⟩:=H3.o;clear kz q0 qi;obtain ⟨y,i,E,_,_,m,I,r,O,hj⟩:=W.o;obtain ⟨ho,K,N,g,_,ke,_⟩:=H.o;have M:=hr.late (.slice l X qc) (.slice B no oc);have h:aa (λk=>k=ar) w3 ((w8.setCell ⟨ar,7,ZX⟩ (.slice l X qc)).setCell ⟨ar,8,ZX⟩ (.slice B no oc)):=(R.trans (aa.setCell _ _ _ rfl)).trans (aa.setCell _ _ _ rfl);obtain ⟨w9,q6⟩:=nM ((w8.setCell ⟨ar,7,ZX⟩ (.slice l X qc)).setCell ⟨ar,8,ZX⟩ (.slice B no oc));rw [q6] at M h ⊢;have kv:v≠ar:=by have:=ho.vlt;omega
 have Q:mB w9 ar v p ps' D L G A F:=by
  have qk:=a.vlt;exact { a with vol:={ a.vol with vol:=a.vol.vol.keep (h.block _ a.vol.vol.lt kv),arr:=a.vol.arr.keep λk c=>h.block k (a.vol.arr.RN c) (λe=>a.nar (e▸c)),laid:=a.vol.laid.keep (h.block _ a.vol.laid.lt (by omega)),tab:=a.vol.tab.keep (h.block _ a.vol.tab.lt (by omega)),room:=TV a.vol.room h.size },arl:=T7 a.arl h.size,kit:=ps'.keep _ _ a.kit λk c=>h.block k (ps'.lt _ a.kit k c) (a.apt k c).2.1 }
 have kb:bf (λk=>w.heap.size<k/\¬ ps'.bl k) w2 (.slice l X qc) P:=IP m (by have:=g.room;omega) (λk c=>⟨by have:=ef m c;omega,by obtain ⟨cur,hc⟩:=bw m c;exact bU i.kit hc EY⟩);have Z:bf (λk=>w.heap.size<k/\¬ ps'.bl k) w9 (.slice l X qc) P:=kb.keep ⟨TV qj h.size,λk c qf=>(h.block k (by omega) (λe=>by omega)).trans (s.block k c)⟩;have Y:eO (λk=>w2.heap.size<=k) w9 (.slice B no oc) xs.os:=T.keep ⟨h.size,λk c qf=>h.block k c (λe=>by omega)⟩;have kh:aa (λj=>F.S j\/j=v\/ps.bl j\/j=ar) w w9:=k6.trans (h.mono λ_ _ q=>.inr (.inr (.inr q)));have hz:=xM M Q.vol.vol Q.vol.arr (by have:=Q.vol.n;omega) P xs.os Z.ltS Y.ltS;rw [ke] at hz;have H9:=a7 hz M Q Z Y kh;clear hr R k6 T a s M h q6 Q Z Y kh hz c7 f7 c8 f8 y i E m I r O ho K N kb g ke;refine H9.o.1.mono ?_;rintro e qo ⟨gt,rfl,qe,ko,C⟩;have q8:=ak C;clear C ko qe;obtain ⟨NB,q9⟩:=nM (A.nb);rw [q9];go_wp2;go_ret;obtain ⟨_,M,Q,Z,Y,kh⟩:=H9.o;obtain ⟨_,i,_,_,_,_,_,r,_⟩:=W.o;obtain ⟨ho,K,N,g,_,_,k9,ka⟩:=H.o;have C:=q8.out;have J:=Q.below C;have z:=H1.o.2.2.2.2.1;refine ⟨kh.trans (aa.RL C _),⟨ps',_,_,rfl,⟨r.kind,λk c=>(r.bl k c).imp id λq=>by omega⟩,{ arc:=by rw [k9,ka];exact M.keep (C.block _ M.lt),vol:=J.vol,nar:=J.nar,vlt:=J.vlt,disk:=g,pgs:=(Z.keep (eo.RM C)).wk λk c _=>⟨by omega,λe=>by have:=N k e;omega,c.2⟩,cat:=(Y.keep (eo.RM C)).wk λk c _=>⟨by omega,λe=>by have:=N k e;omega,λe=>by have:=ps'.lt _ i.kit _ e;omega⟩,nb:=q2,turn:=qg,kit:=J.kit,apt:=J.apt,hl:=J.hl,fine:=J.fine }⟩⟩
def yH (t:ZO) (y:ZS) (w:ZT):(Op.equalIn 10000 215 .nilIface (.iface t y)).run ZM w=.ok ZU w:=by
 rw [Op.equalIn];simp [UE,UL abe,UQ]
def L0:bE->Prop
 | .filled=>True
 | .root ..=>True
 | _=>False
def CX:∃ i:TypeInfo,ZM.info? 180=ZW i/\i.comparable=ZV:=by
 have:(ZM.info? 180).map (λi=>i.comparable)=ZW ZV:=by kernel_rfl
 rw [Wq] at this;exact this
def RG (o:Option bE) (r:bE):Prop:=o=ZX\/o=ZW .blank\/o=ZW r
def ri {t:ZO} (a:t≠231) (y:ZS) (w:ZT):(Op.equalIn 10000 215 (dK .blank) (.iface t y)).run ZM w=.ok ZU w:=by
 rw [Op.equalIn];simp [dK,UE,UL abe,UQ,a.symm]
theorem IQ {o:Option bE} {r:bE} (d:L0 r) (h:RG o r):∃ b,(o=ZX\/o=ZW .blank->b=ZU)/\∀ w:ZT,(Op.equalIn 10000 215 (fT o) (dK r)).run ZM w=.ok b w:=by
 match r,d with
 | .filled,_=>
  rcases h with rfl|rfl|rfl
  . exact ⟨_,λ_=>rfl,yH _ _⟩
  . exact ⟨_,λ_=>rfl,ri (by decide) _⟩
  . obtain ⟨i,a,c⟩:=CX;exact ⟨ZV,λq=>(by rcases q with q|q<;>cases q),λw=>(ud 9999 180 _ _ i a c w).trans (by go_simp)⟩
 | .root D L G t f n,_=>
  rcases h with rfl|rfl|rfl
  . exact ⟨_,λ_=>rfl,yH _ _⟩
  . exact ⟨_,λ_=>rfl,ri (by decide) _⟩
  . obtain ⟨i,a,c⟩:=La;exact ⟨ZV,λq=>(by rcases q with q|q<;>cases q),λw=>(ud 9999 142 _ _ i a c w).trans (by unfold aj;go_simp)⟩
def uU (o:Option bE):fT o=.nilIface\/∃ t x,fT o=.iface t x:=by
 cases o with
 | none=>exact .inl rfl
 | some r=>exact .inr (iJ r)
def E0 {o:Option bE} {r:bE} (d:L0 r) (h:RG o r):∃ b,(o=ZX\/o=ZW .blank->b=ZV)/\∀ w:ZT,(binOp .neq 215 (fT o) (dK r)).run ZM w=.ok (Z1 b) w:=by
 obtain ⟨b,f,c⟩:=IQ d h;refine ⟨!b,λq=>(by rw [f q];rfl),λw=>?_⟩;have a:=c w;obtain ⟨t,x,g⟩:=iJ r;rcases uU o with e|⟨i,y,e⟩<;>(rw [e,g] at a ⊢;simp only [binOp];simp [Op.equal,Op.maxDepth,a])
def UgR (w:ZT) (N:Nat) (R:Nat->Option bE) (s i:ZS) (wr:ZT):Prop:=∃ k x:Nat,k<=N/\i=Z7 Z9 k/\s=Z7 Z8 x/\x<2^k/\(∀ i,i<k->R i=ZX\/R i=ZW .blank->x.testBit i=ZV)/\wr=w
theorem uV {r:bE} (M:N<=60) (D:L0 r) (hr:∀ i,i<N->RG (R i) r) (d:w.rowIs g 215 N (λi=>fT (R i))) :
 ZR ZM 117 #[Z5 (ZW ⟨g,0,ZX⟩) N N,dK r] w λe w'=>∃ x:Nat,e=Z3 (Z7 Z8 x)/\x<2^N/\(∀ i,i<N->R i=ZX\/R i=ZW .blank->x.testBit i=ZV)/\w'=w:=by
 have l:∀ i,i<N->∃ b,(R i=ZX\/R i=ZW .blank->b=ZV)/\∀ w:ZT,(binOp .neq 215 (fT (R i)) (dK r)).run ZM w=.ok (Z1 b) w:=λi a=>E0 D (hr i a);obtain ⟨P,rv,C⟩:=iJ r;rw [C] at l ⊢;clear C hr D;have HN:=ak l;clear l;go_enter func117,ntmps117;go_wp2_with fail;go_loopw [4,9] (λs i wr=>UgR w N R s i wr) (λ_ i _=>N-(intOf i).toNat)
 case atStart=>exact ⟨0,0,T8 _,rfl,rfl,by decide,λi a=>absurd a (Xx _),rfl⟩
 case round=>
  obtain ⟨k,x,O,rfl,rfl,f,F,rfl⟩:=hrel;have HT:=ak F;clear F;by_cases B:k<N
  . have c:=d.cell (i:=k) B;have K:x<18446744073709551616:=Xb f (Bh (by omega));have n:=eS x k K (by omega) wr;have m:x|||2^k<2^(k+1):=WJ (Xb f (Vx (by decide) (by omega))) (Vx (by decide) (by omega));have E:x<2^(k+1):=Xb f (Vx (by decide) (by omega));have H:=ak d;clear d;obtain ⟨b,A,I⟩:=HN.o k B;have z:b=ZU->∀ i,i<k+1->R i=ZX\/R i=ZW .blank->x.testBit i=ZV:=λe i a q=>by
     by_cases h:i=k
     . rw [h] at q;rw [A q] at e;cases e
     . exact HT.o i (by omega) q
    have j:∀ i,i<k+1->R i=ZX\/R i=ZW .blank->(x|||2^k).testBit i=ZV:=λi a q=>by
     rw [VZ];by_cases h:i=k
     . rw [h];simp
     . rw [HT.o i (by omega) q,YJ]
    obtain ⟨y,L⟩:=nM (x|||2^k);rw [L] at n m j;have t:=ak z;have v:=ak j;clear z j A;have p:=ak n;clear n;rcases uU (R k) with G|⟨Q,u,G⟩<;>simp only [G] at c I<;>cases b
    . go_wp2;exact ⟨⟨k+1,x,by omega,by go_num,rfl,E,t.out rfl,rfl⟩,by simp [intOf];omega⟩
    . go_wp2_with fail;refine p.o.mono ?_;rintro e w' ⟨rfl,rfl⟩;go_wp2;exact ⟨⟨k+1,y,by omega,by go_num,rfl,m,v.out,rfl⟩,by simp [intOf];omega⟩
    . go_wp2;exact ⟨⟨k+1,x,by omega,by go_num,rfl,E,t.out rfl,rfl⟩,by simp [intOf];omega⟩
    . go_wp2_with fail;refine p.o.mono ?_;rintro e w' ⟨rfl,rfl⟩;go_wp2;exact ⟨⟨k+1,y,by omega,by go_num,rfl,m,v.out,rfl⟩,by simp [intOf];omega⟩
  . have J:k=N:=(by omega);subst J;clear d;go_wp2;go_ret;exact ⟨x,rfl,f,HT.o,rfl⟩
structure E1 (w:ZT) (ar v p D L G t:Nat) (Kind:aN->Prop) (ps:aN) (xs:aL) (A:aB) (F:aK) (e:ZP) (w':ZT):Prop where
 out:aa (λj=>F.S j\/j=v\/ps.bl j\/j=ar) w w'
 ans:∃ ps' pg ob P B,e=Z3 .nilIface/\(Kind ps'/\∀ k,ps'.bl k->ps.bl k\/w.heap.size<=k)/\dM A B/\aS w' ar v p ps' D L G t pg ob P xs B F
def mq {n:Nat} (h:a9 w ar v D L G t f n pg ob off):w.cell? ⟨ar,0,ZX⟩=ZW (Z6 (ZW ⟨v,0,ZX⟩)):=h.cells.1
def At (h:bg w v p D L G ps ho):w.cell? ⟨v,5,ZX⟩=ZW (Z7 Z8 ho)/\w.frozen? ⟨v,5,ZX⟩=ZU:=by
 have a:w.heap[v]?=ZW (Z4 #[Z6 (ZW ⟨p,0,ZX⟩),Z7 Z9 D,Z7 Z9 L,Z7 Z9 G,Z6 (ZW ⟨ps,0,ZX⟩),Z7 Z8 ho] 139 (0,0)):=h;simp [World.cell?,World.frozen?,a]
def RH (h:bg w v p D L G ps ho) (x:Nat):bg (w.setCell ⟨v,5,ZX⟩ (Z7 Z8 x)) v p D L G ps x:=ag (j:=5) h (Z7 Z8 x)
def mB.SG {ps:aN} (h:mB w ar v p ps D L G A F) {b:Nat} (d:b<2^(D+L+G)):mB (w.setCell ⟨v,5,ZX⟩ (Z7 Z8 (b:Nat))) ar v p (ps.SG b) D L G A F:=by
 have:=h.vlt;have a:aa (λk=>k=v) w (w.setCell ⟨v,5,ZX⟩ (Z7 Z8 (b:Nat))):=aa.setCell _ _ _ rfl;exact { h with vol:={ h.vol with vol:=RH h.vol.vol b,arr:=h.vol.arr.keep λk c=>a.block k (h.vol.arr.RN c) (λe=>h.vol.v (e▸c)),laid:=h.vol.laid.keep (a.block _ h.vol.laid.lt (by omega)),tab:=h.vol.tab.keep (a.block _ h.vol.tab.lt (by omega)),room:=TV h.vol.room a.size },arl:=T7 h.arl a.size,kit:=ps.keep _ _ h.kit λk c=>a.block k (ps.lt _ h.kit k c) (h.apt k c).2.2.1,hl:=d }
def mB.same {ps:aN} (h:mB w ar v p ps D L G A F) (a:aa F.S w w') (c:az w' p A F):mB w' ar v p ps D L G A F:=
 { h with vol:=h.vol.turn a c rfl,arl:=T7 h.arl a.size,kit:=ps.keep _ _ h.kit λk b=>a.block k (ps.lt _ h.kit k b) (h.apt k b).2.2.2 }
def Au {r:bE} (h:A.at b (λ_=>r)) {i:Nat} (a:i<A.n):RG (A.RX i b) r:=by
 cases hg:gnB A b i
 . exact .inr (.inr (by rw [K3 hg,(h i a).1]))
 . exact (Et hg).elim (λq=>.inl q.2) λq=>q.elim (λq=>.inl q.2) λq=>.inr (.inl q.2)
theorem E4 {xs:aL} (h:cJ A D L G t P xs) (ds:a8) (a:∀ i∈ds,i<A.n):cJ (A.putAt ds 0 (λ_=>.root D L G t (P.getD 0 0) (an xs.os).length)) D L G t P xs/\dM A (A.putAt ds 0 (λ_=>.root D L G t (P.getD 0 0) (an xs.os).length)):=by
 refine ⟨h.off (dM.put _ _ _ _).Tq λb _ i=>?_,dM.put _ _ _ _⟩;show (if b=0/\i∈ds then _ else _)=_;split
 . rename_i q
   rw [q.1];exact (h.root i (a i q.2)).1.symm
 . rfl
def qA {S:Nat} (h:S<2^N) {i:Nat} (a:i∈ab S):i<N:=by
 by_cases q:i<N
 . exact q
 . have q2:=(cE.1 a).2;rw [Wz (T7 h (UW (by decide) (by omega)))] at q2;cases q2
theorem E5 {Kind:aN->Prop} {ps:aN} {xs:aL} (ho:mB w ar v p ps D L G A F) (C:a9 w ar v D' L' G' t f nn pg ob ZU) (hv:uS D L G Kind ps) (q9:A.nb<=1000) (qb:t1<=1000000) (u:cJ A D L G t1 P xs) (c:w.rowIs g 215 A.n (λi=>fT (A.RX i 0))) (hr:¬ F.S g) :
 ZR ZM 91 #[Z6 (ZW ⟨ar,0,ZX⟩),.agg (aj D L G t1 (P.getD 0 0) (an xs.os).length),Z5 (ZW ⟨g,0,ZX⟩) A.n A.n] w (E1 w ar v p D L G t1 Kind ps xs A F):=by
 have M:∀ k,F.S k->k<w.heap.size:=λk hk=>ho.vol.arr.RN hk;have q4:=ho.arl;have q6:=ho.vol.par.d;have kk:A.n<=16:=by rw [ho.vol.n];exact ho.vol.par.s
 have qa:2<=A.nb:=by have:=u.room;omega
 obtain ⟨f1,x⟩:=nM (P.getD 0 0);obtain ⟨n1,z⟩:=nM ((an xs.os).length);rw [x,z];have N:(w.alloc (Z4 (aj D L G t1 f1 n1) 142)).heap[w.heap.size]?=ZW (Z4 (aj D L G t1 f1 n1) 142 (0,0)):=Ug _ _;have m:bW w (w.alloc (Z4 (aj D L G t1 f1 n1) 142)):=bA w _;have Z:(w.alloc (Z4 (aj D L G t1 f1 n1) 142)).heap.size=w.heap.size+1:=by simp
 obtain ⟨w1,ko⟩:=nM (w.alloc (Z4 (aj D L G t1 f1 n1) 142));rw [ko] at N m Z;have K:=C.keep (m.block _ C.lt);have E:=ho.below m;have k9:=E.below ((TW _ w1).drew);have q0:=iK k9.vol 1 (by omega);obtain ⟨J,kr⟩:=nM (cy (λi=>A.RX i 1) A.n);have q5:J<2^(D+L+G):=by rw [<- kr,<- ho.vol.n];exact iR _ _ (by omega)
 have ca:=mq K;have qc:w.alloc (Z4 #[Z7 Z9 D,Z7 Z9 L,Z7 Z9 G,Z7 Z8 t1,Z7 Z9 f1,Z7 Z9 n1] 142)=w1:=ko;have h:=a7 K E N m Z q0;have HV:=hide8 ho C M c hr u x z;clear C N m K E k9 Z ko q0 M c hr ho u x z;show ZR ZM 91 #[Z6 (ZW ⟨ar,0,ZX⟩),.agg #[Z7 Z9 D,Z7 Z9 L,Z7 Z9 G,Z7 Z8 t1,Z7 Z9 f1,Z7 Z9 n1],Z5 (ZW ⟨g,0,ZX⟩) A.n A.n] w _;go_enter func91,ntmps91;go_upto_region 1 with fail;go_cut [19] from 8 to 18 (λ_v I=>∃ X,I=X.setCell ⟨v,5,ZX⟩ (Z7 Z8 (J:Nat))/\az X p A F/\aa F.S w1 X)
 case first=>
  go_region_with (first
   | (go_at_call 89;refine h.o.2.2.2.2.2.mono ?_;rintro e w2 ⟨g2,rfl,q7,hx,hm,kg⟩;have H2:=aE hx hm kg;have qf:=mq (h.o.1.keep (kg.block _ h.o.1.lt h.o.2.1.nar));clear hx hm kg q7)
   | (go_at_call 93;refine (uK (λi=>A.RX i 1) (by omega) H2.o.1).mono ?_;rw [kr];rintro e w3 ⟨rfl,ki⟩;have kb:aa (F.S) w1.drew w3:=H2.o.2.2.trans (aa.RL ki _);have qg:=mq (h.o.1.keep (kb.block _ h.o.1.lt h.o.2.1.nar));obtain ⟨qh,qi⟩:=At (h.o.2.1.vol.vol.keep (kb.block _ h.o.2.1.vol.vol.lt h.o.2.1.vol.v));have H3:=al ki kb;clear ki kb))
  all_goals (go_wp2_with fail;go_meet;case rel=>(
   exact ⟨w3,rfl,H2.o.2.1.below H3.o.1 lR,(aa.drew w1).trans H3.o.2⟩))
 case rest=>
  obtain ⟨X,rfl,hp,V⟩:=hcut;obtain ⟨K,E,N,m,Z,_⟩:=h.o;obtain ⟨ho,C,M,c,hr,u,x,z⟩:=HV.o;have k0:aa (λj=>F.S j\/j=v\/ps.bl j) w1 X:=V.mono λ_ _ q=>.inl q;have ky:=E.same V hp;have km:=ky.SG q5;have k8:aa (λk=>k=v) X (X.setCell ⟨v,5,ZX⟩ (Z7 Z8 (J:Nat))):=aa.setCell _ _ _ rfl;have ka:v≠ar:=by have:=ho.vlt;omega
  have ke:=E.arc k0 K;have kf:=ke.keep (k8.block _ ke.lt (λe=>ka e.symm));have U:(X.setCell ⟨v,5,ZX⟩ (Z7 Z8 (J:Nat))).heap[w.heap.size]?=ZW (Z4 (aj D L G t1 f1 n1) 142 (0,0)):=(k8.block _ (by have:=V.size;omega) (by have:=ho.vol.vol.lt;omega)).trans ((V.block _ (by omega) (λe=>by have:=M _ e;omega)).trans N);have Q:aa (λj=>F.S j\/j=v\/ps.bl j) w1 (X.setCell ⟨v,5,ZX⟩ (Z7 Z8 (J:Nat))):=k0.trans (k8.mono λ_ _ q=>.inr (.inl q));have O:(X.setCell ⟨v,5,ZX⟩ (Z7 Z8 (J:Nat))).rowIs g 215 A.n (λi=>fT (A.RX i 0)):=((c.of_block (m.block _ c.lt)).of_block (V.block _ (by have:=c.lt;omega) hr)).of_block (k8.block _ (by have:=c.lt;have:=V.size;omega) (λe=>by
   obtain ⟨cs,W,_⟩:=c;have h2:=ho.vol.vol;rw [<- e] at h2;have l:w.heap[g]?=ZW (Z4 #[Z6 (ZW ⟨p,0,ZX⟩),Z7 Z9 D,Z7 Z9 L,Z7 Z9 G,Z6 (ZW ⟨ps.ps,0,ZX⟩),Z7 Z8 ps.ho] 139 (0,0)):=h2;rw [W] at l;simp only [UD,UP] at l;exact absurd l.2.1 (by decide)))
  obtain ⟨Y,hY⟩:=nM (X.setCell ⟨v,5,ZX⟩ (Z7 Z8 (J:Nat)));rw [hY] at km kf U Q O ⊢;have kj:=rM (t1:=t1) km kf (⟨hv.sh,hv.re,hv.pk,hv.re _ _ hv.kind⟩:uS D L G Kind (ps.SG J)) q9 qb u;rw [x,z] at kj;have HL:=a5 kj U Q O;clear K E N m Z ho C M c hr k0 ky km k8 ke kf U Q kj ca hY hp V O ka u x z;go_wp2_with (show wpList _ _ _ ({ dst:=ZW 21,op:=_,type:=_,pos:=_,after:=_,guard:=_ }::_) _ _;refine kJ (D:=D) (L:=L) (G:=G) (t:=t1) (f:=f1) (n:=n1) (b:=w.heap.size) rfl (Z0 4) rfl rfl (by rfl) (by exact HL.o.2.1) ?_);refine HL.o.1.mono ?_;rintro e a ⟨kc,kh⟩;obtain ⟨_,U,Q,O⟩:=HL.o;obtain ⟨ho,C,M,c,hr,u,x,z⟩:=HV.o;obtain ⟨K,E,N,m,Z,_⟩:=h.o;have k7:aa (λj=>F.S j\/j=v\/ps.bl j\/j=ar) w a:=((aa.RL m _).trans (Q.mono λj _ q=>by
   rcases q with q|q|q
   . exact .inl q
   . exact .inr (.inl q)
   . exact .inr (.inr (.inl q)))).trans kc
  obtain ⟨H,qd,hb,rfl,kx,hs⟩:=kh;have q2:b9 (∀ k,H.bl k->ps.bl k\/w.heap.size<=k):=ak λk hk=>(kx.2 k hk).imp id λq=>TV (TV m.size Q.size) q;have kv:a.rowIs g 215 A.n (λi=>fT (A.RX i 0)):=O.of_block (kc.block _ O.lt (λq=>by
   rcases q with q|q|q|q
   . exact hr q
   . obtain ⟨cs,W,_⟩:=c;have l:w.heap[v]?=ZW (Z4 #[Z6 (ZW ⟨p,0,ZX⟩),Z7 Z9 D,Z7 Z9 L,Z7 Z9 G,Z6 (ZW ⟨ps.ps,0,ZX⟩),Z7 Z8 ps.ho] 139 (0,0)):=ho.vol.vol;rw [<- q,W] at l;simp only [UD,UP] at l;exact absurd l.2.1 (by decide)
   . obtain ⟨cs,W,_⟩:=c;exact bU ho.kit W (by unfold jP;decide) q
   . obtain ⟨cs,W,_⟩:=c;have l:w.heap[ar]?=ZW (Z4 _ 146 (0,0)):=C;rw [<- q,W] at l;simp only [UD,UP] at l;exact absurd l.2.1 (by decide)))
  have T:a.heap[w.heap.size]?=ZW (Z4 (aj D L G t1 f1 n1) 142 (0,0)):=(kc.block _ (T5.1 U).1 (λq=>by
   rcases q with q|q|q|q
   . have:=M _ q;omega
   . have:=ho.vol.vol.lt;omega
   . have q':ps.bl w.heap.size:=q;have:=ps.lt _ ho.kit _ q';omega
   . omega)).trans U
  have q1:=uV (w:=a.drew) (R:=λi=>A.RX i 0) (r:=.root D L G t1 f1 n1) (by omega) trivial (λi hi=>by rw [<- x,<- z];exact Au u.root hi) (kv.of_block rfl);have kz:(bE.root D L G t1 f1 n1).ok:=by
   have h1:=ho.vol.par.d;have h2:=ho.vol.par.l4;have l:=ho.vol.par.g;have h4:=hs.packL_le;have h5:f1<A.nb:=by
    rw [<- x];exact (u.Tk _ (UF _ (lM (by rw [u.pl];unfold pgs;omega)))).2
   exact ⟨by omega,by omega,by omega,by omega,by omega,by omega⟩
  have ks:∀ y,y<2^A.n->∀ I,az I p (A.putAt (ab y) 0 (λ_=>.root D L G t1 f1 n1)) F->aa F.S a I->∃ B,dM A B/\aS I ar v p H D L G t1 qd hb P xs B F:=λy hy I hB hO=>by
   have hg:=E4 u (ab y) λi hi=>qA hy hi;rw [x,z] at hg;exact ⟨_,hg.2,IF hs (hs.arc.keep (hO.block _ hs.arc.lt hs.nar)) hB (hO.mono λ_ _ q=>.inr q) hg.2 hg.1⟩
  have z0:a.cell? ⟨w.heap.size,0,ZX⟩=ZW (Z7 Z9 D):=by simp [World.cell?,T,aj]
  have z1:a.cell? ⟨w.heap.size,1,ZX⟩=ZW (Z7 Z9 L):=by simp [World.cell?,T,aj]
  have z2:a.cell? ⟨w.heap.size,2,ZX⟩=ZW (Z7 Z9 G):=by simp [World.cell?,T,aj]
  have z3:a.cell? ⟨w.heap.size,3,ZX⟩=ZW (Z7 Z8 t1):=by simp [World.cell?,T,aj]
  have z4:a.cell? ⟨w.heap.size,4,ZX⟩=ZW (Z7 Z9 f1):=by simp [World.cell?,T,aj]
  have z5:a.cell? ⟨w.heap.size,5,ZX⟩=ZW (Z7 Z9 n1):=by simp [World.cell?,T,aj]
  have qe:=mq hs.arc;have H4:=a6 hs q1 kz k7 ks;clear U Q O ho C M c hr K E N m Z k7 kc kv T q1 kz hs ks u x z;go_upto_region 5 with fail;go_cut [36] from 26 to 35 (λ_v I=>(∃ B,dM A B/\aS I ar v p H D L G t1 qd hb P xs B F)/\aa F.S a I)
  case first=>
   go_region_with (first
    | (go_at_call 117;refine H4.o.2.1.mono ?_;rintro e w5 ⟨y,rfl,hy,-,rfl⟩;have HY:=ak hy;clear hy)
    | (go_at_call 118;refine (eX (H4.o.1.vol.below ((TW _ a).drew) lR) 0 y (by omega) (T7 HY.o (jc kk)) (λi hi=>qA HY.o hi) (.root D L G t1 f1 n1) H4.o.2.2.1).mono ?_;rintro e w6 ⟨rfl,hn,kp⟩;have H6:=al hn kp;clear hn kp))
   all_goals (go_wp2_with fail;go_meet;case rel=>exact ⟨H4.o.2.2.2.2 y HY.o _ H6.o.1 ((aa.drew a).trans H6.o.2),(aa.drew a).trans H6.o.2⟩)
  case rest=>
   have HF:=ak hcut;clear hcut qe;go_wp2;go_ret;obtain ⟨⟨B,hB,q8⟩,q3⟩:=HF.o;exact ⟨H4.o.2.2.2.1.trans (q3.mono λ_ _ q=>.inl q),⟨H,_,_,_,B,rfl,⟨kx.1,q2.out⟩,hB,q8⟩⟩
def oP:∀ k,(∀ i,i<k->R i=ZX\/R i=ZW .blank)->bm R k=⟨0,0,0,0,0,0⟩
 | 0,_=>rfl
 | k+1,h=>by
  show lO (bm R k) (R k)=_;rw [oP k λi a=>h i (by omega)];rcases h k (by omega) with e|e<;>rw [e]<;>rfl
def rj (h:R i=ZW .blank):∀ k,i<k->(cy R k).testBit i=ZV
 | 0,hi=>absurd hi (Xx _)
 | k+1,hi=>by
  show (ER (cy R k) k (R k)).testBit i=ZV;by_cases e:i=k
  . subst e;rw [h];show (cy R i|||2^i).testBit i=ZV;simp
  . have ih:=rj h k (by omega);cases hb:sm (R k)
    . rw [Ge hb];exact ih
    . have a:ER (cy R k) k (R k)=cy R k|||2^k:=by
       cases hR:R k with
       | none=>rw [hR] at hb;cases hb
       | some r=>cases r<;>first|rfl|(rw [hR] at hb;cases hb)
      rw [a,VZ,ih,YJ]
def yI {lost:Nat} (hD:D<=12) (hG:G<=4) (h:∀ i,i<D+L+G->lost/2^i%2=0):gq D L G lost:=
 mu.units (nv (λl hl=>oh D L G hD hG l (te _ _ _ (by rw [cI];omega) l hl)) 0) λj a=>aV.mem (jT j) ((nT _ _ _ _).2 ⟨j,by omega,h j (by omega),by rw [J7 D L G j a,J6 D j a]⟩)
def Oh (x:Nat) (h:x<2^64):(2^64-1)^^^x=2^64-1-x:=by
 refine Xn λi=>?_;rw [aaR,Xt,show 2^64-1-x=2^64-(x+1) by omega,Xs h];by_cases a:i<64
 . simp [a]
 . have:x.testBit i=ZU:=Wz (T7 h (UW (by decide) (by omega)));simp [a,this]
def Oi (x:Nat) (h:x<18446744073709551616):bits .xor .u64 IntKind.u64.max (x:Int)=((18446744073709551615-x:Nat):Int):=by
 have:=bits_xor_u64_nat 18446744073709551615 x (by decide) h;rw [show (18446744073709551615:Nat)=2^64-1 by decide,Oh x (by omega)] at this;exact this
def rk {n:Nat} (c:0<t):∀ k,(∀ i,i<k->RG (R i) (.root D L G t f n))->(bm R k=⟨D,L,G,t,f,n⟩)\/(bm R k=⟨0,0,0,0,0,0⟩/\∀ i,i<k->R i=ZX\/R i=ZW .blank)
 | 0,_=>.inr ⟨rfl,λ_ h=>absurd h (Xx _)⟩
 | k+1,h=>by
  show (lO (bm R k) (R k)=_)\/(lO (bm R k) (R k)=_/\_);have ih:=rk c k λi b=>h i (by omega);rcases h k (by omega) with e|e|e
  . rw [e];refine ih.imp id λq=>⟨q.1,λi b=>?_⟩;by_cases a:i=k
    . rw [a];exact .inl e
    . exact q.2 i (by omega)
  . rw [e];refine ih.imp id λq=>⟨q.1,λi b=>?_⟩;by_cases a:i=k
    . rw [a];exact .inr e
    . exact q.2 i (by omega)
  . rw [e];refine .inl ?_;rcases ih with q|q
    . rw [q];exact TS (Nat.lt_irrefl _)
    . rw [q.1];exact TT c
def Beg (A:aB) (D L G t:Nat) (xs:aL):Prop:=(t=1/\xs=[]/\A.at 0 λ_=>.blank)\/(t<=1000000/\∃ P,cJ A D L G t P xs)
def Gh {l:Nat}:l/2^i%2=0↔l.testBit i=ZU:=by
 rw [Wu,decide_eq_false_iff_not];omega
def L2 {r:bE} (h:A.at b λ_=>r) {i:Nat} (a:i<A.n) (hs:A.sv.testBit i=ZU):A.RX i b=ZW r:=by
 cases hg:gnB A b i
 . rw [K3 hg,(h i a).1]
 . rw [(h i a).2 hg] at hs;cases hs
def L3 {xs:aL} (h:Beg A D L G t xs) (u:A.n=D+L+G) (s:A.n<=16) (o:1<=D) (p:A.fine D L G):(∃ P,t<=1000000/\cJ A D L G t P xs/\bm (λi=>A.RX i 0) A.n=⟨D,L,G,t,P.getD 0 0,(an xs.os).length⟩) \/
 (bm (λi=>A.RX i 0) A.n=⟨0,0,0,0,0,0⟩/\t=1/\xs=[]/\gq D L G (18446744073709551615-cy (λi=>A.RX i 0) A.n)):=by
 have j:=p.1;rcases h with ⟨m,f,g⟩|⟨r,P,d⟩
 . refine .inr ⟨oP _ λi a=>(Au g a).imp id λq=>q.elim id id,m,f,wZ _ A.sv _ _ D (λi a l=>?_) j⟩;have c:=rj (R:=λi=>A.RX i 0) (i:=i) (L2 g (by omega) (Gh.1 l)) A.n (by omega);have:=iR (λi=>A.RX i 0) A.n (by omega);have:=Bh (k:=A.n) (by omega);rw [Gh];have e:=Xs (x:=cy (λi=>A.RX i 0) A.n) (n:=64) (by omega) i;rw [show 2^64-(cy (λi=>A.RX i 0) A.n+1)=18446744073709551615-cy (λi=>A.RX i 0) A.n by omega,c] at e;rw [e];simp
 . rcases rk d.turn A.n (λi a=>Au d.root a) with q|⟨q,q2⟩
   . exact .inl ⟨P,r,d,q⟩
   . refine absurd j (GV _ _ _ _ o λi a=>?_);have c:A.sv.testBit i=ZV:=by
      cases hh:A.sv.testBit i
      . have b:=q2 i (by omega);simp only [L2 d.root (show i<A.n by omega) hh] at b;rcases b with b|b<;>cases b
      . rfl
     rw [Wu] at c;exact WX c
def E6 {ps:aN} (ho:mB w ar v p ps D L G A F) (m:5<=A.nb) (d:A.nb<=1000) (h:az w' p (nh A D L G) F) (i:a9 w' ar v D L G 1 2 0 u (Z5 ZX 0 0) ZU) (l:bf (λk=>w.heap.size<=k) w' u [2]) (b:aa (λk=>k=ar\/F.S k) w w'):aS w' ar v p ps D L G 1 u (Z5 ZX 0 0) [2] [] (nh A D L G) F/\dM A (nh A D L G):=by
 have o:=ho.vlt;have f:pgs D 0=1:=by
  unfold pgs;have:=ho.vol.par.d1;rw [Uj,Xo (by omega)];rfl
 have a:dM A (nh A D L G):=dM.trans (B:=A.putAt (YE A.n) 1 (λ_=>.filled)) (dM.put _ _ _ _) (Aq (A.putAt (YE A.n) 1 (λ_=>.filled)) D L G 1 [2] []);have j:cJ (nh A D L G) D L G 1 [2] []:=pU (B:=A.putAt (YE A.n) 1 (λ_=>.filled)) (P':=[2]) (xs':=[]) ((dM.put _ _ _ _).fine ho.fine) (uk _ _ ho.fine.2) (show [2].length=pgs D 0 from f.symm) (by decide) (λx c=>by
  have:x=2:=by simpa [af,aL.os] using c
  rw [this];show 2<=2/\2<A.nb;omega) (λx c=>by cases c) List.Pairwise.nil (λx c=>by cases c) (by show 0+2*1+2<=A.nb;omega) (by decide)
 exact ⟨{ arc:=i,fine:=a.fine ho.fine,vol:={ ho.vol with vol:=ho.vol.vol.keep (b.block _ ho.vol.vol.lt (λe=>e.elim (by omega) ho.vol.v)),arr:=h,laid:=ho.vol.laid.keep (b.block _ ho.vol.laid.lt (λe=>e.elim (by omega) ho.vol.g)),tab:=ho.vol.tab.keep (b.block _ ho.vol.tab.lt (λe=>e.elim (by omega) ho.vol.t)),room:=TV ho.vol.room b.size,n:=a.n.trans ho.vol.n },nar:=ho.nar,vlt:=ho.vlt,disk:=j,pgs:=l.wk λk a _=>⟨by have:=ho.arl;omega,λe=>by have:=ho.vol.arr.RN (k:=k) e;omega,λe=>by have:=ps.lt _ ho.kit _ e;omega⟩,cat:=eO.nil _ _,nb:=by rw [a.nb];exact d,turn:=by decide,kit:=ps.keep _ _ ho.kit λk a=>b.block k (ps.lt _ ho.kit k a) (λe=>e.elim (ho.apt k a).2.1 (ho.apt k a).2.2.2),apt:=ho.apt,hl:=ho.hl },a⟩
theorem L4 {Kind:aN->Prop} {ps:aN} {xs:aL} (ho:mB w ar v p ps D L G A F) (T:a9 w ar v 0 0 0 0 0 0 (Z5 ZX 0 0) (Z5 ZX 0 0) ZU) (hv:uS D L G Kind ps) (qb:5<=A.nb) (ke:A.nb<=1000) (hS:Beg A D L G tt xs) :
 ZR ZM 68 #[Z6 (ZW ⟨ar,0,ZX⟩)] w (E1 w ar v p D L G tt Kind ps xs A F):=by
 obtain ⟨c0,_⟩:=T.cells;have hr:=ho.vol.par;have qa:=ho.vol.n;have kc:A.n<=16:=by rw [ho.vol.n];exact hr.s
 have x:=L3 hS qa kc hr.d1 ho.fine;have k6:∀ k,F.S k->k<w.heap.size:=λk hk=>ho.vol.arr.RN hk;have q6:=iK ho.vol 0 (by omega);have HV:=a5 ho T k6 hS;clear ho T k6 hS;go_enter func68,ntmps68;go_wp2_with fail;refine q6.mono ?_;rintro e w1 ⟨g,rfl,hg,R,kx,U⟩;obtain ⟨ho,T,k6,_⟩:=HV.o;have kf:=ho.same U kx;have hz:=T.keep (U.block _ T.lt ho.nar);have W:¬ F.S g:=λe=>by have:=k6 _ e;omega
 have kb:=Am (N:=A.n) (λi=>A.RX i 0) (by omega) (w:=w1) R;obtain ⟨⟨a,l,c,rt,H,I⟩,q7⟩:∃ r,bm (λi=>A.RX i 0) A.n=r:=⟨_,rfl⟩;rw [q7] at kb x;rw [show IA ⟨a,l,c,rt,H,I⟩=aj a l c rt H I from rfl] at kb;have hj:(0<rt/\a=D/\l=L/\c=G)\/rt=0:=by
  rcases x with ⟨P,_,hd,q⟩|⟨q,_⟩
  . simp only [Rt.mk.injEq] at q;exact .inl ⟨by rw [q.2.2.2.1];exact hd.turn,q.1,q.2.1,q.2.2.1⟩
  . simp only [Rt.mk.injEq] at q;exact .inr q.2.2.2.1
 obtain ⟨N,y⟩:=nM (A.n);have H1:=hide7 hz kf U R y W x;rw [y] at kb kc;clear hz kf U R kx q6 ho T k6 W q7 x;rw [y];clear y;go_wp2_with fail;refine kb.mono ?_;rintro e w2 ⟨rfl,ko⟩;have qg:=pP;obtain ⟨hz,kf,U,R,y,W,x⟩:=H1.o;have k5:bW w1 (fQ w2 a l c rt H I):=ko.trans ((eW w2 a l c rt H I).mono ko.size);have O:=hz.keep (k5.block _ hz.lt);have hs:=kf.below k5;have V:=R.of_block (k5.block g R.lt);have C:=uJ w2 a l c rt H I;obtain ⟨w3,kv⟩:=nM (fQ w2 a l c rt H I);rw [kv] at k5 O hs V C;have x0:w3.cell? ⟨w2.heap.size,0,ZX⟩=ZW (Z7 Z9 a):=by simp [World.cell?,C,aj]
 have x1:w3.cell? ⟨w2.heap.size,1,ZX⟩=ZW (Z7 Z9 l):=by simp [World.cell?,C,aj]
 have x2:w3.cell? ⟨w2.heap.size,2,ZX⟩=ZW (Z7 Z9 c):=by simp [World.cell?,C,aj]
 have x3:w3.cell? ⟨w2.heap.size,3,ZX⟩=ZW (Z7 Z8 rt):=by simp [World.cell?,C,aj]
 obtain ⟨d0,_⟩:=O.cells;have k7:aa (F.S) w w3:=U.trans (aa.RL k5 _);have q8:=fJ (w:=w3.drew) (hs.vol.vol.keep rfl);have H3:=hide7 O hs V k7 kv C q8;clear hz kf U R ko k5 O hs V C k7 kv c0 y W kb q8 x;have qc:∀ w:ZT,(binOp .neq 27 (.agg #[Z7 Z9 D,Z7 Z9 L,Z7 Z9 G]) (.agg #[Z7 Z9 D,Z7 Z9 L,Z7 Z9 G])).run ZM w=.ok (Z1 ZU) w:=λw=>by
  have h:=K9 D L G D L G w;rw [UY (by exact ⟨rfl,rfl,rfl⟩)] at h;simp only [binOp];simp [Op.equal,Op.maxDepth,h]
 go_upto_region 3 with (show wpList _ _ _ ({ dst:=ZX,op:=Op.store 142 (Z0 4) (Z0 11),type:=_,pos:=_,after:=_,guard:=_ }::_) _ _;refine Al (w:=w2) (D:=a) (L:=l) (G:=c) (t:=rt) (f:=H) (n:=I) rfl (Z0 4) (Z0 11) rfl (by rfl) (by rfl) ?_;rw [H3.o.2.2.2.2.1]);simp only [Act.put];go_cut [12] from 13 to 25 (λqj wx=>bW w3 wx/\qj=Z1 ZU)
 case first=>
  rcases hj with ⟨q5,rfl,rfl,rfl⟩|h0
  . have ks:(rt:Int)>0:=(by omega);have km:b9 (w2.heap.size<w3.drew.heap.size):=ak (Uf x0);go_region_with (go_at_call 77;refine H3.o.2.2.2.2.2.2.mono ?_;rintro e J ⟨rfl,k9,_,_⟩;have M:=ak k9;have y0:J.cell? ⟨w2.heap.size,0,ZX⟩=ZW (Z7 Z9 a):=(k9.cell (p:=⟨w2.heap.size,0,ZX⟩) km.out).trans x0;have y1:J.cell? ⟨w2.heap.size,1,ZX⟩=ZW (Z7 Z9 l):=(k9.cell (p:=⟨w2.heap.size,1,ZX⟩) km.out).trans x1;have y2:J.cell? ⟨w2.heap.size,2,ZX⟩=ZW (Z7 Z9 c):=(k9.cell (p:=⟨w2.heap.size,2,ZX⟩) km.out).trans x2;clear k9);all_goals (go_wp2_with fail;go_meet;case rel=>exact ⟨(TW _ w3).drew.trans M.o,by simp⟩)
  . have qk:w3.cell? ⟨w2.heap.size,3,ZX⟩=ZW (Z7 Z8 0):=(by rw [x3,h0];rfl);clear x3;go_quiet (fail);go_wp2_with fail;go_meet
    case rel=>exact ⟨⟨rfl,rfl,rfl,TU _,λ_ _=>rfl⟩,rfl⟩
 case rest=>
  rename ZT=>J;obtain ⟨h6,rfl⟩:=hcut;obtain ⟨O,hs,V,k7,_,C,_⟩:=H3.o;have m:=O.keep (h6.block _ O.lt);have E:=hs.below h6;have z:=V.of_block (h6.block g V.lt);have ky:aa (F.S) w J:=k7.trans (aa.RL h6 _);have Z:=(h6.block _ (T5.1 C).1).trans C;have c3:J.cell? ⟨w2.heap.size,3,ZX⟩=ZW (Z7 Z8 rt):=by simp [World.cell?,Z,aj]
  obtain ⟨d4,_⟩:=m.cells;have K:aa (λj=>F.S j\/j=v\/ps.bl j\/j=ar) w J:=ky.mono λ_ _ q=>.inl q;have M:=a6 m E z K Z;clear O hs V k7 C m E z ky K Z h6 x0 x1 x2 x3 d0 qc;rcases hj with ⟨ks,rfl,rfl,rfl⟩|rfl
  . have qf:(rt:Int)>0:=(by omega);obtain ⟨m,E,z,K,Z⟩:=M.o;obtain ⟨_,_,_,_,y,W,x⟩:=H1.o;obtain ⟨P,ht,hd,q⟩:∃ P,tt<=1000000/\cJ A a l c tt P xs/\(⟨a,l,c,rt,H,I⟩:Rt)=⟨a,l,c,tt,P.getD 0 0,(an xs.os).length⟩:=by
     rcases x with h|⟨q,_⟩
     . exact h
     . simp only [Rt.mk.injEq] at q;omega
    simp only [Rt.mk.injEq,true_and] at q;obtain ⟨rfl,rfl,rfl⟩:=q;have kj:=E5 E m hv ke ht hd z W;rw [y] at kj;obtain ⟨H,qd⟩:=nM (P.getD 0 0);obtain ⟨I,qe⟩:=nM ((an xs.os).length);rw [qd,qe] at Z kj;have HR:=al kj Z;clear m E z K Z y W x kj hd;go_wp2_with (show wpList _ _ _ ({ dst:=ZW 32,op:=_,type:=_,pos:=_,after:=_,guard:=_ }::_) _ _;refine kJ (D:=a) (L:=l) (G:=c) (t:=rt) (f:=H) (n:=I) (b:=w2.heap.size) rfl (Z0 4) rfl rfl (by rfl) (by exact HR.o.2) ?_);refine HR.o.1.mono ?_;intro e w5 hp;obtain ⟨ev,he⟩:∃ ev,e=Z3 ev:=by
     obtain ⟨_,_,_,_,_,rfl,_⟩:=hp.ans;exact ⟨_,rfl⟩
    subst he;have Q:=ak hp;clear hp;go_wp2;go_ret;obtain ⟨qi,pg5,qh,P5,B,k0,k1,k2⟩:=Q.o.ans;exact ⟨M.o.2.2.2.1.trans Q.o.out,qi,pg5,qh,P5,B,k0,⟨k1.1,λk hk=>(k1.2 k hk).imp id λq=>TV M.o.2.2.2.1.size q⟩,k2⟩
  . have hb:J.cell? ⟨w2.heap.size,3,ZX⟩=ZW (Z7 Z8 0):=c3;clear c3;go_wp2_with fail;refine (vM M.o.2.1.vol.vol).mono ?_;rintro e w5 ⟨rfl,kp⟩;obtain ⟨m,E,z,K,_⟩:=M.o;have kz:=z.of_block (kp.block g z.lt);obtain ⟨_,_,_,_,y,_,x⟩:=H1.o;have kr:=uK (N:=A.n) (λi=>A.RX i 0) (by omega) (w:=w5) kz;obtain ⟨X,hX⟩:=nM (cy (λi=>A.RX i 0) A.n);have q9:X<18446744073709551616:=by
     have h1:=iR (λi=>A.RX i 0) A.n (by omega);have h2:=Bh (k:=A.n) (by omega);omega
    have hT:tt=1/\xs=[]/\gq D L G (18446744073709551615-X):=by
     rcases x with ⟨_,_,hd,q⟩|⟨_,h1,h2,h3⟩
     . simp only [Rt.mk.injEq] at q;have:=hd.turn;omega
     . exact ⟨h1,h2,by rw [<- hX];exact h3⟩
    have key:=Oi X q9;rw [hX,y] at kr;have Q:=aE kp kr hT;clear m E z K kp kz kr hX hT y x;go_wp2_with fail;refine Q.o.2.1.mono ?_;rintro e w6 ⟨rfl,q1⟩;have ka:bW J w6:=Q.o.1.trans (q1.mono Q.o.1.size);have H6:=ak ka;clear ka q1;go_wp2_with fail;refine (kT D L G (18446744073709551615-X) hr.r hr.d hr.l1 hr.l4 hr.g hr.div (by omega) w6).mono ?_;rintro e w7 ⟨bb,rfl,q3,q2⟩;obtain ⟨m,E,z,K,_⟩:=M.o;have hh:bW J w7:=H6.o.trans (q2.mono H6.o.size);have q0:=m.keep (hh.block _ m.lt);have Y:=E.below hh;have kh:aa (λj=>F.S j\/j=v\/ps.bl j\/j=ar) w w7:=K.trans (aa.RL hh _);obtain ⟨rfl,rfl,hT⟩:=Q.o.2.2;obtain rfl:bb=ZV:=q3.2 hT;have q4:=If q0 Y.vol Y.nar (by omega) Y.fine;have H7:=aE q4 Y kh;clear m E z K hh q0 Y q4 kh q3 q2 key hb d4 hT;go_wp2_with fail;refine H7.o.1.mono ?_;rintro e w8 ⟨rfl,kg,⟨u,ki,kk⟩,k8⟩;have H8:=a5 kg ki kk k8;clear kg ki kk k8;go_wp2;go_ret;obtain ⟨kg,ki,kk,k8⟩:=H8.o;obtain ⟨_,Y,kh⟩:=H7.o;obtain ⟨hl,hk⟩:=E6 Y qb ke kg ki kk k8;exact ⟨kh.trans (k8.mono λk _ q=>q.elim (λe=>.inr (.inr (.inr e))) .inl),ps,_,_,_,_,rfl,⟨hv.kind,λ_ q=>.inl q⟩,hk,hl⟩
def QC (h:py w sb room) (D L G:Nat):gI w sb room D L G [] []:=by
 obtain ⟨d,⟨n,f⟩,g,_⟩:=h.parts;refine ⟨d,h.RZ,⟨n,f⟩,⟨λ_=>⟨0,0,0,0,ZU,0,Z5 ZX 0 0⟩,λ_=>sb,λ_=>sb,λa c=>?_,⟨rfl,rfl⟩,λq b=>by cases b⟩,by simp [jS],by simp [cM],λe i=>(by cases i),λq b=>(by cases b),rfl,λq b=>(by cases b),λq b=>(by cases b),λq b=>(by cases b),λq b=>(by cases b)⟩;rcases c with rfl|c
 . exact g
 . cases c
def L5 (w:ZT) (p D L G t:Nat) (cache:Int) (xs:aL) (A:aB) (F:aK) (ar:Nat) (w':ZT):Prop:=∃ v sb ps pg ob P B,aS w' ar v p ps D L G t pg ob P xs B F/\dM A B/\mR sb cache D L G ps/\w.heap.size<=v/\w.heap.size<=ar/\∀ k,ps.bl k->w.heap.size<=k
structure QD (w:ZT) (p D L G t:Nat) (cache:Int) (xs:aL) (A:aB) (F:aK) (e:ZP) (w':ZT):Prop where
 out:aa F.S w w'
 ans:∃ ar,e=Z3 (ZY #[Z6 (ZW ⟨ar,0,ZX⟩),.nilIface])/\L5 w p D L G t cache xs A F ar w'
structure IR (w:ZT) (p D L G t:Nat) (cache:Int) (xs:aL) (A:aB) (F:aK):Prop where
 arr:az w p A F
 n:A.n=D+L+G
 par:vG D L G
 c0:0<=cache
 c1:cache<=64
 nb:8<=A.nb
 nb2:A.nb<=1000
 laid:bV w
 tab:aG w
 room:3<=w.heap.size
 g:¬ F.S 2
 gt:¬ F.S 1
 beg:Beg A D L G t xs
 fine:A.fine D L G
def IR.below {xs:aL} (h:IR w p D L G t cache xs A F) (a:bW w w'):IR w' p D L G t cache xs A F:=
 { h with arr:=h.arr.below a lR,laid:=h.laid.below a h.laid.lt,tab:=h.tab.keep (a.block _ h.tab.lt),room:=TV h.room a.size }
theorem L6 {xs:aL} (HP:IR w p D L G tt cache xs A F) :
 ZR ZM 44 #[Z6 (ZW ⟨p,0,ZX⟩),.agg #[Z7 Z9 D,Z7 Z9 L,Z7 Z9 G],.agg #[Z7 Z9 cache]] w (QD w p D L G tt cache xs A F):=by
 obtain ⟨h,hn,hr,qz,x0,x1,kr,hv,ht,hK,qf,qg,hS,qj⟩:=HP;have qh:∀ (args:Array ZS) (w:ZT),(callFunc 68 args).run ZM w=.ok (.enter 68 args) w:=U4 func68 (by kernel_rfl) rfl;have c:((w.alloc (Z4 #[Z7 Z9 (D:Int),Z7 Z9 (L:Int),Z7 Z9 (G:Int)] 27)).alloc (Z4 #[Z7 Z9 cache] 86)).heap[w.heap.size]?=ZW (Z4 #[Z7 Z9 (D:Int),Z7 Z9 (L:Int),Z7 Z9 (G:Int)] 27 (0,0)):=(UB _ _ _ (by simp)).trans (Ug _ _);have ho:((w.alloc (Z4 #[Z7 Z9 (D:Int),Z7 Z9 (L:Int),Z7 Z9 (G:Int)] 27)).alloc (Z4 #[Z7 Z9 cache] 86)).heap[w.heap.size+1]?=ZW (Z4 #[Z7 Z9 cache] 86 (0,0)):=by
  have:=Ug (w.alloc (Z4 #[Z7 Z9 (D:Int),Z7 Z9 (L:Int),Z7 Z9 (G:Int)] 27)) (Z4 #[Z7 Z9 cache] 86);rwa [Ul] at this
 have i:bW w ((w.alloc (Z4 #[Z7 Z9 (D:Int),Z7 Z9 (L:Int),Z7 Z9 (G:Int)] 27)).alloc (Z4 #[Z7 Z9 cache] 86)):=(bA w _).alloc (by simp) _;have O:((w.alloc (Z4 #[Z7 Z9 (D:Int),Z7 Z9 (L:Int),Z7 Z9 (G:Int)] 27)).alloc (Z4 #[Z7 Z9 cache] 86)).heap.size=w.heap.size+2:=by simp
 obtain ⟨w2,qp⟩:=nM ((w.alloc (Z4 #[Z7 Z9 (D:Int),Z7 Z9 (L:Int),Z7 Z9 (G:Int)] 27)).alloc (Z4 #[Z7 Z9 cache] 86));rw [qp] at c ho i O;have p0:w2.cell? ⟨w.heap.size,0,ZX⟩=ZW (Z7 Z9 D):=by simp [World.cell?,c]
 have p1:w2.cell? ⟨w.heap.size,1,ZX⟩=ZW (Z7 Z9 L):=by simp [World.cell?,c]
 have p2:w2.cell? ⟨w.heap.size,2,ZX⟩=ZW (Z7 Z9 G):=by simp [World.cell?,c]
 have H2:=a5 c ho i O;clear c ho i O;go_enter func44,ntmps44;go_wp2_with fail;refine (oY D L G _).mono ?_;rw [hr.r];rintro e w3 ⟨rfl,E⟩;obtain ⟨c,ho,i,O⟩:=H2.o;have K:=(E.block _ (by omega)).trans c;have z:=(E.block _ (by omega)).trans ho;have t:bW w w3:=i.trans (E.mono i.size);have kx:=E.size;have o0:w3.cell? ⟨w.heap.size+1,0,ZX⟩=ZW (Z7 Z9 cache):=by simp [World.cell?,z]
 have s:=a5 K z t (show w.heap.size+2<=w3.heap.size by omega);clear c ho i O K z t E kx p0 p1 p2;obtain ⟨N,kj⟩:=nM (A.n);have fx:=D0 (h.below (s.o.2.2.1.trans ((TW _ w3).drew.mono s.o.2.2.1.size)) lR);rw [kj] at fx;have M:∀ X,ZR ZM 9 #[.agg #[Z7 Z9 D,Z7 Z9 L,Z7 Z9 G]] X λe w'=>e=Z3 (Z7 Z9 (N:Nat))/\bW X w':=λX=>by
  rw [<- kj,hn,show ((D+L+G:Nat):Int)=(D:Int)+L+G by omega];have:=hr.d;have:=hr.l4;have:=hr.g;exact dw (D:Int) (L:Int) (G:Int) X ⟨by omega,by omega⟩ ⟨by omega,by omega⟩ ⟨by omega,by omega⟩
 have HD:=al fx M;have p0:w3.cell? ⟨w.heap.size,0,ZX⟩=ZW (Z7 Z9 D):=by simp [World.cell?,s.o.1]
 have p1:w3.cell? ⟨w.heap.size,1,ZX⟩=ZW (Z7 Z9 L):=by simp [World.cell?,s.o.1]
 have p2:w3.cell? ⟨w.heap.size,2,ZX⟩=ZW (Z7 Z9 G):=by simp [World.cell?,s.o.1]
 clear fx M kj;go_upto_region 6 with fail;go_cut [21] from 24 to 28 (λhb wx=>hb=Z1 ZU/\bW w3 wx)
 case first=>
  go_region_with (first
   | (go_at_call 66;refine HD.o.1.mono ?_;rintro e w' ⟨rfl,rfl⟩)
   | (go_at_call 9;refine (HD.o.2 _).mono ?_;rintro e w7 ⟨rfl,q4⟩;have Q:=ak (((TW _ w3).drew).trans q4);clear q4))
  all_goals (go_wp2_with fail;go_meet;case rel=>exact ⟨by simp,Q.o⟩)
 case rest=>
 rename ZT=>w4;obtain ⟨rfl,H⟩:=hcut;clear HD p0 p1 p2;obtain ⟨K,z,t,kx⟩:=s.o;have Z:=(H.block _ (by omega)).trans K;have q7:=(H.block _ (by omega)).trans z;have h8:bW w w4:=t.trans (H.mono t.size);have qy:=H.size;have q5:=tD (h.below h8 lR) (by have:=hr.d1;omega);have kp:¬ ((A.nb:Nat):Int)<8:=by omega
 have q0:w4.cell? ⟨w.heap.size,0,ZX⟩=ZW (Z7 Z9 D):=by simp [World.cell?,Z]
 have q1:w4.cell? ⟨w.heap.size,1,ZX⟩=ZW (Z7 Z9 L):=by simp [World.cell?,Z]
 have q2:w4.cell? ⟨w.heap.size,2,ZX⟩=ZW (Z7 Z9 G):=by simp [World.cell?,Z]
 have o4:w4.cell? ⟨w.heap.size+1,0,ZX⟩=ZW (Z7 Z9 cache):=by simp [World.cell?,q7]
 have H4:=aE h8 q5 (show w.heap.size+2<=w4.heap.size by omega);clear K z t kx Z q7 h8 qy q5 H o0;obtain ⟨NB,kz⟩:=nM (A.nb);rw [kz] at H4 kp;clear kz;go_wp2_with fail;refine H4.o.2.1.mono ?_;rintro e w5 ⟨rfl,qq⟩;subst qq;go_wp2_with fail;refine (DY p D L G cache w5).mono ?_;rintro e w6 ⟨v,sb,rfl,qn,W,kb,kk⟩;obtain ⟨h9,_,qd⟩:=H4.o;have ha:bW w w6:=h9.trans (kk.mono h9.size);have qe:=kk.size;have I:bW w6 (w6.alloc (Z4 (jE v 0 0 0 0 0 0 (Z5 ZX 0 0) (Z5 ZX 0 0) ZU) 146)):=bA w6 _;have y:a9 (w6.alloc (Z4 (jE v 0 0 0 0 0 0 (Z5 ZX 0 0) (Z5 ZX 0 0) ZU) 146)) w6.heap.size v 0 0 0 0 0 0 (Z5 ZX 0 0) (Z5 ZX 0 0) ZU:=Ug _ _;obtain ⟨w7,ks⟩:=nM (w6.alloc (Z4 (jE v 0 0 0 0 0 0 (Z5 ZX 0 0) (Z5 ZX 0 0) ZU) 146));rw [ks] at I y;have f:bW w w7:=ha.trans (I.mono ha.size);have q3:pd w7 v p D L G (sb+1+1+1) 0 A F:=⟨W.keep (I.block _ W.lt),h.below f lR,hv.below f hv.lt,ht.keep (f.block _ ht.lt),TV hK f.size,λq=>by have:=h.RN q;omega,qf,qg,hn,hr⟩;have u:∀ k,F.S k->k<w.heap.size:=λk a=>h.RN a;have hs:¬ F.S w6.heap.size:=λq=>by have:=u _ q;omega
 have ki:w6.heap.size<w7.heap.size:=y.lt;have qb:v<w6.heap.size:=W.lt;have qk:=kb.2.2.lt;obtain ⟨hf,hg,M⟩:=kb;have k7:(mQ sb cache D L G [] [] 0).S w7:=QC (M.below I) D L G;have l:∀ k,(mQ sb cache D L G [] [] 0).bl k->sb<=k/\k<=sb+1+1+1:=λk a=>by
  rcases a with q|q|⟨q,c,_⟩
  . exact q
  . cases q
  . cases c
 have q8:mB w7 w6.heap.size v p (mQ sb cache D L G [] [] 0) D L G A F:=⟨q3,hs,⟨by omega,qb⟩,ki,k7,λk a=>by
  have:=l k a;exact ⟨by omega,by omega,by omega,λe=>by have:=u _ e;omega⟩,VH _,qj⟩
 have qa:uS D L G (mR sb cache D L G) (mQ sb cache D L G [] [] 0):=⟨yG hr,λps x a=>by
  obtain ⟨es,qs,ho,rfl⟩:=a;exact ⟨es,qs,x,rfl⟩,Gg,⟨[],[],0,rfl⟩⟩
 have q9:=lK 68 #[Z6 (ZW ⟨w6.heap.size,0,ZX⟩)] #[] qh w7 w6.heap.size _ y rfl
  (λw1 x w2=>w2.heap[w7.heap.size]?=ZW (Z4 #[.nilIface] 64 (0,0))/\E1 w1 w6.heap.size v p D L G tt (mR sb cache D L G) (mQ sb cache D L G [] [] 0) xs A F (Z3 x) w2)
  (λw1 C qc qi=>(L4 (q8.below C) (y.keep (C.block _ y.lt)) qa (by omega) kr hS).mono (by
   intro e w2 m;have q6:w2.heap[w7.heap.size]?=w1.heap[w7.heap.size]?:=m.out.block _ (by omega) (λq=>by
    rcases q with q|q|q|q
    . have:=u _ q;omega
    . omega
    . have:=l _ q;omega
    . omega)
   obtain ⟨ps',pg,ob,P,B,rfl,_,_,hl⟩:=id m.ans;exact ⟨_,rfl,.inl rfl,⟨q6.trans qi,m⟩,q6,_,hl.arc,rfl⟩))
 have kv:w6.alloc (Z4 #[Z6 (ZW ⟨v,0,ZX⟩),Z7 Z9 0,Z7 Z9 0,Z7 Z9 0,Z7 Z8 0,Z7 Z9 0,Z7 Z9 0,Z5 ZX 0 0,Z5 ZX 0 0,Z1 ZU] 146)=w7:=ks;have Q:=hide10 f u q9 l hf hg qb ki qd qe;have qm:w.heap.size<=v:=by omega
 clear qk hf hg M k7 l q8 qa q9 h9 ha I y f q3 W kk hs q0 q1 q2 o4 ks;go_wp2_with fail;clear kv;refine Q.o.2.2.1.mono ?_;rintro e w8 ⟨x,w1,wl,rfl,_,C,qc,⟨ko,m⟩,rfl⟩;obtain ⟨f,u,_,l,hf,hg,qo,ki,qd,qe⟩:=Q.o;have h7:bW w w1:=f.trans (C.mono f.size);have qx:=f.size;have hO:aa (F.S) w wl:=(aa.RL h7 _).later m.out (λk a q=>by
  rcases q with q|q|q|q
  . exact q
  . omega
  . have:=l _ q;omega
  . omega)
 obtain ⟨ps',pg,ob,P,B,qv,J,U,hl⟩:=m.ans;obtain rfl:x=.nilIface:=by injection qv
 have h4:∀ k,k≠w7.heap.size->k≠w6.heap.size->((wl.setCell ⟨w7.heap.size,0,ZX⟩ .nilIface).setCell ⟨w6.heap.size,9,ZX⟩ (Z1 ZU)).heap[k]?=wl.heap[k]?:=λk R h2=>(Ud _ _ _ _ h2).trans (Ud _ _ _ _ R);have ky:((wl.setCell ⟨w7.heap.size,0,ZX⟩ .nilIface).setCell ⟨w6.heap.size,9,ZX⟩ (Z1 ZU)).heap.size=wl.heap.size:=by simp [World.setCell]
 have V:aa (F.S) w ((wl.setCell ⟨w7.heap.size,0,ZX⟩ .nilIface).setCell ⟨w6.heap.size,9,ZX⟩ (Z1 ZU)):=hO.later (T:=λk=>w.heap.size<=k) ⟨rfl,rfl,rfl,by rw [ky];exact TU _,λk _ a=>h4 k (by omega) (by omega)⟩ (λk R h2=>by omega);have hx:(wl.setCell ⟨w7.heap.size,0,ZX⟩ .nilIface).heap[w6.heap.size]?=ZW (Z4 (jE v D L G tt (P.getD 0 0) (an xs.os).length pg ob ZU) 146 (0,0)):=(Ud _ _ _ _ (by show w6.heap.size≠w7.heap.size;omega)).trans hl.arc;have k9:=ag (j:=9) hx (Z1 ZU);have h5:∀ k,k≠w7.heap.size->((wl.setCell ⟨w7.heap.size,0,ZX⟩ .nilIface).setCell ⟨w6.heap.size,9,ZX⟩ (Z1 ZU)).heap[k]?=wl.heap[k]?:=λk R=>by
  by_cases e:k=w6.heap.size
  . subst e;exact k9.trans hl.arc.symm
  . exact h4 k R e
 have Y:=hl.aside (w':=(wl.setCell ⟨w7.heap.size,0,ZX⟩ .nilIface).setCell ⟨w6.heap.size,9,ZX⟩ (Z1 ZU)) (b:=w7.heap.size) (B:=w7.heap.size) (yD ko) (hl.TG ko) (by rw [ky];exact TU _) (λj hj _=>h5 j hj) lR (λk a=>by have:=u k a;omega) (by omega) ki (by omega);have HF:=a6 V U Y J.1 (show ∀ k,ps'.bl k->w.heap.size<=k from λk a=>by
  rcases J.2 k a with q|q
  . have:=l k q;omega
  . have:=h7.size;omega)
 clear hO m ko h4 ky V hl hx k9 h5 Y U J C qc h7;go_wp2;go_ret2;obtain ⟨V,U,Y,J,km⟩:=HF.o;exact ⟨V,w6.heap.size,rfl,v,sb,ps',pg,ob,P,B,Y,U,J,qm,by omega,km⟩
structure QE (w w2:ZT) (D L G cache:Int):Prop where
 par:w2.heap[w.heap.size]?=ZW (Z4 #[Z7 Z9 D,Z7 Z9 L,Z7 Z9 G] 27 (0,0))
 opt:w2.heap[w.heap.size+1]?=ZW (Z4 #[Z7 Z9 cache] 86 (0,0))
 below:bW w w2
 size:w2.heap.size=w.heap.size+2
def QF (w:ZT) (D L G cache:Int):QE w ((w.alloc (Z4 #[Z7 Z9 D,Z7 Z9 L,Z7 Z9 G] 27)).alloc (Z4 #[Z7 Z9 cache] 86)) D L G cache:=by
 refine ⟨(UB _ _ _ (by simp)).trans (Ug _ _),?_,(bA w _).alloc (by simp) _,by simp⟩;have:=Ug (w.alloc (Z4 #[Z7 Z9 D,Z7 Z9 L,Z7 Z9 G] 27)) (Z4 #[Z7 Z9 cache] 86);rwa [Ul] at this
structure L7 (w:ZT) (p D L G t:Nat) (cache:Int) (xs:aL) (A:aB) (F:aK) (e:ZP) (w':ZT):Prop where
 out:aa F.S w w'
 ans:∃ sa ar,e=Z3 (ZY #[Z6 (ZW ⟨sa,0,ZX⟩),.nilIface])/\w.heap.size<=sa/\ZN w' sa 105 (Z6 (ZW ⟨ar,0,ZX⟩))/\L5 w p D L G t cache xs A F ar w'
def L5.wide {w'':ZT} {xs:aL} (h:L5 w p D L G t cache xs A F ar w') (a:w0.heap.size<=w.heap.size) (f:bW w' w''):L5 w0 p D L G t cache xs A F ar w'':=by
 obtain ⟨v,sb,ps,pg,ob,P,B,b,c,d,g,i,e⟩:=h;exact ⟨v,sb,ps,pg,ob,P,B,b.below f,c,d,by omega,by omega,λk q=>TV a (e k q)⟩
theorem IS {xs:aL} (h:IR w p D L G t cache xs A F) :
 ZR ZM 26 #[Z6 (ZW ⟨p,0,ZX⟩),.agg #[Z7 Z9 D,Z7 Z9 L,Z7 Z9 G],.agg #[Z7 Z9 cache]] w (L7 w p D L G t cache xs A F):=by
 have a:=QF w D L G cache;obtain ⟨w2,k⟩:=nM ((w.alloc (Z4 #[Z7 Z9 (D:Int),Z7 Z9 (L:Int),Z7 Z9 (G:Int)] 27)).alloc (Z4 #[Z7 Z9 cache] 86));rw [k] at a;have m:w2.cell? ⟨w.heap.size,0,ZX⟩=ZW (Z7 Z9 D):=by simp [World.cell?,a.par]
 have n:w2.cell? ⟨w.heap.size,1,ZX⟩=ZW (Z7 Z9 L):=by simp [World.cell?,a.par]
 have q:w2.cell? ⟨w.heap.size,2,ZX⟩=ZW (Z7 Z9 G):=by simp [World.cell?,a.par]
 have l:w2.cell? ⟨w.heap.size+1,0,ZX⟩=ZW (Z7 Z9 cache):=by simp [World.cell?,a.opt]
 have b:=a.below;have i:=L6 (h.below b);have H:=al a i;clear a i b;go_enter func26,ntmps26;go_wp2_with fail;refine H.o.2.mono ?_;rintro e w3 f;have b:=H.o.1.below;have c:aa F.S w w3:=(aa.RL b _).trans f.out;obtain ⟨ar,rfl,d⟩:=f.ans;have j:=aE d c b;clear d c b f;go_wp2;go_ret2;obtain ⟨d,c,b⟩:=j.o;have g:bW w3 (w3.alloc (Z4 #[Z6 (ZW ⟨ar,0,ZX⟩)] 105)):=bA w3 _;exact ⟨c.trans (aa.RL g _),w3.heap.size,ar,rfl,c.size,Ur w3 _ _,d.wide b.size g⟩
theorem jg (d:Int) (m:Nat) (f:0<m) (e:m<=1000):∃ n:Nat,n<m/\wrap64 ((IntKind.u64.wrap d).tmod m)=(n:Int):=by
 have a:0<=IntKind.u64.wrap d:=by rw [Va];omega
 rw [aaJ a];have b:=Int.emod_nonneg (IntKind.u64.wrap d) (show (m:Int)≠0 by omega);have c:=Int.emod_lt_of_pos (IntKind.u64.wrap d) (show (0:Int)<m by omega);refine ⟨(IntKind.u64.wrap d%m).toNat,by omega,?_⟩;rw [show ((IntKind.u64.wrap d%(m:Int)).toNat:Int)=IntKind.u64.wrap d%m by omega];generalize IntKind.u64.wrap d%(m:Int)=z at b c;unfold wrap64;omega
theorem Oj (a b c:Int) (w:ZT):ZR ZM 6 #[Z7 Z9 a,Z7 Z9 b,Z7 Z9 c] w λe w'=>∃ D L G:Nat,e=Z3 (.agg #[Z7 Z9 D,Z7 Z9 L,Z7 Z9 G])/\vG D L G/\D<=6/\bW w w':=by
 obtain ⟨q,B,g⟩:=jg a 6 (by decide) (by decide);obtain ⟨r,C,i⟩:=jg b 3 (by decide) (by decide);obtain ⟨d,P,k⟩:=jg c 4 (by decide) (by decide);have s:wrap64 ((IntKind.u64.wrap a).tmod 6)=(q:Int):=by simpa using g
 have t:wrap64 ((IntKind.u64.wrap b).tmod 3)=(r:Int):=by simpa using i
 have x:wrap64 ((IntKind.u64.wrap c).tmod 4)=(d:Int):=by simpa using k
 obtain ⟨D,hD⟩:=nM (q+1);obtain ⟨n,E⟩:=nM (r+1);have M:wrap64 (1+(q:Int))=(D:Int):=by unfold wrap64;omega
 have z:wrap64 (1+(r:Int))=(n:Int):=by unfold wrap64;omega
 clear g i k;have O:1<=D/\D<=6:=by omega
 have y:1<=n/\n<=3:=by omega
 clear hD E B C;go_enter func6,ntmps6;go_wp2;go_loopw [8] (λv wr=>∃ l:Nat,1<=l/\l<=3/\v=Z7 Z9 (l:Nat)/\wr=w.alloc (Z4 #[Z7 Z9 0,Z7 Z9 0,Z7 Z9 0] 27)) (λv _=>(intOf v).toNat)
 case atStart=>exact ⟨n,y.1,y.2,by rw [z],rfl⟩
 case round=>
  obtain ⟨l,F,N,rfl,rfl⟩:=hrel;have S:¬ (l:Int)=0:=by omega
  have H:Int.tmod (D:Int) (l:Int)=((D%l:Nat):Int):=by rw [aaJ (by omega),YP]
  obtain ⟨m,f⟩:=nM (D%l);rw [f] at H;by_cases A:m=0
  . subst A;have HP:b9 (vG D l d):=ak ⟨by unfold cV;apply UY;refine ⟨by omega,by omega,by omega,by omega,by omega,by omega,?_,by omega⟩;rw [<- YP,f];rfl,by omega,by omega,F,by omega,by omega,f,by omega⟩;clear f;go_wp2;have p:ai (w.alloc (Z4 #[Z7 Z9 (D:Nat),Z7 Z9 (l:Nat),Z7 Z9 (d:Nat)] 27)) w.heap.size 27 [Z7 Z9 (D:Nat),Z7 Z9 (l:Nat),Z7 Z9 (d:Nat)]:=UC w _;have I:=p.cell (j:=0) (u:=Z7 Z9 (D:Nat)) rfl;have J:=p.cell (j:=1) (u:=Z7 Z9 (l:Nat)) rfl;have K:=p.cell (j:=2) (u:=Z7 Z9 (d:Nat)) rfl;refine Us (v:=.agg #[Z7 Z9 (D:Nat),Z7 Z9 (l:Nat),Z7 Z9 (d:Nat)]) (by simp [results,results6,go_sem,I,J,K]) rfl ?_;exact ⟨D,l,d,rfl,HP.o,by omega,bA w _⟩
  . have Q:2<=l:=by
     rcases XX l 2 with h|h
     . have:l=1:=by omega
       subst this;rw [Nat.mod_one] at f;omega
     . exact h
    have R:¬ (m:Int)=0:=(by omega);have T:IntKind.i64.wrap ((l:Int)-1)=(l:Int)-1:=(by rw [Ux];omega);clear f;go_wp2;refine ⟨⟨l-1,by omega,by omega,by rw [show ((l-1:Nat):Int)=(l:Int)-1 by omega],trivial⟩,?_⟩;show ((l:Int)-1).toNat<((l:Int)).toNat;omega
structure qB where
 kind:Int
 a:Int
 s:ByteArray
 d:a8
def QQ (w:ZT) (v:ZS) (l:List qB):Prop:=
 ∃ ao c,v=.slice ao l.length c/\(l≠[]->∃ b off,ao=ZW ⟨b,off,ZX⟩/\b<w.heap.size/\∀ i (hi:i<l.length),∃ dv,w.cell? ⟨b,off+i*4,ZX⟩=ZW (Z7 Z9 l[i].kind)/\w.cell? ⟨b,off+i*4+1,ZX⟩=ZW (Z7 Z9 l[i].a)/\w.cell? ⟨b,off+i*4+2,ZX⟩=ZW (ZZ l[i].s)/\w.cell? ⟨b,off+i*4+3,ZX⟩=ZW dv/\Bs w dv l[i].d)
def gx (l:List qB):Nat:=(l.map λx=>x.s.size+x.d.length).sum
def rm (l:List qB) (k:Nat) (a:k<l.length):gx (l.take (k+1))=gx (l.take k)+(l[k].s.size+l[k].d.length):=by
 have e:l.take (k+1)=l.take k++[l[k]]:=by rw [Vd,Uc a];rfl
 rw [e];unfold gx;rw [Uv,YC];simp only [U0,Wl,XB,List.sum_nil,VN]
def CY (l:List qB) (k:Nat):gx (l.take k)<=gx l:=by
 unfold gx;have h:l.map (λx=>x.s.size+x.d.length)=(l.take k).map (λx=>x.s.size+x.d.length)++(l.drop k).map (λx=>x.s.size+x.d.length):=by rw [<- Uv,Wh]
 rw [h,YC];omega
def aau (w:ZT) (l:List qB) (vn vi:ZS) (wr:ZT):Prop:=∃ k:Nat,k<=l.length/\vi=Z7 Z9 (k:Nat)/\vn=Z7 Z9 (gx (l.take k):Nat)/\gx (l.take k)<=100000/\bW w wr
def QG (w:ZT) (l:List qB) (e:ZP) (w':ZT):Prop:=∃ bb,e=Z3 (Z1 bb)/\(bb=ZV->l.length<=200/\gx l<=100000)/\bW w w'
theorem IT {v:ZS} {l:List qB} (h:QQ w v l) (hs:∀ x∈l,x.s.size<=140737488355328/\x.d.length<=140737488355328) :
 ZR ZM 5 #[v] w (QG w l):=by
 obtain ⟨ao,c,rfl,t⟩:=h;by_cases P:200<l.length
 . have I:(200:Int)<(l.length:Int):=(by omega);clear t;go_enter func5,ntmps5;go_wp2;go_ret;exact ⟨ZU,rfl,λe=>(by cases e),TW _ _⟩
 . have I:¬ (200:Int)<(l.length:Int):=(by omega);have E:=ak t;clear t;go_enter func5,ntmps5;go_wp2;go_loopw [3,4] (λL z wr=>aau w l L z wr) (λ_ z _=>l.length-(intOf z).toNat)
   case atStart=>exact ⟨0,T8 _,rfl,rfl,by simp [gx],TW _ _⟩
   case round=>
    obtain ⟨k,T,rfl,rfl,m,f⟩:=hrel;by_cases i:k<l.length
    . obtain ⟨b,off,rfl,B,A⟩:=E.o (λe=>by rw [e] at i;simp at i);obtain ⟨O,J,K,u,y,D⟩:=A k i;obtain ⟨M,N,rfl,_⟩:=id D;have g:=rm l k i;have G:=hs l[k] (T6 i);obtain ⟨s,r⟩:=nM (l[k].s);obtain ⟨dl,n⟩:=nM (l[k].d.length);rw [r,n] at g G;rw [r] at u;rw [n] at y;obtain ⟨a,q⟩:=nM (gx (l.take k));rw [q] at g m ⊢;obtain ⟨X,H⟩:=nM (s.size);have F:(k:Int)<(l.length:Int):=(by omega);have R:IntKind.i64.wrap ((a:Int)+(s.size:Int))=(a:Int)+(s.size:Int):=(by rw [Ux];omega);have S:IntKind.i64.wrap ((a:Int)+(s.size:Int)+(dl:Int))=(a:Int)+(s.size:Int)+(dl:Int):=(by rw [Ux];omega);have U:IntKind.i64.wrap ((k:Int)+1)=(k:Int)+1:=(by rw [Ux];omega);have V:=(f.cell (p:=⟨b,off+k*4+2,ZX⟩) B).trans u;have W:=(f.cell (p:=⟨b,off+k*4+3,ZX⟩) B).trans y;have HK:=aE g q f;clear g q f J K u y D A r n H;go_wp2;go_quiet (fail);have j:b9 (bW w (wr.drewN nq)):=ak (HK.o.2.2.trans ⟨rfl,rfl,rfl,TU _,λ_ _=>rfl⟩);by_cases Q:(100000:Int)<(a:Int)+(s.size:Int)+(dl:Int)
      . go_wp2;go_ret;exact ⟨ZU,rfl,λe=>(by cases e),j.o⟩
      . go_wp2;have g:=HK.o.1;refine ⟨⟨k+1,by omega,by go_num,?_,by omega,j.o⟩,?_⟩
        . rw [g,show ((a+(s.size+dl):Nat):Int)=(a:Int)+(s.size:Int)+(dl:Int) by omega]
        . simp only [intOf];omega
    . have C:k=l.length:=(by omega);have F:¬ (k:Int)<(l.length:Int):=(by omega);have HK:b9 (l.length<=200/\gx l<=100000):=ak ⟨by omega,by rw [C,Vu] at m;exact m⟩;have j:=ak f;clear C m f;go_wp2;go_ret;exact ⟨ZV,rfl,λ_=>HK.o,j.o⟩
def OW (D L G:Nat) (a s r:ZS) (blocks:Nat) (out want:ZS) (cache:Int):List ZS:=[Z7 Z9 (D:Nat),Z7 Z9 (L:Nat),Z7 Z9 (G:Nat),a,s,r,Z7 Z9 (blocks:Nat),out,want,Z7 Z9 cache]
def ij (w:ZT) (wb D L G:Nat) (a s r:ZS) (blocks:Nat) (out want:ZS) (cache:Int):Prop:=ai w wb 42 (OW D L G a s r blocks out want cache)
def ij.cells {a r:ZS} (h:ij w wb D L G a s r blocks out want cache) :
 w.cell? ⟨wb,0,ZX⟩=ZW (Z7 Z9 (D:Nat))/\w.cell? ⟨wb,1,ZX⟩=ZW (Z7 Z9 (L:Nat))/\w.cell? ⟨wb,2,ZX⟩=ZW (Z7 Z9 (G:Nat))/\w.cell? ⟨wb,3,ZX⟩=ZW a/\w.cell? ⟨wb,4,ZX⟩=ZW s/\w.cell? ⟨wb,5,ZX⟩=ZW r/\w.cell? ⟨wb,6,ZX⟩=ZW (Z7 Z9 (blocks:Nat))/\w.cell? ⟨wb,7,ZX⟩=ZW out/\w.cell? ⟨wb,8,ZX⟩=ZW want/\w.cell? ⟨wb,9,ZX⟩=ZW (Z7 Z9 cache):=
 ⟨ai.cell h rfl,ai.cell h rfl,ai.cell h rfl,ai.cell h rfl,ai.cell h rfl,ai.cell h rfl,ai.cell h rfl,ai.cell h rfl,ai.cell h rfl,ai.cell h rfl⟩
theorem IU {r:ZS} (h:ij w wb D L G (Z6 (ZW ⟨p,0,ZX⟩)) s r blocks out want cache) (hs:∃ o,s=.pointer o) (R:Nat->ZT->Prop) (i:∀ sa w2,R sa w2->w2.heap[wb]?=w.heap[wb]?)
 (ho:ZR ZM 26 #[Z6 (ZW ⟨p,0,ZX⟩),.agg #[Z7 Z9 D,Z7 Z9 L,Z7 Z9 G],.agg #[Z7 Z9 cache]] w.drew λe w2=>∃ sa,e=Z3 (ZY #[Z6 (ZW ⟨sa,0,ZX⟩),.nilIface])/\R sa w2) :
 ZR ZM 11 #[Z6 (ZW ⟨wb,0,ZX⟩)] w λe w'=>e=Z3 (Z1 ZV)/\∃ sa w2 w3,R sa w2/\bW w2 w3/\ij w' wb D L G (Z6 (ZW ⟨p,0,ZX⟩)) (Z6 (ZW ⟨sa,0,ZX⟩)) r blocks out want cache/\w'=w3.setCell ⟨wb,4,ZX⟩ (Z6 (ZW ⟨sa,0,ZX⟩)):=by
 obtain ⟨c0,c1,k,l,m,n,q,t,u,v⟩:=h.cells;have d:=aE ho h i;clear ho h i m n q t u;go_enter func11,ntmps11;go_upto_region 1 with fail;go_cut [3,4] from 6 to 34 (λy z A=>∃ sa,y=Z6 (ZW ⟨sa,0,ZX⟩)/\z=.nilIface/\R sa A)
 case first=>
  go_region_with (go_at_call 26;refine d.o.1.mono ?_;rintro e w2 ⟨sa,rfl,a⟩;have b:=ak a;clear a);all_goals (go_wp2_with fail;go_meet;case rel=>exact ⟨sa,rfl,rfl,b.o⟩)
 case rest=>
  obtain ⟨sa,rfl,rfl,a⟩:=hcut;have j:ij wc wb D L G (Z6 (ZW ⟨p,0,ZX⟩)) s r blocks out want cache:=ai.keep d.o.2.1 (d.o.2.2 sa wc a);obtain ⟨x,rfl⟩:=hs;have b:=al a j;clear a j c0 c1 k l v;go_wp2_with fail;refine (ll wc).mono ?_;rintro e w3 ⟨rfl,f⟩;have c:ij w3 wb D L G (Z6 (ZW ⟨p,0,ZX⟩)) (.pointer x) r blocks out want cache:=ai.keep b.o.2 (f.block _ (ai.lt b.o.2));have B:=c.cells.2.2.2.2.1;have C:=ai.R3 c 4;have g:=al f c;clear f c;dsimp only;go_wp2;go_ret;refine ⟨rfl,sa,wc,w3,b.o.1,g.o.1,?_,rfl⟩;exact ai.set g.o.2 4 [Z6 (ZW ⟨sa,0,ZX⟩)] (by simp [OW])
def aS.other {ps:aN} {xs:aL} (h:aS w ar v p ps D L G t pg ob P xs A F) (g:w.heap.size<=w'.heap.size) {b:Nat} (a:∀ j,j≠b->j<w.heap.size->w'.heap[j]?=w.heap[j]?) (q:b<ar) (m:b≠v) (i:¬ F.S b) (o:3<=b) (l:¬ ps.bl b):aS w' ar v p ps D L G t pg ob P xs A F:=by
 have c:eo (λk=>ar<k/\¬ F.S k/\¬ ps.bl k) w w':=⟨g,λk n hK=>a k (by have:=hK.1;omega) n⟩;exact { h with arc:=h.arc.keep (a _ (by omega) h.arc.lt),vol:={ h.vol with vol:=h.vol.vol.keep (a _ (Vk m) h.vol.vol.lt),arr:=h.vol.arr.keep λj f=>a j (λe=>i (e▸f)) (h.vol.arr.RN f),laid:=h.vol.laid.keep (a _ (by omega) h.vol.laid.lt),tab:=h.vol.tab.keep (a _ (by omega) h.vol.tab.lt),room:=TV h.vol.room g },pgs:=h.pgs.keep c,cat:=h.cat.keep c,kit:=ps.keep _ _ h.kit λk d=>a k (λe=>l (e▸d)) (ps.lt _ h.kit k d) }
def az.kind {X:ZT} (h:az X p A F) {k:Nat} (e:F.S k):∃ cs T,X.heap[k]?=ZW (Z4 cs T (0,0))/\(T=75\/T=79\/T=114\/T=4):=by
 obtain ⟨R,h,_⟩:=h;rcases (h.S k).1 e with rfl|rfl|⟨i,b,rfl|rfl⟩
 . exact ⟨_,_,h.top,.inl rfl⟩
 . obtain ⟨cs,d,_⟩:=h.drv;exact ⟨_,_,d,.inr (.inl rfl)⟩
 . obtain ⟨c,a,_⟩:=h.blk i b;exact ⟨_,_,a,.inr (.inr (.inl rfl))⟩
 . obtain ⟨c,a,_⟩:=h.bad i b;exact ⟨_,_,a,.inr (.inr (.inr rfl))⟩
def uW {L:List (ByteArray×ZS)} (hs:∀ o∈L,kF o.2):∀ u∈aO L,u.oneCell'=ZV:=by
 intro u a;unfold aO at a;rw [XL] at a;obtain ⟨q,d,b⟩:=a;simp at b;rcases b with rfl|rfl
 . rfl
 . obtain ⟨ao,n,c,e,_⟩:=hs q d;rw [e];rfl
def L8 {v:ZS} {L:List (ByteArray×ZS)} (h:w.ownsRow base 101 2 v L.length (aO L)) (hs:∀ o∈L,kF o.2):Src ZM 2 36 v L.length (aO L) w:=by
 rcases h.2 with ⟨rfl,a⟩|⟨g,cap,cur,rfl,b,c,d,e,f,i⟩
 . have:L=[]:=UU a;subst this;exact XM w U1 0
 . exact Vi w U1 ⟨g,0,ZX⟩ L.length cap (aO L) (kD L) (h.cells (g:=g) rfl) (uW hs)
def Tryz.Sf:(ZM.info? 101).map (λi=>(i.zero,i.size,i.bytes))=ZW (ZW (.agg #[ZZ YK,Z5 ZX 0 0]),2,40):=by kernel_rfl
theorem yJ {v:ZS} {L:List (ByteArray×ZS)} (h:rE w r base v L) (hl:L.length<=1000000) (hs:∀ o∈L,kF o.2) :
 ZR ZM 32 #[Z6 (ZW ⟨r,0,ZX⟩)] w λe w'=>e=Z3 (Z6 (ZW ⟨w.heap.size,0,ZX⟩))/\(∃ u,rE w' w.heap.size (w.heap.size+1) u L)/\bW w w':=by
 have B:r<w.heap.size:=(T5.1 h.top).1;obtain ⟨w1,j⟩:=nM (w.alloc (Z4 #[Z5 ZX 0 0] 38));have l:w1.heap.size=w.heap.size+1:=by rw [<- j];simp
 have b:bW w w1:=by rw [<- j];exact bA w _
 have m:w1.heap[w.heap.size]?=ZW (Z4 #[Z5 ZX 0 0] 38 (0,0)):=by rw [<- j];exact Ug w (Z4 #[Z5 ZX 0 0] 38)
 have s:World.ownsRow w1.drew base 101 2 v L.length (aO L):=by rw [<- j];exact h.own.alloc _
 have t:=(b.block r B).trans h.top;obtain ⟨id,n,A,z,y⟩:=Ut Tryz.Sf;obtain ⟨F,w2,hr,a,d,x⟩:=kU (P:=ZM) w1.drew w1.heap.size 36 36 36 101 id _ 2 40 U1 n A z y rfl (Z5 ZX 0 0) 0 [] (UK _ _ _ _) v L.length (aO L) (L8 s hs) (by unfold maxLen;omega) (by omega) lR;rw [Uj,Uq] at a;obtain ⟨q,sl,sc,rfl⟩:∃ q sl sc,F=.slice q sl sc:=by
  rcases a.2 with ⟨e,_⟩|⟨g,cap,cur,e,_⟩
  . exact ⟨_,_,_,e⟩
  . exact ⟨_,_,_,e⟩
 have f:bW w1 w2:=⟨d.os,d.tape,d.output,d.size,λk E=>d.block k E (by simp [Value.ownBlock])⟩;have c:=(f.block _ (by omega)).trans m;have c0:w1.cell? ⟨w.heap.size,0,ZX⟩=ZW (Z5 ZX 0 0):=by simp [World.cell?,m]
 have c1:w1.cell? ⟨r,0,ZX⟩=ZW v:=by simp [World.cell?,t]
 have G:w2.cell? ⟨w.heap.size,0,ZX⟩=ZW (Z5 ZX 0 0):=by simp [World.cell?,c]
 have I:w2.frozen? ⟨w.heap.size,0,ZX⟩=ZU:=by simp [World.frozen?,c]
 have H:=a7 hr a f c b l;clear hr a d x f c b m s t l;go_enter func32,ntmps32;go_wp2_with fail;go_region_law (refine lN rfl _ _ 36 36 rfl _ _ (by simp [Act.eval]) (by simp [Act.eval]) H.o.1 ?_)
 all_goals (
  go_wp2;go_ret;obtain ⟨_,a,f,c,b,l⟩:=H.o;have C:w2.grownBy (w2.setCell ⟨w.heap.size,0,ZX⟩ (.slice q sl sc)) (ZW w.heap.size):=⟨rfl,rfl,rfl,by simp [World.setCell],λi _ D=>Ud _ _ _ _ (λe=>D (by rw [e]))⟩;rw [l] at a;exact ⟨rfl,⟨_,by simp [World.setCell,VC,c],a.kept C (.inr λe=>by have:=(a.lt _ e).1;omega)⟩,(b.trans (f.mono b.size)).setCell (p:=⟨w.heap.size,0,ZX⟩) lR _⟩)
def yK {L:List (ByteArray×ZS)} (hs:∀ o∈L,kF o.2) (k:Nat):∀ o∈L.take k,kF o.2:=λo h=>hs o (UV h)
def qC {L:List (ByteArray×ZS)} (hs:∀ o∈L,kF o.2) (k:Nat):∀ o∈L.drop k,kF o.2:=λo h=>hs o (UZ h)
def oQ {off n:Nat} {L:List (ByteArray×ZS)} (h:L.length=n) (f:∀ k (l:k<L.length),w.cell? ⟨g,off+k*2,ZX⟩=ZW (ZZ L[k].1)/\w.cell? ⟨g,off+k*2+1,ZX⟩=ZW L[k].2) (hs:∀ o∈L,kF o.2) :
 Src ZM 2 36 (Z5 (ZW ⟨g,off,ZX⟩) n c) n (aO L) w:=by
 subst h;refine Vi w U1 ⟨g,off,ZX⟩ L.length c (aO L) (kD L) (λj u a=>?_) (uW hs);rw [Vl];have:j<L.length*2:=by
  obtain ⟨q,_⟩:=U9.1 a;rwa [kD] at q
 obtain ⟨q1,q2⟩:=tN L (j/2) (by omega);obtain ⟨c1,d⟩:=f (j/2) (by omega);by_cases e:j%2=0
 . have b:j/2*2=j:=(by omega);rw [b] at q1 c1;rw [q1] at a;rw [c1,a]
 . have b:j/2*2+1=j:=(by omega);rw [b] at q2;rw [q2] at a;rw [show off+j/2*2+1=off+j by omega] at d;rw [d,a]
def uX {e:ZO} {v:ZS} {n:Nat} {xs:List ZS} (h:w.ownsRow base e size v n xs):∃ a sl sc,v=.slice a sl sc:=by
 rcases h.2 with ⟨q,_⟩|⟨g,cap,cur,q,_⟩
 . exact ⟨_,_,_,q⟩
 . exact ⟨_,_,_,q⟩
def RI (w:ZT) (r:Nat) (L:List (ByteArray×ZS)) (name:ByteArray) (e:ZP) (w':ZT):Prop:=
 (¬ eL name/\e=Z3 (Z7 Z9 6)/\w'=w)\/(eL name/\pH L name/\e=Z3 (Z7 Z9 9)/\w'=w) \/
 (eL name/\∃ k,Nr L name k/\e=Z3 (Z7 Z9 0)/\(∃ u,rE w' r w.heap.size u (L.take k++L.drop (k+1)))/\aa (λj=>j=r) w w')
theorem CZ {v:ZS} {L:List (ByteArray×ZS)} (h:rE w r base v L) (hl:L.length<=1000000) (hs:∀ o∈L,kF o.2) (name:ByteArray) :
 ZR ZM 33 #[Z6 (ZW ⟨r,0,ZX⟩),ZZ name] w λe w'=>RI w r L name e w':=by
 obtain ⟨c0,f0⟩:=h.cell;have Y:=h.shape;have F:=jG h hl name;have hm:=BP h hl name;obtain ⟨id,s,I,H,G⟩:=Ut Tryz.Sf;go_enter func33,ntmps33;go_wp2_with fail;refine hm.mono ?_;clear hm;rintro e w1 ⟨rfl,hg⟩;rcases hg with ⟨kk,rfl⟩|⟨hr,E,rfl⟩|⟨hr,k0,V,rfl⟩
 . have HN:=ak kk;clear kk F Y;go_wp2;go_ret;exact .inl ⟨HN.o,rfl,rfl⟩
 . have HN:=al hr E;clear hr E F Y;go_wp2;go_ret;exact .inr (.inl ⟨HN.o.1,HN.o.2,rfl,rfl⟩)
 . obtain ⟨x,hx⟩:=nM ((L.getD k0 (YK,undef)).2);rw [hx];clear hx;go_wp2_with fail;refine F.mono ?_;clear F;rintro e w2 ⟨rfl,hf⟩;rcases hf with ⟨k,hk,rfl,hn,h3⟩|⟨rfl,E⟩
   . rcases Y with ⟨rfl,rfl⟩|⟨g,cap,rfl,kr,ko,D⟩
     . exact absurd hk (by simp)
     . have kh:Nr L name k:=⟨hk,hn,h3⟩;have ki:g<w2.heap.size:=Uf (D 0 (by omega)).1;have hp:r≠g:=by
        intro e;rcases h.own.2 with ⟨q,_⟩|⟨g',Z,cur,e1,e2,N,_⟩
        . cases q
        . simp at e1;rw [<- e1.1] at N;rw [<- e,h.top] at N;simp at N
       have km:Src ZM 2 36 (Z5 (ZW ⟨g,0,ZX⟩) k cap) k (aO (L.take k)) w2:=oQ (by rw [Uo];omega) (λj l=>by
        rw [Uo] at l;obtain ⟨q1,q2⟩:=D j (by omega);rw [Uj,YI];exact ⟨q1,q2⟩) (yK hs k)
       have n:=a6 hr kh D h hp;clear hr kh hn h3 D h hp V;have kx:r<w2.heap.size:=Uf c0;have J:¬ cap=k+1\/cap=k+1:=(Decidable.em (cap=k+1)).symm;have ks:wrap64 ((k:Int)+1)=(k:Int)+1:=(by unfold wrap64;omega);rcases J with J|J
       . have kv:¬ (cap:Int)-((k:Int)+1)=0:=(by omega);go_wp2_with (first
          | (at_builtin;refine ae _ rfl (Z0 21) (Z0 27) 36 36 rfl w2.heap.size 101 id _ 2 40 U1 s I H G rfl (Z5 ZX 0 0) 0 [] rfl (UK _ _ _ _) _ rfl k (aO (L.take k)) km (by unfold maxLen;omega) (by omega) lR ?_;intro C w3 z d k9
             have p:∀ j,j<w2.heap.size->w3.heap[j]?=w2.heap[j]?:=λj l=>d.block j l (by simp [Value.ownBlock]);have t:w3.heap[r]?=_:=(p r (Uf c0)).trans n.o.2.2.2.1.top;have M:w3.cell? ⟨r,0,ZX⟩=ZW (Z5 (ZW ⟨g,0,ZX⟩) L.length cap):=(by simp [World.cell?,t]);have f3:w3.frozen? ⟨r,0,ZX⟩=ZU:=(by simp [World.frozen?,t]);have B:=d.size;have Q:=d.os;have O:=d.tape;have P:=d.output;have A:Src ZM 2 36 (Z5 (ZW ⟨g,(k+1)*2,ZX⟩) (L.length-(k+1)) (cap-(k+1))) (L.length-(k+1)) (aO (L.drop (k+1))) w3:=oQ (by rw [Un]) (λj l=>by
              rw [Un] at l;obtain ⟨q1,q2⟩:=n.o.2.2.1 (k+1+j) (by omega);rw [Yj,show (k+1)*2+j*2=(k+1+j)*2 by omega];exact ⟨(Uk (p g ki)).trans q1,(Uk (p g ki)).trans q2⟩) (qC hs (k+1))
             have c:=aE z p A;clear z d p A t)
          | (at_builtin;refine ae _ rfl (Z0 29) (Z0 36) 36 36 rfl w2.heap.size 101 id _ 2 40 U1 s I H G rfl C (0+k) _ rfl c.o.1 _ rfl (L.length-(k+1)) (aO (L.drop (k+1))) c.o.2.2 (by unfold maxLen;omega) (by omega) B ?_;intro v2 b m a ka
             obtain ⟨u,sl,sc,rfl⟩:=uX m;have X:¬ ZW r=C.ownBlock:=λe=>by have:=(c.o.1.lt r e.symm).1;omega
             have f:b.heap[r]?=_:=(a.block r (Uf M) X).trans ((c.o.2.1 r (Uf c0)).trans n.o.2.2.2.1.top);have c4:b.cell? ⟨r,0,ZX⟩=ZW (Z5 (ZW ⟨g,0,ZX⟩) L.length cap):=(by simp [World.cell?,f]);have f4:b.frozen? ⟨r,0,ZX⟩=ZU:=(by simp [World.frozen?,f]);have K:=aE m a f;clear m a f))
         have W:(L.take k++L.drop (k+1)).length=0+k+(L.length-(k+1)):=(by rw [Ua,Uo,Un];omega);obtain ⟨m,a,f⟩:=K.o;have y:b.ownsRow w2.heap.size 101 2 (.slice u sl sc) (L.take k++L.drop (k+1)).length (aO (L.take k++L.drop (k+1))):=(by rw [W,jn];exact m);have R:aa (λj=>j=r) w2 b:=⟨a.os.trans Q,a.tape.trans O,a.output.trans P,TV B a.size,λj l kp=>(a.block j (by omega) (λe=>by have:=(c.o.1.lt j e.symm).1;omega)).trans (c.o.2.1 j l)⟩;go_ret;have U:b.grownBy (b.setCell ⟨r,0,ZX⟩ (.slice u sl sc)) (ZW r):=⟨rfl,rfl,rfl,by simp [World.setCell],λi _ S=>Ud _ _ _ _ (λe=>S (by rw [e]))⟩;refine .inr (.inr ⟨n.o.1,k,n.o.2.1,rfl,⟨.slice u sl sc,⟨by simp [World.setCell,VC,f],y.kept U (.inr λe=>by have:=(y.lt r e).1;omega)⟩⟩,R.trans (aa.setCell _ _ _ rfl)⟩)
       . subst J;have kj:L.length=k+1:=(by omega);have T:=ak kj;clear kj;go_wp2_with (first
          | (at_builtin;refine ae _ rfl (Z0 21) (Z0 27) 36 36 rfl w2.heap.size 101 id _ 2 40 U1 s I H G rfl (Z5 ZX 0 0) 0 [] rfl (UK _ _ _ _) _ rfl k (aO (L.take k)) km (by unfold maxLen;omega) (by omega) lR ?_;intro C w3 z d k9
             have p:∀ j,j<w2.heap.size->w3.heap[j]?=w2.heap[j]?:=λj l=>d.block j l (by simp [Value.ownBlock]);have t:w3.heap[r]?=_:=(p r (Uf c0)).trans n.o.2.2.2.1.top;have M:w3.cell? ⟨r,0,ZX⟩=ZW (Z5 (ZW ⟨g,0,ZX⟩) L.length (k+1)):=(by simp [World.cell?,t]);have f3:w3.frozen? ⟨r,0,ZX⟩=ZU:=(by simp [World.frozen?,t]);have B:=d.size;have Q:=d.os;have O:=d.tape;have P:=d.output;have A:Src ZM 2 36 (Z5 (ZW ⟨g,0,ZX⟩) 0 0) 0 (aO (L.drop (k+1))) w3:=oQ (by rw [Un,T.out];omega) (λj l=>absurd l (by rw [Un,T.out];omega)) (qC hs (k+1));have c:=aE z p A;clear z d p A t)
          | (at_builtin;refine ae _ rfl (Z0 29) (Z0 36) 36 36 rfl w2.heap.size 101 id _ 2 40 U1 s I H G rfl C (0+k) _ rfl c.o.1 _ rfl 0 (aO (L.drop (k+1))) c.o.2.2 (by unfold maxLen;omega) (by omega) B ?_;intro v2 b m a ka
             obtain ⟨u,sl,sc,rfl⟩:=uX m;have X:¬ ZW r=C.ownBlock:=λe=>by have:=(c.o.1.lt r e.symm).1;omega
             have f:b.heap[r]?=_:=(a.block r (Uf M) X).trans ((c.o.2.1 r (Uf c0)).trans n.o.2.2.2.1.top);have c4:b.cell? ⟨r,0,ZX⟩=ZW (Z5 (ZW ⟨g,0,ZX⟩) L.length (k+1)):=(by simp [World.cell?,f]);have f4:b.frozen? ⟨r,0,ZX⟩=ZU:=(by simp [World.frozen?,f]);have K:=aE m a f;clear m a f))
         have W:(L.take k++L.drop (k+1)).length=0+k+0:=(by rw [Ua,Uo,Un,T.out];omega);obtain ⟨m,a,f⟩:=K.o;have y:b.ownsRow w2.heap.size 101 2 (.slice u sl sc) (L.take k++L.drop (k+1)).length (aO (L.take k++L.drop (k+1))):=(by rw [W,jn];exact m);have R:aa (λj=>j=r) w2 b:=⟨a.os.trans Q,a.tape.trans O,a.output.trans P,TV B a.size,λj l kp=>(a.block j (by omega) (λe=>by have:=(c.o.1.lt j e.symm).1;omega)).trans (c.o.2.1 j l)⟩;go_ret;have U:b.grownBy (b.setCell ⟨r,0,ZX⟩ (.slice u sl sc)) (ZW r):=⟨rfl,rfl,rfl,by simp [World.setCell],λi _ S=>Ud _ _ _ _ (λe=>S (by rw [e]))⟩;refine .inr (.inr ⟨n.o.1,k,n.o.2.1,rfl,⟨.slice u sl sc,⟨by simp [World.setCell,VC,f],y.kept U (.inr λe=>by have:=(y.lt r e).1;omega)⟩⟩,R.trans (aa.setCell _ _ _ rfl)⟩)
   . exact absurd V.2.1 (E k0 V.1)
def uY {v:ZS} (h:Bs w v l):Src ZM 1 40 v l.length (aJ l) w:=by
 obtain ⟨ao,c,rfl,m,n,o,g⟩:=h;have i:∀ u∈aJ l,u.oneCell'=ZV:=λu a=>by unfold aJ at a;rw [T9] at a;obtain ⟨x,_,rfl⟩:=a;rfl
 by_cases hl:l=[]
 . subst hl;cases ao with
   | none=>exact XM w Um c
   | some f=>exact Vi w Um f 0 c [] rfl (λj u d=>by simp at d) (λu a=>by simp at a)
 . obtain ⟨b,off,rfl,k⟩:=g hl;refine Vi w Um ⟨b,off,ZX⟩ l.length c (aJ l) (by rw [aW,V9]) (λj u d=>?_) i;rw [Vl];have e:j<l.length:=(by obtain ⟨q,_⟩:=U9.1 d;rwa [aW] at q);rw [k j e,<- d];unfold aJ;rw [UG,Uc e,Ub,Uc e];rfl
def Tryz.SA:(ZM.info? 5).map (λi=>(i.zero,i.size,i.bytes))=ZW (ZW (Z7 .u8 0),1,1):=by kernel_rfl
theorem IV (r:Nat) (name:ByteArray) (ao:Option ZQ) (n c:Nat) (a:¬ eL name) (w:ZT) :
 ZR ZM 48 #[Z6 (ZW ⟨r,0,ZX⟩),ZZ name,.slice ao n c] w λe w'=>e=Z3 (Z7 Z9 6)/\w'=w:=by
 by_cases b:name.size=0
 . have n0:(name.size:Int)=0:=(by omega);go_enter func48,ntmps48;go_wp2;go_ret;exact ⟨rfl,rfl⟩
 . have n0:¬ (name.size:Int)=0:=(by omega);have n1:(16:Int)<(name.size:Int):=(by unfold eL at a;omega);go_enter func48,ntmps48;go_wp2;go_ret;exact ⟨rfl,rfl⟩
theorem IW (r:Nat) (name:ByteArray) (ao:Option ZQ) (n c:Nat) (a:eL name) (d:1500<n) (w:ZT) :
 ZR ZM 48 #[Z6 (ZW ⟨r,0,ZX⟩),ZZ name,.slice ao n c] w λe w'=>e=Z3 (Z7 Z9 7)/\w'=w:=by
 have b:¬ name.size=0:=by have:=a.1;omega
 have n0:¬ (name.size:Int)=0:=by omega
 have n1:¬ (16:Int)<(name.size:Int):=by have:=a.2;omega
 have f:(1500:Int)<(n:Int):=by omega
 clear a;go_enter func48,ntmps48;go_wp2;go_ret;exact ⟨rfl,rfl⟩
theorem C3 {v:ZS} {L:List (ByteArray×ZS)} (h:rE w r base v L) (hl:L.length<=1000000) (name:ByteArray) (ao:Option ZQ) (n c:Nat) (a:eL name) (l:n<=1500) (b:¬ pH L name) :
 ZR ZM 48 #[Z6 (ZW ⟨r,0,ZX⟩),ZZ name,.slice ao n c] w λe w'=>e=Z3 (Z7 Z9 8)/\w'=w:=by
 have d:=jG h hl name;have i:¬ name.size=0:=by have:=a.1;omega
 have n0:¬ (name.size:Int)=0:=by omega
 have n1:¬ (16:Int)<(name.size:Int):=by have:=a.2;omega
 have m:¬ (1500:Int)<(n:Int):=by omega
 clear a h;go_enter func48,ntmps48;go_wp2_with fail;refine d.mono ?_;rintro e w1 ⟨rfl,g⟩;rcases g with ⟨k,j,rfl,_⟩|⟨rfl,f⟩
 . have k2:(0:Int)<=(k:Int):=(by omega);clear d b;go_wp2;go_ret;exact ⟨rfl,rfl⟩
 . exact absurd f b
def bx {n:Nat} {e:ZO} {v:ZS} {xs:List ZS} (h:w.ownsRow base e size v n xs):∃ d f,v=.slice d n f:=by
 rcases h.2 with ⟨b,c⟩|⟨g,cap,cur,a,_⟩
 . exact ⟨ZX,0,by rw [b,c]⟩
 . exact ⟨_,_,a⟩
def cD (L:List (ByteArray×ZS)):List ByteArray:=L.map (·.1)
def uZ {L:List (ByteArray×ZS)} (e:∀ k (i:k<L.length),w1.cell? ⟨g,k*2,ZX⟩=ZW (ZZ L[k].1)/\w1.cell? ⟨g,k*2+1,ZX⟩=ZW L[k].2) (d:g<w1.heap.size) (b:bW w1 w3) (hs:∀ o∈L,kF o.2) (h:a<=L.length):∀ c,Src ZM 2 36 (Z5 (ZW ⟨g,0,ZX⟩) a c) a (aO (L.take a)) w3:=λc=>
 oQ (by rw [Uo];omega) (λj f=>by
  rw [Uo] at f;obtain ⟨q1,q2⟩:=e j (by omega);rw [Uj,YI];exact ⟨(Uk (b.block g d)).trans q1,(Uk (b.block g d)).trans q2⟩) (yK hs a)
def u9 {L:List (ByteArray×ZS)} (e:∀ k (i:k<L.length),w1.cell? ⟨g,k*2,ZX⟩=ZW (ZZ L[k].1)/\w1.cell? ⟨g,k*2+1,ZX⟩=ZW L[k].2) (d:g<w1.heap.size) (b:bW w1 w3) (hs:∀ o∈L,kF o.2) (h:a<=L.length):∀ c,Src ZM 2 36 (Z5 (ZW ⟨g,a*2,ZX⟩) (L.length-a) c) (L.length-a) (aO (L.drop a)) w3:=λc=>
 oQ (by rw [Un]) (λj f=>by
  rw [Un] at f;obtain ⟨q1,q2⟩:=e (a+j) (by omega);rw [Yj,show a*2+j*2=(a+j)*2 by omega];exact ⟨(Uk (b.block g d)).trans q1,(Uk (b.block g d)).trans q2⟩) (qC hs a)
def yL {L:List (ByteArray×ZS)} (h:k=L.length) (off c:Nat) (w:ZT):Src ZM 2 36 (Z5 (ZW ⟨g,off,ZX⟩) (L.length-k) c) (L.length-k) (aO (L.drop k)) w:=by
 subst h;rw [W0,List.drop_length];exact Vi w U1 ⟨g,off,ZX⟩ 0 c [] rfl (λj u a=>by simp at a) (λu b=>by simp at b)
def sn (c:ZT) (name:ByteArray) (a:Option ZQ) (n b:Nat):Src ZM 2 36 (Z5 (ZW ⟨c.heap.size,0,ZX⟩) 1 1) 1 [ZZ name,.slice a n b] (c.alloc (Z4 #[ZZ name,.slice a n b] 101)):=
 Vi _ U1 ⟨c.heap.size,0,ZX⟩ 1 1 [ZZ name,.slice a n b] rfl (λj u f=>by
  rw [Vl,Uj];have g:=UC c (Z4 #[ZZ name,.slice a n b] 101);have e:(#[Value.string name,.slice a n b]:Array ZS)[j]?=ZW u:=by simpa using f
  simp only [World.cell?,g];exact e) (λu d=>by
  simp only [Uw,W5,or_false] at d;rcases d with rfl|rfl<;>rfl)
def OX {b1 b2 n:Nat} {v:ZS} {xs:List ZS} (f:w.ownsRow b1 5 1 v n xs) (hr:w.ownsRow b2 101 2 u m ys) (o:w.grownBy w' u.ownBlock):w'.ownsRow b1 5 1 v n xs:=by
 refine ⟨f.1,?_⟩;rcases f.2 with l|⟨g,cap,cur,i,j,b,p⟩
 . exact .inl l
 . refine .inr ⟨g,cap,cur,i,j,(o.block g (T5.1 b).1 (λe=>?_)).trans b,p⟩;rcases hr.2 with ⟨rfl,_⟩|⟨k,c,d,rfl,_,a,_⟩
   . cases e
   . have h:k=g:=(by simpa [Value.ownBlock] using e.symm);subst h;rw [b] at a;cases a
def Gi {n:Nat} {e:ZO} {v:ZS} {xs:List ZS} (h:w.ownsRow base e size v n xs) {k:Nat} (a:v.ownBlock=ZW k):base<=k:=by
 rcases h.2 with ⟨rfl,_⟩|⟨g,cap,cur,rfl,c,_⟩
 . cases a
 . have:g=k:=(by simpa [Value.ownBlock] using a);omega
def mr {w4:ZT} {n:Nat} {v vb:ZS} {L:List (ByteArray×ZS)} {xs:List ZS} (_:rE w r base v L) (j:w3.ownsRow w.heap.size 5 1 vb n xs) (f:bW w w3) (l:w4.ownsRow w.heap.size 101 2 u a ys) (g:bW w3 w4) (h:(w4.alloc o).grownBy w5 u.ownBlock):bW w w5/\w5.ownsRow w.heap.size 5 1 vb n xs:=by
 have b:bW w4 (w4.alloc o):=bA w4 _;have c:bW w w4:=f.trans (g.mono f.size);have d:bW w (w4.alloc o):=c.trans (b.mono c.size);have i:=aq l b;exact ⟨d.grown h d.size (λk e=>Gi i e),OX (aq (aq j g) b) i h⟩
def kO {n:Nat} {vb:ZS} {xs:List ZS} (d:w5.ownsRow w.heap.size 101 2 u a ys) (b:bW w w5) (f:w5.ownsRow w.heap.size 5 1 vb n xs) (c:w5.grownBy w6 u.ownBlock):bW w w6/\w6.ownsRow w.heap.size 5 1 vb n xs:=
 ⟨b.grown c b.size (λ_ e=>Gi d e),OX f d c⟩
def L9 (w:ZT) (r:Nat) (L:List (ByteArray×ZS)) (x:ByteArray) (d:a8) (e:ZP) (w':ZT):Prop:=
 e=Z3 (Z7 Z9 0)/\∃ u vb,rE w' r w.heap.size u (L.take (aI (cD L) x)++(x,vb)::L.drop (aI (cD L) x))/\w'.ownsRow w.heap.size 5 1 vb d.length (aJ d)/\aa (λj=>j=r) w w'
def oR {n:Nat} {v vb:ZS} {L:List (ByteArray×ZS)} (D:d.length=n) (y:aI (cD L) x=a) (c:w6.ownsRow w.heap.size 101 2 u m (aO (L.take a)++[ZZ x,vb]++aO (L.drop a))) (t:bW w w6) (B:w6.ownsRow w.heap.size 5 1 vb n (aJ d)) (A:w6.heap[r]?=ZW (Z4 #[v] 38 (0,0))) (hr:r<w.heap.size):L9 w r L x d (Z3 (Z7 Z9 0)) (w6.setCell ⟨r,0,ZX⟩ u):=by
 have l:∀ j,j≠r->(w6.setCell ⟨r,0,ZX⟩ u).heap[j]?=w6.heap[j]?:=λj f=>Ud _ _ _ _ f;have i:aO (L.take a)++[ZZ x,vb]++aO (L.drop a)=aO (L.take a++(x,vb)::L.drop a):=by
  rw [jn,Uz];rfl
 have C:m=(L.take a++(x,vb)::L.drop a).length:=by
  have:=c.1;rw [i,kD] at this;omega
 rw [i,C] at c;have b:∀ {e:ZO} {size k:Nat} {z:ZS} {xs:List ZS},w6.ownsRow w.heap.size e size z k xs->(w6.setCell ⟨r,0,ZX⟩ u).ownsRow w.heap.size e size z k xs:=λ{e size k z xs} h=>by
  refine ⟨h.1,?_⟩;rcases h.2 with s|⟨g,cap,cur,o,p,q,E⟩
  . exact .inl s
  . exact .inr ⟨g,cap,cur,o,p,(l g (by omega)).trans q,E⟩
 refine ⟨rfl,u,vb,?_,?_,?_⟩
 . rw [y];refine ⟨?_,b c⟩;have:=ag (j:=0) A u;exact this
 . rw [D];exact b B
 . exact (aa.RL t _).trans ⟨rfl,rfl,rfl,by simp [World.setCell],λj _ f=>l j f⟩
def PuR (w:ZT) (L:List (ByteArray×ZS)) (x:ByteArray) (i:ZS) (wr:ZT):Prop:=∃ k:Nat,k<=L.length/\i=Z7 Z9 k/\wr=w/\∀ j (hj:j<L.length),j<k->jt L[j].1 x=ZV
theorem Ma {L:List (ByteArray×ZS)} (h:rE w r base (Z5 (ZW ⟨g,0,ZX⟩) L.length cap) L) (hl:L.length<=100000) (hs:∀ o∈L,kF o.2) (name:ByteArray) (ao:Option ZQ) (c:Nat) (d:a8) (hd:Bs w (.slice ao d.length c) d) (q4:d.length<=1500) (ky:eL name) (q3:pH L name) (M:∀ k (hk:k<L.length),w.cell? ⟨g,k*2,ZX⟩=ZW (ZZ L[k].1)/\w.cell? ⟨g,k*2+1,ZX⟩=ZW L[k].2) (U:g<w.heap.size) (q6:L.length<=cap) :
 ZR ZM 48 #[Z6 (ZW ⟨r,0,ZX⟩),ZZ name,.slice ao d.length c] w (L9 w r L name d):=by
 obtain ⟨c0,f0⟩:=h.cell;have hc:=jG h (by omega) name;obtain ⟨id,f,I,H,G⟩:=Ut Tryz.Sf;obtain ⟨ib,ks,ke,kf,kg⟩:=Ut Tryz.SA;have h0:¬ name.size=0:=by have:=ky.1;omega
 have n0:¬ (name.size:Int)=0:=by omega
 have n1:¬ (16:Int)<(name.size:Int):=by have:=ky.2;omega
 obtain ⟨n,Y⟩:=nM (d.length);have kz:=uY hd;rw [Y] at kz q4 ⊢;have n2:¬ (1500:Int)<(n:Int):=by omega
 have B:r<w.heap.size:=Uf c0;have p:=aE kz h Y;clear ky h kz hd Y;go_enter func48,ntmps48;go_wp2_with fail;refine hc.mono ?_;rintro e w1 ⟨rfl,hf⟩;rcases hf with ⟨k,hk,rfl,Y,kp⟩|⟨rfl,kk⟩
 . exact absurd Y (q3 k hk)
 clear hc kk q3;go_wp2;go_loopw [8] (λi wr=>PuR w1 L name i wr) (λi _=>L.length-(intOf i).toNat)
 case atStart=>exact ⟨0,T8 _,rfl,rfl,λj _ h=>by omega⟩
 case round=>
  obtain ⟨k,hk,rfl,rfl,T⟩:=hrel;by_cases kv:k<L.length
  . obtain ⟨q1,q2⟩:=M k kv;obtain ⟨nm,kj⟩:=nM (L[k].1);rw [kj] at q1;have kx:(k:Int)<(L.length:Int):=(by omega);cases h6:jt nm name with
    | true=>
     have q5:Op.bytesLess nm.toList name.toList=ZV:=h6;have ka:PuR wr L name (Z7 Z9 ((k+1:Nat):Int)) wr:=⟨k+1,by omega,rfl,rfl,λj l h=>by
      rcases XN (Nat.le_of_lt_succ h) with e|h'
      . subst e;rw [kj];exact h6
      . exact T j l h'⟩
     have HN:=ak ka;clear ka T q2 kj M;go_wp2;refine ⟨by simpa using HN.o,?_⟩;show L.length-((k:Int)+1).toNat<L.length-((k:Int)).toNat;omega
    | false=>
     have q5:Op.bytesLess nm.toList name.toList=ZU:=h6;have S:aI (cD L) name=k:=gH _ _ _ (by unfold cD;rw [Ue];omega) (λj l h=>by
      unfold cD at l ⊢;rw [UN];exact T j (by rwa [Ue] at l) h) (λhi=>by simp only [cD,UN,kj];exact h6)
     have k3:¬ cap=k:=(by omega);have k4:k<=cap:=(by omega);have k5:(k:Int)<=(cap:Int):=(by omega);clear T q2 kj;have HP:=al S M;clear S M;go_wp2_with (first
      | (at_builtin;refine ae _ rfl (Z0 48) (Z0 49) 40 40 rfl wr.heap.size 5 ib (Z7 .u8 0) 1 1 Um ks ke kf kg rfl (Z5 ZX 0 0) 0 [] rfl (UK _ _ _ _) _ rfl n (aJ d) p.o.1 (by unfold maxLen;omega) (by omega) lR ?_;intro vb w3 x a V;rw [Uj,Uq] at x;have u:bW wr w3:=⟨a.os,a.tape,a.output,a.size,λj l=>a.block j l (by simp [Value.ownBlock])⟩;have E:=(u.block r B).trans p.o.2.1.top;have c3:w3.cell? ⟨r,0,ZX⟩=ZW (Z5 (ZW ⟨g,0,ZX⟩) L.length cap):=by simp [World.cell?,E]
         have f3:w3.frozen? ⟨r,0,ZX⟩=ZU:=(by simp [World.frozen?,E]);obtain ⟨J,K,rfl⟩:=bx x;have q:=aE x u (uZ HP.o.2 U u hs (show k<=L.length by omega));clear x a V u E)
      | (at_builtin;refine ae _ rfl (Z0 51) (Z0 57) 36 36 rfl wr.heap.size 101 id _ 2 40 U1 f I H G rfl (Z5 ZX 0 0) 0 [] rfl (UK _ _ _ _) _ rfl (k) (aO (L.take (k))) (q.o.2.2 cap) (by unfold maxLen;omega) (by omega) q.o.2.1.size ?_;intro v4 A y b W;rw [Uj,Uq] at y;have N:bW w3 A:=⟨b.os,b.tape,b.output,b.size,λj l=>b.block j l (by simp [Value.ownBlock])⟩
         obtain ⟨la,lc,rfl⟩:=bx y;have s:=al y N;clear y b W N)
      | (at_builtin;refine ae _ rfl (Z0 59) (Z0 63) 36 36 rfl wr.heap.size 101 id _ 2 40 U1 f I H G rfl (.slice la (k) lc) (k) (aO (L.take (k))) rfl (aq s.o.1 (bA A _)) _ rfl 1 [ZZ name,.slice J n K] (sn A name J n K) (by unfold maxLen;omega) (by omega) (TV q.o.2.1.size (TV s.o.2.size (bA A _).size)) ?_;intro v5 w5 hr O X
         have km:=mr p.o.2.1 q.o.1 q.o.2.1 s.o.1 s.o.2 O;obtain ⟨v,Q⟩:=km;have F:=(v.block r B).trans p.o.2.1.top;have c5:w5.cell? ⟨r,0,ZX⟩=ZW (Z5 (ZW ⟨g,0,ZX⟩) L.length cap):=(by simp [World.cell?,F]);have f5:w5.frozen? ⟨r,0,ZX⟩=ZU:=(by simp [World.frozen?,F]);obtain ⟨ma,mc,rfl⟩:=bx hr;have m:=a5 hr v Q (u9 HP.o.2 U v hs (show k<=L.length by omega));clear hr O X v Q F)
      | (at_builtin;refine ae _ rfl (Z0 65) (Z0 71) 36 36 rfl wr.heap.size 101 id _ 2 40 U1 f I H G rfl (.slice ma (k+1) mc) (k+1) _ rfl m.o.1 _ rfl (L.length-(k)) (aO (L.drop (k))) (m.o.2.2.2 _) (by unfold maxLen;omega) (by omega) m.o.2.1.size ?_;intro v6 w6 D P Z
         have ko:=kO m.o.1 m.o.2.1 m.o.2.2.1 P;obtain ⟨C,R⟩:=ko;have z:=(C.block r B).trans p.o.2.1.top;have c6:w6.cell? ⟨r,0,ZX⟩=ZW (Z5 (ZW ⟨g,0,ZX⟩) L.length cap):=(by simp [World.cell?,z]);have f6:w6.frozen? ⟨r,0,ZX⟩=ZU:=(by simp [World.frozen?,z]);obtain ⟨na,nc,rfl⟩:=bx D;have t:=a5 D C R z;clear D P Z C R z))
     all_goals (go_ret;exact oR p.o.2.2 HP.o.1 t.o.1 t.o.2.1 t.o.2.2.1 t.o.2.2.2 B)
  . have q0:k=L.length:=(by omega);have kx:¬ (k:Int)<(L.length:Int):=(by omega);have S:aI (cD L) name=k:=gH _ _ _ (by unfold cD;rw [Ue];omega) (λj l h=>by
     unfold cD at l ⊢;rw [UN];exact T j (by rwa [Ue] at l) h) (λhi=>by unfold cD at hi;rw [Ue] at hi;omega)
    have HK:=ak q0;clear T q0;by_cases kr:cap=k
    . subst kr;clear q6 kv;have HP:=al S M;clear S M;go_wp2_with (first
       | (at_builtin;refine ae _ rfl (Z0 48) (Z0 49) 40 40 rfl wr.heap.size 5 ib (Z7 .u8 0) 1 1 Um ks ke kf kg rfl (Z5 ZX 0 0) 0 [] rfl (UK _ _ _ _) _ rfl n (aJ d) p.o.1 (by unfold maxLen;omega) (by omega) lR ?_;intro vb w3 x a V;rw [Uj,Uq] at x;have u:bW wr w3:=⟨a.os,a.tape,a.output,a.size,λj l=>a.block j l (by simp [Value.ownBlock])⟩;have E:=(u.block r B).trans p.o.2.1.top;have c3:w3.cell? ⟨r,0,ZX⟩=ZW (Z5 (ZW ⟨g,0,ZX⟩) L.length cap):=by simp [World.cell?,E]
          have f3:w3.frozen? ⟨r,0,ZX⟩=ZU:=(by simp [World.frozen?,E]);obtain ⟨J,K,rfl⟩:=bx x;have q:=aE x u (uZ HP.o.2 U u hs (show cap<=L.length by omega));clear x a V u E)
       | (at_builtin;refine ae _ rfl (Z0 51) (Z0 57) 36 36 rfl wr.heap.size 101 id _ 2 40 U1 f I H G rfl (Z5 ZX 0 0) 0 [] rfl (UK _ _ _ _) _ rfl (cap) (aO (L.take (cap))) (q.o.2.2 cap) (by unfold maxLen;omega) (by omega) q.o.2.1.size ?_;intro v4 A y b W;rw [Uj,Uq] at y;have N:bW w3 A:=⟨b.os,b.tape,b.output,b.size,λj l=>b.block j l (by simp [Value.ownBlock])⟩
          obtain ⟨la,lc,rfl⟩:=bx y;have s:=al y N;clear y b W N)
       | (at_builtin;refine ae _ rfl (Z0 59) (Z0 63) 36 36 rfl wr.heap.size 101 id _ 2 40 U1 f I H G rfl (.slice la (cap) lc) (cap) (aO (L.take (cap))) rfl (aq s.o.1 (bA A _)) _ rfl 1 [ZZ name,.slice J n K] (sn A name J n K) (by unfold maxLen;omega) (by omega) (TV q.o.2.1.size (TV s.o.2.size (bA A _).size)) ?_;intro v5 w5 hr O X
          have km:=mr p.o.2.1 q.o.1 q.o.2.1 s.o.1 s.o.2 O;obtain ⟨v,Q⟩:=km;have F:=(v.block r B).trans p.o.2.1.top;have c5:w5.cell? ⟨r,0,ZX⟩=ZW (Z5 (ZW ⟨g,0,ZX⟩) L.length cap):=(by simp [World.cell?,F]);have f5:w5.frozen? ⟨r,0,ZX⟩=ZU:=(by simp [World.frozen?,F]);obtain ⟨ma,mc,rfl⟩:=bx hr;have m:=a5 hr v Q (u9 HP.o.2 U v hs (show cap<=L.length by omega));clear hr O X v Q F)
       | (at_builtin;refine ae _ rfl (Z0 65) (Z0 71) 36 36 rfl wr.heap.size 101 id _ 2 40 U1 f I H G rfl (.slice ma (cap+1) mc) (cap+1) _ rfl m.o.1 _ rfl (L.length-(cap)) (aO (L.drop (cap))) (yL HK.o _ _ _) (by unfold maxLen;omega) (by omega) m.o.2.1.size ?_;intro v6 w6 D P Z
          have ko:=kO m.o.1 m.o.2.1 m.o.2.2.1 P;obtain ⟨C,R⟩:=ko;have z:=(C.block r B).trans p.o.2.1.top;have c6:w6.cell? ⟨r,0,ZX⟩=ZW (Z5 (ZW ⟨g,0,ZX⟩) L.length cap):=(by simp [World.cell?,z]);have f6:w6.frozen? ⟨r,0,ZX⟩=ZU:=(by simp [World.frozen?,z]);obtain ⟨na,nc,rfl⟩:=bx D;have t:=a5 D C R z;clear D P Z C R z))
      all_goals (go_ret;exact oR p.o.2.2 HP.o.1 t.o.1 t.o.2.1 t.o.2.2.1 t.o.2.2.2 B)
    . have k4:k<=cap:=(by omega);have k5:(k:Int)<=(cap:Int):=(by omega);clear kv;have HP:=al S M;clear S M;go_wp2_with (first
       | (at_builtin;refine ae _ rfl (Z0 48) (Z0 49) 40 40 rfl wr.heap.size 5 ib (Z7 .u8 0) 1 1 Um ks ke kf kg rfl (Z5 ZX 0 0) 0 [] rfl (UK _ _ _ _) _ rfl n (aJ d) p.o.1 (by unfold maxLen;omega) (by omega) lR ?_;intro vb w3 x a V;rw [Uj,Uq] at x;have u:bW wr w3:=⟨a.os,a.tape,a.output,a.size,λj l=>a.block j l (by simp [Value.ownBlock])⟩;have E:=(u.block r B).trans p.o.2.1.top;have c3:w3.cell? ⟨r,0,ZX⟩=ZW (Z5 (ZW ⟨g,0,ZX⟩) L.length cap):=by simp [World.cell?,E]
          have f3:w3.frozen? ⟨r,0,ZX⟩=ZU:=(by simp [World.frozen?,E]);obtain ⟨J,K,rfl⟩:=bx x;have q:=aE x u (uZ HP.o.2 U u hs (show k<=L.length by omega));clear x a V u E)
       | (at_builtin;refine ae _ rfl (Z0 51) (Z0 57) 36 36 rfl wr.heap.size 101 id _ 2 40 U1 f I H G rfl (Z5 ZX 0 0) 0 [] rfl (UK _ _ _ _) _ rfl (k) (aO (L.take (k))) (q.o.2.2 cap) (by unfold maxLen;omega) (by omega) q.o.2.1.size ?_;intro v4 A y b W;rw [Uj,Uq] at y;have N:bW w3 A:=⟨b.os,b.tape,b.output,b.size,λj l=>b.block j l (by simp [Value.ownBlock])⟩
          obtain ⟨la,lc,rfl⟩:=bx y;have s:=al y N;clear y b W N)
       | (at_builtin;refine ae _ rfl (Z0 59) (Z0 63) 36 36 rfl wr.heap.size 101 id _ 2 40 U1 f I H G rfl (.slice la (k) lc) (k) (aO (L.take (k))) rfl (aq s.o.1 (bA A _)) _ rfl 1 [ZZ name,.slice J n K] (sn A name J n K) (by unfold maxLen;omega) (by omega) (TV q.o.2.1.size (TV s.o.2.size (bA A _).size)) ?_;intro v5 w5 hr O X
          have km:=mr p.o.2.1 q.o.1 q.o.2.1 s.o.1 s.o.2 O;obtain ⟨v,Q⟩:=km;have F:=(v.block r B).trans p.o.2.1.top;have c5:w5.cell? ⟨r,0,ZX⟩=ZW (Z5 (ZW ⟨g,0,ZX⟩) L.length cap):=(by simp [World.cell?,F]);have f5:w5.frozen? ⟨r,0,ZX⟩=ZU:=(by simp [World.frozen?,F]);obtain ⟨ma,mc,rfl⟩:=bx hr;have m:=a5 hr v Q (u9 HP.o.2 U v hs (show k<=L.length by omega));clear hr O X v Q F)
       | (at_builtin;refine ae _ rfl (Z0 65) (Z0 71) 36 36 rfl wr.heap.size 101 id _ 2 40 U1 f I H G rfl (.slice ma (k+1) mc) (k+1) _ rfl m.o.1 _ rfl (L.length-(k)) (aO (L.drop (k))) (yL HK.o _ _ _) (by unfold maxLen;omega) (by omega) m.o.2.1.size ?_;intro v6 w6 D P Z
          have ko:=kO m.o.1 m.o.2.1 m.o.2.2.1 P;obtain ⟨C,R⟩:=ko;have z:=(C.block r B).trans p.o.2.1.top;have c6:w6.cell? ⟨r,0,ZX⟩=ZW (Z5 (ZW ⟨g,0,ZX⟩) L.length cap):=(by simp [World.cell?,z]);have f6:w6.frozen? ⟨r,0,ZX⟩=ZU:=(by simp [World.frozen?,z]);obtain ⟨na,nc,rfl⟩:=bx D;have t:=a5 D C R z;clear D P Z C R z))
      all_goals (go_ret;exact oR p.o.2.2 HP.o.1 t.o.1 t.o.2.1 t.o.2.2.1 t.o.2.2.2 B)
theorem Mc (h:rE w r base (Z5 ZX 0 0) []) (name:ByteArray) (ao:Option ZQ) (c:Nat) (d:a8) (P:Bs w (.slice ao d.length c) d) (kb:d.length<=1500) (J:eL name) :
 ZR ZM 48 #[Z6 (ZW ⟨r,0,ZX⟩),ZZ name,.slice ao d.length c] w (L9 w r [] name d):=by
 obtain ⟨c0,f0⟩:=h.cell;have O:=jG h (by simp) name;obtain ⟨id,b,G,E,C⟩:=Ut Tryz.Sf;obtain ⟨ib,kc,hq,hr,hs⟩:=Ut Tryz.SA;have h0:¬ name.size=0:=by have:=J.1;omega
 have n0:¬ (name.size:Int)=0:=by omega
 have n1:¬ (16:Int)<(name.size:Int):=by have:=J.2;omega
 obtain ⟨n,F⟩:=nM (d.length);have K:=uY P;rw [F] at K kb ⊢;have n2:¬ (1500:Int)<(n:Int):=by omega
 have v:r<w.heap.size:=Uf c0;have f:=aE K h F;clear J h K P F;go_enter func48,ntmps48;go_wp2_with fail;refine O.mono ?_;rintro e w1 ⟨rfl,hf⟩;rcases hf with ⟨k,hk,_⟩|⟨rfl,_⟩
 . exact absurd hk (by simp)
 clear O;go_wp2;go_loopw [8] (λi wr=>i=Z7 Z9 0/\wr=w1) (λ_ _=>0)
 case atStart=>exact ⟨rfl,rfl⟩
 case round=>
  obtain ⟨rfl,rfl⟩:=hrel;go_wp2_with (first
   | (at_builtin;refine ae _ rfl (Z0 48) (Z0 49) 40 40 rfl wr.heap.size 5 ib (Z7 .u8 0) 1 1 Um kc hq hr hs rfl (Z5 ZX 0 0) 0 [] rfl (UK _ _ _ _) _ rfl n (aJ d) f.o.1 (by unfold maxLen;omega) (by omega) lR ?_;intro vb w3 t g X;rw [Uj,Uq] at t;have z:bW wr w3:=⟨g.os,g.tape,g.output,g.size,λj D=>g.block j D (by simp [Value.ownBlock])⟩;have T:=(z.block r v).trans f.o.2.1.top;have c3:w3.cell? ⟨r,0,ZX⟩=ZW (Z5 ZX 0 0):=by simp [World.cell?,T]
      obtain ⟨M,N,rfl⟩:=bx t;have p:=al t z;clear t g X z T)
   | (at_builtin;refine ae _ rfl (Z0 51) (Z0 57) 36 36 rfl wr.heap.size 101 id _ 2 40 U1 b G E C rfl (Z5 ZX 0 0) 0 [] rfl (UK _ _ _ _) _ rfl 0 [] (XM _ U1 0) (by unfold maxLen;omega) (by omega) p.o.2.size ?_;intro v4 y u l Y;rw [Uj,Uq] at u;have Q:bW w3 y:=⟨l.os,l.tape,l.output,l.size,λj D=>l.block j D (by simp [Value.ownBlock])⟩
      obtain ⟨la,lc,rfl⟩:=bx u;have q:=al u Q;clear u l Y Q)
   | (at_builtin;refine ae _ rfl (Z0 59) (Z0 63) 36 36 rfl wr.heap.size 101 id _ 2 40 U1 b G E C rfl (.slice la 0 lc) 0 [] rfl (aq q.o.1 (bA y _)) _ rfl 1 [ZZ name,.slice M n N] (sn y name M n N) (by unfold maxLen;omega) (by omega) (TV p.o.2.size (TV q.o.2.size (bA y _).size)) ?_;intro v5 w5 H R Z
      have ke:=mr f.o.2.1 p.o.1 p.o.2 q.o.1 q.o.2 R;obtain ⟨A,V⟩:=ke;have U:=(A.block r v).trans f.o.2.1.top;have c5:w5.cell? ⟨r,0,ZX⟩=ZW (Z5 ZX 0 0):=(by simp [World.cell?,U]);obtain ⟨ma,mc,rfl⟩:=bx H;have m:=aE H A V;clear H R Z A V U)
   | (at_builtin;refine ae _ rfl (Z0 65) (Z0 71) 36 36 rfl wr.heap.size 101 id _ 2 40 U1 b G E C rfl (.slice ma 1 mc) 1 _ rfl m.o.1 _ rfl 0 [] (XM _ U1 0) (by unfold maxLen;omega) (by omega) m.o.2.1.size ?_;intro v6 w6 I S ha
      have kf:=kO m.o.1 m.o.2.1 m.o.2.2 S;obtain ⟨B,W⟩:=kf;have x:=(B.block r v).trans f.o.2.1.top;have c6:w6.cell? ⟨r,0,ZX⟩=ZW (Z5 ZX 0 0):=(by simp [World.cell?,x]);have f6:w6.frozen? ⟨r,0,ZX⟩=ZU:=(by simp [World.frozen?,x]);obtain ⟨na,nc,rfl⟩:=bx I;have s:=a5 I B W x;clear I S ha B W x))
  all_goals (go_ret;exact oR (a:=0) (L:=[]) f.o.2.2 rfl s.o.1 s.o.2.1 s.o.2.2.1 s.o.2.2.2 v)
def Gj {v:ZS} {L:List (ByteArray×ZS)} (h:rE w r base v L) (hl:L.length<=100000) (hs:∀ o∈L,kF o.2) (name:ByteArray) (ao:Option ZQ) (c:Nat) (d:a8) (i:Bs w (.slice ao d.length c) d) (e:d.length<=1500) (f:eL name) (s:pH L name) :
 ZR ZM 48 #[Z6 (ZW ⟨r,0,ZX⟩),ZZ name,.slice ao d.length c] w (L9 w r L name d):=by
 rcases h.shape with ⟨rfl,rfl⟩|⟨g,cap,rfl,u,n,m⟩
 . exact Mc h name ao c d i e f
 . have p:g<w.heap.size:=by
    rcases h.own.2 with ⟨q,_⟩|⟨l,a,cur,b,t,k,_⟩
    . cases q
    . have j:g=l:=by
       simp only [Vs,UD,aaL] at b;exact b.1.1
      rw [j];exact (T5.1 k).1
   exact Ma h hl hs name ao c d i e f s m p n
section
def vY (xs:aL) (x:ByteArray) (k:Int):Prop:=(bY x=ZU/\k=6)\/(bY x=ZV/\x∉xs.names/\k=9)
def C4 (xs:aL) (x:ByteArray) (xs':aL):Prop:=bY x=ZV/\x∈xs.names/\xs'=xs.del (aI xs.names x)
section
variable {w:ZT} {ar v p D L G t:Nat} {ps:aN} {pg ob:ZS} {P:a8} {xs:aL} {A:aB} {F:aK}
def aS.TE (h:aS w ar v p ps D L G t pg ob P xs A F) (k:Nat):(an (xs.del k).os).length<=1000000:=TV (pW xs k) h.packL_le
def Ol (h:aS w ar v p ps D L G t pg ob P xs A F) (k:Nat) {pgn:Nat} (d:pgn=pgs D (an (xs.del k).os).length) :
 ZR ZM 102 #[Z6 (ZW ⟨ar,0,ZX⟩),Z7 Z9 (pgn:Nat)] w λe w'=>∃ g cap,e=Z3 (ZY #[Z5 (ZW ⟨g,0,ZX⟩) pgn cap,Z1 ZV])/\w'.ownsRow w.heap.size 3 1 (Z5 (ZW ⟨g,0,ZX⟩) pgn cap) pgn (jR ((aZ (tk A.nb (P++af xs.os)).1 A.nb).take pgn))/\((aZ (tk A.nb (P++af xs.os)).1 A.nb).take pgn).length=pgn/\w.heap.size<=g/\g<w'.heap.size/\bW w w'/\pgn<=1000:=by
 have:=h.nb;have:1<=pgn:=by rw [d];unfold pgs;omega
 have c:=EA h.disk k;have:=lL h.disk.nod h.disk.Tk;rw [<- d] at c;have a:=lE h.arc h.vol.vol h.vol.arr h.n0 P xs.os h.pgs.any h.cat.any pgn (by omega);rw [UY c] at a;have b:((aZ (tk A.nb (P++af xs.os)).1 A.nb).take pgn).length=pgn:=by rw [Uo];omega
 rw [b] at a;refine a.mono ?_;rintro e w' ⟨u,rfl,ho,f⟩;rcases ho.2 with ⟨_,l⟩|⟨g,cap,cur,rfl,i,j,q,_⟩
 . omega
 . exact ⟨g,cap,rfl,ho,b,i,(T5.1 j).1,f,by omega⟩
def IX (h:aS w ar v p ps D L G t pg ob P xs A F) (k7:t<1000000) (x:ByteArray) (U:bY x=ZV) (R:x∈xs.names) (k:Nat) (X:aI xs.names x=k) {w2:ZT} {u:ZS} {pgn g cap:Nat} (J:pgn=pgs D (an (xs.del k).os).length) (m:eO (λk=>ar<k/\¬ F.S k/\¬ ps.bl k) w2 u (xs.del k).os) (z:bW w w2)
 (n:bf (λk=>ar<k/\¬ F.S k/\¬ ps.bl k) w2 (Z5 (ZW ⟨g,0,ZX⟩) pgn cap) ((aZ (tk A.nb (P++af xs.os)).1 A.nb).take pgn)) (a:((aZ (tk A.nb (P++af xs.os)).1 A.nb).take pgn).length=pgn) :
 ZR ZM 105 #[Z6 (ZW ⟨ar,0,ZX⟩),u,Z5 (ZW ⟨g,0,ZX⟩) pgn cap] w2 (di w ar v p ps D L G t xs A F (vY xs x) (C4 xs x)):=by
 obtain ⟨oo,Z,rfl,hol,_⟩:=id m;have hr:=h.vol.par;have i:=h.disk;have d:=ni i.nod i.Tk pgn;obtain ⟨fr,W⟩:=nM ((aZ (tk A.nb (P++af xs.os)).1 A.nb).take pgn);rw [W] at n a d;have:1<=pgn:=by rw [J];unfold pgs;omega
 have hs:fr≠[]:=λe=>by rw [e] at a;simp at a;omega
 have M:∀ b∈fr,b<A.nb:=λb T=>(d.2 b (UF _ T)).2;have N:=h.TE k;have I:fr.length=pgs D (an (xs.del k).os).length:=by rw [a,J]
 have s:=kL xs k;have K:∀ o∈(xs.del k).os,o.fit:=λo ho=>by
  obtain ⟨y,V,rfl⟩:=T9.1 ho;exact (i.fits y (s.subset V)).fit
 have O:(xs.del k).os.length<=10000:=by
  have:=s.length_le;have e:(xs.del k).os.length=(xs.del k).length:=by simp [aL.os]
  have:=h.Sj.1;have:xs.os.length=xs.length:=by simp [aL.os]
  omega
 have f:=h.below z;have B:=ng (w:=w2) f.arc f.vol f.fine f.nar
  oo _ Z (an (xs.del k).os) (oO _) N (uf m.any K O) g 0 cap fr (by rw [a];exact n.TJ λk c=>c.2.1) hs M (λj Q=>CR hr.d1 (by rw [<- I];exact Q))
 rw [a] at B;refine B.mono ?_;rintro e w3 ⟨l,rfl,C,H⟩;have Y:nx t=t+1:=by unfold nx;omega
 have r:aa (λk=>k=ar\/F.S k) w w3:=(aa.RL z _).trans l
 . have E:eo (λk=>ar<k/\¬ F.S k/\¬ ps.bl k) w2 w3:=⟨l.size,λk c hK=>l.block k c (λe=>e.elim (λq=>by have:=hK.1;omega) hK.2.1)⟩;rw [Y] at C H;have c:=Aq A D L G (t+1) fr (an (xs.del k).os);exact ⟨_,_,_,_,_,_,_,rfl,pY h H C r c (by omega) (Ll i h.fine k I d.1 d.2) (n.keep E) (m.keep E),c,r,.inl ⟨rfl,rfl,U,R,by rw [X]⟩⟩
end
theorem E7 {ps:aN} {xs:aL} (h:aS w ar v p ps D L G t pg ob P xs A F) (kc:t<1000000) (x:ByteArray) :
 ZR ZM 73 #[Z6 (ZW ⟨ar,0,ZX⟩),ZZ x] w (di w ar v p ps D L G t xs A F (vY xs x) (C4 xs x)):=by
 have k8:∀ w' j,bW w w'->vY xs x j->di w ar v p ps D L G t xs A F (vY xs x) (C4 xs x) (Z3 (An j)) w':=λw' j E hq=>⟨_,_,_,_,_,_,_,rfl,h.below E,dM.refl A,aa.RL E _,.inr ⟨rfl,rfl,j,rfl,hq⟩⟩;obtain ⟨_,_,_,_,c8⟩:=h.arc.cells;have R:=h.find x;obtain ⟨k,Q⟩:=nM (aI xs.names x);obtain ⟨i,l⟩:=nM (mx xs.os x);rw [Q,l] at R;have f:=a6 h Q l kc k8;clear Q l h k8 kc;go_enter func73,ntmps73;go_wp2_with fail;refine R.mono ?_;rintro e w1 ⟨rfl,E⟩;have H:=ak E;clear E R c8;go_wp2_with fail;refine (jO x w1).mono ?_;rintro e w2 ⟨rfl,rfl⟩;cases hx:bY x
 . dsimp only;go_wp2;go_ret;exact f.o.2.2.2.2 _ 6 H.o (.inl ⟨hx,rfl⟩)
 by_cases r:x∈xs.names;rotate_left
 . have l:=f.o.1.Sp r;rw [f.o.2.2.1] at l;subst l;have J:=ak r;clear r;dsimp only;go_wp2;go_ret;exact f.o.2.2.2.2 _ 9 H.o (.inr ⟨hx,J.o,rfl⟩)
 have l:=f.o.1.there r;rw [f.o.2.2.1] at l;subst l;have T:aI xs.names x<xs.os.length:=by
  obtain ⟨q,_⟩:=uj f.o.1.disk.up r;rwa [<- eE,bh] at q
 rw [f.o.2.1] at T;obtain ⟨pgn,hc⟩:=nM (pgs D (an (xs.del k).os).length);obtain ⟨len,h9⟩:=nM ((an (xs.del k).os).length);have m:=a5 f.o.1 T hc h9;have J:=ak r;clear r T hc h9;dsimp only;have n:=m.o.1.below H.o;obtain ⟨_,_,_,_,d8⟩:=n.arc.cells;have W:=uz n.cat (by have:=n.Sj.1;omega) (λj hj=>⟨by have:=n.arc.lt;omega,λe=>by have:=n.vol.arr.RN e;omega,λe=>by have:=ps.lt _ n.kit _ e;omega⟩) m.o.2.1;rw [<- Lj] at W;have X:=ak n;clear n;go_wp2_with fail;refine W.mono ?_;rintro e w3 ⟨u,rfl,M,N⟩;have C:=X.o.below N;have Z:∀ o∈(xs.del k).os,o.fit:=λo ho=>by
  obtain ⟨y,hy,rfl⟩:=T9.1 ho;exact (C.disk.fits y ((kL xs k).subset hy)).fit
 have ha:(xs.del k).os.length<=10000:=by
  have h1:=(kL xs k).length_le;have e:(xs.del k).os.length=(xs.del k).length:=by simp [aL.os]
  have h4:=C.Sj.1;have h5:xs.os.length=xs.length:=by simp [aL.os]
  omega
 have U:=ue M Z ha;have kg:=C.TE k;rw [m.o.2.2.2] at U kg;have z:=aE C M (H.o.trans (N.mono H.o.size));clear W M N C Z ha d8 X;dsimp only;go_wp2_with fail;refine U.mono ?_;rintro e w4 ⟨rfl,I⟩;have c:=z.o.1.below I;have V:=ja c.arc c.vol.vol c.vol.par.d1 (by have:=c.vol.par.d;omega) len (by omega);have B:pgs D len=pgn:=by rw [<- m.o.2.2.2];exact m.o.2.2.1
 rw [B] at V;have kb:=Ol c k m.o.2.2.1.symm;have s:bW w w4:=z.o.2.2.trans (I.mono z.o.2.2.size);have Y:=aE c (z.o.2.1.keep (eo.RM I)) s;clear c I s B U z;dsimp only;go_wp2_with fail;refine V.mono ?_;rintro e ki ⟨rfl,rfl⟩;clear V;dsimp only;go_wp2_with fail;refine kb.mono ?_;rintro e w5 ⟨g,cap,rfl,k9,hr,ke,kf,O,hs⟩;obtain ⟨c,k6,s⟩:=Y.o;have h7:ar<g/\¬ F.S g/\¬ ps.bl g:=⟨by have:=c.arc.lt;omega,λe=>by have:=c.vol.arr.RN e;omega,λe=>by have:=ps.lt _ c.kit _ e;omega⟩;have ka:bf (λk=>ar<k/\¬ F.S k/\¬ ps.bl k) w5 (Z5 (ZW ⟨g,0,ZX⟩) pgn cap) ((aZ (tk A.nb (P++af xs.os)).1 A.nb).take pgn):=by
  have:=yC (K:=λk=>ar<k/\¬ F.S k/\¬ ps.bl k) (a:=pgn) (b:=0) (c1:=cap) k9 hr h7 (by omega);rwa [UI (by omega)] at this
 have k7:=IX m.o.1 f.o.2.2.2.1 x hx J.o k f.o.2.1 m.o.2.2.1.symm (k6.keep (eo.RM O)) (s.trans (O.mono s.size)) ka hr;clear c k6 s h7 hs ka kb k9 hr ke kf O Y;dsimp only;go_wp2_with fail;refine k7.mono ?_;rintro e w6 ⟨er,t',kh,hd,P',xs',B',rfl,hp⟩;have HF:=ak hp;clear hp k7;dsimp only;go_wp2;go_ret;exact ⟨_,_,_,_,_,_,_,rfl,HF.o⟩
end
def di.later {ps:aN} {xs:aL} {Q:Int->Prop} {N:aL->Prop} (h:di w ar v p ps D L G t xs A F Q N e w') (j:bW w0 w):di w0 ar v p ps D L G t xs A F Q N e w':=by
 obtain ⟨x,k,b,a,P',xs',B,c,d,f,g,i⟩:=h;exact ⟨x,k,b,a,P',xs',B,c,d,f,(aa.RL j _).trans g,i⟩
def DoQ (t:Nat) (xs:aL) (Q:Int->Prop) (N:aL->Prop) (er:ZS) (t':Nat) (xs':aL):Prop:=(er=.nilIface/\t'=t+1/\N xs')\/(xs'=xs/\t'=t/\∃ n,er=An n/\Q n)
def aaa {ps:aN} {xs:aL} {Q:Int->Prop} {N:aL->Prop} (r:¬ Q 13) (h:aS w ar v p ps D L G t pg ob P xs A F) (k:FuncId) (cap:Array ZS) (m:∀ (args:Array ZS) (w:ZT),(callFunc k args).run ZM w=.ok (.enter k args) w) (o:∀ w1,bW w w1->ZR ZM k (#[]++cap) w1 (di w1 ar v p ps D L G t xs A F Q N)) :
 ZR ZM 52 #[Z6 (ZW ⟨ar,0,ZX⟩),.func (.func k) #[] cap] w (di w ar v p ps D L G t xs A F Q N):=by
 refine (RA h k #[] cap m (λx c xs' _ _=>DoQ t xs Q N x c xs') (λ_ _ _ _ _ _ _ q=>q) λw1 l _=>(o w1 l).mono ?_).mono ?_
 . rintro e w2 ⟨x,c,b,a,P',xs',B,f,g,i,j,d⟩;refine ⟨x,c,b,a,P',xs',B,f,?_,g,i,j,d⟩;rcases d with ⟨rfl,_⟩|⟨_,_,n,rfl,s⟩
   . exact .inl rfl
   . exact .inr ⟨n,λe=>r (e▸s),rfl⟩
 . rintro e w2 ⟨x,c,b,a,P',xs',B,f,_,g,i,j,d⟩;exact ⟨x,c,b,a,P',xs',B,f,g,i,j,d⟩
def Om {xs:aL} {n:Nat}:¬ vW D nb xs x n 13:=by
 rintro (⟨_,h⟩|⟨_,⟨_,h⟩|⟨_,⟨_,h⟩|⟨_,_,h⟩⟩⟩)<;>exact absurd h (by decide)
def On {xs:aL}:¬ vY xs x 13:=by
 rintro (⟨_,h⟩|⟨_,_,h⟩)<;>exact absurd h (by decide)
theorem aav {ps:aN} {xs:aL} (h:aS w ar v p ps D L G t pg ob P xs A F) (J:t<1000000) (x:ByteArray) (ao:Option ZQ) (c:Nat) (d:a8) (z:∀ w',aa F.S w w'->Bs w' (.slice ao d.length c) d) (E:d.length<=c) :
 ZR ZM 69 #[Z6 (ZW ⟨ar,0,ZX⟩),ZZ x,.slice ao d.length c] w (di w ar v p ps D L G t xs A F (vW D A.nb xs x d.length) (vX D A.nb xs x d)):=by
 have I:∀ (args:Array ZS) (w:ZT),(callFunc 95 args).run ZM w=.ok (.enter 95 args) w:=U4 func95 (by kernel_rfl) rfl;obtain ⟨n,s⟩:=nM (d.length);obtain ⟨w3,g⟩:=nM (((w.alloc (Z4 #[Z6 (ZW ⟨ar,0,ZX⟩)] 103)).alloc (Z4 #[ZZ x] 9)).alloc (Z4 #[.slice ao n c] 40));have f:ZN w3 w.heap.size 103 (Z6 (ZW ⟨ar,0,ZX⟩)):=by rw [<- g];exact ((Ur w _ _).alloc _).alloc _
 have i:ZN w3 (w.heap.size+1) 9 (ZZ x):=by
  have:=(Ur (w.alloc (Z4 #[Z6 (ZW ⟨ar,0,ZX⟩)] 103)) 9 (ZZ x)).alloc (Z4 #[.slice ao n c] 40);rw [Ul] at this;rw [<- g];exact this
 have j:ZN w3 (w.heap.size+2) 40 (.slice ao n c):=by
  have:=Ur ((w.alloc (Z4 #[Z6 (ZW ⟨ar,0,ZX⟩)] 103)).alloc (Z4 #[ZZ x] 9)) 40 (.slice ao n c);simp only [Ul] at this;rw [<- g];exact this
 have b:bW w w3:=by rw [<- g];exact ((bA w _).alloc (by simp) _).alloc (by simp;omega) _
 have y:∀ w1,bW w3 w1->ZR ZM 95 #[Z6 (ZW ⟨w.heap.size,0,ZX⟩),Z6 (ZW ⟨w.heap.size+1,0,ZX⟩),Z6 (ZW ⟨w.heap.size+2,0,ZX⟩)] w1 (di w1 ar v p ps D L G t xs A F (vW D A.nb xs x d.length) (vX D A.nb xs x d)):=λw1 a=>by
  have K:=(show ZN w1 w.heap.size 103 _ from (a.block _ f.lt).trans f).cell;have M:=(show ZN w1 (w.heap.size+1) 9 _ from (a.block _ i.lt).trans i).cell;have N:=(show ZN w1 (w.heap.size+2) 40 _ from (a.block _ j.lt).trans j).cell;have k:bW w w1:=b.trans (a.mono b.size);have u:=Of (h.below k) J x ao c d (λw' C=>z w' ((aa.RL k _).trans C)) E;rw [s] at u ⊢;clear f i j a k g b;go_enter func95,ntmps95;go_wp2_with fail;refine u.mono ?_;rintro e w2 l;obtain ⟨r,_,_,_,_,_,_,rfl,_⟩:=id l;have H:=ak l;clear l u;go_wp2;go_ret;exact H.o
 have q:=aaa Om (h.below b) 95 #[Z6 (ZW ⟨w.heap.size,0,ZX⟩),Z6 (ZW ⟨w.heap.size+1,0,ZX⟩),Z6 (ZW ⟨w.heap.size+2,0,ZX⟩)] I (λw1 a=>y w1 a);have c1:=f.cell;rw [s] at q ⊢;have H:=al q b;clear q b y f i j h z s;go_enter func69,ntmps69;go_wp2_with fail;refine H.o.1.mono ?_;rintro e w8 m;obtain ⟨r,_,_,_,_,_,_,rfl,_⟩:=id m;have B:=ak (di.later m H.o.2);clear m;go_wp2;go_ret;exact B.o
theorem Oo {ps:aN} {xs:aL} (h:aS w ar v p ps D L G t pg ob P xs A F) (s:t<1000000) (x:ByteArray) :
 ZR ZM 50 #[Z6 (ZW ⟨ar,0,ZX⟩),ZZ x] w (di w ar v p ps D L G t xs A F (vY xs x) (C4 xs x)):=by
 have q:∀ (args:Array ZS) (w:ZT),(callFunc 72 args).run ZM w=.ok (.enter 72 args) w:=U4 func72 (by kernel_rfl) rfl;obtain ⟨w3,f⟩:=nM ((w.alloc (Z4 #[Z6 (ZW ⟨ar,0,ZX⟩)] 103)).alloc (Z4 #[ZZ x] 9));have c:ZN w3 w.heap.size 103 (Z6 (ZW ⟨ar,0,ZX⟩)):=by rw [<- f];exact (Ur w _ _).alloc _
 have d:ZN w3 (w.heap.size+1) 9 (ZZ x):=by
  have:=Ur (w.alloc (Z4 #[Z6 (ZW ⟨ar,0,ZX⟩)] 103)) 9 (ZZ x);rw [Ul] at this;rw [<- f];exact this
 have b:bW w w3:=by rw [<- f];exact (bA w _).alloc (by simp) _
 have k:∀ w1,bW w3 w1->ZR ZM 72 #[Z6 (ZW ⟨w.heap.size,0,ZX⟩),Z6 (ZW ⟨w.heap.size+1,0,ZX⟩)] w1 (di w1 ar v p ps D L G t xs A F (vY xs x) (C4 xs x)):=λw1 a=>by
  have u:=(show ZN w1 w.heap.size 103 _ from (a.block _ c.lt).trans c).cell;have y:=(show ZN w1 (w.heap.size+1) 9 _ from (a.block _ d.lt).trans d).cell;have j:bW w w1:=b.trans (a.mono b.size);have m:=E7 (h.below j) s x;clear c d a j f b;go_enter func72,ntmps72;go_wp2_with fail;refine m.mono ?_;rintro e w2 g;obtain ⟨r,_,_,_,_,_,_,rfl,_⟩:=id g;have H:=ak g;clear g m;go_wp2;go_ret;exact H.o
 have l:=aaa On (h.below b) 72 #[Z6 (ZW ⟨w.heap.size,0,ZX⟩),Z6 (ZW ⟨w.heap.size+1,0,ZX⟩)] q (λw1 a=>k w1 a);have c1:=c.cell;have H:=al l b;clear l b k c d h;go_enter func50,ntmps50;go_wp2_with fail;refine H.o.1.mono ?_;rintro e w8 i;obtain ⟨r,_,_,_,_,_,_,rfl,_⟩:=id i;have n:=ak (di.later i H.o.2);clear i;go_wp2;go_ret;exact n.o
theorem aaw {ps:aN} {xs:aL} (hs:ZN w sa 105 (Z6 (ZW ⟨ar,0,ZX⟩))) (h:aS w ar v p ps D L G t pg ob P xs A F) (j:t<1000000) (x:ByteArray) (ao:Option ZQ) (c:Nat) (d:a8) (f:∀ w',aa F.S w w'->Bs w' (.slice ao d.length c) d) (i:d.length<=c) :
 ZR ZM 46 #[Z6 (ZW ⟨sa,0,ZX⟩),ZZ x,.slice ao d.length c] w (di w ar v p ps D L G t xs A F (vW D A.nb xs x d.length) (vX D A.nb xs x d)):=by
 have cs:=hs.cell;have b:=aav h j x ao c d f i;clear hs h f;go_enter func46,ntmps46;go_wp2_with fail;refine b.mono ?_;rintro e w8 a;obtain ⟨r,_,_,_,_,_,_,rfl,_⟩:=id a;have g:=ak a;clear a b;go_wp2;go_ret;exact g.o
theorem Oq {ps:aN} {xs:aL} (hs:ZN w sa 105 (Z6 (ZW ⟨ar,0,ZX⟩))) (h:aS w ar v p ps D L G t pg ob P xs A F) (d:t<1000000) (x:ByteArray) :
 ZR ZM 31 #[Z6 (ZW ⟨sa,0,ZX⟩),ZZ x] w (di w ar v p ps D L G t xs A F (vY xs x) (C4 xs x)):=by
 have cs:=hs.cell;have b:=Oo h d x;clear hs h;go_enter func31,ntmps31;go_wp2_with fail;refine b.mono ?_;rintro e w8 a;obtain ⟨r,_,_,_,_,_,_,rfl,_⟩:=id a;have c:=ak a;clear a b;go_wp2;go_ret;exact c.o
def uT.isSlice {xs:aL} {r:ZS} (h:uT xs x base u r w):(∃ ao n c,u=.slice ao n c)/\mN r:=by
 rcases h with ⟨rfl,h⟩|⟨rfl,_,X,_,_,ho⟩
 . refine ⟨⟨_,_,_,rfl⟩,.inr ?_⟩;rcases h with ⟨rfl,_⟩|⟨rfl,_⟩<;>exact ⟨_,by decide,rfl⟩
 . obtain ⟨a,b,e⟩:=bj ho;exact ⟨⟨_,_,_,e⟩,.inl rfl⟩
def uT.keep {xs:aL} {base':Nat} {r:ZS} (h:uT xs x base u r w) (l:base'<=base) (m:∀ (j:Nat) (cs:Array ZS),w.heap[j]?=ZW (Z4 cs 5 (0,0))->w'.heap[j]?=w.heap[j]?):uT xs x base' u r w':=by
 refine h.imp id ?_;rintro ⟨e,f,X,i,k,ho⟩;refine ⟨e,f,X,i,k,ho.1,?_⟩;rcases ho.2 with d|⟨g,cap,cur,b,c,a,n⟩
 . exact .inl d
 . exact .inr ⟨g,cap,cur,b,TV l c,(m _ _ a).trans a,n⟩
def C7 {n:Nat} (d:ZN w b 40 (.slice ao n c)):uO w b:=λoff u h=>by
 have a:w.heap[b]?=ZW (Z4 #[.slice ao n c] 40 (0,0)):=d;cases off with
 | zero=>simp [World.cell?,a] at h;subst h;exact ⟨λ_=>nofun,λ_=>nofun⟩
 | succ n=>simp [World.cell?,a] at h
def E8 (w:ZT) (ar v p:Nat) (Kind:aN->Prop) (ps:aN) (D L G t:Nat) (xs:aL) (A:aB) (F:aK) (x:ByteArray) (e:ZP) (w':ZT):Prop:=
 ∃ u r ps' pg ob P,e=Z3 (ZY #[u,r])/\QB w ar v p Kind ps D L G t pg ob P xs A F ps' w'/\aa (λj=>j=ar\/F.S j\/j=v\/ps.bl j) w w'/\uT xs x w.heap.size u r w'
theorem Md {q3:Nat} {Kind:aN->Prop} {ps:aN} {xs:aL} (h:aS w ar v p ps D L G t pg ob P xs A F) (x:ByteArray) (hG:∀ w1,bW w w1->ZR ZM 71 #[Z6 (ZW ⟨ar,0,ZX⟩),ZZ x] w1 (mn w1 ar v p Kind ps D L G t pg ob P xs A F x)) (d:bW w w1) (y:ZN w1 q1 103 (Z6 (ZW ⟨ar,0,ZX⟩))) (z:ZN w1 q2 9 (ZZ x)) (f:ZN w1 q3 40 (Z5 ZX 0 0)) (Q:w.heap.size<=q3) :
 ZR ZM 70 #[Z6 (ZW ⟨q1,0,ZX⟩),Z6 (ZW ⟨q2,0,ZX⟩),Z6 (ZW ⟨q3,0,ZX⟩)] w1 λe w2=>∃ u r ps',e=Z3 r/\QB w ar v p Kind ps D L G t pg ob P xs A F ps' w2/\aa (λj=>F.S j\/j=v\/ps.bl j\/j=q3) w1 w2/\uT xs x w.heap.size u r w2/\ZN w2 q3 40 u:=by
 have I:=y.cell;have J:=z.cell;have C:=hG w1 d;have g:∀ j,F.S j->j<w.heap.size:=λj a=>h.vol.arr.RN a;have H:=a5 h f g d;clear h y z f g d hG;go_enter func70,ntmps70;go_wp2_with fail;refine C.mono ?_;rintro e w2 ⟨u,r,ps',rfl,hG,i,l⟩;obtain ⟨h,f,g,d⟩:=H.o;have b:ZN w2 q3 40 (Z5 ZX 0 0):=(i.block _ f.lt (λe=>by
  rcases e with e|e|e
  . have:=g _ e;omega
  . have:=h.vol.vol.lt;omega
  . have:=ps.lt _ h.kit _ e;omega)).trans f
 have R:=b.cell;have T:=b.frozen;obtain ⟨ao,n,c,rfl⟩:=l.isSlice.1;have E:=a5 hG i l b;clear hG i l b C I J h f g d;go_wp2;go_ret;obtain ⟨⟨hl,N,O⟩,i,l,b⟩:=E.o;obtain ⟨h,f,g,d⟩:=H.o;have K:ZN (w2.setCell ⟨q3,0,ZX⟩ (.slice ao n c)) q3 40 (.slice ao n c):=b.set _;have m:∀ j,j≠q3->(w2.setCell ⟨q3,0,ZX⟩ (.slice ao n c)).heap[j]?=w2.heap[j]?:=λj a=>Ud _ _ _ _ a;have M:uO w2 q3:=C7 b;refine ⟨_,r,ps',rfl,⟨hl.aside (B:=w.heap.size) M (bU hl.kit b oJ) (by simp [World.setCell]) (λk s _=>m k s) Q (by exact g) h.vol.vol.lt h.arc.lt h.vol.room,N,λk s=>(O k s).imp id λq=>TV d.size q⟩,?_,l.keep d.size (λj cs a=>m j (λe=>by subst e;rw [b] at a;cases a)),K⟩;exact (i.mono λj _ a=>by
  rcases a with q|q|q
  . exact .inl q
  . exact .inr (.inl q)
  . exact .inr (.inr (.inl q))).trans ⟨rfl,rfl,rfl,by simp [World.setCell],λj _ a=>m j (λe=>a (.inr (.inr (.inr e))))⟩
theorem aax {Kind:aN->Prop} {ps:aN} {xs:aL} (h:aS w ar v p ps D L G t pg ob P xs A F) (x:ByteArray) (hG:∀ w1,bW w w1->ZR ZM 71 #[Z6 (ZW ⟨ar,0,ZX⟩),ZZ x] w1 (mn w1 ar v p Kind ps D L G t pg ob P xs A F x)) :
 ZR ZM 49 #[Z6 (ZW ⟨ar,0,ZX⟩),ZZ x] w (E8 w ar v p Kind ps D L G t xs A F x):=by
 have hm:∀ (args:Array ZS) (w:ZT),(callFunc 70 args).run ZM w=.ok (.enter 70 args) w:=U4 func70 (by kernel_rfl) rfl;obtain ⟨w3,I⟩:=nM (((w.alloc (Z4 #[Z6 (ZW ⟨ar,0,ZX⟩)] 103)).alloc (Z4 #[ZZ x] 9)).alloc (Z4 #[Z5 ZX 0 0] 40));have f:ZN w3 w.heap.size 103 (Z6 (ZW ⟨ar,0,ZX⟩)):=by rw [<- I];exact ((Ur w _ _).alloc _).alloc _
 have g:ZN w3 (w.heap.size+1) 9 (ZZ x):=by
  have:=(Ur (w.alloc (Z4 #[Z6 (ZW ⟨ar,0,ZX⟩)] 103)) 9 (ZZ x)).alloc (Z4 #[Z5 ZX 0 0] 40);rw [Ul] at this;rw [<- I];exact this
 have l:ZN w3 (w.heap.size+2) 40 (Z5 ZX 0 0):=by
  have:=Ur ((w.alloc (Z4 #[Z6 (ZW ⟨ar,0,ZX⟩)] 103)).alloc (Z4 #[ZZ x] 9)) 40 (Z5 ZX 0 0);simp only [Ul] at this;rw [<- I];exact this
 have d:bW w w3:=by rw [<- I];exact ((bA w _).alloc (by simp) _).alloc (by simp;omega) _
 have T:=h.below d;have hr:=l.lt;have V:=Ar (R:=dM A) T 70 #[] #[Z6 (ZW ⟨w.heap.size,0,ZX⟩),Z6 (ZW ⟨w.heap.size+1,0,ZX⟩),Z6 (ZW ⟨w.heap.size+2,0,ZX⟩)] hm
  (λr N xs' B ps' w2=>∃ u,uT xs x w.heap.size u r w2/\ZN w2 (w.heap.size+2) 40 u/\(Kind ps'/\∀ k,ps'.bl k->ps.bl k\/w.heap.size<=k)/\N=t/\xs'=xs/\B=A) (λj=>j=w.heap.size+2\/j=v\/ps.bl j) (λj e=>by
   rcases e with e|e|e
   . omega
   . have:=h.vol.vol.lt;have:=d.size;omega
   . have:=ps.lt _ h.kit _ e;have:=d.size;omega)
  (λr N xs' B ps' w2 w' O=>by
   rintro ⟨u,C,z,Y⟩;have U:∀ j,w2.heap[j]?≠ZW (Obj.cells #[Value.nilIface] 64 (0,0))->w'.heap[j]?=w2.heap[j]?:=λj b=>O.2.2 j (λe=>by subst e;exact b O.1);refine ⟨u,C.keep lR (λj cs b=>U j (by rw [b];simp)),(U _ (by rw [z];simp)).trans z,Y⟩)
  (λw1 y hq=>(Md h x hG (d.trans (y.mono d.size)) ((y.block _ f.lt).trans f) ((y.block _ g.lt).trans g) ((y.block _ l.lt).trans l) (by omega)).mono (by
   rintro e w2 ⟨u,r,ps',rfl,⟨hl,hG⟩,Z,C,z⟩;exact ⟨r,t,pg,ob,P,xs,A,ps',rfl,C.isSlice.2,hl,dM.refl A,Z.mono λj _ b=>by
    rcases b with q|q|q|q
    . exact .inr (.inl q)
    . exact .inr (.inr (.inr (.inl q)))
    . exact .inr (.inr (.inr (.inr q)))
    . exact .inr (.inr (.inl q)),u,C,z,hG,rfl,rfl,rfl⟩))
 have c1:=f.cell;have H:=aE V d h;clear V d f g l h T hG;go_enter func49,ntmps49;go_wp2_with fail;refine H.o.1.mono ?_;rintro e w8 ⟨r,N,M,K,P',xs',B,ps',rfl,hp,E,hn,s,u,i,Q,m,rfl,rfl,rfl⟩;have a:ZN w8 (w.heap.size+1+1) 40 u:=Q;have y0:=a.cell;have y1:=a.frozen;obtain ⟨ao,n,c,rfl⟩:=i.isSlice.1;have W:=a6 s i a E m;clear m E s i Q a hp hn;go_wp2;obtain ⟨s,i,a,E,m⟩:=W.o;have X:=(a.set (.slice ao n c)).cell;refine Us (v:=ZY #[.slice ao n c,r]) (by simp [results,results49,go_sem,X]) rfl ?_;have J:bW w8 (w8.setCell ⟨w.heap.size+1+1,0,ZX⟩ (.slice ao n c)):=⟨rfl,rfl,rfl,by simp [World.setCell],λj b=>by
  by_cases e:j=w.heap.size+1+1
  . subst e;exact (a.set (.slice ao n c)).trans a.symm
  . exact Ud _ _ _ _ e⟩
 refine ⟨_,r,ps',M,K,P',rfl,⟨E.below J,m⟩,?_,i.keep lR (λj cs b=>J.block j (T5.1 b).1)⟩;have hk:aa (λj=>j=ar\/F.S j\/j=v\/ps.bl j) w w8:=(aa.RL H.o.2.1 (λj=>j=ar\/F.S j\/j=v\/ps.bl j)).later s (λj f g=>by
  rcases g with q|q|q|q|q
  . exact .inl q
  . exact .inr (.inl q)
  . omega
  . exact .inr (.inr (.inl q))
  . exact .inr (.inr (.inr q)))
 exact hk.trans (aa.RL J _)
theorem aay {Kind:aN->Prop} {ps:aN} {xs:aL} (hs:ZN w sa 105 (Z6 (ZW ⟨ar,0,ZX⟩))) (h:aS w ar v p ps D L G t pg ob P xs A F) (x:ByteArray) (hG:∀ w1,bW w w1->ZR ZM 71 #[Z6 (ZW ⟨ar,0,ZX⟩),ZZ x] w1 (mn w1 ar v p Kind ps D L G t pg ob P xs A F x)) :
 ZR ZM 28 #[Z6 (ZW ⟨sa,0,ZX⟩),ZZ x] w (E8 w ar v p Kind ps D L G t xs A F x):=by
 have cs:=hs.cell;have d:=aax h x hG;clear hs h hG;go_enter func28,ntmps28;go_wp2_with fail;refine d.mono ?_;rintro e w8 ⟨u,r,ps',b,a,P',rfl,c⟩;have f:=ak c;clear c d;go_wp2;go_ret2;exact ⟨u,r,ps',b,a,P',rfl,f.o⟩
def en2 (o:Ob):List ZS:=[ZZ o.name,Z7 Z9 (o.size:Nat)]
def lP (os:List Ob):List ZS:=os.flatMap en2
def IY (os:List Ob) (k:Nat) (a:k<os.length):lP (os.take (k+1))=lP (os.take k)++en2 os[k]:=by
 unfold lP;rw [Vd,Uc a,WL];simp
def Tryz.Tl:(ZM.info? 99).map (λi=>(i.zero,i.size,i.bytes))=ZW (ZW (.agg #[ZZ YK,Z7 Z9 0]),2,24):=by kernel_rfl
def LiR (w:ZT) (q:Nat) (os:List Ob) (i:ZS) (wr:ZT):Prop:=∃ k:Nat,k<=os.length/\i=Z7 Z9 (k:Nat)/\∃ u,ZN wr q 95 u/\wr.ownsRow w.heap.size 99 2 u k (lP (os.take k))/\aa (λj=>j=q) w wr
theorem IZ {n:Nat} (J:ZN w q1 103 (Z6 (ZW ⟨ar,0,ZX⟩))) (M:ZN w q2 95 (Z5 ZX 0 0)) (O:a9 w ar v D L G t f n pg ob ZU) (x:eO K w ob os) (hK:∀ k,K k->k≠q2) (ke:os.length<=10000) :
 ZR ZM 74 #[Z6 (ZW ⟨q1,0,ZX⟩),Z6 (ZW ⟨q2,0,ZX⟩)] w λe w'=>e=Z3 .nilIface/\∃ u,ZN w' q2 95 u/\w'.ownsRow w.heap.size 99 2 u os.length (lP os)/\aa (λj=>j=q2) w w':=by
 obtain ⟨_,_,_,_,I⟩:=O.cells;have Y:=J.cell;obtain ⟨ie,k6,hf,hg,hh⟩:=Ut Tryz.Tl;obtain ⟨oo,oc,rfl,hol,_⟩:=id x;obtain ⟨nn,U⟩:=nM (os.length);rw [U] at I;have H:=aE M x U;have kb:nn<=10000:=by omega
 clear J M O x hol;go_enter func74,ntmps74;go_wp2;go_loopw [10] (λi wr=>LiR w q2 os i wr) (λi _=>nn-(intOf i).toNat)
 case atStart=>exact ⟨0,T8 _,rfl,_,H.o.1,UK _ _ _ _,aa.refl _ _⟩
 case round=>
  clear I Y;obtain ⟨k,hk,rfl,u,l,ho,a⟩:=hrel;by_cases R:k<os.length
  . have hs:eo K w wr:=⟨a.size,λj d k5=>a.block j d (λe=>hK j k5 e)⟩;obtain ⟨b,off,sv,rfl,Z,_,r1,r2,r3,W⟩:=(H.o.2.1.keep hs).at' (k:=k) R;obtain ⟨sa,sc,rfl,_⟩:=id W;obtain ⟨nm,z⟩:=nM (os[k].name);obtain ⟨sz,B⟩:∃ sz:Int,((os[k].size:Nat):Int)=sz:=⟨_,rfl⟩;obtain ⟨sl,V⟩:=nM (os[k].RK.length);have r:lP (os.take (k+1))=lP (os.take k)++[ZZ nm,Z7 Z9 sz]:=(by rw [IY os k R];unfold en2;rw [z,B]);rw [z] at r1;rw [B] at r2;rw [V] at r3;have k9:(k:Int)<(nn:Int):=(by omega);obtain ⟨w3,C⟩:=nM (wr.alloc (Z4 #[ZZ nm,Z7 Z9 sz,.slice sa sl sc] 152));have y:ai w3 wr.heap.size 152 [ZZ nm,Z7 Z9 sz,.slice sa sl sc]:=(by rw [<- C];exact UC wr _);have q:bW wr w3:=(by rw [<- C];exact bA wr _);have ka:w3.heap.size=wr.heap.size+1:=(by rw [<- C];simp);have x0:=y.cell (j:=0) (u:=ZZ nm) rfl;have x1:=y.cell (j:=1) (u:=Z7 Z9 sz) rfl;have hr:ZN w3 q2 95 u:=(q.block _ l.lt).trans l;have xq:=hr.cell;have Q:ai (w3.alloc (Z4 #[ZZ nm,Z7 Z9 sz] 99)) w3.heap.size 99 [ZZ nm,Z7 Z9 sz]:=UC w3 _;have g:bW wr (w3.alloc (Z4 #[ZZ nm,Z7 Z9 sz] 99)):=q.alloc (by omega) _;have s:Src ZM 2 95 (Z5 (ZW ⟨w3.heap.size,0,ZX⟩) 1 1) 1 [ZZ nm,Z7 Z9 sz] (w3.alloc (Z4 #[ZZ nm,Z7 Z9 sz] 99)):=
     Vi _ underlying95 ⟨w3.heap.size,0,ZX⟩ 1 1 [ZZ nm,Z7 Z9 sz] rfl (λj u d=>by rw [Vl,Uj];exact Q.cell d) (λu P=>by
      simp only [Uw,W5,or_false] at P;rcases P with rfl|rfl<;>rfl)
    have A:(w3.alloc (Z4 #[ZZ nm,Z7 Z9 sz] 99)).ownsRow w.heap.size 99 2 u k (lP (os.take k)):=aq ho g;have c:=hide8 l ho a s A g r q;have kc:IntKind.i64.wrap ((k:Int)+1)=(k:Int)+1:=(by rw [Ux];omega);clear l ho a s A g r q y Q hr hs W z B V Z ka;go_wp2_with (at_builtin;refine ae _ rfl (Z0 14) (Z0 20) 95 95 rfl w.heap.size 99 ie _ 2 24 underlying95 k6 hf hg hh rfl u k (lP (os.take k)) (by rfl) (by exact c.o.2.2.2.2.1) _ (by rfl) 1 [ZZ nm,Z7 Z9 sz] (by exact c.o.2.2.2.1) (by unfold maxLen;omega) (by omega) (by exact TV c.o.2.2.1.size c.o.2.2.2.2.2.1.size) ?_;intro v7 w7 p h he;have m:ZN w7 q2 95 u:=(h.block _ (T7 c.o.1.lt c.o.2.2.2.2.2.1.size) (λe=>bC c.o.2.1 c.o.1 (by decide) e.symm)).trans ((c.o.2.2.2.2.2.1.block _ c.o.1.lt).trans c.o.1);have z0:=m.cell;have z1:=m.frozen;obtain ⟨E,F,rfl⟩:=bj p;have X:=aE p h m;clear p h he m);obtain ⟨l,ho,a,s,A,g,r,q⟩:=c.o;obtain ⟨p,h,m⟩:=X.o;have hn:ZN (w7.setCell ⟨q2,0,ZX⟩ (.slice E (k+1) F)) q2 95 (.slice E (k+1) F):=m.set _;have N:∀ j,j≠q2->(w7.setCell ⟨q2,0,ZX⟩ (.slice E (k+1) F)).heap[j]?=w7.heap[j]?:=λj d=>Ud _ _ _ _ d;have kg:=h.size;have kf:=g.size;refine ⟨⟨k+1,by omega,by go_num,_,hn,?_,?_⟩,?_⟩
    . rw [r];exact bR p (S:=λj=>j=q2) ⟨rfl,rfl,rfl,by simp [World.setCell],λj _ d=>N j d⟩ λj d e=>bC p (e▸m:w7.heap[j]?=_) (by decide) d
    . refine ⟨h.os.trans (g.os.trans a.os),h.tape.trans (g.tape.trans a.tape),h.output.trans (g.output.trans a.output),by have:=a.size;simp [World.setCell];omega,λj d T=>?_⟩;have k7:j<wr.heap.size:=T7 d a.size;exact (N j T).trans ((h.block j (by omega) (λe=>by have:=ef ho e.symm;omega)).trans ((g.block j k7).trans (a.block j d T)))
    . simp only [intOf];omega
  . have k8:k=nn:=(by have:=H.o.2.2;omega);subst k8;have HF:=aE l ho a;clear l ho a;go_wp2;go_ret;obtain ⟨l,ho,a⟩:=HF.o;refine ⟨rfl,u,l,?_,a⟩;rw [UI (by have:=H.o.2.2;omega),<- H.o.2.2] at ho;exact ho
def Me (w:ZT) (xs:aL) (e:ZP) (w':ZT):Prop:=∃ u,e=Z3 (ZY #[u,.nilIface])/\bW w w'/\w'.ownsRow w.heap.size 99 2 u xs.os.length (lP xs.os)
def I0 {n:Nat} {l:List ZS} (h:w.ownsRow base 99 2 u n l) (i:w.heap[b]?=ZW (Z4 #[.nilIface] 64 (0,0))) (k:∀ j,j≠b->w'.heap[j]?=w.heap[j]?):w'.ownsRow base 99 2 u n l:=by
 refine ⟨h.1,?_⟩;rcases h.2 with f|⟨g,cap,cur,c,d,a,m⟩
 . exact .inl f
 . exact .inr ⟨g,cap,cur,c,d,(k g (λe=>by subst e;rw [i] at a;cases a)).trans a,m⟩
theorem aab {ps:aN} {xs:aL} (h:aS w ar v p ps D L G t pg ob P xs A F) :
 ZR ZM 51 #[Z6 (ZW ⟨ar,0,ZX⟩)] w (Me w xs):=by
 have hm:∀ (args:Array ZS) (w:ZT),(callFunc 74 args).run ZM w=.ok (.enter 74 args) w:=U4 func74 (by kernel_rfl) rfl;obtain ⟨w3,E⟩:=nM ((w.alloc (Z4 #[Z6 (ZW ⟨ar,0,ZX⟩)] 103)).alloc (Z4 #[Z5 ZX 0 0] 95));have s:ZN w3 w.heap.size 103 (Z6 (ZW ⟨ar,0,ZX⟩)):=by rw [<- E];exact (Ur w _ _).alloc _
 have x:ZN w3 (w.heap.size+1) 95 (Z5 ZX 0 0):=by
  have:=Ur (w.alloc (Z4 #[Z6 (ZW ⟨ar,0,ZX⟩)] 103)) 95 (Z5 ZX 0 0);rw [Ul] at this;rw [<- E];exact this
 have m:bW w w3:=by rw [<- E];exact (bA w _).alloc (by simp) _
 have N:=h.below m;have hx:=x.lt;have O:=Ar (R:=dM A) N 74 #[] #[Z6 (ZW ⟨w.heap.size,0,ZX⟩),Z6 (ZW ⟨w.heap.size+1,0,ZX⟩)] hm
  (λr T xs' B ps' w2=>r=.nilIface/\xs'=xs/\(∀ j,j<w.heap.size->w2.heap[j]?=w.heap[j]?)/\∃ u,ZN w2 (w.heap.size+1) 95 u/\w2.ownsRow w.heap.size 99 2 u xs.os.length (lP xs.os)) (λj=>j=w.heap.size+1) (λj e=>by omega)
  (λr T xs' B ps' w2 w' l=>by
   rintro ⟨W,X,Y,u,y,ho⟩;exact ⟨W,X,λj f=>(l.2.2 j (by omega)).trans (Y j f),u,(l.2.2 _ (λe=>by have I:=l.1;rw [<- e,y] at I;cases I)).trans y,I0 ho l.1 l.2.2⟩)
  (λw1 C hv=>by
   have i:bW w w1:=m.trans (C.mono m.size);have hq:=h.below i;have Z:eO (λk=>k<w.heap.size) w1 ob xs.os:=h.cat.any.keep (eo.RM i);refine (IZ ((C.block _ s.lt).trans s) ((C.block _ x.lt).trans x) hq.arc Z (λk S=>by omega) (by have:=h.Sj.1;omega)).mono ?_;rintro e w2 ⟨rfl,u,y,ho,K⟩;have M:bW w w2:=i.trans (K.below (B:=w.heap.size) λk S=>⟨T7 S i.size,by omega⟩);exact ⟨_,t,pg,ob,P,xs,A,ps,rfl,.inl rfl,h.below M,dM.refl A,K.mono λj _ f=>.inr (.inr f),rfl,rfl,λj f=>M.block j f,u,y,cU ho i.size⟩)
 have c1:=s.cell;have H:=aE O m h;clear O m s x h N;go_enter func51,ntmps51;go_wp2_with fail;refine H.o.1.mono ?_;rintro e w8 ⟨r,T,hd,hb,P',xs',B,ps',rfl,hs,hr,hp,b,rfl,rfl,z,u,a,d⟩;have y0:=a.cell;have y1:=a.frozen;obtain ⟨ao,c,rfl⟩:=bj d;obtain ⟨n,g⟩:=nM (xs'.os.length);rw [g] at y0 a;have U:=a6 b d a z g;clear hr b d a z hs hp g;go_wp2;obtain ⟨b,d,a,z,g⟩:=U.o;have V:=(a.set (.slice ao n c)).cell;refine Us (v:=ZY #[.slice ao n c,.nilIface]) (by simp [results,results51,go_sem,V]) rfl ?_;have J:bW w8 (w8.setCell ⟨w.heap.size+1,0,ZX⟩ (.slice ao n c)):=⟨rfl,rfl,rfl,by simp [World.setCell],λj f=>by
  by_cases e:j=w.heap.size+1
  . subst e;exact (a.set (.slice ao n c)).trans a.symm
  . exact Ud _ _ _ _ e⟩
 rw [g] at d;have q:=H.o.2.1;have Q:w.heap.size<=w8.heap.size:=TV q.size b.size;exact ⟨_,rfl,(Below.mk (b.os.trans q.os) (b.tape.trans q.tape) (b.output.trans q.output) Q z).trans (J.mono Q),by rw [g];exact aq d J⟩
theorem aac {ps:aN} {xs:aL} (hs:ZN w sa 105 (Z6 (ZW ⟨ar,0,ZX⟩))) (h:aS w ar v p ps D L G t pg ob P xs A F) :
 ZR ZM 35 #[Z6 (ZW ⟨sa,0,ZX⟩)] w (Me w xs):=by
 have cs:=hs.cell;have b:=aab h;clear hs h;go_enter func35,ntmps35;go_wp2_with fail;refine b.mono ?_;rintro e w8 ⟨u,rfl,a⟩;have c:=ak a;clear a b;go_wp2;go_ret2;exact ⟨u,rfl,c.o⟩
def Kd (B:Nat) (T:ZO) (w w':ZT):Prop:=∀ j cs,j<B->w.heap[j]?=ZW (Z4 cs T (0,0))->w'.heap[j]?=w.heap[j]?
def Kd.below (h:bW w w') (B:Nat) (T:ZO):Kd B T w w':=λj _ _ a=>h.block j (T5.1 a).1
def Kd.trans {a b c:ZT} (h:Kd B T a b) (k:Kd B T b c):Kd B T a c:=λj cs d e=>(k j cs d ((h j cs d e).trans e)).trans (h j cs d e)
def Kd.mono {a b:ZT} (h:Kd B T a b) (c:B'<=B):Kd B' T a b:=λj cs d q=>h j cs (by omega) q
def aad (T:ZO):Prop:=T=38\/T=101\/T=105\/T=5\/T=47
def Law (T:ZO):Prop:=aad T\/T=82\/T=58
def iS (B:Nat) (w w':ZT):Prop:=∀ T,Law T->Kd B T w w'
def ve (B:Nat) (w w':ZT):Prop:=∀ T,aad T->Kd B T w w'
def iS.SN (h:iS B w w'):ve B w w':=λT a=>h T (.inl a)
def iS.below (h:bW w w') (B:Nat):iS B w w':=λT _=>Kd.below h B T
def iS.trans {a b c:ZT} (h:iS B a b) (k:iS B b c):iS B a c:=λT d=>(h T d).trans (k T d)
def iS.mono {a b:ZT} (h:iS B a b) (c:B'<=B):iS B' a b:=λT d=>(h T d).mono c
def iS.live {n:Nat} {ps:aN} (l:az w p A F) (r:a9 w ar v D L G t f n pg ob off) (u:bg w v p D L G ps.ps ho) (o:ps.S w) (m:aa (λj=>j=ar\/F.S j\/j=v\/ps.bl j) w w'):iS B w w':=λT i j cs _ b=>m.block j (T5.1 b).1 (λq=>by
 have a:T≠146/\T≠75/\T≠79/\T≠114/\T≠4:=by
  rcases i with (rfl|rfl|rfl|rfl|rfl)|rfl|rfl<;>exact ⟨by decide,by decide,by decide,by decide,by decide⟩
 have h:T≠139/\¬ jP T:=by
  rcases i with (rfl|rfl|rfl|rfl|rfl)|rfl|rfl<;>exact ⟨by decide,by unfold jP;decide⟩
 rcases q with q|q|q|q
 . subst q;have g:w.heap[j]?=ZW (Z4 (jE v D L G t f n pg ob off) 146 (0,0)):=r;rw [b] at g;simp only [UD,UP] at g;exact a.1 g.2.1
 . obtain ⟨cs',T',e,s⟩:=l.kind q;rw [b] at e;simp only [UD,UP] at e;have c:=e.2.1;rcases s with k|k|k|k
   . exact a.2.1 (c.trans k)
   . exact a.2.2.1 (c.trans k)
   . exact a.2.2.2.1 (c.trans k)
   . exact a.2.2.2.2 (c.trans k)
 . subst q;have d:=u;unfold bg at d;rw [b] at d;simp only [UD,UP] at d;exact h.1 d.2.1
 . exact bU o b h.2 q)
def Mf {n:Nat} {v:ZS} {xs:List ZS} (h:w.ownsRow base T size v n xs) (f:Kd B T w w') (e:w.heap.size<=B):w'.ownsRow base T size v n xs:=by
 refine ⟨h.1,?_⟩;rcases h.2 with d|⟨g,cap,cur,b,c,a,i⟩
 . exact .inl d
 . exact .inr ⟨g,cap,cur,b,c,(f _ _ (T7 (T5.1 a).1 e) a).trans a,i⟩
def Ow (w:ZT) (v:ZS) (l:a8):Prop:=(∃ base,w.ownsRow base 5 1 v l.length (aJ l))/\(∀ x∈l,x<256)/\l.length<=1500
def Ow.nil (w:ZT):Ow w (Z5 ZX 0 0) []:=⟨⟨0,UK _ _ _ _⟩,λx a=>(by cases a),by decide⟩
def Ow.keep {v:ZS} (h:Ow w v l) (d:Kd w.heap.size 5 w w'):Ow w' v l:=by
 obtain ⟨⟨base,a⟩,b,c⟩:=h;exact ⟨⟨base,Mf a d lR⟩,b,c⟩
def Ow.bs {v:ZS} (h:Ow w v l):Bs w v l:=by
 obtain ⟨⟨base,ho⟩,e,hl⟩:=h;rcases ho.2 with ⟨rfl,d⟩|⟨g,cap,cur,rfl,f,i,c,j,m,n⟩
 . have:l=[]:=UU d;subst this;exact ⟨ZX,0,rfl,TU _,by decide,λx h=>(by cases h),λh=>absurd rfl h⟩
 . refine ⟨_,cap,rfl,c,by omega,e,λ_=>⟨g,0,rfl,λk b=>?_⟩⟩;have a:=ho.cells (g:=g) rfl k (Z7 .u8 ((l.getD k 0:Nat):Int)) (by
    unfold aJ;rw [UG,Uc b,Ub,Uc b];rfl)
   rw [jy] at a;rw [Uj];exact a
def Ow.sl {v:ZS} (h:Ow w v l):kF v/\BQ v=l.length:=by
 obtain ⟨⟨base,ho⟩,_,hl⟩:=h;obtain ⟨a,b,rfl⟩:=bj ho;exact ⟨⟨_,_,_,rfl,by omega⟩,rfl⟩
def iT (w:ZT):List (ByteArray×ZS)->aL->Prop
 | [],[]=>True
 | q::Q,x::xs=>(q.1=x.1.name/\Ow w q.2 x.2)/\iT w Q xs
 | _,_=>False
def iT.len:∀ {Q:List (ByteArray×ZS)} {xs:aL},iT w Q xs->Q.length=xs.length
 | [],[],_=>rfl
 | [],_::_,h=>h.elim
 | _::_,[],h=>h.elim
 | _::Q,_::xs,h=>by rw [UA,UA,iT.len h.2]
def iT.names:∀ {Q:List (ByteArray×ZS)} {xs:aL},iT w Q xs->cD Q=xs.names
 | [],[],_=>rfl
 | [],_::_,h=>h.elim
 | _::_,[],h=>h.elim
 | q::Q,x::xs,h=>by
  have e:cD (q::Q)=q.1::cD Q:=rfl;have a:aL.names (x::xs)=x.1.name::aL.names xs:=rfl;rw [e,a,h.1.1,iT.names h.2]
def iT.keep (a:∀ v l,Ow w v l->Ow w' v l):∀ {Q:List (ByteArray×ZS)} {xs:aL},iT w Q xs->iT w' Q xs
 | [],[],_=>trivial
 | [],_::_,h=>h.elim
 | _::_,[],h=>h.elim
 | _::_,_::_,h=>⟨⟨h.1.1,a _ _ h.1.2⟩,iT.keep a h.2⟩
def iT.take:∀ {Q:List (ByteArray×ZS)} {xs:aL} (k:Nat),iT w Q xs->iT w (Q.take k) (xs.take k)
 | _,_,0,_=>by simp only [WG];exact trivial
 | [],[],_+1,_=>trivial
 | [],_::_,_+1,h=>h.elim
 | _::_,[],_+1,h=>h.elim
 | _::_,_::_,k+1,h=>⟨h.1,iT.take k h.2⟩
def iT.drop:∀ {Q:List (ByteArray×ZS)} {xs:aL} (k:Nat),iT w Q xs->iT w (Q.drop k) (xs.drop k)
 | _,_,0,h=>h
 | [],[],_+1,_=>trivial
 | [],_::_,_+1,h=>h.elim
 | _::_,[],_+1,h=>h.elim
 | _::_,_::_,k+1,h=>iT.drop k h.2
def iT.app:∀ {Q Q':List (ByteArray×ZS)} {xs xs':aL},iT w Q xs->iT w Q' xs'->iT w (Q++Q') (xs++xs')
 | [],_,[],_,_,a=>a
 | [],_,_::_,_,h,_=>h.elim
 | _::_,_,[],_,h,_=>h.elim
 | _::_,_,_::_,_,h,a=>⟨h.1,iT.app h.2 a⟩
def iT.at:∀ {Q:List (ByteArray×ZS)} {xs:aL},iT w Q xs->∀ k (a:k<Q.length) (b:k<xs.length),Q[k].1=xs[k].1.name/\Ow w Q[k].2 xs[k].2
 | [],_,_,_,a,_=>absurd a (by simp)
 | _::_,[],h,_,_,_=>h.elim
 | _::_,_::_,h,0,_,_=>h.1
 | _::Q,_::xs,h,k+1,a,b=>iT.at h.2 k (by simpa using a) (by simpa using b)
def iT.sl:∀ {Q:List (ByteArray×ZS)} {xs:aL},iT w Q xs->∀ o∈Q,kF o.2
 | [],_,_,_,h=>by cases h
 | _::_,[],h,_,_=>h.elim
 | q::Q,x::xs,h,o,ho=>by
  rcases Uw.1 ho with rfl|ho
  . exact h.1.2.sl.1
  . exact iT.sl h.2 o ho
def iT.RK (D:Nat):∀ {Q:List (ByteArray×ZS)} {xs:aL},iT w Q xs->(Q.map λo=>BQ o.2/(D*44)+1).sum=qY D xs
 | [],[],_=>rfl
 | [],_::_,h=>h.elim
 | _::_,[],h=>h.elim
 | q::Q,x::xs,h=>by
  unfold qY;rw [U0,U0,XB,XB,h.1.2.sl.2,iT.RK D h.2];rfl
def kQ (x:ByteArray):eL x↔bY x=ZV:=by unfold eL bY;simp
theorem np {xs:aL} (h:iT w Q xs) (x:ByteArray):pH Q x↔x∉xs.names:=by
 rw [<- h.names];constructor
 . intro f a;obtain ⟨k,b,e⟩:=US a;have c:k<Q.length:=(by unfold cD at b;rwa [Ue] at b);refine f k c ?_;rw [<- e];simp [cD]
 . intro a j d e;refine a ?_;rw [<- toList_inj e];exact T9.2 ⟨Q[j],T6 d,rfl⟩
def kR {xs:aL} (h:iT w Q xs) (c:Up xs.names) {x:ByteArray} {k:Nat} (d:Nr Q x k):aI xs.names x=k/\k<Q.length/\x∈xs.names:=by
 obtain ⟨b,e,_⟩:=d;have hl:k<(cD Q).length:=by unfold cD;rw [Ue];exact b
 have a:(cD Q)[k]=x:=by simp only [cD,UN];exact toList_inj e
 rw [<- h.names] at c ⊢;exact ⟨gZ c hl a,b,a▸T6 hl⟩
section
structure MB (w0 w:ZT) (wb D L G nb t:Nat) (xs:aL) (p r sa ar v:Nat) (Kind:aN->Prop) (ps:aN) (pg ob:ZS) (P:a8) (A:aB) (F:aK) (out want:ZS) (cache:Int):Prop where
 wbA:ij w wb D L G (Z6 (ZW ⟨p,0,ZX⟩)) (Z6 (ZW ⟨sa,0,ZX⟩)) (Z6 (ZW ⟨r,0,ZX⟩)) nb out want cache
 box:ZN w sa 105 (Z6 (ZW ⟨ar,0,ZX⟩))
 live:aS w ar v p ps D L G t pg ob P xs A F
 nb:A.nb=nb
 base:bW w0 w
 glob:bK w0
 hK:3<=w0.heap.size
 wbB:w0.heap.size<=wb
 lt:wb<ar
 fB:∀ k,F.S k->w0.heap.size<=k
 vB:w0.heap.size<=v
 kB:∀ k,ps.bl k->w0.heap.size<=k
 shv:uS D L G Kind ps
 wbK:¬ ps.bl wb
 cb:0<=cache/\cache<=64
structure Dc (KW w:ZT) (r:Nat) (Q:List (ByteArray×ZS)) (xs:aL) (out want:ZS):Prop where
 ref:∃ rb rv,rE w r rb rv Q
 rel:iT w Q xs
 ow:kF out/\kF want
 mks:∀ (k:Nat) (cs:Array ZS) (T:ZO),T=82\/T=58->KW.heap[k]?=ZW (Z4 cs T (0,0))->w.heap[k]?=KW.heap[k]?
def MS (KW:ZT) (C:aB->Prop) (w0 w:ZT) (wb D L G nb T:Nat):Prop:=∃ t xs Q p r sa ar v Kind ps pg ob P A F out want cache,MB w0 w wb D L G nb t xs p r sa ar v Kind ps pg ob P A F out want cache/\Dc KW w r Q xs out want/\t<=T/\C A
def ve.ref (h:rE w r rb rv Q) (b:ve B w w') (a:w.heap.size<=B):rE w' r rb rv Q:=
 ⟨(b _ (.inl rfl) r _ (T7 (T5.1 h.top).1 a) h.top).trans h.top,Mf h.own (b _ (.inr (.inl rfl))) a⟩
def ve.box (h:ZN w sa 105 u) (b:ve B w w') (a:w.heap.size<=B):ZN w' sa 105 u:=
 (b _ (.inr (.inr (.inl rfl))) sa _ (T7 h.lt a) h).trans h
def ve.ow (h:Ow w u l) (b:ve B w w') (a:w.heap.size<=B):Ow w' u l:=h.keep ((b _ (.inr (.inr (.inr (.inl rfl))))).mono a)
def Dc.keep {xs:aL} (h:Dc KW w r Q xs out want) (b:iS B w w') (a:w.heap.size<=B):Dc KW w' r Q xs out want:=by
 obtain ⟨rb,rv,hr⟩:=h.ref;refine ⟨⟨rb,rv,b.SN.ref hr a⟩,h.rel.keep λ_ _ o=>b.SN.ow o a,h.ow,λk cs T c q=>?_⟩;have q1:=h.mks k cs T c q;rw [q] at q1;rw [q];exact (b _ (.inr c) k _ (T7 (T5.1 q1).1 a) q1).trans q1
def bK.below (h:bK w) (b:bW w w'):bK w':=by
 have a:w.cell? ⟨0,0,ZX⟩=_:=h;exact (b.cell (Uf a)).trans a
section
variable {w0 w w':ZT} {wb D L G nb t:Nat} {xs:aL} {p r sa ar v:Nat} {Kind:aN->Prop} {ps:aN} {pg ob:ZS} {P:a8} {A:aB} {F:aK} {out want:ZS} {cache:Int}
def MB.gl (h:MB w0 w wb D L G nb t xs p r sa ar v Kind ps pg ob P A F out want cache):bK w:=h.glob.below h.base
def MB.next (h:MB w0 w wb D L G nb t xs p r sa ar v Kind ps pg ob P A F out want cache) (f:ve w.heap.size w w') (i:w'.heap[wb]?=w.heap[wb]?) (d:bW w0 w') {t':Nat} {xs':aL} {pg' a:ZS} {P':a8} {B:aB} {ps':aN} (hl:aS w' ar v p ps' D L G t' pg' a P' xs' B F) (c:B.nb=A.nb) (g:Kind ps') (b:∀ k,ps'.bl k->ps.bl k\/w.heap.size<=k) :
 MB w0 w' wb D L G nb t' xs' p r sa ar v Kind ps' pg' a P' B F out want cache:=
 { h with wbA:=ai.keep h.wbA i,box:=f.box h.box lR,live:=hl,nb:=c.trans h.nb,base:=d,kB:=λk q=>(b k q).elim (h.kB k) λe=>TV h.base.size e,shv:=⟨h.shv.sh,h.shv.re,h.shv.pk,g⟩,wbK:=λq=>(b wb q).elim h.wbK λe=>absurd (ai.lt h.wbA) (Wy.2 e) }
def MB.below (h:MB w0 w wb D L G nb t xs p r sa ar v Kind ps pg ob P A F out want cache) (a:bW w w'):MB w0 w' wb D L G nb t xs p r sa ar v Kind ps pg ob P A F out want cache:=
 h.next (iS.below a _).SN (a.block _ (ai.lt h.wbA)) (h.base.trans (a.mono h.base.size)) (h.live.below a) rfl h.shv.kind (λ_ q=>.inl q)
def MB.wbF (h:MB w0 w wb D L G nb t xs p r sa ar v Kind ps pg ob P A F out want cache):¬ F.S wb/\wb≠v:=by
 have c:w.heap[wb]?=ZW (Z4 _ 42 (0,0)):=h.wbA;refine ⟨λq=>?_,λe=>?_⟩
 . obtain ⟨cs,T,b,f⟩:=h.live.vol.arr.kind q;rw [c] at b;simp only [UD,UP] at b;have d:=b.2.1;rcases f with k|k|k|k<;>exact absurd (d.trans k) (by decide)
 . have a:=h.live.vol.vol;unfold bg at a;rw [<- e,c] at a;cases a
def MB.TA (h:MB w0 w wb D L G nb t xs p r sa ar v Kind ps pg ob P A F out want cache) (c:aa (λj=>j=ar\/F.S j\/j=v\/ps.bl j) w w') {t':Nat} {xs':aL} {pg' a:ZS} {P':a8} {B:aB} {ps':aN} (hl:aS w' ar v p ps' D L G t' pg' a P' xs' B F) (e:B.nb=A.nb) (f:Kind ps') (d:∀ k,ps'.bl k->ps.bl k\/w.heap.size<=k) :
 MB w0 w' wb D L G nb t' xs' p r sa ar v Kind ps' pg' a P' B F out want cache/\iS w.heap.size w w':=by
 have b:=iS.live (B:=w.heap.size) h.live.vol.arr h.live.arc h.live.vol.vol h.live.kit c;refine ⟨h.next b.SN (c.block _ (ai.lt h.wbA) (λq=>?_)) (h.base.trans (c.below λk b=>⟨T7 b h.base.size,λq=>?_⟩)) hl e f d,b⟩
 . rcases q with q|q|q|q
   . have:=h.lt;omega
   . exact h.wbF.1 q
   . exact h.wbF.2 q
   . exact h.wbK q
 . have:=h.wbB;have:=h.lt;have:=h.vB;rcases q with q|q|q|q
   . omega
   . have:=h.fB k q;omega
   . omega
   . have:=h.kB k q;omega
def MB.call (h:MB w0 w wb D L G nb t xs p r sa ar v Kind ps pg ob P A F out want cache) (c:aa (λj=>j=ar\/F.S j) w w') {t':Nat} {xs':aL} {pg' a:ZS} {P':a8} {B:aB} (hl:aS w' ar v p ps D L G t' pg' a P' xs' B F) (b:B.nb=A.nb) :
 MB w0 w' wb D L G nb t' xs' p r sa ar v Kind ps pg' a P' B F out want cache/\iS w.heap.size w w':=h.TA (c.mono λ_ _ q=>q.elim .inl λe=>.inr (.inl e)) hl b h.shv.kind λ_ q=>.inl q
def MB.write (h:MB w0 w wb D L G nb t xs p r sa ar v Kind ps pg ob P A F out want cache) (d:aa (λj=>j=wb) w w') {r':Nat} {out' a:ZS}
 (l:ij w' wb D L G (Z6 (ZW ⟨p,0,ZX⟩)) (Z6 (ZW ⟨sa,0,ZX⟩)) (Z6 (ZW ⟨r',0,ZX⟩)) nb out' a cache) :
 MB w0 w' wb D L G nb t xs p r' sa ar v Kind ps pg ob P A F out' a cache/\iS w.heap.size w w':=by
 obtain ⟨f1,g⟩:=h.wbF;have f:∀ j,j≠wb->j<w.heap.size->w'.heap[j]?=w.heap[j]?:=λj b hl=>d.block j hl b;have m:w.heap[wb]?=ZW (Z4 _ 42 (0,0)):=h.wbA;have c:iS w.heap.size w w':=λT i j cs hl b=>f j (λe=>by
  subst e;rw [m] at b;simp only [UD,UP] at b;have e:=b.2.1;rcases i with (q|q|q|q|q)|q|q<;>exact absurd (e.trans q) (by decide)) hl
 exact ⟨{ h with wbA:=l,box:=c.SN.box h.box lR,live:=h.live.other d.size f h.lt g f1 (by have:=h.hK;have:=h.wbB;omega) h.wbK,base:=h.base.trans (d.below λk c=>⟨T7 c h.base.size,λq=>by have:=h.wbB;omega⟩) },c⟩
end
end
def lQ (w:ZT) (q:Nat) (o:qB) (dv:ZS):Prop:=ai w q 47 [Z7 Z9 o.kind,Z7 Z9 o.a,ZZ o.s,dv]
def lQ.cells {o:qB} {dv:ZS} (h:lQ w q o dv):w.cell? ⟨q,0,ZX⟩=ZW (Z7 Z9 o.kind)/\w.cell? ⟨q,1,ZX⟩=ZW (Z7 Z9 o.a)/\w.cell? ⟨q,2,ZX⟩=ZW (ZZ o.s)/\w.cell? ⟨q,3,ZX⟩=ZW dv:=
 ⟨ai.cell h rfl,ai.cell h rfl,ai.cell h rfl,ai.cell h rfl⟩
def isN (x:ZS) (n:Int):Prop:=x=An n\/(x=.nilIface/\n=0)
def vf {x:ZS} {n:Int} (b:isN x n) {w:ZT} (a:bK w):ZR ZM 20 #[x] w λe w'=>e=Z3 (Z7 Z9 n)/\bW w w':=by
 rcases b with rfl|⟨rfl,rfl⟩
 . exact DK n w a
 . exact ll w
def vZ (n:Int) (D nb:Nat) (xs:aL) (x:ByteArray) (d:a8) (xs':aL):Prop:=(n=0/\vX D nb xs x d xs')\/(xs'=xs/\vW D nb xs x d.length n)
def Mg {ps:aN} {xs:aL} {Q:Int->Prop} {N:aL->Prop} {rr:ZS} (h:di w ar v p ps D L G t xs A F Q N (Z3 rr) w'):∃ n a pg ob P' xs' B,isN rr n/\aS w' ar v p ps D L G a pg ob P' xs' B F/\dM A B/\aa (λk=>k=ar\/F.S k) w w'/\a<=t+1/\((n=0/\N xs')\/(xs'=xs/\Q n)):=by
 obtain ⟨er,a,pg,ob,P',xs',B,c,hl,d,b,h|⟨e,i,n,f,g⟩⟩:=h
 . cases c;exact ⟨0,a,pg,ob,P',xs',B,.inr ⟨h.1,rfl⟩,hl,d,b,by omega,.inl ⟨rfl,h.2.2⟩⟩
 . cases c;exact ⟨n,a,pg,ob,P',xs',B,.inl f,hl,d,b,by omega,.inr ⟨e,g⟩⟩
def RpN (w:ZT) (q:Nat) (Q:List (ByteArray×ZS)) (x:ByteArray) (d:a8) (n:Int) (e:ZP) (w':ZT):Prop:=
 (n≠0/\n≠10/\e=Z3 (Z7 Z9 n)/\w'=w)\/((n=0\/n=10)/\L9 w q Q x d e w')
def Ot {n:Int} {xs:aL} {wx:ZT} (hr:rE w q rb rv Q) (hl:Q.length<=1000) (p:iT wx Q xs) (hs:∀ o∈Q,kF o.2) {ao:Option ZQ} {c m:Nat} (k:d.length=m) (j:Bs w (.slice ao m c) d) (l:vZ n D nb xs x d xs') :
 ZR ZM 48 #[Z6 (ZW ⟨q,0,ZX⟩),ZZ x,.slice ao m c] w (RpN w q Q x d n):=by
 subst k;have i:=np p x;have g:=kQ x;rcases l with ⟨rfl,a,b,f,_⟩|⟨_,⟨a,rfl⟩|⟨a,⟨b,rfl⟩|⟨b,⟨f,rfl⟩|⟨f,_,rfl⟩⟩⟩⟩
 . exact (Gj hr (by omega) hs x ao c d j b (g.2 a) (i.2 f)).mono λe w' h=>.inr ⟨.inl rfl,h⟩
 . exact (IV q x ao _ c (λq=>by rw [g,a] at q;cases q) w).mono λe w' h=>.inl ⟨by decide,by decide,h.1,h.2⟩
 . exact (IW q x ao _ c (g.2 a) b w).mono λe w' h=>.inl ⟨by decide,by decide,h.1,h.2⟩
 . exact (C3 hr (by omega) x ao _ c (g.2 a) b (λh=>i.1 h f)).mono λe w' h=>.inl ⟨by decide,by decide,h.1,h.2⟩
 . exact (Gj hr (by omega) hs x ao c d j b (g.2 a) (i.2 f)).mono λe w' h=>.inr ⟨.inr rfl,h⟩
def vZ.none {n:Int} {xs:aL} (h:vZ n D nb xs x d xs') (a:n≠0):xs'=xs:=h.elim (λq=>absurd q.1 a) λq=>q.1
def vZ.some {xs:aL} (h:vZ 0 D nb xs x d xs'):vX D nb xs x d xs':=by
 rcases h with h|⟨_,⟨_,e⟩|⟨_,⟨_,e⟩|⟨_,⟨_,e⟩|⟨_,_,e⟩⟩⟩⟩
 . exact h.2
 all_goals exact absurd e (by decide)
def vZ.full {xs:aL} (h:vZ 10 D nb xs x d xs'):d.length<=1500/\nb<(af xs.os).length+my D d.length+2*Ao D (an xs.os).length d.length+2:=by
 rcases h with ⟨e,_⟩|⟨_,⟨_,e⟩|⟨_,⟨_,e⟩|⟨a,⟨_,e⟩|⟨_,b,_⟩⟩⟩⟩;rotate_right
 . exact ⟨a,b⟩
 all_goals exact absurd e (by decide)
def I1 (h:aM w b l):uO w b:=λoff u c=>by
 have f:=h.heap;simp only [World.cell?,f] at c;have:u∈(l.map (λx=>Value.int .u8 ((x:Nat):Int))):=by
  have a:=c;simp at a;obtain ⟨x,g,rfl⟩:=a;obtain ⟨d,e⟩:=U9.1 g;exact T9.2 ⟨x,e▸T6 d,rfl⟩
 obtain ⟨x,_,rfl⟩:=T9.1 this;exact ⟨λy e=>(by cases e),λs e=>(by cases e)⟩
def aM.bs (h:aM w b (l++[71,72])) (d:l.length=m) (hl:l.length<=1000000) (e:∀ x∈l,x<256):Bs w (Z5 (ZW ⟨b,0,ZX⟩) m (m+2)) l:=by
 subst d;have:=Bs.Sl (n:=l.length) h (by simp) (by omega) (by intro x c;rcases Ui.1 c with q|q;exact e x q;simp at q;omega);have a:(l++[71,72]).length=l.length+2:=by simp
 rw [a,List.take_left'] at this;exact this;rfl
def Mh {xs:aL} (a:iT w Q xs) {D nb m:Nat} {xs':aL} {x:ByteArray} {d:a8} (i:d.length=m) (hD:1<=D) (e:D<=6) (g:∀ x∈xs,kX D x) (h:vZ 10 D nb xs x d xs'):(nb:Int)-8<(jo Q D (m:Int):Int):=by
 have f:=Ey hD e g (n:=d.length) (nb:=nb) h.full.1 rfl rfl h.full.2;have b:bN Q (D*44) Q.length=qY D xs:=by unfold bN;rw [Vu];exact a.RK D
 have c:jo Q D (m:Int)=qY D xs+(m/(D*44)+1)+2*((xs.length+1)*200/(D*44)+1):=by
  unfold jo;rw [TT (by omega),Vw,b,a.len]
 rw [i] at f;rw [c];omega
def Ou {xs:aL} (h:iT w Q xs) {x:ByteArray} {d:a8} {o:Ob} (ho:o.name=x) {v:ZS} (a:Ow w v d):iT w (Q.take (aI (cD Q) x)++(x,v)::Q.drop (aI (cD Q) x)) (xs.ins (o,d)):=by
 unfold aL.ins;rw [h.names,ho];exact (h.take _).app ⟨⟨ho.symm,a⟩,h.drop _⟩
theorem Mi {xs:aL} {Kind:aN->Prop} {ps:aN} (h:MB w0 w wb D L G nb t xs p r sa ar v Kind ps pg ob P A F out want cache) (hc:Dc KW w r Q xs out want) (o:qB) (dv:ZS) (f:Bs w0 dv o.d) (xd:o.d.length<=100000) (xi:t<1000000) (x9:D<=6) :
 ZR ZM 27 #[Z6 (ZW ⟨wb,0,ZX⟩),.agg #[Z7 Z9 o.kind,Z7 Z9 o.a,ZZ o.s,dv]] w λe w'=>e=Z3 (Z1 ZV)/\MS KW (dM A) w0 w' wb D L G nb (t+1):=by
 obtain ⟨Y,Z,xe,_⟩:=id f;subst xe;have l:=f.lt;obtain ⟨m,c⟩:=nM (o.d.length);rw [c] at f xd ⊢;obtain ⟨w1,qn⟩:=nM (w.alloc (Z4 #[Z7 Z9 o.kind,Z7 Z9 o.a,ZZ o.s,.slice Y m Z] 47));have z:lQ w1 w.heap.size o (.slice Y m Z):=by rw [<- qn];exact UC w _
 have qd:bW w w1:=by rw [<- qn];exact bA w _
 have g:=h.below qd;have M:=hc.keep (iS.below qd _) lR;obtain ⟨O,ky⟩:=nM (w.heap.size);have N:O<w1.heap.size:=by rw [<- ky];exact ai.lt z
 have U:ar<O:=by rw [<- ky];exact h.live.arc.lt
 have y:∀ k,F.S k->k<O:=λk hk=>by rw [<- ky];exact h.live.vol.arr.RN hk
 have V:v<O:=by rw [<- ky];exact h.live.vol.vol.lt
 rw [ky] at z;have x3:=z.cells.2.2.2;have qk:=GC _ o.d w1 (f.mono g.base) (by omega);rw [c] at qk;have H1:=hide10 z g M f l c N U y V;clear z g M f l c N U y V h hc qd;go_enter func27,ntmps27;go_wp2_with fail;clear ky;refine qk.mono ?_;rintro e w2 ⟨rb,rfl,X,ka,kb⟩;clear qk qn x3;obtain ⟨z,g,M,f,l,c,N,U,y,V⟩:=H1.o;have kp:lQ w2 O o (.slice Y m Z):=ai.keep z (kb.block _ N);have h2:=g.below kb;have y2:=kp.cells.2.2.1;have s2:=h2.wbA.cells.2.2.2.2.1;have kv:bW w2 w2.drew:=(TW _ w2).drew;have qb:=h2.below kv;have kj:=aaw qb.box qb.live xi o.s (ZW ⟨rb,0,ZX⟩) (m+2) o.d (λw' hO=>by
  rw [c];have x8:aM w' rb (o.d++[71,72]):=V6 ka (hO.block rb ka.lt (λe=>by have:=y _ e;omega));exact x8.bs c (by omega) l) (by omega)
 rw [c] at kj;have H2:=a7 kp h2 kb ka X kv;clear z g M f l c N U y V kp h2 kb ka X kv qb;go_upto_region 2 with fail;go_cut [6] from 12 to 82 (λv6 wx=>di w2.drew ar v p ps D L G t xs A F (vW D A.nb xs o.s m) (vX D A.nb xs o.s o.d) (Z3 v6) wx)
 case first=>
  go_region_with (go_at_call 46;refine kj.mono ?_;rintro e w3 qh;obtain ⟨rr,_,_,_,_,_,_,rfl,_⟩:=id qh;have H3:=ak qh;clear qh);all_goals (go_wp2_with fail;go_meet;case rel=>exact H3.o)
 case rest=>
  obtain ⟨n,t',xk,qr,P',xs',B,hN,qx,C,qp,E,q1⟩:=Mg hcut;obtain ⟨z,g,M,f,l,c,N,U,y,V⟩:=H1.o;have i:vZ n D A.nb xs o.s o.d xs':=by unfold vZ;rw [c];exact q1
  obtain ⟨kp,h2,kb,ka,X,kv⟩:=H2.o;have km:=kb.size;have hr:aa (λj=>j=ar\/F.S j) w2 wc:=(aa.RL kv _).trans qp;obtain ⟨h3,qv⟩:=h2.call hr qx C.nb;have kr:lQ wc O o (.slice Y m Z):=ai.keep kp (hr.block _ (by omega) (λe=>by
   rcases e with e|e
   . omega
   . have:=y _ e;omega))
  have kz:aM wc rb (o.d++[71,72]):=V6 ka (hr.block rb ka.lt (λe=>by
   rcases e with e|e
   . omega
   . have:=y _ e;omega))
  have x2:=vf hN h3.gl;have x5:=hr.size;have hz:iS w1.heap.size w1 wc:=(iS.below kb _).trans (qv.mono km);have H3:=hide8 kr h3 kz hz i (TV km x5) C E;clear hN i q1 z g M f l c N U y V kp h2 kb ka X kv km hr h3 qv kr kz x5 hz qx C E qp kj y2 s2 hcut;go_wp2_with fail;refine x2.mono ?_;rintro e w4 ⟨rfl,ks⟩;clear x2;obtain ⟨z,g,M,f,l,c,N,U,y,V⟩:=H1.o;obtain ⟨kr,h3,kz,hz,i,q8,C,E⟩:=H3.o;have X:=H2.o.2.2.2.2.1;have x:=h3.below ks;have kf:lQ w4 O o (.slice Y m Z):=ai.keep kr (ks.block _ (ai.lt kr));have ke:aM w4 rb (o.d++[71,72]):=kz.below ks;have qm:=GD rb _ o.d w4 ke (f.mono x.base) (by omega);rw [c] at qm;have x4:=kf.cells.2.2.2;have H4:=a6 kf x ke (hz.trans (iS.below ks _)) (TV q8 ks.size);clear z g M f l c N U y V kr h3 kz hz i q8 C E X kf ke x ks;go_wp2_with fail;refine qm.mono ?_;rintro e w5 ⟨rfl,kx,_⟩;clear qm x4;obtain ⟨z,g,M,f,l,c,N,U,y,V⟩:=H1.o;obtain ⟨kf,x,ke,q4,qo⟩:=H4.o;obtain ⟨_,_,_,_,i,_,C,E⟩:=H3.o;have X:=H2.o.2.2.2.2.1;have he:∀ j,j≠rb->j<w4.heap.size->w5.heap[j]?=w4.heap[j]?:=λj hj hl=>kx.block j hl (λe=>hj (by cases e;rfl));have ko:=kx.size;have qy:=x.live.aside (w':=w5) (b:=rb) (B:=w1.heap.size) (I1 ke) (by obtain ⟨cs,xc,_⟩:=ke;exact bU x.live.kit xc oN) ko he X (λk hk=>by have:=y k hk;omega) (by omega) (by omega) (by have:=g.live.vol.room;exact this);have q6:iS w1.heap.size w4 w5:=λT _ j cs hj hq=>he j (by omega) (by omega);have q2:bW w0 w5:=x.base.trans ⟨kx.os,kx.tape,kx.output,ko,λj hj=>he j (by have:=g.base.size;omega) (T7 hj x.base.size)⟩;have q7:w5.heap[wb]?=w4.heap[wb]?:=he wb (by have:=g.lt;omega) (ai.lt x.wbA);have J:MB w0 w5 wb D L G nb t' xs' p r sa ar v Kind ps xk qr P' B F out want cache:={ x with wbA:=ai.keep x.wbA q7,box:=(he sa (by have:=g.box.lt;omega) x.box.lt).trans x.box,live:=qy,base:=q2 };have I:lQ w5 O o (.slice Y m Z):=ai.keep kf (he O (by omega) (ai.lt kf));have u:=M.keep (q4.trans q6) lR;obtain ⟨xy,y0,x1⟩:=u.ref;have R:Q.length<=1000:=by
   rw [u.rel.len];have:=g.live.Sj.1;simpa [aL.os] using this
  have qs:=yJ x1 (by omega) u.rel.sl;have r5:=J.wbA.cells.2.2.2.2.2.1;have H5:=a5 I J u R;clear z g M f l c N U y V kf x ke q4 qo i C E X he ko qy q6 q2 q7 J I u x1 R kx;go_wp2_with fail;refine qs.mono ?_;rintro e w6 ⟨rfl,⟨u6,kc⟩,K⟩;clear qs r5;obtain ⟨I,J,u,R⟩:=H5.o;obtain ⟨_,_,_,f,l,c,_,_,_,_⟩:=H1.o;have i:=H3.o.2.2.2.2.1;have h6:=J.below K;have kg:lQ w6 O o (.slice Y m Z):=ai.keep I (K.block _ (ai.lt I));have qi:=Ot kc R u.rel u.rel.sl c (f.mono h6.base) i;obtain ⟨_,_,y6,x6⟩:=kg.cells;obtain ⟨q5,kk⟩:=nM (w5.heap.size);rw [kk] at qi kc ⊢;have H6:=a6 kg h6 kc K kk;clear I J u R f l c i h6 kg kc K kk;go_wp2_with fail;refine qi.mono ?_;rintro e w7 xh;clear qi y6 x6;obtain ⟨kg,h6,kc,K,kk⟩:=H6.o;obtain ⟨I,J,u,R⟩:=H5.o;have i:=H3.o.2.2.2.2.1;obtain ⟨C,E⟩:=H3.o.2.2.2.2.2.2;have ki:=C;rcases xh with ⟨n0,xv,rfl,rfl⟩|⟨hn,rfl,u7,xm,qj,qg,qc⟩
  . obtain rfl:=i.none n0;have hy:MS KW (dM A) w0 w7 wb D L G nb (t+1):=⟨_,_,_,_,_,_,_,_,_,_,_,_,_,_,_,_,_,_,h6,u.keep (iS.below K _) lR,E,ki⟩;have HF:=ak hy;clear hy kg h6 kc K kk I J u R i C E;go_wp2_with fail;refine (nJ n w7).mono ?_;rintro e w8 ⟨rfl,rfl⟩;go_wp2;go_ret;exact ⟨rfl,HF.o⟩
  . have kh:Below w5.heap.size w6 w7:=qc.below λk hk=>⟨T7 hk K.size,by omega⟩;have hs:bW w5 w7:=K.trans kh;have H:=J.below hs;have W:=u.keep (iS.below hs _) lR;rcases hn with rfl|rfl
    . obtain ⟨_,qf,_,_,Aj,x0,rfl⟩:=i.some;have l:=H1.o.2.2.2.2.1;have q9:=H.wbA;have r7:=q9.cells.2.2.2.2.2.1;have f7:=ai.R3 q9 5;have hN:∀ w8,w8=w7.setCell ⟨wb,5,ZX⟩ (Z6 (ZW ⟨q5,0,ZX⟩))->MS KW (dM A) w0 w8 wb D L G nb (t+1):=by
       rintro w8 rfl;have xa:aa (λj=>j=wb) w7 (w7.setCell ⟨wb,5,ZX⟩ (Z6 (ZW ⟨q5,0,ZX⟩))):=aa.setCell _ _ _ rfl;have xb:ij (w7.setCell ⟨wb,5,ZX⟩ (Z6 (ZW ⟨q5,0,ZX⟩))) wb D L G (Z6 (ZW ⟨p,0,ZX⟩)) (Z6 (ZW ⟨sa,0,ZX⟩)) (Z6 (ZW ⟨q5,0,ZX⟩)) nb out want cache:=ai.set q9 5 [Z6 (ZW ⟨q5,0,ZX⟩)] (by simp [OW]);obtain ⟨h8,xg⟩:=H.write xa xb;have qe:Dc KW w7 q5 (Q.take (aI (cD Q) o.s)++(o.s,xm)::Q.drop (aI (cD Q) o.s)) (xs.ins (Aj,o.d)) out want:=⟨⟨_,u7,qj⟩,Ou W.rel x0 ⟨⟨_,qg⟩,l,qf⟩,W.ow,W.mks⟩;exact ⟨_,_,_,_,_,_,_,_,_,_,_,_,_,_,_,_,_,_,h8,qe.keep xg lR,E,ki⟩
      have HN:=ak hN;clear hN kg h6 kc K kk I J u R i C E qj qg qc kh hs H W q9 l x0;go_wp2_with fail;refine (nJ 0 _).mono ?_;rintro e w8 ⟨rfl,rfl⟩;go_wp2;go_ret;exact ⟨rfl,HN.o _ rfl⟩
    . obtain rfl:=i.none (by decide);have c:=H1.o.2.2.2.2.2.1;have hy:MS KW (dM A) w0 w7 wb D L G nb (t+1):=⟨_,_,_,_,_,_,_,_,_,_,_,_,_,_,_,_,_,_,H,W,E,ki⟩;have xf:=Mh W.rel c H.live.vol.par.d1 x9 H.live.disk.fits i;rw [C.nb.symm.trans H.nb] at xf;obtain ⟨c0,_,_,_,_,c5,c6,_⟩:=H.wbA.cells;have qq:lQ w7 O o (.slice Y m Z):=ai.keep I (hs.block _ (ai.lt I));have x7:=qq.cells.2.2.2;obtain ⟨xz,y1,qa⟩:=W.ref;have qz:∀ k,ZR ZM 34 #[Z6 (ZW ⟨r,0,ZX⟩),Z7 Z9 D,Z7 Z9 m] (w7.drewN k) λe w'=>e=Z3 (Z7 Z9 (jo Q D (m:Int):Nat))/\w'=w7.drewN k:=λk=>by
       have q3:bW w7 (w7.drewN k):=⟨rfl,rfl,rfl,TU _,λ_ _=>rfl⟩;exact (Ee ⟨(q3.block _ (T5.1 qa.top).1).trans qa.top,aq qa.own q3⟩ R W.rel.sl D H.live.vol.par.d1 (by omega) (m:Int) (by omega) (by omega)).mono λe w' q=>⟨q.2,q.1⟩
      generalize jo Q D (m:Int)=nn at *;have HF:=al hy qz;have xj:IntKind.i64.wrap ((nb:Int)-8)=(nb:Int)-8:=(by rw [Ux];have:=H.nb;have:=H.live.nb;omega);clear hy qz kg h6 kc K kk I J u R i C E qj qg qc kh hs H W c qq qa;go_upto_region 8 with fail;go_quiet ((go_at_call 34;refine aaO (HF.o.2 _)));go_wp2;go_ret;obtain ⟨t1,y4,Q1,p1,r1,y3,xp,v1,xq,ps1,pg1,xx,P1,A1,F1,xo,xn,hb,hM,hC,hT⟩:=HF.o.1;have q3:bW w7 (w7.drewN nq):=⟨rfl,rfl,rfl,TU _,λ_ _=>rfl⟩;exact ⟨rfl,_,_,_,_,_,_,_,_,_,_,_,_,_,_,_,_,_,_,hM.below q3,hC.keep (iS.below q3 _) lR,hT⟩
structure St0 (KW w0 w w1:ZT) (wb D L G nb t:Nat) (xs:aL) (Q:List (ByteArray×ZS)) (p r sa ar v:Nat) (Kind:aN->Prop) (ps:aN) (pg ob:ZS) (P:a8) (A:aB) (F:aK) (out want:ZS) (cache:Int) (o:qB) (dv:ZS):Prop where
 op:lQ w1 w.heap.size o dv
 b:MB w0 w1 wb D L G nb t xs p r sa ar v Kind ps pg ob P A F out want cache
 c:Dc KW w1 r Q xs out want
 ar:ar<w.heap.size
 f:∀ k,F.S k->k<w.heap.size
 lt:w.heap.size<w1.heap.size
def QR {xs:aL} {Kind:aN->Prop} {ps:aN} (h:MB w0 w wb D L G nb t xs p r sa ar v Kind ps pg ob P A F out want cache) (f:Dc KW w r Q xs out want) (o:qB) (b:ZS) {w1:ZT} (e:w.alloc (Z4 #[Z7 Z9 o.kind,Z7 Z9 o.a,ZZ o.s,b] 47)=w1):St0 KW w0 w w1 wb D L G nb t xs Q p r sa ar v Kind ps pg ob P A F out want cache o b:=by
 have d:bW w w1:=by rw [<- e];exact bA w _
 have c:lQ w1 w.heap.size o b:=by rw [<- e];exact UC w _
 exact ⟨c,h.below d,f.keep (iS.below d _) lR,h.live.arc.lt,λk g=>h.live.vol.arr.RN g,ai.lt c⟩
def MS.mono {C C':aB->Prop} {T T':Nat} (h:MS KW C w0 w wb D L G nb T) (f:T<=T') (d:∀ A,C A->C' A):MS KW C' w0 w wb D L G nb T':=by
 obtain ⟨t,xs,Q,p,r,sa,ar,v,Kind,ps,pg,ob,P,A,F,out,want,cache,a,b,e,c⟩:=h;exact ⟨t,xs,Q,p,r,sa,ar,v,Kind,ps,pg,ob,P,A,F,out,want,cache,a,b,by omega,d A c⟩
