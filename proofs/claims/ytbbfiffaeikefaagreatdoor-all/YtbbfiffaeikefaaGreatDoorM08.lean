import Derived.Test.YtbbfiffaeikefaaGreatDoorM07
set_option maxRecDepth 100000
set_option linter.all false
set_option maxHeartbeats 8000000
open Go.IntKind renaming i64 -> Z9, u64 -> Z8
open Go.Value renaming int -> Z7, pointer -> Z6, slice -> Z5, bool -> Z1, string -> ZZ, tuple -> ZY
open Go.Obj renaming cells -> Z4
open Go.Ending renaming returned -> Z3
open Go.Operand renaming tmp -> Z0
open Option renaming none -> ZX, some -> ZW
open Bool renaming true -> ZV, false -> ZU
open Go renaming World -> ZT, Value -> ZS, Calls -> ZR, Ending -> ZQ, Boxed -> ZP
open List renaming range -> YE, take_add -> YG
open Nat renaming le_max_right -> YF, min_eq_right -> YH
open Go.Proofs.YtbbfiffaeikefaaGreatDoor renaming pgs -> YI
open Int renaming natCast_add -> YJ, natCast_emod -> YK
open Go.Proofs.Tryz renaming prog -> ZO
open Go.Proofs.Tryz
namespace Go.Proofs.YtbbfiffaeikefaaGreatDoor
def abD:=@Go.Calls.quiet_of_same
end Go.Proofs.YtbbfiffaeikefaaGreatDoor
namespace Go.Proofs.YtbbfiffaeikefaaGreatDoor
open Go.RowKit Go.Deep Go.Shelf Gf
variable {off:Bool} {x:ByteArray} {e:ZQ} {F:aQ} {cache:Int} {Q:Int->Prop} {dl l P d page:a8} {cs:List ZS} {k base v p D L G ps ho r b g N b0 gone sp ar t q sz y po sk n1 f1 D1 L1 G1 t1 D' L' G' f nn tt sa:Nat} {R:Nat->Option bw} {f0:Nat->ZS} {u pg ob v7 c up uq a a' b' c':ZS} {w w' w0 wr w6 w7 w5 w8:ZT}
def vF (h:k<=16):ab (2^k-1)=YE k:=ou h
def Do (R:Nat->a8):∀ m,(∀ i,i<m->(R i).length=44)->((YE m).map R).flatten.length=44*m
 | 0,_=>rfl
 | m+1,h=>by
  rw [Vy,Uv,ab2,T8,Do R m λi a=>h i (by omega)];simp [h m (by omega)];omega
def Rj {M size:Nat} {fl:a8} (h:w.ownsRow base 5 1 u M (aH fl)) (y:fl.length=M) (v:∀ x∈fl,x<256) (B:size<=M) (z:M<=1000000):∃ ao cp,u=.slice ao M cp/\M<=cp/\cp<=9223372036854775807/\(ao=ZX->M=0/\cp=0)/\(∀ a,ao=ZW a->base<=a.block)/\Bs w (.slice ao size size) (fl.take size):=by
 have hl:(fl.take size).length=size:=by rw [Un];omega
 rcases h.2 with ⟨d,e⟩|⟨b,cp,cur,d,m,n,o,p,A,r⟩
 . have s:size=0:=(by omega);subst s;exact ⟨ZX,0,by rw [d,e],by omega,by omega,λ_=>⟨e,rfl⟩,λa h=>(by cases h),by rw [Wm];exact ⟨ZX,0,rfl,TV _,by decide,λ_ h=>(by cases h),λh=>absurd rfl h⟩⟩
 . have j:cp<=9223372036854775807:=(by unfold maxLen at p;omega);refine ⟨ZW ⟨b,0,ZX⟩,cp,d,o,j,λh=>(by cases h),λa h=>(by cases h;exact m),ZW ⟨b,0,ZX⟩,size,by rw [hl],by rw [hl];exact TV _,?_,λx t=>v x (UY t),λ_=>⟨b,0,rfl,λk g=>?_⟩⟩
   . rw [hl];omega
   . rw [hl] at g;have f:k<fl.length:=(by omega);have q:cur[k]?=ZW (Z7 .u8 ((fl[k]:Nat):Int)):=by
      have c:=Uy (λl=>l[k]?) r;simp only [We,aH] at c;rw [VO (by omega),abx,UA,Ua f] at c;exact c
     have i:(fl.take size).getD k 0=fl[k]:=(by simp [T6,g,f]);rw [i];simp [World.cell?,n,q]
theorem yY (D L G:Int) (w:ZT) (a:0<=D/\D<=100) (b:0<=L/\L<=100) (c:0<=G/\G<=100):ZR ZO 12 #[.agg #[Z7 Z9 D,Z7 Z9 L,Z7 Z9 G]] w λe w'=>e=Z3 (Z7 Z9 (D+L+G))/\w'=w.alloc (Z4 #[Z7 Z9 D,Z7 Z9 L,Z7 Z9 G] 27):=by
 obtain ⟨d,f⟩:=a;obtain ⟨b1,b2⟩:=b;obtain ⟨c1,g⟩:=c;go_enter func12,ntmps12;go_wp2;go_ret;exact ⟨rfl,rfl⟩
theorem qO (h:bt w v p D L G ps ho) (q:D<=12) (s:L<=4) (r:G<=4) {N:Nat} (l:N=D+L+G):ZR ZO 75 #[Z6 (ZW ⟨v,0,ZX⟩)] w λe w'=>e=Z3 (Z6 (ZW ⟨w.heap.size+2,0,ZX⟩))/\ew w' (w.heap.size+2) v 0 (w.heap.size+1) N 0 0/\w'.rowIs (w.heap.size+1) 39 N (λ_=>Z5 ZX 0 0)/\bW w w':=by
 obtain ⟨_,c1,g,i,_⟩:=h.cells;go_enter func75,ntmps75;go_wp2_with fail;refine (yY (D:Int) (L:Int) (G:Int) w ⟨by omega,by omega⟩ ⟨by omega,by omega⟩ ⟨by omega,by omega⟩).mono ?_;rintro e w5 ⟨rfl,c⟩;rw [show ((D:Int)+(L:Int)+(G:Int))=(N:Int) by omega];have m:N<=20:=by omega
 have a:bW w w5:=by rw [c];exact bA w _
 have b:w5.heap.size=w.heap.size+1:=by rw [c];simp
 have f:=al a b;clear a c1 g i h l c b;go_wp2_with (at_make;refine wA _ rfl (Z0 8) (Z0 8) rfl _ N rfl rfl rfl (by omega) ?_;intro w6 d k n);go_ret;obtain ⟨a,b⟩:=f.o;have j:w6.heap.size=w.heap.size+2:=by omega
 rw [b] at d ⊢;refine ⟨rfl,?_,?_,?_⟩
 . have:=Ug w6 (Z4 (rdA v 0 (w.heap.size+1) N 0 0) 200);rw [j] at this;exact this
 . exact d.of_block (UC _ _ _ (by omega))
 . exact (a.trans (k.mono a.size)).alloc (by omega) _
structure mH (w:ZT) (r v b g N p D L G:Nat) (Kind:aN->Prop) (ps:aN) (A:aF) (F:aQ) (l:a8) (e:ZQ) (w':ZT):Prop where
 rd:∃ gone sp,ew w' r v b g N gone sp
 row:∃ f,w'.rowIs g 39 N f
 kit:∃ (ps1:aN) (hl:Nat),Kind ps1/\ps1.ps=ps.ps/\ps1.S w'/\bt w' v p D L G ps.ps hl/\hl<2^N/\∀ k,ps1.bl k->ps.bl k\/w.heap.size<=k
 arr:aA w' p A F
 out:aa (λk=>k=g\/k=r\/k=v\/F.S k\/ps.bl k) w w'
 ans:∃ u,e=Z3 (ZY #[u,.nilIface])/\Bs w' u l/\(∀ k,u.ownBlock=ZW k->w.heap.size<=k)/\∃ ao n,u=.slice ao n n
def qK.turn {Kind:aN->Prop} {ps:aN} {A:aF} (h:qK w r v b g N p D L G Kind ps A F dl) (f:¬ ps.bl r) (d:¬ ps.bl g) (c:aa (λk=>k=r\/k=g) w w'):qK w' r v b g N p D L G Kind ps A F dl:=
 { h with
  vol:=h.vol.TC c λk q=>q.elim (λe=>e▸⟨h.rK,h.vr.symm,h.rF⟩) λe=>e▸⟨h.gK,h.vg.symm,h.gF⟩
  kit:=ps.keep _ _ h.kit λk a=>c.block k (ps.lt _ h.kit k a) (λq=>q.elim (λe=>f (e▸a)) (λe=>d (e▸a))) }
theorem Dp {Kind:aN->Prop} {ps:aN} {A:aF} (d:qK w r v b g N p D L G Kind ps A F dl) (kf:pd D L G Kind) (Z:ew w r v b0 g N gone sp) (X:w.rowIs g 39 N f0) {size:Nat} (km:size=dl.length) {m:Nat} (Y:m=(size+43)/44) (ki:m<=D) :
 ZR ZO 76 #[Z6 (ZW ⟨r,0,ZX⟩),Z7 Z9 b,Z7 Z9 size] w (mH w r v b g N p D L G Kind ps A F dl):=by
 have ka:=ak km;clear km;have kr:N<=16:=by rw [d.nN];exact d.vol.par.s
 have q2:D<=N:=by rw [d.nN];omega
 have W:m<=16:=by omega
 have q5:size<=704:=by omega
 have J:ab (2^m-1)=YE m:=vF W;have V:2^m-1<65536:=by
  have:2^m<=2^16:=U8 (by decide) W;omega
 obtain ⟨S,k0⟩:=nM (2^m-1);rw [k0] at J V;have ko:=Gm Z d.vol.vol X (by have:=d.vol.par.d1;omega) (λe=>d.rg e.symm) d.vg b;have kc:=bZ d.kit Z qJ;have kb:¬ ps.bl g:=by obtain ⟨cs,h1,_⟩:=X;exact bZ d.kit h1 oY
 have n:=a5 d kf kc kb;have e1:((size:Nat):Int)+44-1=((size+43:Nat):Int):=by omega
 clear Z X d kf kc kb;go_enter func76,ntmps76;go_wp2_with fail;refine ko.mono ?_;rintro e w1 ⟨rfl,kj,ha,hz⟩;have kk:=n.o.1.turn n.o.2.2.1 n.o.2.2.2 hz;have kh:=MO kk n.o.2.1 kj ha S V (λi h=>by rw [J,Uu] at h;omega);have H:=al kh hz;clear ko kj ha hz kk kh;go_wp2_with fail;rw [show ((size:Int)+43)/44=(m:Int) by omega];refine (mu m W w1).mono ?_;rw [k0];rintro e w2 ⟨rfl,rfl⟩;clear e1;go_wp2_with fail;refine H.o.1.mono ?_;rintro e w3 ⟨⟨U,hb,y⟩,⟨f,t,rfl,Q⟩,h9,h8,ke⟩;have T:=H.o.2.size;have C:aa (λk=>k=g\/k=r\/k=v\/F.S k\/ps.bl k) w w3:=(H.o.2.mono λ_ _ q=>q.elim (λe=>.inr (.inl e)) .inl).trans ke;rw [J] at Q;obtain ⟨R,O⟩:=nM (vR D L G dl);rw [O] at Q;have K:∀ i,i<m->(R i).length=44/\∀ x∈R i,x<256:=λi h=>by rw [<- O];exact pU n.o.1.vol.par dl (by omega)
 have P:((YE m).map R).flatten.take size=dl:=by
  rw [<- O,show vR D L G dl=λi=>(dm D L G dl).getD i [] from rfl,IR Y ki n.o.1.len n.o.1.byt (Nat.le_of_eq ka.out),ka.out,VE]
 obtain ⟨_,_,d2,_,_⟩:=y.cells;have B:((YE m).map R).length=m:=by simp
 have hn:Nq w3 0 g ((YE m).map R):=by
  refine ⟨T5 _,t.lt,λi h=>?_⟩;rw [B] at h;obtain ⟨bl,c,q1,q3,q4⟩:=Q i (Uu.2 h);have cg:=t.cell (i:=i) (by omega);rw [q1] at cg;have e:((YE m).map R)[i]'(by rw [B];exact h)=R i:=by simp
  rw [e];exact ⟨bl,0,c,cg,T5 _,q3,q4,(K i h).1,(K i h).2⟩
 have k7:=Iy (c:=N) hn (by rw [B];omega);rw [B] at k7;have H3:=hide8 y t h9 h8 C k7 T P;clear y t Q h9 h8 ke k7 C hn B T P O;go_wp2_with fail;rw [show (size+43)/44=m from Y.symm];refine H3.o.2.2.2.2.2.1.mono ?_;rintro e w4 ⟨u,rfl,hj,j⟩;have k8:((YE m).map R).flatten.length=44*m:=Do R m (λi h=>(K i h).1);have kg:∀ x∈((YE m).map R).flatten,x<256:=λx hx=>by
  obtain ⟨l,ky,kz⟩:=List.mem_flatten.1 hx;obtain ⟨i,kx,rfl⟩:=T7.1 ky;exact (K i (Uu.1 kx)).2 x kz
 have k9:size<=44*m:=by omega
 have kp:=ak k8;obtain ⟨ao,cp,rfl,hh,ks,kv,I,E⟩:=Rj hj k8 kg k9 (by omega);have H4:=aE j E I;clear k8 kg;obtain ⟨M,hM⟩:=nM (44*m);rw [hM] at kp k9 hh ⊢;have q0:size<=cp:=TU k9 hh;clear j E I hj hM Y d2 n J k0 V H ki;go_wp2;go_ret2;obtain ⟨y,t,⟨ps',hl,k1,k2,k3,k4,k5,k6⟩,a3,C,_,T,P⟩:=H3.o;obtain ⟨j,E,I⟩:=H4.o;rw [P] at E;refine ⟨⟨_,_,y.keep (j.block _ y.lt)⟩,⟨_,t.of_block (j.block _ t.lt)⟩,⟨ps',hl,k1,k2,ps'.keep _ _ k3 (λk z=>j.block k (ps'.lt _ k3 k z)),k4.keep (j.block _ k4.lt),k5,λk z=>(k6 k z).imp id λq=>TU T q⟩,a3.below j lR,C.trans (aa.RN j _),⟨_,rfl,E,λk z=>?_,⟨_,_,rfl⟩⟩⟩;cases ao with
 | none=>simp [Value.ownBlock] at z
 | some a=>
  simp [Value.ownBlock] at z;have h1:=I a rfl;have h2:=C.size;omega
def Jt {v:ZS} (h:Bs w v l):Src ZO 1 39 v l.length (aH l) w:=by
 obtain ⟨ao,c,rfl,m,n,o,g⟩:=h;have i:∀ u∈aH l,u.oneCell'=ZV:=λu a=>by unfold aH at a;rw [T7] at a;obtain ⟨x,_,rfl⟩:=a;rfl
 by_cases hl:l=[]
 . subst hl;cases ao with
   | none=>exact XS w Ul c
   | some f=>exact Vn w Ul f 0 c [] rfl (λj u d=>by simp at d) (λu a=>by simp at a)
 . obtain ⟨b,off,rfl,k⟩:=g hl;refine Vn w Ul ⟨b,off,ZX⟩ l.length c (aH l) (by rw [aX,We]) (λj u d=>?_) i;rw [Vr];have e:j<l.length:=(by obtain ⟨q,_⟩:=Va.1 d;rwa [aX] at q);rw [k j e,<- d];unfold aH;rw [UA,Ua e,T6,Ua e];rfl
def AJ (w:ZT) (n:Int) (e:ZQ) (w':ZT):Prop:=e=Z3 (ZY #[Z5 ZX 0 0,Az n])/\bW w w'
theorem MV {ps:aN} {xs:aZ} {A:aF} (h:aT w ar v p ps D L G t pg ob P xs A F) (x:ByteArray) (g:b9 x=ZU) :
 ZR ZO 54 #[Z6 (ZW ⟨ar,0,ZX⟩),ZZ x] w (AJ w 6):=by
 obtain ⟨_,_,_,_,f⟩:=h.arc.cells;have a:=h.find x;obtain ⟨k,d⟩:=nM (aK xs.names x);obtain ⟨i,c⟩:=nM (mP xs.os x);rw [d,c] at a;clear d c h;go_enter func54,ntmps54;go_wp2_with fail;refine a.mono ?_;rintro e w1 ⟨rfl,b⟩;have H:=ak b;clear b a f;go_wp2_with fail;refine (jR x w1).mono ?_;rintro e w2 ⟨rfl,rfl⟩;rw [g];dsimp only;go_wp2;go_ret2;exact ⟨rfl,H.o⟩
theorem Dq {ps:aN} {xs:aZ} {A:aF} (h:aT w ar v p ps D L G t pg ob P xs A F) (x:ByteArray) (g:b9 x=ZV) (f:x∉xs.names) :
 ZR ZO 54 #[Z6 (ZW ⟨ar,0,ZX⟩),ZZ x] w (AJ w 9):=by
 obtain ⟨_,_,_,_,d⟩:=h.arc.cells;have a:=h.find x;obtain ⟨k,c⟩:=nM (aK xs.names x);rw [c,h.Sm f] at a;clear c h;go_enter func54,ntmps54;go_wp2_with fail;refine a.mono ?_;rintro e w1 ⟨rfl,b⟩;have H:=ak b;clear b a d;go_wp2_with fail;refine (jR x w1).mono ?_;rintro e w2 ⟨rfl,rfl⟩;rw [g];dsimp only;go_wp2;go_ret2;exact ⟨rfl,H.o⟩
structure mR (w:ZT) (v p D L G:Nat) (Kind:aN->Prop) (ps:aN) (A:aF) (ps':aN) (wr:ZT):Prop where
 kind:Kind ps'
 psE:ps'.ps=ps.ps
 kit:ps'.S wr
 vol:bt wr v p D L G ps.ps ps'.ho
 hol:ps'.ho<2^(D+L+G)
 bl:∀ k,ps'.bl k->ps.bl k\/w.heap.size<=k
def mR.early {Kind:aN->Prop} {ps ps':aN} {A:aF} (h:mR w v p D L G Kind ps A ps' wr) (b:w0.heap.size<=w.heap.size):mR w0 v p D L G Kind ps A ps' wr:={ h with bl:=λk a=>(h.bl k a).imp_right (TU b) }
def aN.SD (ps:aN) (h:Nat):aN:={ ps with ho:=h }
structure vG (D L G:Nat) (Kind:aN->Prop) (ps:aN):Prop where
 sh:pd D L G Kind
 re:∀ ps h,Kind ps->Kind (ps.SD h)
 pk:∀ ps w,Kind ps->ps.S w->ps.ps<w.heap.size
 kind:Kind ps
structure GtG (w:ZT) (q v p r g N sz D L G:Nat) (Kind:aN->Prop) (ps:aN) (A:aF) (F:aQ) (cs:List ZS) (d:a8) (k:Nat) (u:ZS) (wr:ZT):Prop where
 pk:wr.ownsRow w.heap.size 5 1 u (min (k*sz) d.length) (aH (d.take (k*sz)))
 rd:∃ b gone sp,ew wr r v b g N gone sp
 row:∃ f,wr.rowIs g 39 N f
 kit:∃ ps',mR w v p D L G Kind ps A ps' wr
 arr:aA wr p A F
 out:aa (λj=>F.S j\/j=v\/ps.bl j) w wr
 box:an wr q 137 cs
def abd (w:ZT) (q v p r g N sz D L G:Nat) (Kind:aN->Prop) (ps:aN) (A:aF) (F:aQ) (cs:List ZS) (d:a8) (K:Nat) (u i:ZS) (wr:ZT):Prop:=∃ k:Nat,k<=K/\i=Z7 Z9 (k:Nat)/\GtG w q v p r g N sz D L G Kind ps A F cs d k u wr
def OQ {n:Nat} (g:1<=D):n<=mQ D n*(D*44):=by
 unfold mQ;obtain ⟨q,d⟩:=nM (D*44);rw [d];have a:0<q:=by omega
 have h:=Nat.lt_mul_div_succ (n+q-1) a;obtain ⟨c,b⟩:=nM ((n+q-1)/q);rw [b] at h ⊢;have:q*(c+1)=c*q+q:=by rw [Nat.mul_add,We,Wx]
 have:c*q<=max 1 c*q:=WX _ (YF _ _);omega
def pj:¬ jS 5:=by unfold jS;decide
def Ju:¬ jS 137:=by unfold jS;decide
def OR {ks:Nat} {ps:aN} (a:w.ownsRow base 5 1 u ks (aH l)) (f:ew w r v b0 g N gone sp) (c:w.rowIs g 39 N f0) (n:bt w v p D L G ps.ps ps.ho) (j:ps.S w) (i:aa (λk=>k=g\/k=r\/k=v\/F.S k\/ps.bl k) w w6) (d:∀ k,F.S k->k<base):w6.ownsRow base 5 1 u ks (aH l):=bV a i λq b h=>by
 rcases h with h|h|h|h|h
 . subst h;obtain ⟨cs,e,_⟩:=c;exact bF a e (by decide) b
 . subst h;exact bF a f (by decide) b
 . subst h;exact bF a n (by decide) b
 . have:=d q h;have:=eh a b;omega
 . obtain ⟨cur,m⟩:=bz a b;exact bZ j m pj h
def Rk {Kind:aN->Prop} {ps ps':aN} {A:aF} (f:GtG w q v p r g N sz D L G Kind ps A F cs d k u wr) (hK:mR w v p D L G Kind ps A ps' wr) (c:mH wr.drew r v y g N p D L G Kind ps' A F l e w6) (m:N=D+L+G) (re:∀ ps h,Kind ps->Kind (ps.SD h)) (z:w.heap.size<=r) (x:w.heap.size<=g):aa (λj=>F.S j\/j=v\/ps.bl j) w w6/\∃ b,mR w v p D L G Kind ps A b w6:=by
 have:w.heap.size<=wr.heap.size:=f.out.size;have:wr.drew.heap.size=wr.heap.size:=rfl;refine ⟨(f.out.trans (aa.drew _)).later c.out λj i h=>?_,?_⟩
 . rcases h with h|h|h|h|h
   . omega
   . omega
   . exact .inr (.inl h)
   . exact .inl h
   . rcases hK.bl j h with q|q
     . exact .inr (.inr q)
     . omega
 . obtain ⟨a,hl,k1,k2,k3,k4,n,o⟩:=c.kit;refine ⟨a.SD hl,re _ _ k1,k2.trans hK.psE,k3,by rw [<- hK.psE];exact k4,m▸n,λj i=>?_⟩;rcases o j i with q|q
   . exact hK.bl j q
   . exact .inr (by omega)
def MW {Kind:aN->Prop} {ps ps':aN} {A:aF} {l2:a8} {m:Nat} (x:GtG w q v p r g N sz D L G Kind ps A F cs d k u wr) (hK:mR w v p D L G Kind ps A ps' wr) (n:mH wr.drew r v y g N p D L G Kind ps' A F l2 e w6) (J:N=D+L+G) (re:∀ ps h,Kind ps->Kind (ps.SD h))
 (M:w7.ownsRow w.heap.size 5 1 v7 (min ((k+1)*sz) d.length) (aH (d.take ((k+1)*sz)))) (b:w6.grownBy w7 u.ownBlock) (z:w6.ownsRow w.heap.size 5 1 u m (aH l)) (H:∀ k,F.S k->k<w.heap.size) (V:v<w.heap.size) (W:w.heap.size<=q) (Q:q≠r) (O:q≠g) (R:w.heap.size<=r) (P:w.heap.size<=g):GtG w q v p r g N sz D L G Kind ps A F cs d (k+1) v7 w7:=by
 obtain ⟨I,c,i⟩:=Rk x hK n J re R P;have t:∀ {j:Nat} {cs:Array ZS} {T:TypeId},w6.heap[j]?=ZW (Z4 cs T (0,0))->5≠T->w7.heap[j]?=w6.heap[j]?:=by
  intro j cs T a s;exact b.block j (TX.1 a).1 (λe=>bF z a s e.symm)
 have C:∀ j,j<w.heap.size->w7.heap[j]?=w6.heap[j]?:=λj a=>b.block j (TZ a I.size) (λe=>by have:=eh z e.symm;omega);have B:an w6 q 137 cs:=x.box.keep (n.out.block _ x.box.lt (λh=>by
  rcases h with h|h|h|h|h
  . exact O h
  . exact Q h
  . omega
  . have o:=H _ h;omega
  . exact bZ hK.kit x.box Ju h))
 obtain ⟨gone,sp,E⟩:=n.rd;refine ⟨M,⟨y,gone,sp,E.keep (t E (by decide))⟩,?_,⟨c,{ i with kit:=c.keep _ _ i.kit (λj a=>b.block j (c.lt _ i.kit j a) (λe=>by obtain ⟨cur,K⟩:=bz z e.symm;exact bZ i.kit K pj a)),vol:=i.vol.keep (t i.vol (by decide)) }⟩,n.arr.keep λj a=>C j (H j a),?_,B.keep (t B (by decide))⟩
 . obtain ⟨f,cs,o,s⟩:=n.row;exact ⟨f,cs,(t o (by decide)).trans o,s⟩
 . exact I.later (T:=λj=>w.heap.size<=j) ⟨b.os,b.tape,b.output,b.size,λj _ U=>C j (by omega)⟩ (λj o s=>by omega)
def aT.got {Kind:aN->Prop} {ps ps':aN} {xs:aZ} {A:aF} (h:aT w ar v p ps D L G t pg ob P xs A F) (a:aa (λj=>F.S j\/j=v\/ps.bl j) w w') (x:aA w' p A F) (hK:mR w v p D L G Kind ps A ps' w'):aT w' ar v p ps' D L G t pg ob P xs A F:=by
 have o:=hK.bl;have r:2<3:=by decide
 have s:1<3:=by decide
 have:=h.vlt;have d:∀ k,k<3->¬ F.S k->k<w.heap.size->w'.heap[k]?=w.heap[k]?:=λk f i l=>a.block k l (λq=>by
  rcases q with q|q|q
  . exact i q
  . omega
  . have:=(h.apt k q).1;omega)
 have m:eu (λk=>ar<k/\¬ F.S k/\¬ ps.bl k/\¬ ps'.bl k) w w':=⟨a.size,λk c b=>a.block k c (λq=>by
  rcases q with q|q|q
  . exact b.2.1 q
  . have:=b.1;omega
  . exact b.2.2.1 q)⟩
 have n:∀ k,(ar<k/\¬ F.S k/\¬ ps.bl k)->k<w.heap.size->(ar<k/\¬ F.S k/\¬ ps.bl k/\¬ ps'.bl k):=λk q f=>⟨q.1,q.2.1,q.2.2,λe=>(o k e).elim q.2.2 (by omega)⟩;have u:∀ k,ps'.bl k->3<=k/\k≠ar/\k≠v/\¬ F.S k:=λk c=>by
  rcases o k c with q|q
  . exact h.apt k q
  . have:=h.arc.lt;have:=h.vol.vol.lt;have:=h.vlt;exact ⟨by omega,by omega,by omega,λe=>by have:=h.vol.arr.RO e;omega⟩
 exact { h with
  arc:=h.arc.keep (a.block _ h.arc.lt λq=>by
   rcases q with q|q|q
   . exact h.nar q
   . omega
   . exact (h.apt _ q).2.1 rfl)
  vol:={ h.vol with vol:=by rw [hK.psE];exact hK.vol,arr:=x,laid:=h.vol.laid.keep (d _ r h.vol.g h.vol.laid.lt),tab:=h.vol.tab.keep (d _ s h.vol.t h.vol.tab.lt),room:=TU h.vol.room a.size }
  pgs:=((h.pgs.wk n).keep m).wk λk q _=>⟨q.1,q.2.1,q.2.2.2⟩
  cat:=((h.cat.wk n).keep m).wk λk q _=>⟨q.1,q.2.1,q.2.2.2⟩
  kit:=hK.kit
  apt:=u
  hl:=hK.hol }
def vH (xs:aZ) (x:ByteArray) (base:Nat) (u r:ZS) (w:ZT):Prop:=
 (u=Z5 ZX 0 0/\((r=Az 6/\b9 x=ZU)\/(r=Az 9/\b9 x=ZV/\x∉xs.names)))\/(r=.nilIface/\b9 x=ZV/\∃ X∈xs,X.1.name=x/\w.ownsRow base 5 1 u X.2.length (aH X.2))
def Rm (w:ZT) (ar v p:Nat) (Kind:aN->Prop) (ps:aN) (D L G t:Nat) (pg ob:ZS) (P:a8) (xs:aZ) (A:aF) (F:aQ) (ps':aN) (w':ZT):Prop:=aT w' ar v p ps' D L G t pg ob P xs A F/\Kind ps'/\∀ k,ps'.bl k->ps.bl k\/w.heap.size<=k
def mJ (w:ZT) (ar v p:Nat) (Kind:aN->Prop) (ps:aN) (D L G t:Nat) (pg ob:ZS) (P:a8) (xs:aZ) (A:aF) (F:aQ) (x:ByteArray) (e:ZQ) (w':ZT):Prop:=
 ∃ u r ps',e=Z3 (ZY #[u,r])/\Rm w ar v p Kind ps D L G t pg ob P xs A F ps' w'/\aa (λj=>F.S j\/j=v\/ps.bl j) w w'/\vH xs x w.heap.size u r w'
theorem OS {Kind:aN->Prop} {ps:aN} {xs:aZ} {A:aF} (h:aT w ar v p ps D L G t pg ob P xs A F) (hv:vG D L G Kind ps) (x:ByteArray) (hx:b9 x=ZV) (J:Nat) (x8:J<xs.length) (hm:xs[J].1.name=x) :
 ZR ZO 54 #[Z6 (ZW ⟨ar,0,ZX⟩),ZZ x] w (mJ w ar v p Kind ps D L G t pg ob P xs A F x):=by
 obtain ⟨_,_,_,_,c8⟩:=h.arc.cells;have q1:=h.find x;have xf:xs.names.length=xs.length:=by rw [<- eH,bm];simp [aZ.os]
 have qe:xs.names[J]'(by omega)=x:=by simp [aZ.names,hm,aS,aZ.os]
 have k9:x∈xs.names:=by rw [<- qe];exact TY _
 have x1:aK xs.names x=J:=ig h.disk.up (by omega) qe;rw [x1,h.there k9] at q1;have k7:=h.disk.fits _ (TY x8);obtain ⟨oo,oc,rfl,hol,_⟩:=id h.cat;have qf:xs.os.length=xs.length:=by simp [aZ.os]
 have ka:∀ hh:J<xs.os.length,xs.os[J]=xs[J].1:=λhh=>by simp [aZ.os]
 obtain ⟨X,hX⟩:=nM (xs[J]);rw [hX] at k7 hm ka;obtain ⟨nn,qy⟩:=nM (xs.os.length);have qn:X∈xs:=by rw [<- hX];exact TY _
 have s:=a7 h k7 k9 ka qy qn;have HV:=ak hv;have qb:J<nn:=by omega
 have x9:(J:Int)<(nn:Int):=by omega
 rw [qy] at q1 c8;clear h hv xf qe k9 x1 k7 ka qf hol hX qn;go_enter func54,ntmps54;go_wp2_with fail;refine q1.mono ?_;rintro e w1 ⟨rfl,hb⟩;have H:=ak hb;clear hb q1 c8;go_wp2_with fail;refine (jR x w1).mono ?_;rintro e w2 ⟨rfl,rfl⟩;rw [hx];dsimp only;have a:=s.o.1.below H.o;obtain ⟨d0,_,_,_,d8⟩:=a.arc.cells;rw [s.o.2.2.2.2.1] at d8;obtain ⟨Gt,off,sv,rfl,xg,xh,r1,r2,r3,r4⟩:=a.cat.at' (k:=J) (by rw [s.o.2.2.2.2.1];exact qb);rw [s.o.2.2.2.1 _] at r1 r2 r4;rw [hm] at r1;obtain ⟨n,hn⟩:=nM (X.1.size);rw [hn] at r2;obtain ⟨sa,O,rfl,x6,_⟩:=id r4;obtain ⟨S,hS⟩:=nM (X.1.RL);rw [hS] at r3 r4 x6;have Q:=a5 a r4 hn hS;clear a r4 hn hS;have q8:bW w2 (w2.alloc (Z4 #[ZZ x,Z7 Z9 (n:Nat),.slice sa S.length O] 137)):=bA w2 _;have ky:an (w2.alloc (Z4 #[ZZ x,Z7 Z9 (n:Nat),.slice sa S.length O] 137)) w2.heap.size 137 [ZZ x,Z7 Z9 (n:Nat),.slice sa S.length O]:=UE w2 _;have qj:(w2.alloc (Z4 #[ZZ x,Z7 Z9 (n:Nat),.slice sa S.length O] 137)).heap.size=w2.heap.size+1:=by simp
 have C:X.2.length=n:=s.o.2.1.len.trans Q.o.2.2.1;have xd:n<=1500:=by rw [<- Q.o.2.2.1];exact s.o.2.1.fit.size
 obtain ⟨w3,xk⟩:=nM (w2.alloc (Z4 #[ZZ x,Z7 Z9 (n:Nat),.slice sa S.length O] 137));rw [xk] at q8 ky qj;have y1:=ky.cell (j:=1) (u:=Z7 Z9 (n:Nat)) rfl;obtain ⟨ib,qs,kk,km,ko⟩:=Us Tryz.Sy;have H3:=aE q8 ky qj;clear q8 ky qj;go_wp2_with (at_make;refine abY w3 rfl (.const (Z7 Z9 0)) (Z0 41) 39 rfl w2.heap.size 5 ib (Z7 .u8 0) 1 Ul qs kk km .i64 .i64 _ n (by rfl) (by rfl) rfl (by rw [ko];omega) (by unfold maxLen;omega) (by exact H3.o.1.size) ?_;intro w4 qz q9;have q7:bW w2 w4:=H3.o.1.grown q9 H3.o.1.size (λk e=>by cases e);have e0:=(q7.cell (p:=⟨ar,0,ZX⟩) Q.o.1.arc.lt).trans d0;have H4:=aE qz q9 q7;clear qz q9 q7);have Z:=Q.o.1.below H4.o.2.2;have N:=qO Z.vol.vol Z.vol.par.d Z.vol.par.l4 Z.vol.par.g Z.vol.n;have kx:=ak Z;clear Z d8 r1 r2 r3 y1;refine N.mono ?_;rintro e w5 ⟨rfl,q4,hf,kg⟩;have kp:=kx.out.below kg;have q3:an w4 w2.heap.size 137 _:=H3.o.2.1.keep (H4.o.2.1.block _ H3.o.2.1.lt (by simp));have hc:an w5 w2.heap.size 137 _:=q3.keep (kg.block _ q3.lt);have x2:=hc.cell (j:=2) (u:=.slice sa S.length O) rfl;have kf:bW w2 w5:=H4.o.2.2.trans (kg.mono H4.o.2.2.size);obtain ⟨sz,I⟩:=nM (D*44);have Y:S.length=mQ D n:=by rw [<- Q.o.2.2.2,s.o.2.1.st,Q.o.2.2.1];rfl
 obtain ⟨r,V⟩:=nM (w4.heap.size+2);obtain ⟨g,hg⟩:=nM (w4.heap.size+1);have xv:=H4.o.2.2.size;rw [V,hg] at q4;rw [hg] at hf;obtain ⟨d,E⟩:=nM (X.2);rw [E] at C;have x3:GtG w2 w2.heap.size v p r g A.n sz D L G Kind ps A F [ZZ x,Z7 Z9 (n:Nat),.slice sa S.length O] d 0 (Z5 (ZW ⟨w3.heap.size,0,ZX⟩) 0 n) w5:=
  ⟨by rw [abt,Nat.zero_min];exact ay H4.o.1 kg,⟨_,_,_,q4⟩,⟨_,hf⟩,⟨ps,HV.o.kind,rfl,kp.kit,kp.vol.vol,kp.hl,λ_ q=>.inl q⟩,kp.vol.arr,aa.RN kf _,hc⟩
 have H5:=a6 x3 I Y E C;have xi:r≠g:=by omega
 have xm:w2.heap.size<g:=by omega
 have xq:w2.heap.size<r:=by omega
 rw [V];clear x3 I Y E C q4 hf hc q3 kp kf N kg V hg;have xj:44<=sz/\sz<=528:=by rw [<- H5.o.2.1];have:=kx.out.vol.par.d1;have:=kx.out.vol.par.d;omega
 go_wp2_with fail;go_loopw [9,51] (λu i wr=>abd w2 w2.heap.size v p r g A.n sz D L G Kind ps A F [ZZ x,Z7 Z9 (n:Nat),.slice sa S.length O] d S.length u i wr) (λ_ i _=>S.length-(intOf i).toNat)
 case atStart=>exact ⟨0,T5 _,rfl,H5.o.1⟩
 case round=>
  clear x2 e0;obtain ⟨k,xn,rfl,R⟩:=hrel;by_cases ke:k<S.length
  . obtain ⟨f,⟨b0,gone,sp,N⟩,⟨f0,he⟩,⟨ps',b⟩,ha,T,kh⟩:=id R;obtain ⟨_,I,Y,E,C⟩:=H5.o;obtain ⟨a,qm,xe,kz⟩:=Q.o;have V:=a.vol.par;have qv:k*sz<=n:=(by rw [<- I];exact Df V.d1 (by omega));have M:∀ j,F.S j->j<w2.heap.size:=λj U=>a.vol.arr.RO U;rw [C,Wl qv] at f;obtain ⟨l,hl⟩:=nM (d.take (k*sz));rw [hl] at f;obtain ⟨pa,pc,rfl⟩:=bE f;obtain ⟨c,B⟩:=nM (k*sz);have qh:=a.vlt;have qk:eu (λk=>ar<k/\¬ F.S k/\¬ ps.bl k) w2 wr:=⟨T.size,λj U hK=>T.block j U (λq=>by rcases q with q|q|q;exact hK.2.1 q;omega;exact hK.2.2 q)⟩;obtain ⟨sb,so,xx,e1,qo⟩:=sr (qm.keep qk) (λe=>by rw [e] at ke;simp at ke);simp only [VH] at e1;obtain ⟨rfl,_,rfl⟩:=e1;have g1:=qo k ke;obtain ⟨y,hy⟩:=nM (S[k]);rw [hy] at g1;have kv:X.1.RL.getD k 0=y:=(by rw [kz,je ke,hy]);have x5:y<A.nb:=by
     refine (a.disk.Ti y (V6 _ (Aj s.o.2.2.2.2.2 ?_))).2;rw [kz,<- hy];exact TY ke
    have qi:=a.disk.held X s.o.2.2.2.2.2 k (by rw [kz];exact ke);rw [kv,E] at qi;have kc:=a.got T ha b;have q5:pH wr.drew v p D L G ps'.ps ps'.ho A F:=kc.vol.below ((TW _ wr).drew) lR;obtain ⟨ca,_⟩:=kc.arc.cells;have cz:=kh.cell (j:=1) (u:=Z7 Z9 (n:Nat)) rfl;have qg:=dF q5.vol (by have:=V.d;omega);rw [I] at qg;obtain ⟨K,qc⟩:=nM (min (n-c) sz);have xc:∀ qr ty w,(Builtin.min_ qr ty #[Z7 Z9 ((n:Int)-(c:Int)),Z7 Z9 (sz:Nat)]).run ZO w=.ok (Z7 Z9 (K:Nat)) w:=λqr ty w=>by
     rw [gy];by_cases h1:((sz:Nat):Int)<(n:Int)-(c:Int)
     . rw [TT h1,show K=sz by omega]
     . rw [TS h1,show (K:Int)=(n:Int)-(c:Int) by omega]
    have kb:=a.vol.n;have qx:(K+43)/44<=D:=(by omega);have kj:(dA D d k).length=K:=(by unfold dA;rw [Un,Um,I,B,C];omega);have kr:qK wr.drew r v y g A.n p D L G Kind ps' A F (dA D d k):=
     { vol:=q5,nN:=kb,hol:=by rw [kb];exact b.hol,kit:=ps'.keep _ _ b.kit (λ_ _=>rfl),kind:=b.kind,apt:=λj U=>⟨(kc.apt j U).1,(kc.apt j U).2.2.1,(kc.apt j U).2.2.2⟩,vr:=λe=>by have:=a.vol.vol.lt;omega,vg:=λe=>by have:=a.vol.vol.lt;omega,rg:=xi,gF:=λe=>by have:=M _ e;omega,rF:=λe=>by have:=M _ e;omega,rK:=by have:=a.vol.room;omega,vK:=a.vlt.1,gK:=by have:=a.vol.room;omega,nb:=x5,cw:=qi,len:=by rw [kj];omega,fine:=a.fine,byt:=λz hz=>s.o.2.1.byt z (by rw [E];exact U0 (UY hz)) }
    have qp:=Dp kr HV.o.sh (N.keep rfl) (he.of_block rfl) kj.symm (m:=(K+43)/44) rfl qx;have q0:dA D d k=(d.drop c).take sz:=(by unfold dA;rw [I,B]);have HR:=hide15 R N he f qp qg M B b kb a.vol.vol.lt hl kj qc q0;rw [B] at qv f ⊢;have xb:K<=528:=(by omega);have xo:IntKind.i64.wrap ((k:Int)+1)=(k:Int)+1:=(by rw [UB];omega);have xp:IntKind.i64.wrap ((n:Int)-(c:Int))=(n:Int)-(c:Int):=(by rw [UB];omega);clear R b kc kr qh N he f qp qg M B q5 qk qo hy T kh ha I Y a qm xe kz V qc qx kb hl x5 qi kv kj q0 E C;go_wp2;go_region_with (first
     | (go_at_call 77;refine HR.o.2.2.2.2.2.1.mono ?_;rintro e wq ⟨rfl,rfl⟩)
     | (go_at_call 76;refine HR.o.2.2.2.2.1.mono ?_;rintro e w6 W;obtain ⟨u2,x7,x4,_⟩:=W.ans;have H6:=al W x4;subst x7;clear W x4))
    all_goals (
     obtain ⟨W,ki⟩:=H6.o;have hp:w6.ownsRow w2.heap.size 5 1 (.slice pa c pc) c (aH l):=by
      obtain ⟨_,N,he,f,_,_,M,B,b,_⟩:=HR.o;rw [B] at f;exact OR (ay f ((TW _ wr).drew)) (N.keep rfl) (he.of_block rfl) (by rw [b.psE];exact b.vol) (ps'.keep _ _ b.kit (λ_ _=>rfl)) W.out M
     obtain ⟨l2,a⟩:=nM (dA D d k);have hs:Src ZO 1 39 u2 K (aH l2) w6:=by
      have:=Jt ki;rw [HR.o.2.2.2.2.2.2.2.2.2.2.2.2.1,a] at this;exact this
     have HO:=a5 hp hs (TU HR.o.1.out.size W.out.size) a;clear hp hs W a ki;go_wp2_with (at_builtin;refine ae _ rfl (Z0 75) (Z0 76) 39 39 rfl w2.heap.size 5 ib (Z7 .u8 0) 1 1 Ul qs kk km ko rfl (.slice pa c pc) c (aH l) (by rfl) (by exact HO.o.1) _ (by rfl) K (aH l2) (by exact HO.o.2.1) (by unfold maxLen;omega) (by omega) (by exact HO.o.2.2.1) ?_;intro v7 w7 x0 qq q6;have H7:=al x0 qq;clear x0 qq q6);go_roundw
     case rel=>
      obtain ⟨R,_,_,_,_,_,M,B,b,kb,qh,hl,kj,qc,q0⟩:=HR.o;have qd:(k+1)*sz=c+sz:=(by rw [<- B];exact WZ k sz);have C:=H5.o.2.2.2.2;rw [B] at R;refine ⟨k+1,by omega,by go_num,MW R b H6.o.1 kb HV.o.re ?_ H7.o.2 HO.o.1 M qh lR (by omega) (by omega) (by omega) (by omega)⟩;have h7:=H7.o.1;rw [qd,C,show min (c+sz) n=c+K by omega,YG,<- q0,HO.o.2.2.2,<- B,hl,bM];rw [B];exact h7
     case measure=>simp only [intOf];omega)
  . have xa:k=S.length:=(by omega);subst xa;obtain ⟨f,_,_,⟨ps',b⟩,ha,T,_⟩:=R;obtain ⟨_,I,Y,E,C⟩:=H5.o;have qa:d.length<=S.length*sz:=(by rw [C,Y,<- I];exact OQ kx.out.vol.par.d1);rw [YH qa,UI qa] at f;have q2:aa (λj=>F.S j\/j=v\/ps.bl j) w wr:=(aa.RN H.o _).trans T;have HF:=a5 (And.intro (cY f H.o.size) q2) (s.o.1.got q2 ha (b.early H.o.size)) (b.early H.o.size) E;clear f ha T q2 b qa I Y E C;go_wp2;go_ret2;obtain ⟨⟨h1,h2⟩,h3,h6,E⟩:=HF.o;subst E;exact ⟨_,_,ps',rfl,⟨h3,h6.kind,h6.bl⟩,h2,.inr ⟨rfl,hx,X,s.o.2.2.2.2.2,hm,h1⟩⟩
def OT {Kind:aN->Prop} {ps:aN} {xs:aZ} {A:aF} (h:aT w ar v p ps D L G t pg ob P xs A F) (d:vG D L G Kind ps) (x:ByteArray) :
 ZR ZO 54 #[Z6 (ZW ⟨ar,0,ZX⟩),ZZ x] w (mJ w ar v p Kind ps D L G t pg ob P xs A F x):=by
 have c:∀ n:Int,(∀ w',vH xs x w.heap.size (Z5 ZX 0 0) (Az n) w')->∀ e w',AJ w n e w'->mJ w ar v p Kind ps D L G t pg ob P xs A F x e w':=by
  rintro n f e w' ⟨rfl,b⟩;exact ⟨_,_,ps,rfl,⟨h.below b,d.kind,λ_ q=>.inl q⟩,aa.RN b _,f w'⟩
 cases hx:b9 x with
 | false=>exact (MV h x hx).mono (c 6 λ_=>.inl ⟨rfl,.inl ⟨rfl,hx⟩⟩)
 | true=>
  by_cases a:x∈xs.names
  . obtain ⟨g,j,e⟩:=UT a;have:xs.names.length=xs.length:=(by rw [<- eH,bm];simp [aZ.os]);exact OS h d x hx g (by omega) (by rw [<- e];simp [aZ.names,aS,aZ.os])
  . exact (Dq h x hx a).mono (c 9 λ_=>.inl ⟨rfl,.inr ⟨rfl,hx,a⟩⟩)
section
structure mS (w:ZT) (ar v p:Nat) (ps:aN) (D L G:Nat) (A:aF) (F:aQ):Prop where
 vol:pH w v p D L G ps.ps ps.ho A F
 nar:¬ F.S ar
 vlt:3<=v/\v<ar
 arl:ar<w.heap.size
 kit:ps.S w
 apt:∀ k,ps.bl k->3<=k/\k≠ar/\k≠v/\¬ F.S k
 hl:ps.ho<2^(D+L+G)
 fine:A.fine D L G
section
variable {w w':ZT} {ar v p D L G:Nat} {ps ps':aN} {A:aF} {F:aQ}
def mS.below (h:mS w ar v p ps D L G A F) (a:bW w w'):mS w' ar v p ps D L G A F:=
 { h with vol:=h.vol.below a lR,arl:=TZ h.arl a.size,kit:=ps.keep _ _ h.kit λk b=>a.block k (ps.lt _ h.kit k b) }
def mS.got (h:mS w ar v p ps D L G A F) {Kind:aN->Prop} (a:aa (λj=>F.S j\/j=v\/ps.bl j) w w') (m:aA w' p A F) (hK:mR w v p D L G Kind ps A ps' w'):mS w' ar v p ps' D L G A F:=by
 have i:2<3:=by decide
 have l:1<3:=by decide
 have:=h.vlt;have b:∀ k,k<3->¬ F.S k->k<w.heap.size->w'.heap[k]?=w.heap[k]?:=λk d f c=>a.block k c (λq=>by
  rcases q with q|q|q
  . exact f q
  . omega
  . have:=(h.apt k q).1;omega)
 exact { h with
  vol:={ h.vol with vol:=by rw [hK.psE];exact hK.vol,arr:=m,laid:=h.vol.laid.keep (b _ i h.vol.g h.vol.laid.lt),tab:=h.vol.tab.keep (b _ l h.vol.t h.vol.tab.lt),room:=TU h.vol.room a.size }
  arl:=TZ h.arl a.size
  kit:=hK.kit
  apt:=λk n=>by
   rcases hK.bl k n with q|q
   . exact h.apt k q
   . have:=h.arl;have:=h.vol.room;exact ⟨by omega,by omega,by omega,λe=>by have:=h.vol.arr.RO e;omega⟩
  hl:=hK.hol }
def mS.arc (h:mS w ar v p ps D L G A F) (a:aa (λj=>F.S j\/j=v\/ps.bl j) w w') {D' L' G' t f n:Nat} {pg ob:ZS} {off:Bool} (b:bf w ar v D' L' G' t f n pg ob off):bf w' ar v D' L' G' t f n pg ob off:=
 b.keep (a.block _ h.arl λq=>by
  rcases q with q|q|q
  . exact h.nar q
  . have:=h.vlt;omega
  . exact (h.apt _ q).2.1 rfl)
end
structure PE (A:aF) (D L G:Nat) (P l:a8):Prop where
 on:A.holds D L G P (cF D P l)
 pl:P.length=YI D l.length
 nb:∀ x∈P,x<A.nb
 le:P.length<=A.nb
 byt:∀ x∈l,x<256
def OU {n:Nat} (f:1<=D) {k:Nat} (d:k<pgs D n):k*(D*44-4)<=n:=by
 unfold pgs at d;by_cases a:k=0
 . subst a;omega
 . have b:k<(n+(D*44-4)-1)/(D*44-4):=(by omega);have e:0<D*44-4:=(by omega);have c:=(ab6 e).1 (Nat.succ_le_of_lt b);rw [WZ] at c;omega
def OV {n:Nat} (d:1<=D):n<=pgs D n*(D*44-4):=by
 have c:0<D*44-4:=by omega
 have a:(n+(D*44-4)-1)/(D*44-4)<=pgs D n:=YF _ _;have:=WX (D*44-4) a;have b:=Nat.div_add_mod (n+(D*44-4)-1) (D*44-4);have:=V9 (n+(D*44-4)-1) c;rw [Wx] at b;omega
def FA (P l:a8) (k:Nat):(cF D P l k).length=4+min (l.length-k*(D*44-4)) (D*44-4):=by
 unfold cF;rw [T8,aC,Un,Um,Nat.min_comm]
def Jv (w:ZT) (pb po n:Nat) (page:a8):Prop:=∀ q,q<n->w.cell? ⟨pb,po+q,ZX⟩=ZW (Z7 .u8 ((page.getD q 0:Nat):Int))
def Jv.grown {pb n:Nat} {row:Option Nat} (h:Jv w pb po n page) (b:w.grownBy w' row) (a:row≠ZW pb):Jv w' pb po n page:=λq c=>b.cell (h q c) (λe=>a e.symm)
def Jv.alloc {pb n:Nat} (h:Jv w pb po n page) (o:Obj):Jv (w.alloc o) pb po n page:=h.grown (ab4 w o ZX) (λe=>by cases e)
theorem Jv.src {pb:Nat} (h:Jv w pb po (4+sk) page) (hl:page.length=4+sk):Src ZO 1 39 (Z5 (ZW ⟨pb,po+4,ZX⟩) sk sk) sk (aH (page.drop 4)) w:=by
 refine Vn w Ul ⟨pb,po+4,ZX⟩ sk sk (aH (page.drop 4)) (by rw [aX,Um,hl];omega) (λq u a=>?_) (λu f=>by obtain ⟨x,_,rfl⟩:=T7.1 f;rfl);have g:q<sk:=by
  have:=(Va.1 a).1;rw [aX,Um,hl] at this;omega
 have d:=h (4+q) (by omega);have e:(Value.int .u8 ((page.getD (4+q) 0:Nat):Int))=u:=by
  unfold aH at a;rw [UA,Wd,Ua (by omega)] at a;simp at a;rw [<- a];simp [T6,show 4+q<page.length by omega]
 have b:w.cell? ⟨pb,po+4+q,ZX⟩=ZW u:=by rw [<- e,Vx];exact d
 unfold Addr.add;split
 . rename_i c;subst c;exact b
 . exact b
def Jv.src0 {pb:Nat}:Src ZO 1 39 (Z5 (ZW ⟨pb,po,ZX⟩) 0 0) 0 [] w:=Vn w Ul ⟨pb,po,ZX⟩ 0 0 [] rfl (λq u a=>by simp at a) (λu b=>by cases b)
def Jv.head {pb n c x:Nat} (h:Jv w pb po n page) (e:4<=n) (b:4<=c) (d:page.take 4=be x 4):Bs w (Z5 (ZW ⟨pb,po,ZX⟩) 4 c) (be x 4):=by
 refine ⟨ZW ⟨pb,po,ZX⟩,c,by rw [aC],by rw [aC];exact b,by rw [aC];decide,qT _ _,λ_=>⟨pb,po,rfl,λq a=>?_⟩⟩;rw [aC] at a;rw [h q (by omega),<- d];have:(page.take 4).getD q 0=page.getD q 0:=by
  rw [T6,T6,VO a]
 rw [this]
structure RpG (w:ZT) (v p r g N sz n1 f1 D L G:Nat) (Kind:aN->Prop) (ps:aN) (A:aF) (F:aQ) (P l:a8) (D1 L1 G1 t1 k:Nat) (up uq:ZS) (wr:ZT):Prop where
 pk:wr.ownsRow w.heap.size 5 1 up (min (k*sz) n1) (aH (l.take (k*sz)))
 pg:wr.ownsRow w.heap.size 3 1 uq k (jU (P.take k))
 rd:∃ b gone sp,ew wr r v b g N gone sp
 row:∃ f,wr.rowIs g 39 N f
 kit:∃ ps',mR w v p D L G Kind ps A ps' wr
 arr:aA wr p A F
 out:aa (λj=>F.S j\/j=v\/ps.bl j) w wr
 box:wr.heap[w.heap.size]?=ZW (Z4 (aj D1 L1 G1 t1 f1 n1) 130 (0,0))
def abe (w:ZT) (v p r g N sz n1 f1 D L G:Nat) (Kind:aN->Prop) (ps:aN) (A:aF) (F:aQ) (P l:a8) (D1 L1 G1 t1 K:Nat) (up uq nx i:ZS) (wr:ZT):Prop:=∃ k:Nat,k<=K/\i=Z7 Z9 k/\nx=Z7 Z9 ((P.getD k 0:Nat):Int)/\RpG w v p r g N sz n1 f1 D L G Kind ps A F P l D1 L1 G1 t1 k up uq wr
def FB:¬ jS 3:=by unfold jS;decide
def OW:¬ jS 130:=by unfold jS;decide
def MX {Kind:aN->Prop} {ps ps':aN} {A:aF} (a:RpG w v p r g N sz n1 f1 D L G Kind ps A F P l D1 L1 G1 t1 k up uq wr) (hK:mR w v p D L G Kind ps A ps' wr) (d:mH wr.drew r v y g N p D L G Kind ps' A F dl e w5) (C:N=D+L+G) (re:∀ ps h,Kind ps->Kind (ps.SD h)) (m:∀ k,F.S k->k<w.heap.size) (J:v<w.heap.size) (Q:w.heap.size<r) (O:w.heap.size<g):aa (λj=>F.S j\/j=v\/ps.bl j) w w5/\(∃ b,mR w v p D L G Kind ps A b w5)/\w5.heap[w.heap.size]?=ZW (Z4 (aj D1 L1 G1 t1 f1 n1) 130 (0,0))/\(∀ {T:TypeId} {s n:Nat} {u:ZS} {xs:List ZS},wr.ownsRow w.heap.size T s u n xs->¬ jS T->T≠200->T≠39->w5.ownsRow w.heap.size T s u n xs):=by
 have:w.heap.size<=wr.heap.size:=a.out.size;have:wr.drew.heap.size=wr.heap.size:=rfl;obtain ⟨_,_,_,B⟩:=a.rd;obtain ⟨f0,t⟩:=a.row;refine ⟨(a.out.trans (aa.drew _)).later d.out λj o h=>?_,?_,?_,?_⟩
 . rcases h with h|h|h|h|h
   . omega
   . omega
   . exact .inr (.inl h)
   . exact .inl h
   . rcases hK.bl j h with q|q
     . exact .inr (.inr q)
     . omega
 . obtain ⟨b,hl,k1,k2,k3,k4,H,I⟩:=d.kit;refine ⟨b.SD hl,re _ _ k1,k2.trans hK.psE,k3,by rw [<- hK.psE];exact k4,by rw [<- C];exact H,λj o=>?_⟩;rcases I j o with q|q
   . exact hK.bl j q
   . exact .inr (by omega)
 . refine (d.out.block _ (TX.1 a.box).1 (λh=>?_)).trans a.box;rcases h with h|h|h|h|h
   . omega
   . omega
   . omega
   . have:=m _ h;omega
   . exact bZ hK.kit a.box OW h
 . intro T s n u xs ho f i x;refine bV (show wr.drew.ownsRow w.heap.size T s u n xs from ho) d.out λq c h=>?_;rcases h with h|h|h|h|h
   . subst h;obtain ⟨cs,z,_⟩:=t;exact bF ho z x c
   . subst h;exact bF ho B i c
   . subst h;have:=eh ho c;omega
   . have f:=m q h;have:=eh ho c;omega
   . obtain ⟨cur,E⟩:=bz ho c;exact bZ hK.kit E f h
theorem MY {x pl:Nat} {Kind:aN->Prop} {ps ps':aN} {A:aF} {v6:ZS} {o:Obj} (X:RpG w v p r g N sz n1 f1 D L G Kind ps A F P l D1 L1 G1 t1 k up uq wr) (hK:mR w v p D L G Kind ps A ps' wr) (E:mH wr.drew r v y g N p D L G Kind ps' A F dl e w5) (Y:N=D+L+G) (re:∀ ps h,Kind ps->Kind (ps.SD h)) (R:∀ k,F.S k->k<w.heap.size) (k0:v<w.heap.size) (hr:w.heap.size<r) (H:w.heap.size<g)
 (V:k<P.length) (hx:P.getD k 0=x) (M:w5.ownsRow w.heap.size 3 1 uq k (jU (P.take k))) (W:w6.ownsRow w.heap.size 3 1 v6 (k+1) (jU (P.take k)++[Z7 Z9 (x:Int)])) (m:(w5.alloc o).grownBy w6 uq.ownBlock) (C:w6.ownsRow w.heap.size 5 1 up pl (aH (l.take pl))) (hv:w7.ownsRow w.heap.size 5 1 v7 (pl+sk) (aH (l.take pl)++aH ((l.drop pl).take sz))) (c:w6.grownBy w7 up.ownBlock)
 (hy:k*sz=pl) (k7:min (n1-pl) sz=sk) (k5:pl<=n1):RpG w v p r g N sz n1 f1 D L G Kind ps A F P l D1 L1 G1 t1 (k+1) v7 v6 w7:=by
 obtain ⟨U,⟨n,i⟩,J,_⟩:=MX X hK E Y re R k0 hr H;have k8:w.heap.size<=w5.heap.size:=U.size;have k9:w5.heap.size+1<=w6.heap.size:=by have:=m.size;simp at this;omega
 have O:=M.alloc o;have u:∀ {q:Nat} {cs:Array ZS} {T:TypeId} {z:Nat×Nat},w5.heap[q]?=ZW (Z4 cs T z)->3≠T->5≠T->w7.heap[q]?=w5.heap[q]?:=by
  intro q cs T z s t B;have hz:q<w5.heap.size:=(TX.1 s).1;have b:(w5.alloc o).heap[q]?=w5.heap[q]?:=UC _ _ _ hz;have d:w6.heap[q]?=(w5.alloc o).heap[q]?:=m.block q (by simp;omega) (λe=>by
   obtain ⟨cur,a⟩:=bz O e.symm;rw [b.trans s] at a;simp only [UF,U1] at a;exact t a.2.1.symm)
  refine (c.block q (by omega) (λe=>?_)).trans (d.trans b);obtain ⟨cur,a⟩:=bz C e.symm;rw [(d.trans b).trans s] at a;simp only [UF,U1] at a;exact B a.2.1.symm
 have K:∀ q,q<w.heap.size->w7.heap[q]?=w5.heap[q]?:=λq s=>by
  have b:(w5.alloc o).heap[q]?=w5.heap[q]?:=UC _ _ _ (by omega);have d:w6.heap[q]?=(w5.alloc o).heap[q]?:=m.block q (by simp;omega) (λe=>by have:=eh O e.symm;omega);exact (c.block q (by omega) (λe=>by have:=eh C e.symm;omega)).trans (d.trans b)
 have hi:(k+1)*sz=pl+sz:=by rw [WZ,hy]
 obtain ⟨gone,sp,Q⟩:=E.rd;refine ⟨?_,?_,⟨y,gone,sp,Q.keep (u Q (by decide) (by decide))⟩,?_,⟨n,{ i with kit:=n.keep _ _ i.kit (λj I=>?_),vol:=i.vol.keep (u i.vol (by decide) (by decide)) }⟩,E.arr.keep λq s=>K q (R q s),?_,(u J (by decide) (by decide)).trans J⟩
 . rw [hi,YG,bM,show min (pl+sz) n1=pl+sk by omega];exact hv
 . have e:jU (P.take (k+1))=jU (P.take k)++[Z7 Z9 (x:Int)]:=by
    have H:P.getD k 0=P[k]:=(by simp [T6,V]);rw [Vh,Ua V,<- hx,H];unfold jU;rw [Uv];rfl
   rw [e];refine W.kept c ?_;cases h8:v6.ownBlock with
   | none=>exact .inl rfl
   | some q=>
    refine .inr λe=>?_;obtain ⟨cur,Z⟩:=bz W h8;exact bF C Z (by decide) e.symm
 . obtain ⟨f,cs,t,B⟩:=E.row;exact ⟨f,cs,(u t (by decide) (by decide)).trans t,B⟩
 . have hs:=n.lt _ i.kit j I;have b:(w5.alloc o).heap[j]?=w5.heap[j]?:=UC _ _ _ hs;have d:w6.heap[j]?=(w5.alloc o).heap[j]?:=m.block j (by simp;omega) (λe=>by
    obtain ⟨cur,a⟩:=bz M e.symm;exact bZ i.kit a FB I)
   refine (c.block j (by omega) (λe=>?_)).trans (d.trans b);obtain ⟨cur,a⟩:=bz C e.symm;rw [d.trans b] at a;exact bZ i.kit a pj I
 . exact U.later (T:=λq=>w.heap.size<=q) ⟨c.os.trans (m.os.trans rfl),c.tape.trans (m.tape.trans rfl),c.output.trans (m.output.trans rfl),by have:=c.size;omega,λq _ k6=>K q (by omega)⟩ (λq t B=>by omega)
structure OX (w:ZT) (v p D L G:Nat) (Kind:aN->Prop) (ps:aN) (A:aF) (F:aQ) (P l:a8) (e:ZQ) (w':ZT):Prop where
 kit:∃ ps',mR w v p D L G Kind ps A ps' w'
 arr:aA w' p A F
 out:aa (λj=>F.S j\/j=v\/ps.bl j) w w'
 ans:∃ up uq,e=Z3 (ZY #[up,uq,.nilIface])/\Bs w' up l/\w'.ownsRow w.heap.size 3 1 uq P.length (jU P)
structure RpD (w w4 w5:ZT) (r v y g N p D L G:Nat) (Kind:aN->Prop) (ps':aN) (A:aF) (F:aQ) (sk pl k sz nx' pb po pc:Nat) (pa:Option Addr) (u5:ZS) (page l P:a8) (e:ZQ):Prop where
 dt:mH w4 r v y g N p D L G Kind ps' A F page e w5
 pk5:w5.ownsRow w.heap.size 5 1 (.slice pa pl pc) pl (aH (l.take pl))
 pg5:w5.ownsRow w.heap.size 3 1 u5 k (jU (P.take k))
 cell:Jv w5 pb po (4+sk) page
 len:page.length=4+sk
 pg1:page.take 4=be nx' 4
 pg2:page.drop 4=(l.drop pl).take sz
 bq:(Value.slice pa pl pc).ownBlock=ZX\/(Value.slice pa pl pc).ownBlock≠u5.ownBlock
 pq:u5.ownBlock≠ZW pb
 pp:(Value.slice pa pl pc).ownBlock≠ZW pb
 mul:k*sz=pl
theorem wF {Kind:aN->Prop} {ps:aN} {A:aF} (ho:mS w ar v p ps D L G A F) (y:bf w ar v D' L' G' t f nn pg ob off) (hv:vG D L G Kind ps) (x8:A.nb<=1000) (hP:PE A D L G P l) :
 ZR ZO 158 #[Z6 (ZW ⟨ar,0,ZX⟩),.agg (aj D1 L1 G1 t1 (P.getD 0 0) l.length)] w (OX w v p D L G Kind ps A F P l):=by
 obtain ⟨ib,x6,ki,kj,kk⟩:=Us Tryz.R4;obtain ⟨ii,xn,qf,qg,qh⟩:=Us Tryz.Sk;have q1:=ho.vol.par.d1;have qb:=ho.vol.par.d;have ky:=ho.vol.vol.lt;have xd:=ho.vol.room;have Z:=ho.vol.n;have c:∀ k,F.S k->k<w.heap.size:=λk hk=>ho.vol.arr.RO hk;have h:=OV (n:=l.length) q1;have x0:P.length<=1000:=TU hP.le x8;have qn:l.length<=524000:=by
  rw [<- hP.pl] at h;exact TU h (TU (Xg x0 (show D*44-4<=524 by omega)) (by decide))
 obtain ⟨n1,q2⟩:=nM (l.length);obtain ⟨f1,qc⟩:=nM (P.getD 0 0);obtain ⟨K,kc⟩:=nM (P.length);have hK:pgs D n1=K:=by rw [<- kc,hP.pl,q2]
 rw [q2] at h qn ⊢;rw [qc];rw [kc] at x0;have a:=a5 hP q2 qc kc;clear hP q2;have H:(w.alloc (Z4 (aj D1 L1 G1 t1 f1 n1) 130)).heap[w.heap.size]?=ZW (Z4 (aj D1 L1 G1 t1 f1 n1) 130 (0,0)):=Ug _ _;have E:bW w (w.alloc (Z4 (aj D1 L1 G1 t1 f1 n1) 130)):=bA w _;have q4:(w.alloc (Z4 (aj D1 L1 G1 t1 f1 n1) 130)).heap.size=w.heap.size+1:=by simp
 obtain ⟨w1,qy⟩:=nM (w.alloc (Z4 (aj D1 L1 G1 t1 f1 n1) 130));rw [qy] at H E q4;have cl:w1.cell? ⟨w.heap.size,5,ZX⟩=ZW (Z7 Z9 n1):=by simp [World.cell?,H,aj]
 have cf:w1.cell? ⟨w.heap.size,4,ZX⟩=ZW (Z7 Z9 f1):=by simp [World.cell?,H,aj]
 have X:=y.keep (E.block _ y.lt);have I:=ho.below E;obtain ⟨d0,_⟩:=X.cells;have qq:=jb X I.vol.vol q1 (by omega) n1 (by omega);have q9:=js I.vol.vol I.vol.arr (by omega);obtain ⟨NB,z⟩:=nM (A.nb);rw [z] at x8;have xj:K<=NB:=by rw [<- z,<- kc];exact a.o.1.le
 rw [hK] at qq;rw [z] at q9;have R:=hide9 X I H E q4 qq q9 hK z;have y0:w.alloc (Z4 #[Z7 Z9 D1,Z7 Z9 L1,Z7 Z9 G1,Z7 Z8 t1,Z7 Z9 f1,Z7 Z9 n1] 130)=w1:=qy;have HV:=a5 ho y c ky;clear ho y H E X I qq q9 q4 qy hK z c kc qc;unfold aj;go_enter func158,ntmps158;go_wp2_with fail;refine R.o.2.2.2.2.2.1.mono ?_;rintro e w2 ⟨rfl,N⟩;obtain rfl:w1=w2:=N.symm;clear N;go_wp2_with fail;refine R.o.2.2.2.2.2.2.1.mono ?_;rintro e w2 ⟨rfl,N⟩;obtain rfl:w1=w2:=N.symm;clear N;have y3:¬ NB<K:=by omega
 have y4:¬ (K:Int)>(NB:Int):=by omega
 have ks:=qO (R.o.2.1.vol.vol.keep (w':=w1.drew) rfl) qb R.o.2.1.vol.par.l4 R.o.2.1.vol.par.g Z;go_upto_region 4 with fail;go_cut [8,9] from 25 to 31 (λv8 v9 wx=>v8=Z7 Z9 (f1:Int)/\v9=Z6 (ZW ⟨w1.heap.size+2,0,ZX⟩)/\ew wx (w1.heap.size+2) v 0 (w1.heap.size+1) A.n 0 0/\wx.rowIs (w1.heap.size+1) 39 A.n wC/\bW w1 wx)
 case first=>
  go_region_with (go_at_call 75;refine ks.mono ?_;rintro e w3 ⟨rfl,xb,V,Q⟩;have T:=aE xb V Q;clear xb V Q;have hd:w3.cell? ⟨w.heap.size,4,ZX⟩=ZW (Z7 Z9 f1):=(T.o.2.2.cell (p:=⟨w.heap.size,4,ZX⟩) (Ub cf)).trans cf);all_goals (go_wp2_with fail;go_meet;case rel=>exact ⟨rfl,rfl,T.o.1,T.o.2.1,(TW _ w1).drew.trans T.o.2.2⟩)
 case rest=>
  obtain ⟨rfl,rfl,k9,V,Q⟩:=hcut;rename ZT=>w3;obtain ⟨X,I,H,E,q4,y1,y2,hK,z⟩:=R.o;clear y1 y2 ks;have kf:=(Q.block _ (by omega)).trans H;obtain ⟨ho,y,c,_⟩:=HV.o;have x1:aa (λj=>F.S j\/j=v\/ps.bl j) w w3:=aa.RN (E.trans (Q.mono (by omega))) _;have kp:=I.below Q;obtain ⟨r,qv⟩:=nM (w1.heap.size+2);obtain ⟨g,qe⟩:=nM (w1.heap.size+1);rw [qv,qe] at k9;rw [qe] at V;rw [qv];have xk:r≠g:=by omega
  have y5:w.heap.size+1<g:=by omega
  have y7:w.heap.size+1<r:=by omega
  obtain ⟨sz,kx⟩:=nM (D*44-4);have qz:RpG w v p r g A.n sz n1 f1 D L G Kind ps A F P l D1 L1 G1 t1 0 (Z5 ZX 0 0) (Z5 ZX 0 0) w3:=
   ⟨by rw [abt,Nat.zero_min,Wm];exact UN _ _ _ _,UN _ _ _ _,⟨0,0,0,k9⟩,⟨_,V⟩,⟨ps,hv.kind,rfl,kp.kit,kp.vol.vol,kp.hl,λ_ q=>.inl q⟩,kp.vol.arr,x1,kf⟩
  have T:=ak qz;have xz:40<=sz/\sz<=524:=by omega
  rw [hK,kx] at h;have km:∀ k,k<K->k*sz<=n1:=λk hk=>by
   have:=OU (n:=n1) q1 (k:=k) (by omega);rw [kx] at this;exact this
  have HK:=a5 hK z h km;clear X I H E k9 V kp kf x1 Q qz cl cf d0 qv qe hK z h km ho y c;go_wp2_with fail;go_loopw [4,5,8,33] (λup uq nx i wr=>abe w v p r g A.n sz n1 f1 D L G Kind ps A F P l D1 L1 G1 t1 K up uq nx i wr) (λ_ _ _ i _=>K-(intOf i).toNat)
  case atStart=>exact ⟨0,T5 _,rfl,by rw [a.o.2.2.1],T.o⟩
  case round=>
   obtain ⟨k,y6,rfl,rfl,C⟩:=hrel;by_cases qk:k<K
   . have qj:=HK.o.2.2.2 k qk;obtain ⟨B,kr,⟨b0,gone,sp,xc⟩,⟨f0,kv⟩,⟨ps',kz⟩,hh,hO,ke⟩:=id C;rw [Wl qj] at B;have x7:k<P.length:=(by rw [a.o.2.2.2];exact qk);obtain ⟨x,M⟩:=nM (P.getD k 0);have xh:x<A.nb:=(by rw [<- M];exact a.o.1.nb _ (lY x7));rw [M];obtain ⟨pa,pc,rfl⟩:=bE B;obtain ⟨pl,J⟩:=nM (k*sz);obtain ⟨ho,y,c,_⟩:=HV.o;have qp:=ho.got hO hh kz;have q5:=ho.arc hO y;obtain ⟨ca,_⟩:=q5.cells;have cn:wr.cell? ⟨w.heap.size,5,ZX⟩=ZW (Z7 Z9 n1):=(by simp [World.cell?,ke,aj]);have qs:=kG (w:=wr.drew) (q5.keep rfl) (qp.vol.vol.keep rfl) q1 (by omega);rw [kx] at qs;obtain ⟨sk,xe⟩:=nM (min (n1-pl) sz);rw [J] at qj B ⊢;have qm:∀ Y ty w,(Builtin.min_ Y ty #[Z7 Z9 ((n1:Int)-(pl:Int)),Z7 Z9 (sz:Nat)]).run ZO w=.ok (Z7 Z9 (sk:Nat)) w:=λY ty w=>by
      rw [gy];by_cases h1:((sz:Nat):Int)<(n1:Int)-(pl:Int)
      . rw [TT h1,show sk=sz by omega]
      . rw [TS h1,show (sk:Int)=(n1:Int)-(pl:Int) by omega]
     have xq:IntKind.i64.wrap ((n1:Int)-(pl:Int))=(n1:Int)-(pl:Int):=(by rw [UB];omega);have hm:(cF D P l k).length=4+sk:=(by rw [FA,kx,J,a.o.2.1,<- xe]);have s:=qp.below ((TW _ wr).drew);have xf:qK wr.drew r v x g A.n p D L G Kind ps' A F (cF D P l k):=
      { vol:=s.vol,nN:=Z,hol:=by rw [Z];exact s.hl,kit:=s.kit,kind:=kz.kind,apt:=λj hj=>⟨(s.apt j hj).1,(s.apt j hj).2.2.1,(s.apt j hj).2.2.2⟩,vr:=by omega,vg:=by omega,rg:=xk,gF:=λe=>by have:=c _ e;omega,rF:=λe=>by have:=c _ e;omega,rK:=by omega,vK:=s.vlt.1,gK:=by omega,nb:=xh,cw:=by rw [<- M];exact a.o.1.on k x7,len:=by rw [hm];omega,fine:=s.fine,byt:=tU a.o.1.byt P k }
     have x4:=Dp xf hv.sh (xc.keep rfl) (kv.of_block rfl) hm.symm (m:=(4+sk+43)/44) rfl (by omega);have U:=a5 C kz c ky;have HR:=hide7 x4 B kr J hm M qs;clear C kz c x4 B kr J qs xf qp s q5 ho y xc kv hh hO ke hm M xh;go_upto_region 7 with fail;go_cut [10] from 35 to 42 (λv10 wx=>v10=Z7 Z9 (sk:Int)/\wx=wr.drew)
     case first=>
      go_region_with (go_at_call 117;refine HR.o.2.2.2.2.2.2.mono ?_;rintro e wq ⟨rfl,rfl⟩);all_goals (go_wp2_with fail;go_meet;case rel=>exact ⟨rfl,rfl⟩)
     case rest=>
      obtain ⟨rfl,rfl⟩:=hcut;clear ca cn qm xq;have y8:IntKind.i64.wrap ((4:Int)+(sk:Int))=(4:Int)+(sk:Int):=(by rw [UB];omega);go_wp2_with fail;rw [show (4:Int)+(sk:Int)=((4+sk:Nat):Int) by omega];refine HR.o.1.mono ?_;intro e w5 kb;have ko:=MX U.o.1 U.o.2.1 kb Z hv.re U.o.2.2.1 ky (by omega) (by omega);obtain ⟨u,rfl,x3,x5,kg⟩:=kb.ans;obtain ⟨_,k7,k5,J,W,M,_⟩:=HR.o;obtain ⟨ao,uc,hu,xg,_,qa,h7⟩:=id x3;rw [W] at hu xg h7;obtain ⟨pb,po,rfl,he⟩:=h7 (λe=>by rw [e] at W;have h0:(0:Nat)=4+sk:=W;omega);subst hu;have qx:uc=4+sk:=by
       obtain ⟨hb,n',xp⟩:=kg;injection xp with h1 h2 h3;omega
      subst qx;obtain ⟨x2,_,_,k0⟩:=ko;have xv:wr.heap.size<=pb:=x5 pb rfl;have k8:=k0 k7 pj (by decide) (by decide);have k6:=k0 k5 FB (by decide) (by decide);have yb:=x2.size;have q0:(cF D P l k).take 4=be (P.getD (k+1) 0) 4:=(by unfold cF;rw [VV (by rw [aC];exact TV _),UI (by rw [aC];exact TV _)]);have q6:(cF D P l k).drop 4=(l.drop pl).take sz:=by
       unfold cF;rw [W9 (by rw [aC];exact TV _),WM (by rw [aC];exact TV _),kx,J];rfl
      obtain ⟨x',q3⟩:=nM (P.getD (k+1) 0);rw [q3] at q0;have y9:x'<4294967296:=by
       rw [<- q3];by_cases h9:k+1<P.length
       . have:=a.o.1.nb _ (lY h9);have h8:=HK.o.2.1;omega
       . simp [T6,Vo (by omega:P.length<=k+1)]
      have qo:fL (be x' 4)=x':=lu x' 4 (by omega) (by omega);obtain ⟨page,hr⟩:=nM (cF D P l k);rw [hr] at kb q0 q6 W he;have b:cA (RpD w wr.drew w5 r v x g A.n p D L G Kind ps' A F sk pl k sz x' pb po pc pa u5 page l P _):=ak ⟨kb,k8,k6,he,W,q0,q6,by
       cases h8:(Value.slice pa pl pc).ownBlock with
       | none=>exact .inl rfl
       | some q=>
        refine .inr λe=>?_;obtain ⟨cur,hf⟩:=bz k8 h8;exact bF k6 hf (by decide) e.symm,λe=>by
       obtain ⟨cur,hf⟩:=bz k5 e;have:=(TX.1 hf).1;omega,λe=>by
       obtain ⟨cur,hf⟩:=bz k7 e;have:=(TX.1 hf).1;omega,J⟩
      have HX:=al M q3;clear kb k8 k6 he W qa q3 M x2 k0 k7 k5 J x3 h7 x5 kg xg HR q0 q6 hr;have ya:IntKind.i64.wrap (x':Int)=(x':Int):=(by rw [UB];omega);have xy:sk<=1000000:=(by omega);by_cases xx:sk=0;subst xx;rotate_left
      all_goals (
       go_wp2_with (first
        | (show wpList _ _ _ ({ dst:=ZW 57,op:=_,type:=_,pos:=_,after:=_,guard:=_ }::_) _ _;refine Yy _ rfl (Z0 54) (Z0 56) 131 rfl w.heap.size 3 ii (Z7 Z9 0) 1 8 abv xn qf qg qh rfl (by decide) u5 k (jU (P.take k)) rfl (by exact b.o.pg5.alloc _) ⟨w5.heap.size,0,ZX⟩ 1 1 _ rfl rfl (nV w5 _ _) (by intro u hu;simp at hu;subst hu;rfl) (by unfold maxLen;omega) (by omega) (by simp;omega) ?_;intro v6 w6 x9 kh xm q7;have O:=a5 x9 kh ((b.o.pk5.alloc _).kept kh b.o.bq) ((b.o.cell.alloc _).grown kh b.o.pq);have xi:=kh.size;clear x9 kh xm q7)
        | (show wpList _ _ _ ({ dst:=ZW 61,op:=_,type:=_,pos:=_,after:=_,guard:=_ }::_) _ _;(first|(refine ae _ rfl (Z0 58) (Z0 60) 39 39 rfl w.heap.size 5 ib (Z7 .u8 0) 1 1 Ul x6 ki kj kk rfl (.slice pa pl pc) pl (aH (l.take pl)) (by rfl) (by exact O.o.2.2.1) _ (by rfl) 0 ([]) (by exact Jv.src0) (by unfold maxLen;omega) (by omega) (by simp at xi;omega) ?_)|(refine ae _ rfl (Z0 58) (Z0 60) 39 39 rfl w.heap.size 5 ib (Z7 .u8 0) 1 1 Ul x6 ki kj kk rfl (.slice pa pl pc) pl (aH (l.take pl)) (by rfl) (by exact O.o.2.2.1) _ (by rfl) sk (aH (page.drop 4)) (by exact O.o.2.2.2.src b.o.len) (by unfold maxLen;omega) (by omega) (by simp at xi;omega) ?_));intro v7 w7 xa qd q8;have H7:=aE xa qd (O.o.2.2.2.grown qd b.o.pp);clear xa qd q8))
       refine (zt _ (be x' 4) w7 (H7.o.2.2.head (by omega) (by omega) b.o.pg1)).mono ?_;rintro e w8 ⟨rfl,N⟩;obtain rfl:w7=w8:=N.symm;clear N;rw [qo];go_wp2;go_roundw
       case rel=>
        obtain ⟨C,hK,c,ky⟩:=U.o;rw [b.o.mul] at C;exact ⟨k+1,by omega,by go_num,by rw [HX.o.2],MY C hK b.o.dt Z hv.re c ky (by omega) (by omega) (by rw [a.o.2.2.2];exact qk) HX.o.1 b.o.pg5 O.o.1 O.o.2.1 O.o.2.2.1 (by have h9:=H7.o.1;rw [<- b.o.pg2];first|exact h9|(rw [show page.drop 4=[] from Xb.1 (by rw [Um,b.o.len])];exact h9)) H7.o.2.1 b.o.mul xe qj⟩
       case measure=>simp [intOf];omega)
   . have xo:k=K:=(by omega);subst xo;have U:=ak C;clear C;go_wp2;go_ret3
     obtain ⟨B,kr,_,_,qi,hh,hO,_⟩:=U.o;obtain ⟨hK,z,h,_⟩:=HK.o;rw [YH h,UI (by rw [a.o.2.1];exact h)] at B;rw [UI (by rw [a.o.2.2.2];exact TV _)] at kr;refine ⟨qi,hh,hO,_,_,rfl,?_,by rw [a.o.2.2.2];exact kr⟩;rw [<- a.o.2.1] at B;exact Bs.Sa B a.o.1.byt (by rw [a.o.2.1];omega)
end
section
def pr (os:List Ob):∀ x∈ai os,x<256:=by
 intro x a;unfold ai at a;obtain ⟨o,_,a⟩:=XR.1 a;unfold bP at a;simp only [Uj] at a;rcases a with ((h|h)|h)|h
 . exact qT _ _ x h
 . unfold fG at h;rcases Uj.1 h with h|h
   . obtain ⟨b,_,rfl⟩:=T7.1 h;exact b.toNat_lt
   . rw [VJ h];decide
 . exact qT _ _ x h
 . obtain ⟨s,_,h⟩:=XR.1 h;exact qT _ _ x h
def dr (w:ZT) (ar v p:Nat) (ps:aN) (D L G t:Nat) (xs:aZ) (A:aF) (F:aQ) (Q:Int->Prop) (N:aZ->Prop) (e:ZQ) (w':ZT):Prop:=
 ∃ er t' pg ob P' xs' B,e=Z3 er/\aT w' ar v p ps D L G t' pg ob P' xs' B F/\dZ A B/\aa (λk=>k=ar\/F.S k) w w'/\((er=.nilIface/\t'=t+1/\N xs')\/(xs'=xs/\t'=t/\∃ n,er=Az n/\Q n))
def wG (D nb:Nat) (xs:aZ) (x:ByteArray) (n:Nat) (k:Int):Prop:=
 (b9 x=ZU/\k=6)\/(b9 x=ZV/\((1500<n/\k=7)\/(n<=1500/\((x∈xs.names/\k=8)\/(x∉xs.names/\nb<(af xs.os).length+mQ D n+2*AA D (ai xs.os).length n+2/\k=10)))))
def wH (D nb:Nat) (xs:aZ) (x:ByteArray) (d:a8) (xs':aZ):Prop:=
 b9 x=ZV/\d.length<=1500/\x∉xs.names/\(af xs.os).length+mQ D d.length+2*AA D (ai xs.os).length d.length+2<=nb/\∃ o:Ob,o.name=x/\xs'=xs.ins (o,d)
structure cd (w w1:ZT) (ar v p:Nat) (ps:aN) (D L G t:Nat) (pg ob:ZS) (P:a8) (xs:aZ) (A:aF) (F:aQ) (x:ByteArray) (d fr:a8) (g cnt pgn c1:Nat):Prop where
 live:aT w ar v p ps D L G t pg ob P xs A F
 tl:t<1000000
 out:aa F.S w w1
 arr:aA w1 p (A.wrTo D L G (fr.take cnt) (dA D d) cnt) F
 nm:b9 x=ZV
 no:x∉xs.names
 dl:d.length<=1500
 dx:∀ b∈d,b<256
 c:cnt=mQ D d.length
 pn:pgn=AA D (ai xs.os).length d.length
 f:fr=(aY (tk A.nb (P++af xs.os)).1 A.nb).take (cnt+pgn)
 fl:fr.length=cnt+pgn
 room:(af xs.os).length+cnt+2*pgn+2<=A.nb
 s:bg (λk=>ar<k/\¬ F.S k/\¬ ps.bl k) w1 (Z5 (ZW ⟨g,0,ZX⟩) cnt cnt) (fr.take cnt)
 q:bg (λk=>ar<k/\¬ F.S k/\¬ ps.bl k) w1 (Z5 (ZW ⟨g,cnt,ZX⟩) pgn c1) (fr.drop cnt)
section
variable {w w1:ZT} {ar v p D L G t:Nat} {ps:aN} {pg ob:ZS} {P:a8} {xs:aZ} {A:aF} {F:aQ} {x:ByteArray} {d fr:a8} {g cnt pgn c1:Nat}
def kW (x:ByteArray) (d fr:a8) (cnt:Nat):Ob:=⟨x,d.length,fr.take cnt⟩
def cd.stl (h:cd w w1 ar v p ps D L G t pg ob P xs A F x d fr g cnt pgn c1):(fr.take cnt).length=cnt:=by rw [Un,h.fl];omega
def cd.pgl (h:cd w w1 ar v p ps D L G t pg ob P xs A F x d fr g cnt pgn c1):(fr.drop cnt).length=pgn:=by rw [Um,h.fl];omega
def cd.apart (h:cd w w1 ar v p ps D L G t pg ob P xs A F x d fr g cnt pgn c1):(fr++(P++af xs.os)).Nodup/\∀ b∈fr++(P++af xs.os),2<=b/\b<A.nb:=by
 rw [h.f];exact nz h.live.disk.nod h.live.disk.Ti _
def cd.Tn (h:cd w w1 ar v p ps D L G t pg ob P xs A F x d fr g cnt pgn c1):lh D (kW x d fr cnt,d):=by
 have e:1<=x.size/\x.size<=16:=by have:=h.nm;unfold b9 at this;exact Wy this
 refine ⟨⟨e,h.dl,λb a=>?_,?_⟩,?_,rfl,h.dx⟩
 . have:=(h.apart.2 b (UL _ (UY a))).2;have:=h.live.nb;omega
 . show (fr.take cnt).length<=1000;rw [h.stl,h.c];have:=AC h.live.vol.par.d1 h.dl;omega
 . show (fr.take cnt).length=_;rw [h.stl,h.c];rfl
def cd.packed (h:cd w w1 ar v p ps D L G t pg ob P xs A F x d fr g cnt pgn c1):(ai (xs.ins (kW x d fr cnt,d)).os).length=(ai xs.os).length+(19+4*cnt):=by
 rw [IU];have e:(bP (kW x d fr cnt)).length=19+4*(fr.take cnt).length:=dh h.Tn.fit;rw [h.stl] at e;exact Uy _ e
def cd.kept (h:cd w w1 ar v p ps D L G t pg ob P xs A F x d fr g cnt pgn c1):eu (λk=>ar<k/\¬ F.S k/\¬ ps.bl k) w w1:=⟨h.out.size,λk a hK=>h.out.block k a hK.2.1⟩
def MZ (h:cd w w1 ar v p ps D L G t pg ob P xs A F x d fr g cnt pgn c1) :
 ZR ZO 103 #[ob,Z7 Z9 (aK xs.names x:Nat),.agg #[ZZ x,Z7 Z9 (d.length:Nat),Z5 (ZW ⟨g,0,ZX⟩) cnt cnt]] w1 (uJ (λk=>ar<k/\¬ F.S k/\¬ ps.bl k) w1 (xs.ins (kW x d fr cnt,d)).os):=by
 have hl:xs.os.length=xs.names.length:=by rw [<- eH,bm]
 have a:=CR (h.live.cat.keep h.kept) (by have:=h.live.Si.1;omega) (λk b=>⟨by have:=h.live.arc.lt;have:=h.out.size;omega,λe=>by have:=h.live.vol.arr.RO e;have:=h.out.size;omega,λe=>by have:=ps.lt _ h.live.kit _ e;have:=h.out.size;omega⟩) (i:=aK xs.names x) (by rw [hl];exact yF _ _) (kW x d fr cnt) _ h.s;rw [LX];exact a
def cd.n (h:cd w w1 ar v p ps D L G t pg ob P xs A F x d fr g cnt pgn c1):wH D A.nb xs x d (xs.ins (kW x d fr cnt,d)):=⟨h.nm,h.dl,h.no,by rw [<- h.c,<- h.pn];exact h.room,_,rfl,rfl⟩
theorem FC (h:cd w w1 ar v p ps D L G t pg ob P xs A F x d fr g cnt pgn c1) {w2:ZT} {u:ZS} (j:eN (λk=>ar<k/\¬ F.S k/\¬ ps.bl k) w2 u (xs.ins (kW x d fr cnt,d)).os) (l:bW w1 w2) :
 ZR ZO 85 #[Z6 (ZW ⟨ar,0,ZX⟩),u,Z5 (ZW ⟨g,cnt,ZX⟩) pgn c1] w2 (dr w ar v p ps D L G t xs A F (wG D A.nb xs x d.length) (wH D A.nb xs x d)):=by
 obtain ⟨oo,oc,rfl,hol,_⟩:=id j;have i:=h.live.vol.par;have E:=h.stl;have f:=h.pgl;have z:=Ra A D L G (fr.take cnt) (dA D d) cnt;have r:aa F.S w w2:=h.out.trans (aa.RN l _);have m:=h.live.disk;have k6:1<=pgn:=by rw [h.pn];unfold AA pgs;omega
 have Z:fr.drop cnt≠[]:=λe=>by rw [e] at f;simp at f;omega
 have U:∀ b∈fr.drop cnt,b<A.nb:=λb k0=>(h.apart.2 b (UL _ (U0 k0))).2;have M:=h.packed;have h4:=h.live.Si.1;have h5:xs.os.length=xs.length:=by simp [aZ.os]
 have V:(ai (xs.ins (kW x d fr cnt,d)).os).length<=1000000:=by
  have h2:=AC i.d1 h.dl;have h3:=jf (xs:=xs) i.d1 m.fits;have h6:1500/(D*44)<=34:=by
   have:=i.d1;have:1500/(D*44)<=1500/44:=abC (by omega) (by decide);omega
  have h7:xs.length*(19+4*(1500/(D*44)+1))<=1000*(19+4*(34+1)):=Xg (by omega) (by omega);rw [M,h.c];omega
 have N:(fr.drop cnt).length=pgs D (ai (xs.ins (kW x d fr cnt,d)).os).length:=by rw [f,h.pn,M,h.c];rfl
 have T:∀ o∈(xs.ins (kW x d fr cnt,d)).os,o.fit:=λo ho=>by
  obtain ⟨y,Y,rfl⟩:=T7.1 ho;rcases Uw.1 ((jQ xs (kW x d fr cnt,d)).mem_iff.1 Y) with e|e
  . rw [e];exact h.Tn.fit
  . exact (m.fits y e).fit
 have W:(xs.ins (kW x d fr cnt,d)).os.length<=10000:=by
  have:=(jQ xs (kW x d fr cnt,d)).length_eq;have e:(xs.ins (kW x d fr cnt,d)).os.length=(xs.ins (kW x d fr cnt,d)).length:=by simp [aZ.os]
  rw [e,this,UD];omega
 have X:aA w2 p (A.wrTo D L G (fr.take cnt) (dA D d) cnt) F:=h.arr.below l lR;have O:bg (λk=>ar<k/\¬ F.S k/\¬ ps.bl k) w2 (Z5 (ZW ⟨g,cnt,ZX⟩) pgn c1) (fr.drop cnt):=h.q.keep (eu.RM l);have H:=ny (w:=w2) (h.live.arc.keep (r.block _ h.live.arc.lt h.live.nar)) (h.live.vol.turn r X z.n) h.live.nar
  oo _ oc (ai (xs.ins (kW x d fr cnt,d)).os) (pr _) V (uz j.any T W) g cnt c1 (fr.drop cnt) (by rw [f];exact O.Tw λk a=>a.2.1) Z (by rw [z.nb];exact U) (λk a=>De i.d1 (by rw [<- N];exact a))
 rw [f] at H;have k5:nx t=t+1:=by have:=h.tl;unfold nx;omega
 refine H.mono ?_;rintro e Q ⟨s,rfl,I,K⟩;have B:aa (λk=>k=ar\/F.S k) w Q:=(r.mono λ_ _ e=>.inr e).trans s
 . have J:eu (λk=>ar<k/\¬ F.S k/\¬ ps.bl k) w2 Q:=⟨s.size,λk a hK=>s.block k a (λe=>e.elim (λq=>by have:=hK.1;omega) hK.2.1)⟩;have C:=LZ m (kW x d fr cnt,d) h.Tn h.no N (by
    show ((fr.take cnt++fr.drop cnt)++(P++af xs.os)).Nodup;rw [Wo];exact h.apart.1) (by
    show ∀ b∈(fr.take cnt++fr.drop cnt)++(P++af xs.os),2<=b/\b<A.nb;rw [Wo];exact h.apart.2) (by
    show (af xs.os).length+(fr.take cnt).length+2*(fr.drop cnt).length+2<=A.nb;rw [E,f];exact h.room)
   have R:(kW x d fr cnt,d).1.RL.length=cnt:=E;rw [R] at C;rw [k5] at I K;have a:=z.trans (AD _ D L G (t+1) (fr.drop cnt) (ai (xs.ins (kW x d fr cnt,d)).os));exact ⟨_,_,_,_,_,_,_,rfl,qI h.live K I B a (by have:=h.tl;omega) C (O.keep J) (j.keep J),a,B,.inl ⟨rfl,rfl,h.n⟩⟩
end
def M0 {ps:aN} {xs:aZ} {A:aF} (h:aT w ar v p ps D L G t pg ob P xs A F) {n cnt pgn:Nat} (k:cnt=mQ D n) (o:pgn=AA D (ai xs.os).length n) (c:(af xs.os).length+cnt+2*pgn+2<=A.nb) :
 ZR ZO 82 #[Z6 (ZW ⟨ar,0,ZX⟩),Z7 Z9 ((cnt:Int)+(pgn:Int))] w λe w'=>∃ g cap,e=Z3 (ZY #[Z5 (ZW ⟨g,0,ZX⟩) (cnt+pgn) cap,Z1 ZV])/\w'.ownsRow w.heap.size 3 1 (Z5 (ZW ⟨g,0,ZX⟩) (cnt+pgn) cap) (cnt+pgn) (jU ((aY (tk A.nb (P++af xs.os)).1 A.nb).take (cnt+pgn)))/\((aY (tk A.nb (P++af xs.os)).1 A.nb).take (cnt+pgn)).length=cnt+pgn/\cnt+pgn<=cap/\w.heap.size<=g/\g<w'.heap.size/\bW w w':=by
 have j:=E8 h.disk (count:=cnt) (pages:=pgn) (l:=19+4*mQ D n) o c;have:=h.nb;have:1<=cnt:=by rw [k];unfold mQ;omega
 have a:=lN h.arc h.vol.vol h.vol.arr h.n0 P xs.os h.pgs.any h.cat.any (cnt+pgn) (by omega);rw [UZ j,YJ] at a;have b:((aY (tk A.nb (P++af xs.os)).1 A.nb).take (cnt+pgn)).length=cnt+pgn:=by rw [Un];omega
 rw [b] at a;refine a.mono ?_;rintro e w' ⟨u,rfl,ho,d⟩;rcases ho.2 with ⟨_,q⟩|⟨g,cap,cur,rfl,f,m,i,_⟩
 . omega
 . exact ⟨g,cap,rfl,ho,b,i,f,(TX.1 m).1,d⟩
def Jw {e:TypeId} {b:ZS} (h:an w q e [a,b,c]):an (((w.setCell ⟨q,0,ZX⟩ a').setCell ⟨q,1,ZX⟩ b').setCell ⟨q,2,ZX⟩ c') q e [a',b',c']:=
 an.set h 0 [a',b',c'] (by simp)
def Jy {b:ZS} (h:Below w7.drew.heap.size w7.drew w8):∃ q,Value.pointer (ZW ⟨w8.heap.size,0,ZX⟩)=Z6 (ZW ⟨q,0,ZX⟩)/\an (w8.alloc (Z4 #[a,b,c] 137)) q 137 [a,b,c]/\w7.heap.size<=q/\bW w7 (w8.alloc (Z4 #[a,b,c] 137)):=by
 have d:bW w7 w8:=(TW _ w7).drew.trans h;exact ⟨_,rfl,UE w8 _,d.size,d.alloc d.size _⟩
def Jz {b:ZS} (h:Below (w7.drew.alloc (Z4 #[a',b',c'] 137)).heap.size (w7.drew.alloc (Z4 #[a',b',c'] 137)) w8) (f:an w8 w7.heap.size 137 [a',b',c']):∃ q,Value.pointer (ZW ⟨w7.heap.size,0,ZX⟩)=Z6 (ZW ⟨q,0,ZX⟩)/\an (((w8.setCell ⟨w7.heap.size,0,ZX⟩ a).setCell ⟨w7.heap.size,1,ZX⟩ b).setCell ⟨w7.heap.size,2,ZX⟩ c) q 137 [a,b,c]/\w7.heap.size<=q/\bW w7 (((w8.setCell ⟨w7.heap.size,0,ZX⟩ a).setCell ⟨w7.heap.size,1,ZX⟩ b).setCell ⟨w7.heap.size,2,ZX⟩ c):=by
 have d:bW w7 (w7.drew.alloc (Z4 #[a',b',c'] 137)):=(TW _ w7).drew.alloc lR _;have e:bW w7 w8:=d.trans (h.mono d.size);refine ⟨_,rfl,Jw f,TV _,?_⟩;exact Xo (p:=⟨w7.heap.size,2,ZX⟩) (Xo (p:=⟨w7.heap.size,1,ZX⟩) (Xo (p:=⟨w7.heap.size,0,ZX⟩) e lR a) lR b) lR c
theorem OY {ps:aN} {xs:aZ} {A:aF} (h:aT w ar v p ps D L G t pg ob P xs A F) (kx:t<1000000) (x:ByteArray) (ao:Option Addr) (c:Nat) (d:a8) (hd:∀ w',aa F.S w w'->Bs w' (.slice ao d.length c) d) (ki:d.length<=c) :
 ZR ZO 70 #[Z6 (ZW ⟨ar,0,ZX⟩),ZZ x,.slice ao d.length c] w (dr w ar v p ps D L G t xs A F (wG D A.nb xs x d.length) (wH D A.nb xs x d)):=by
 obtain ⟨n,b⟩:=nM (d.length);rw [b];have ks:∀ w' j,bW w w'->wG D A.nb xs x n j->dr w ar v p ps D L G t xs A F (wG D A.nb xs x n) (wH D A.nb xs x d) (Z3 (Az j)) w':=λw' j hb hq=>⟨_,_,_,_,_,_,_,rfl,h.below hb,dZ.refl A,aa.RN hb _,.inr ⟨rfl,rfl,j,rfl,hq⟩⟩;have J:=a6 hd b ki kx ks;clear hd b ki kx ks;obtain ⟨_,_,_,_,c8⟩:=h.arc.cells;have q6:=h.find x;obtain ⟨k,m⟩:=nM (aK xs.names x);obtain ⟨i,B⟩:=nM (mP xs.os x);rw [m,B] at q6;have kr:=al m B;have E:=ak h;clear m B h;go_enter func70,ntmps70;go_wp2_with fail;refine q6.mono ?_;rintro e w1 ⟨rfl,hb⟩;have H:=ak hb;clear hb q6 c8;go_wp2_with fail;refine (jR x w1).mono ?_;rintro e w2 ⟨rfl,rfl⟩;cases hx:b9 x
 . dsimp only;go_wp2;go_ret;exact J.o.2.2.2.2 _ 6 H.o (.inl ⟨hx,rfl⟩)
 by_cases V:1500<n
 . have qy:(1500:Int)<(n:Int):=(by omega);dsimp only;go_wp2;go_ret;exact J.o.2.2.2.2 _ 7 H.o (.inr ⟨hx,.inl ⟨V,rfl⟩⟩)
 have qy:¬ (1500:Int)<(n:Int):=by omega
 replace V:n<=1500:=by omega
 by_cases U:x∈xs.names
 . have B:=E.o.there U;rw [kr.out.2] at B;subst B;have HM:=ak U;clear U kr;dsimp only;go_wp2;go_ret;exact J.o.2.2.2.2 _ 8 H.o (.inr ⟨hx,.inr ⟨V,.inl ⟨HM.o,rfl⟩⟩⟩)
 have B:=E.o.Sm U;rw [kr.out.2] at B;subst B;have HM:=ak U;clear U;have q5:=E.o.vol.par.d1;have qv:=E.o.vol.par.d;have qx:=E.o.packL_le;have qs:=AC q5 V;have qg:AA D (ai xs.os).length n<=1000000:=Q8 q5 (by omega);have qp:=E.o.Si.2.1;obtain ⟨len,hz⟩:=nM ((ai xs.os).length);obtain ⟨cnt,hh⟩:=nM (mQ D n);obtain ⟨pgn,k0⟩:=nM (AA D len n);rw [hz] at qg qx;rw [k0] at qg;rw [hh] at qs;have a:=a5 E.o hh k0 hz;clear hz hh k0 E;dsimp only;have Z:=a.o.1.below H.o;obtain ⟨d0,_,d6,_,_⟩:=Z.arc.cells;rw [a.o.2.2.2] at d6;have qb:=dF Z.vol.vol (by omega);obtain ⟨q,hq⟩:=nM (D*44);rw [hq] at qb;have qa:=m6 n q (by omega) ⟨by omega,by omega⟩ w2;have qf:max 1 ((n+q-1)/q)=cnt:=by rw [<- a.o.2.1,<- hq];rfl
 rw [qf] at qa;have q8:=λW=>fZ cnt (by omega) W;obtain ⟨pk,k5⟩:=nM (19+4*cnt);have qh:∀ W,W.heap=w2.heap->ZR ZO 83 #[Z6 (ZW ⟨ar,0,ZX⟩),Z7 Z9 ((len:Int)+(pk:Int))] W λe w'=>e=Z3 (Z7 Z9 (pgn:Nat))/\w'=W:=λW hW=>by
  have:=jb (w:=W) (Z.arc.keep (by rw [hW])) (Z.vol.vol.keep (by rw [hW])) q5 (by omega) (len+(19+4*cnt)) (by omega);have e:YI D (len+(19+4*cnt))=pgn:=by rw [<- a.o.2.2.1,<- a.o.2.1];rfl
  rw [e,k5,YJ] at this;exact this
 rw [k5] at q8;have x4:pk<=200:=by omega
 have x7:IntKind.i64.wrap ((len:Int)+(pk:Int))=(len:Int)+(pk:Int):=by rw [UB];omega
 have HP:=aE Z q8 qh;clear Z q8 qh qf hq k5;go_wp2_with fail;refine qb.mono ?_;rintro e w3 ⟨rfl,rfl⟩;clear qb;go_wp2_with fail;refine qa.mono ?_;rintro e w4 ⟨rfl,rfl⟩;clear qa;go_wp2_with fail;go_quiet (first|(go_at_call 99;refine abD (HP.o.2.1 _))|(go_at_call 83;refine abD (HP.o.2.2 _ rfl)));have q2:bW w4 (w4.drewN nq):=⟨rfl,rfl,rfl,TV _,λ_ _=>rfl⟩;have O:=HP.o.1.below q2;have kv:=Cf O.arc O.vol.vol O.vol.arr O.n0 xs.os O.cat.any (by omega) cnt pgn (by omega) (by omega);have I:=al O (H.o.trans (q2.mono H.o.size));clear q2 O d0 d6;obtain ⟨w5,qo⟩:=nM (w4.drewN nq);rw [qo] at kv I ⊢;clear qo;go_wp2_with fail;refine kv.mono ?_;rintro e w6 ⟨rfl,kg⟩;by_cases M:(af xs.os).length+cnt+2*pgn+2<=A.nb;rotate_left
 . rw [Vu M];have r:=al M (I.o.2.trans (kg.mono I.o.2.size));clear kg kv I M;dsimp only;go_wp2;go_ret;exact J.o.2.2.2.2 _ 10 r.out.2 (.inr ⟨hx,.inr ⟨V,.inr ⟨HM.o,by have h1:=r.out.1;have h2:=a.o.2.1;have h3:=a.o.2.2.1;rw [<- a.o.2.2.2] at h3;rw [h2,h3];omega,rfl⟩⟩⟩)
 rw [UZ M];have q7:=I.o.1.below kg;have qn:=M0 q7 (n:=n) (cnt:=cnt) (pgn:=pgn) a.o.2.1.symm (by rw [a.o.2.2.2];exact a.o.2.2.1.symm) M;have kz:=ak M;clear M;have r:=al q7 (I.o.2.trans (kg.mono I.o.2.size));clear kg kv I q7;dsimp only;have x8:IntKind.i64.wrap ((cnt:Int)+(pgn:Int))=(cnt:Int)+(pgn:Int):=by rw [UB];omega
 go_wp2_with fail;refine qn.mono ?_;rintro e w7 ⟨g,cap,rfl,ka,f,qq,ko,kp,X⟩;have HT:=a7 ka f ko kp X (r.out.1.below X);clear qn ka f ko kp X;have k1:cnt<=cap:=by omega
 have k3:(cnt:Int)<=(cap:Int):=by omega
 dsimp only;go_upto_region 15 with fail;have qz:1<=x.size/\x.size<=16:=by have:=hx;unfold b9 at this;exact Wy this
 have qk:=uI x w7.drew (by omega) (by omega);have qm:=uI x (w7.drew.alloc (Z4 #[.string ⟨#[]⟩,Z7 Z9 0,Z5 ZX 0 0] 137)) (by omega) (by omega);have qe:an (w7.drew.alloc (Z4 #[.string ⟨#[]⟩,Z7 Z9 0,Z5 ZX 0 0] 137)) w7.heap.size 137 [.string ⟨#[]⟩,Z7 Z9 0,Z5 ZX 0 0]:=UE w7.drew _;have HS:=aE qk qm qe;clear qk qm qe qz;go_cut [13] from 72 to 80 (λqr wx=>∃ q,qr=Z6 (ZW ⟨q,0,ZX⟩)/\an wx q 137 [ZZ x,Z7 Z9 (n:Nat),Z5 (ZW ⟨g,0,ZX⟩) cnt cnt]/\w7.heap.size<=q/\bW w7 wx)
 case first=>
  go_region_with (first
   | (go_at_call 101;refine HS.o.1.mono ?_;rintro e w8 ⟨rfl,Y⟩;have H8:=ak Y;clear Y)
   | (go_at_call 101;refine HS.o.2.1.mono ?_;rintro e w8 ⟨rfl,Y⟩;have K:an w8 w7.heap.size 137 [.string ⟨#[]⟩,Z7 Z9 0,Z5 ZX 0 0]:=HS.o.2.2.keep (Y.block _ HS.o.2.2.lt);have z0:=K.cell (j:=0) (u:=.string ⟨#[]⟩) rfl;have z1:=K.cell (j:=1) (u:=Z7 Z9 0) rfl;have z2:=K.cell (j:=2) (u:=Z5 ZX 0 0) rfl;have y0:=K.R3 0;have y1:=K.R3 1;have y2:=K.R3 2;have H9:=al Y K;clear Y K))
  all_goals first
   | (go_wp2_with fail;go_meet;case rel=>exact Jy H8.o)
   | (go_wp2_with fail;go_meet;case rel=>exact Jz H9.o.1 H9.o.2)
 case rest=>
  obtain ⟨q,rfl,s,x5,kh⟩:=hcut;have x0:=s.cell (j:=0) (u:=ZZ x) rfl;have x1:=s.cell (j:=1) (u:=Z7 Z9 (n:Nat)) rfl;have x2:=s.cell (j:=2) (u:=Z5 (ZW ⟨g,0,ZX⟩) cnt cnt) rfl;obtain ⟨fr,N⟩:=nM ((aY (tk A.nb (P++af xs.os)).1 A.nb).take (cnt+pgn));rw [N] at HT;obtain ⟨ka,f,ko,kp,X,Q⟩:=HT.o;have l:=Q.below kh;have hg:bW w w7:=r.out.2.trans (X.mono r.out.2.size);have T:bW w wc:=hg.trans (kh.mono hg.size);have hp:ar<g/\¬ F.S g/\¬ ps.bl g:=⟨by have:=r.out.1.arc.lt;omega,λe=>by have:=r.out.1.vol.arr.RO e;omega,λe=>by have:=ps.lt _ r.out.1.kit _ e;omega⟩;have km:¬ F.S q:=λe=>by have:=Q.vol.arr.RO e;omega
  have x6:=Q.nb;have q9:∀ c1,bg (λk=>ar<k/\¬ F.S k/\¬ ps.bl k) wc (Z5 (ZW ⟨g,0,ZX⟩) cnt c1) (fr.take cnt):=λc1=>(yQ ka f hp (by have:=kz.out;omega)).keep (eu.RM kh);have kk:∀ c1,bg (λk=>ar<k/\¬ F.S k/\¬ ps.bl k) wc (Z5 (ZW ⟨g,cnt,ZX⟩) pgn c1) (fr.drop cnt):=λc1=>(Ji ka f hp (by have:=kz.out;omega)).keep (eu.RM kh);have k6:(fr.take cnt).length=cnt:=by rw [Un,f];omega
  have q1:=nz Q.disk.nod Q.disk.Ti (cnt+pgn);rw [N] at q1;have hr:=Q.vol.par;obtain ⟨hd,b,ki,kx,ks⟩:=J.o;have ky:=rW l.arc l.vol l.nar x _ (fr.take cnt) ((q9 cnt).Tw λk m=>m.2.1) (λy hy=>(q1.2 y (UL _ (UY hy))).2) ao c d (λw' hO=>hd w' ((aa.RN T _).trans hO)) (by omega) ki (λk m=>by
   rw [k6,<- a.o.2.1] at m;rw [b];exact Df hr.d1 m)
  unfold EC at ky;rw [k6,b] at ky;have H9:=hide9 l T s km q9 kk f N b;have x3:1<=pgn:=by rw [<- a.o.2.2.1];unfold AA pgs;omega
  clear s kh ka f ko kp X Q l hg T hp km q9 kk k6 q1 hr hd b ki kx ks N HT HS HP H x5;go_wp2_with fail;refine ky.mono ?_;rintro e C ⟨rfl,kb,R⟩;obtain ⟨l,T,s,km,qj,qi,f,N,b⟩:=H9.o;have hc:an C q 137 _:=s.keep (R.block _ s.lt km);have xd:=hc.cell (j:=0) (u:=ZZ x) rfl;have xe:=hc.cell (j:=1) (u:=Z7 Z9 (n:Nat)) rfl;have xf:=hc.cell (j:=2) (u:=Z5 (ZW ⟨g,0,ZX⟩) cnt cnt) rfl;have ke:=l.arc.keep (R.block _ l.arc.lt l.nar);obtain ⟨_,_,_,_,y8⟩:=ke.cells;have qd:aa (F.S) w C.drew:=(aa.RN T _).trans (R.trans (aa.drew _));have q0:eu (λk=>ar<k/\¬ F.S k/\¬ ps.bl k) wc C.drew:=⟨R.size,λk m hK=>R.block k m hK.2.1⟩;have q4:∀ z∈d,z<256:=by obtain ⟨_,_,_,_,_,q3,_⟩:=J.o.1 w (aa.refl _ _);exact q3
  have h4:cd w C.drew ar v p ps D L G t pg ob P xs A F x d fr g cnt pgn (cap-cnt):=⟨a.o.1,J.o.2.2.2.1,qd,kb.keep λ_ _=>rfl,hx,HM.o,by rw [b];exact V,q4,by rw [b];exact a.o.2.1.symm,by rw [b,a.o.2.2.2];exact a.o.2.2.1.symm,N.symm,f,kz.out,(qj _).keep q0,(qi _).keep q0⟩;have qc:=MZ h4;rw [b,kr.out.1] at qc;have HR:=al qc h4;clear qc h4 hc qd q0 l T s km qj qi f N b kb R ky x0 x1 x2 ke;have k4:¬ cap=cnt:=by omega
  go_wp2_with fail;go_region_with (first
   | (go_at_call 103;refine HR.o.1.mono ?_;rintro e xb ⟨u,rfl,kc,kf⟩;have HC:=ak (FC HR.o.2 kc kf);clear kc kf)
   | (go_at_call 85;refine HC.o.mono ?_;rintro e xc ⟨er,t',xa,x9,P',xs',B',rfl,kj⟩;have HF:=ak kj;clear kj))
  all_goals (
   rw [J.o.2.1] at HF;go_wp2;go_ret;exact ⟨_,_,_,_,_,_,_,rfl,HF.o⟩)
end
def JA {n:Nat} (h:w.ownsRow base 3 1 u n (jU l)) (hll:l.length<=1000000) {K:Nat->Prop} (hK:∀ k,u.ownBlock=ZW k->K k):bg K w u l:=by
 have e:n=l.length:=by have:=h.1;unfold jU at this;rw [T9,We] at this;omega
 rcases h.2 with ⟨c,j⟩|⟨g,cap,cur,a,f,b,_⟩
 . have:l=[]:=UX (by omega);subst this;rw [c];exact ⟨ZX,0,rfl,T5 _,λh=>absurd rfl h⟩
 . refine ⟨ZW ⟨g,0,ZX⟩,cap,by rw [a,e],hll,λ_=>⟨g,0,rfl,hK g (by rw [a];rfl),⟨_,_,_,b,by decide⟩,λi d=>?_⟩⟩;have:=h.cells (g:=g) (by rw [a];rfl) i (Z7 Z9 ((l[i]:Nat):Int)) (by unfold jU;simp [d]);rw [jC] at this;rw [Ui];exact this
structure OZ (w:ZT) (ar v p D L G t:Nat) (Kind:aN->Prop) (ps:aN) (P:a8) (xs:aZ) (A:aF) (F:aQ) (e:ZQ) (w':ZT):Prop where
 out:aa (λj=>F.S j\/j=v\/ps.bl j\/j=ar) w w'
 ans:∃ ps' pg ob,e=Z3 .nilIface/\(Kind ps'/\∀ k,ps'.bl k->ps.bl k\/w.heap.size<=k)/\aT w' ar v p ps' D L G t pg ob P xs A F
def aaM {A:aF} {xs:aZ} (h:cM A D L G t P xs):PE A D L G P (ai xs.os):=⟨h.page,h.pl,λx a=>(h.Ti x (UL _ a)).2,by have:=h.room;omega,pr _⟩
theorem rX {Kind:aN->Prop} {ps:aN} {xs:aZ} {A:aF} (ho:mS w ar v p ps D L G A F) (K:bf w ar v D' L' G' t f nn pg ob ZU) (hv:vG D L G Kind ps) (q2:A.nb<=1000) (qg:t1<=1000000) (g:cM A D L G t1 P xs) :
 ZR ZO 133 #[Z6 (ZW ⟨ar,0,ZX⟩),.agg (aj D L G t1 (P.getD 0 0) (ai xs.os).length)] w (OZ w ar v p D L G t1 Kind ps P xs A F):=by
 have N:∀ k,F.S k->k<w.heap.size:=λk c=>ho.vol.arr.RO c;have qa:=ho.arl;have qb:=ho.vol.par.d1;have qd:=ho.vol.par.d;have hP:=aaM g;have km:=vh g.fits;have kc:=g.room;have hU:Dj D (ai xs.os) xs.os:=AI D ⟨qb,by omega⟩ (λo ho=>by obtain ⟨x,hx,rfl⟩:=T7.1 ho;exact (g.fits x hx).fit) (λo ho=>by obtain ⟨x,hx,rfl⟩:=T7.1 ho;exact (g.fits x hx).st) (Ai (by rw [eH];exact g.up)) (by omega);have ke:(tk A.nb (P++af xs.os)).2=ZV:=(Lw g.nod g.Ti).1;obtain ⟨f1,k9⟩:=nM (P.getD 0 0);obtain ⟨n1,ka⟩:=nM ((ai xs.os).length);have Y:(w.alloc (Z4 (aj D L G t1 f1 n1) 130)).heap[w.heap.size]?=ZW (Z4 (aj D L G t1 f1 n1) 130 (0,0)):=Ug _ _;have z:bW w (w.alloc (Z4 (aj D L G t1 f1 n1) 130)):=bA w _;have ki:(w.alloc (Z4 (aj D L G t1 f1 n1) 130)).heap.size=w.heap.size+1:=by simp
 obtain ⟨w1,kx⟩:=nM (w.alloc (Z4 (aj D L G t1 f1 n1) 130));rw [kx] at Y z ki;have X:=K.keep (z.block _ K.lt);have R:=ho.below z;have kp:=wF (D1:=D) (L1:=L) (G1:=G) (t1:=t1) R X hv q2 hP;rw [k9,ka] at kp ⊢;have H1:=a7 X R Y z ki kp;have qh:w.alloc (Z4 #[Z7 Z9 D,Z7 Z9 L,Z7 Z9 G,Z7 Z8 t1,Z7 Z9 f1,Z7 Z9 n1] 130)=w1:=kx;have H:=hide8 ho K N g hU ke k9 ka;clear ho K Y z X R ki kx kp N g hU ke k9 ka hP km kc;show ZR ZO 133 #[Z6 (ZW ⟨ar,0,ZX⟩),.agg #[Z7 Z9 D,Z7 Z9 L,Z7 Z9 G,Z7 Z8 t1,Z7 Z9 f1,Z7 Z9 n1]] w _;go_enter func133,ntmps133;go_wp2_with (show wpList _ _ _ ({ dst:=ZW 14,op:=_,type:=_,pos:=_,after:=_,guard:=_ }::_) _ _;refine kO (D:=D) (L:=L) (G:=G) (t:=t1) (f:=f1) (n:=n1) (b:=w.heap.size) rfl (Z0 3) rfl rfl (by rfl) (by exact H1.o.2.2.1) ?_);refine H1.o.2.2.2.2.2.mono ?_;intro e w2 u;obtain ⟨X,R,Y,z,ki,hx⟩:=H1.o;clear hx;have k7:=u.arr;obtain ⟨ps',r⟩:=u.kit;have i:=R.got u.out k7 r;have y:=R.arc u.out X;have q1:aa (λj=>F.S j\/j=v\/ps.bl j) w w2:=(aa.RN z _).trans u.out;have I:aa (λj=>F.S j\/j=v\/ps.bl j\/j=ar) w w2:=q1.mono λj _ q=>by
  rcases q with q|q|q
  . exact .inl q
  . exact .inr (.inl q)
  . exact .inr (.inr (.inl q))
 obtain ⟨up,uq,rfl,kk,m⟩:=u.ans;have E:w2.heap[w.heap.size]?=ZW (Z4 (aj D L G t1 f1 n1) 130 (0,0)):=(u.out.block _ (by omega) (λq=>by
  rcases q with q|q|q
  . have:=H.o.2.2.1 _ q;omega
  . have:=H.o.1.vol.vol.lt;omega
  . have:=ps.lt _ H.o.1.kit _ q;omega)).trans Y
 obtain ⟨d0,_⟩:=y.cells;have kr:=dF i.vol.vol (by omega);have ks:=H.o.2.2.2.2.1 w2 up kk;obtain ⟨hb,hj⟩:=nM (D*44);rw [hj] at kr ks;have qm:=u.out.size;obtain ⟨qn,uc,kf,_⟩:=id kk;rw [H.o.2.2.2.2.2.2.2] at kf;obtain ⟨l,qc,kg⟩:=bE m;obtain ⟨KP,O⟩:=nM (P.length);rw [O] at kg;have Z:=hide10 y i E kr ks m I r O hj;clear X R Y z u y i E kr ks q1 I k7 r O m kk;subst kf;subst kg;go_wp2_with fail;refine Z.o.2.2.2.1.mono ?_;rintro e U ⟨rfl,q7⟩;obtain rfl:w2=U:=q7.symm;clear q7;go_wp2_with fail;refine Z.o.2.2.2.2.1.mono ?_;rintro e U ⟨o,rfl,W,s⟩;obtain ⟨y,i,E,kz,q0,m,I,r,O,hj⟩:=Z.o;clear kz q0;have kj:=y.keep (s.block _ y.lt);have a:=i.below s;have k6:aa (λj=>F.S j\/j=v\/ps.bl j\/j=ar) w U:=I.trans (aa.RN s _);obtain ⟨B,oc,q4,_⟩:=id W;have k8:=(s.block _ (TX.1 E).1).trans E;have q5:=kj.there;have Q:=Cd (D:=D) (L:=L) (G:=G) (t:=t1) (f:=f1) (n:=n1) kj;have V:aa (λk=>k=ar) U (U.setCells ar 1 (aj D L G t1 f1 n1).toList):=aa.setCells _ ar 1 _ rfl;obtain ⟨w8,ky⟩:=nM (U.setCells ar 1 (aj D L G t1 f1 n1).toList);rw [ky] at Q V;obtain ⟨c7,f7,c8,f8⟩:=Q.tail;have qj:=s.size;have H3:=hide9 Q V q5 k8 ky k6 W a s;clear y i E m I r O kj a k8 k6 q5 Q V ky W s d0;obtain ⟨no,q3⟩:=nM (xs.os.length);rw [q3] at q4;clear q3;subst q4;go_wp2_with (first|(show wpList _ _ _ ({ dst:=ZW 38,op:=_,type:=_,pos:=_,after:=_,guard:=_ }::_) _ _;refine kO (D:=D) (L:=L) (G:=G) (t:=t1) (f:=f1) (n:=n1) (b:=w.heap.size) rfl (Z0 3) rfl rfl (by rfl) (by exact H3.o.2.2.2.1) ?_)|(show wpList _ _ _ ({ dst:=ZX,op:=Op.store 130 (Z0 42) (Z0 38),type:=_,pos:=_,after:=_,guard:=_ }::_) _ _;refine wpList_store_mid rfl 130 (Z0 42) (Z0 38) rfl ar 1 (aj D L G t1 f1 n1) (by rfl) (by rfl) (by exact H3.o.2.2.1) (kN _ _ _ _ _ _) (pW _ _ _ _ _ _) ?_;rw [H3.o.2.2.2.2.1]));obtain ⟨Q,V,kz,q0,qi,k6,W,a,s⟩:=H3.o;clear kz q0 qi;obtain ⟨y,i,E,_,_,m,I,r,O,hj⟩:=Z.o;obtain ⟨ho,K,N,g,_,ke,_⟩:=H.o;have M:=Q.late (.slice l KP qc) (.slice B no oc);have h:aa (λk=>k=ar) U ((w8.setCell ⟨ar,7,ZX⟩ (.slice l KP qc)).setCell ⟨ar,8,ZX⟩ (.slice B no oc)):=(V.trans (aa.setCell _ _ _ rfl)).trans (aa.setCell _ _ _ rfl);obtain ⟨w9,q6⟩:=nM ((w8.setCell ⟨ar,7,ZX⟩ (.slice l KP qc)).setCell ⟨ar,8,ZX⟩ (.slice B no oc));rw [q6] at M h ⊢;have kv:v≠ar:=by have:=ho.vlt;omega
 have T:mS w9 ar v p ps' D L G A F:=by
  have qk:=a.vlt;exact { a with vol:={ a.vol with vol:=a.vol.vol.keep (h.block _ a.vol.vol.lt kv),arr:=a.vol.arr.keep λk c=>h.block k (a.vol.arr.RO c) (λe=>a.nar (e▸c)),laid:=a.vol.laid.keep (h.block _ a.vol.laid.lt (by omega)),tab:=a.vol.tab.keep (h.block _ a.vol.tab.lt (by omega)),room:=TU a.vol.room h.size },arl:=TZ a.arl h.size,kit:=ps'.keep _ _ a.kit λk c=>h.block k (ps'.lt _ a.kit k c) (a.apt k c).2.1 }
 have kb:bg (λk=>w.heap.size<k/\¬ ps'.bl k) w2 (.slice l KP qc) P:=JA m (by have:=g.room;omega) (λk c=>⟨by have:=eh m c;omega,by obtain ⟨cur,hc⟩:=bz m c;exact bZ i.kit hc FB⟩);have hf:bg (λk=>w.heap.size<k/\¬ ps'.bl k) w9 (.slice l KP qc) P:=kb.keep ⟨TU qj h.size,λk c qf=>(h.block k (by omega) (λe=>by omega)).trans (s.block k c)⟩;have h6:eN (λk=>w2.heap.size<=k) w9 (.slice B no oc) xs.os:=W.keep ⟨h.size,λk c qf=>h.block k c (λe=>by omega)⟩;have kh:aa (λj=>F.S j\/j=v\/ps.bl j\/j=ar) w w9:=k6.trans (h.mono λ_ _ q=>.inr (.inr (.inr q)));have hz:=xO M T.vol.vol T.vol.arr (by have:=T.vol.n;omega) P xs.os hf.ltS h6.ltS;rw [ke] at hz;have H9:=a7 hz M T hf h6 kh;clear Q V k6 W a s M h q6 T hf h6 kh hz c7 f7 c8 f8 y i E m I r O ho K N kb g ke;refine H9.o.1.mono ?_;rintro e qo ⟨gt,rfl,qe,ko,C⟩;have q8:=ak C;clear C ko qe;obtain ⟨NB,q9⟩:=nM (A.nb);rw [q9];go_wp2;go_ret;obtain ⟨_,M,T,hf,h6,kh⟩:=H9.o;obtain ⟨_,i,_,_,_,_,_,r,_⟩:=Z.o;obtain ⟨ho,K,N,g,_,_,k9,ka⟩:=H.o;have C:=q8.out;have J:=T.below C;have z:=H1.o.2.2.2.2.1;refine ⟨kh.trans (aa.RN C _),⟨ps',_,_,rfl,⟨r.kind,λk c=>(r.bl k c).imp id λq=>by omega⟩,{ arc:=by rw [k9,ka];exact M.keep (C.block _ M.lt),vol:=J.vol,nar:=J.nar,vlt:=J.vlt,disk:=g,pgs:=(hf.keep (eu.RM C)).wk λk c _=>⟨by omega,λe=>by have:=N k e;omega,c.2⟩,cat:=(h6.keep (eu.RM C)).wk λk c _=>⟨by omega,λe=>by have:=N k e;omega,λe=>by have:=ps'.lt _ i.kit _ e;omega⟩,nb:=q2,turn:=qg,kit:=J.kit,apt:=J.apt,hl:=J.hl,fine:=J.fine }⟩⟩
structure FD (w:ZT) (ar v p D L G t:Nat) (Kind:aN->Prop) (ps:aN) (xs:aZ) (A:aF) (F:aQ) (e:ZQ) (w':ZT):Prop where
 out:aa (λj=>F.S j\/j=v\/ps.bl j\/j=ar) w w'
 ans:∃ ps' pg ob P B,e=Z3 .nilIface/\(Kind ps'/\∀ k,ps'.bl k->ps.bl k\/w.heap.size<=k)/\dZ A B/\aT w' ar v p ps' D L G t pg ob P xs B F
def mL {n:Nat} (h:bf w ar v D L G t f n pg ob off):w.cell? ⟨ar,0,ZX⟩=ZW (Z6 (ZW ⟨v,0,ZX⟩)):=h.cells.1
def GR (h:bt w v p D L G ps ho):w.cell? ⟨v,5,ZX⟩=ZW (Z7 Z8 ho)/\w.frozen? ⟨v,5,ZX⟩=ZU:=by
 have a:w.heap[v]?=ZW (Z4 #[Z6 (ZW ⟨p,0,ZX⟩),Z7 Z9 D,Z7 Z9 L,Z7 Z9 G,Z6 (ZW ⟨ps,0,ZX⟩),Z7 Z8 ho] 144 (0,0)):=h;simp [World.cell?,World.frozen?,a]
def aaN (h:bt w v p D L G ps ho) (x:Nat):bt (w.setCell ⟨v,5,ZX⟩ (Z7 Z8 x)) v p D L G ps x:=ag (j:=5) h (Z7 Z8 x)
def mS.SD {ps:aN} {A:aF} (h:mS w ar v p ps D L G A F):mS (w.setCell ⟨v,5,ZX⟩ (Z7 Z8 (0:Nat))) ar v p (ps.SD 0) D L G A F:=by
 have:=h.vlt;have a:aa (λk=>k=v) w (w.setCell ⟨v,5,ZX⟩ (Z7 Z8 (0:Nat))):=aa.setCell _ _ _ rfl;exact { h with vol:={ h.vol with vol:=aaN h.vol.vol 0,arr:=h.vol.arr.keep λk b=>a.block k (h.vol.arr.RO b) (λe=>h.vol.v (e▸b)),laid:=h.vol.laid.keep (a.block _ h.vol.laid.lt (by omega)),tab:=h.vol.tab.keep (a.block _ h.vol.tab.lt (by omega)),room:=TU h.vol.room a.size },arl:=TZ h.arl a.size,kit:=ps.keep _ _ h.kit λk b=>a.block k (ps.lt _ h.kit k b) (h.apt k b).2.2.1,hl:=Vz _ }
def mS.same {ps:aN} {A:aF} (h:mS w ar v p ps D L G A F) (a:aa F.S w w') (c:aA w' p A F):mS w' ar v p ps D L G A F:=
 { h with vol:=h.vol.turn a c rfl,arl:=TZ h.arl a.size,kit:=ps.keep _ _ h.kit λk b=>a.block k (ps.lt _ h.kit k b) (h.apt k b).2.2.2 }
theorem AK {A:aF} {r:bw} (h:A.at b (λ_=>r)) {i:Nat} (a:i<A.n):A.R9 i b=ZX\/A.R9 i b=ZW r:=by
 rw [Ap,h i a];split
 . exact .inl rfl
 . exact .inr rfl
def vI:∀ k,(∀ i,i<k->sJ (R i)=ZU)->dP R k=0
 | 0,_=>rfl
 | k+1,h=>by
  show Fk (dP R k) k (R k)=0;rw [GK (h k (by omega)),vI k λi a=>h i (by omega)]
theorem FE {A:aF} {xs:aZ} (h:cM A D L G t P xs) (ds:a8) (a:∀ i∈ds,i<A.n):cM (A.putAt ds 0 (λ_=>.root D L G t (P.getD 0 0) (ai xs.os).length)) D L G t P xs/\dZ A (A.putAt ds 0 (λ_=>.root D L G t (P.getD 0 0) (ai xs.os).length)):=by
 refine ⟨h.off rfl rfl λb _ i=>?_,dZ.put _ _ _ _⟩;show (if b=0/\i∈ds then _ else _)=_;split
 . rename_i q
   rw [q.1];exact (h.root i (a i q.2)).symm
 . rfl
def vJ {S:Nat} (h:S<2^N) {i:Nat} (b:i∈ab S):i<N:=by
 by_cases q:i<N
 . exact q
 . have a:=(cW.1 b).2;rw [Xk (TZ h (U8 (by decide) (by omega)))] at a;cases a
theorem FF {Kind:aN->Prop} {ps:aN} {xs:aZ} {A:aF} (ho:mS w ar v p ps D L G A F) (C:bf w ar v D' L' G' t f nn pg ob ZU) (hv:vG D L G Kind ps) (q8:A.nb<=1000) (qa:t1<=1000000) (h:cM A D L G t1 P xs) (c:w.rowIs g 223 A.n (λi=>gD (A.R9 i 0))) (N:¬ F.S g) :
 ZR ZO 94 #[Z6 (ZW ⟨ar,0,ZX⟩),.agg (aj D L G t1 (P.getD 0 0) (ai xs.os).length),Z5 (ZW ⟨g,0,ZX⟩) A.n A.n] w (FD w ar v p D L G t1 Kind ps xs A F):=by
 have K:∀ k,F.S k->k<w.heap.size:=λk hk=>ho.vol.arr.RO hk;have q3:=ho.arl;have q5:=ho.vol.par.d;have kk:A.n<=16:=by rw [ho.vol.n];exact ho.vol.par.s
 have q9:2<=A.nb:=by have:=h.room;omega
 obtain ⟨f1,x⟩:=nM (P.getD 0 0);obtain ⟨n1,z⟩:=nM ((ai xs.os).length);rw [x,z];have M:(w.alloc (Z4 (aj D L G t1 f1 n1) 130)).heap[w.heap.size]?=ZW (Z4 (aj D L G t1 f1 n1) 130 (0,0)):=Ug _ _;have u:bW w (w.alloc (Z4 (aj D L G t1 f1 n1) 130)):=bA w _;have k6:(w.alloc (Z4 (aj D L G t1 f1 n1) 130)).heap.size=w.heap.size+1:=by simp
 obtain ⟨w1,ko⟩:=nM (w.alloc (Z4 (aj D L G t1 f1 n1) 130));rw [ko] at M u k6;have J:=C.keep (u.block _ C.lt);have E:=ho.below u;have k9:=E.below ((TW _ w1).drew);have kz:=iL k9.vol 1 (by omega);have q4:=vI (R:=λi=>A.R9 i 1) A.n λi W=>by rcases AK h.fill W with e|e<;>rw [e]<;>rfl
 have ca:=mL J;have qb:w.alloc (Z4 #[Z7 Z9 D,Z7 Z9 L,Z7 Z9 G,Z7 Z8 t1,Z7 Z9 f1,Z7 Z9 n1] 130)=w1:=ko;have l:=a7 J E M u k6 kz;have HV:=hide8 ho C K c N h x z;clear C M u J E k9 k6 ko kz K c N ho h x z;show ZR ZO 94 #[Z6 (ZW ⟨ar,0,ZX⟩),.agg #[Z7 Z9 D,Z7 Z9 L,Z7 Z9 G,Z7 Z8 t1,Z7 Z9 f1,Z7 Z9 n1],Z5 (ZW ⟨g,0,ZX⟩) A.n A.n] w _;go_enter func94,ntmps94;go_upto_region 1 with fail;go_cut [19] from 8 to 18 (λ_v I=>∃ X,I=X.setCell ⟨v,5,ZX⟩ (Z7 Z8 (0:Nat))/\aA X p A F/\aa F.S w1 X)
 case first=>
  go_region_with (first
   | (go_at_call 91;refine l.o.2.2.2.2.2.mono ?_;rintro e w2 ⟨g2,rfl,q6,hx,hm,kg⟩;have H2:=aE hx hm kg;have qe:=mL (l.o.1.keep (kg.block _ l.o.1.lt l.o.2.1.nar));clear hx hm kg q6)
   | (go_at_call 96;refine (uW (λi=>A.R9 i 1) (by omega) H2.o.1).mono ?_;rw [q4];rintro e w3 ⟨rfl,ki⟩;have kb:aa (F.S) w1.drew w3:=H2.o.2.2.trans (aa.RN ki _);have qf:=mL (l.o.1.keep (kb.block _ l.o.1.lt l.o.2.1.nar));obtain ⟨qg,qh⟩:=GR (l.o.2.1.vol.vol.keep (kb.block _ l.o.2.1.vol.vol.lt l.o.2.1.vol.v));have H3:=al ki kb;clear ki kb))
  all_goals (go_wp2_with fail;go_meet;case rel=>(
   exact ⟨w3,rfl,H2.o.2.1.below H3.o.1 lR,(aa.drew w1).trans H3.o.2⟩))
 case rest=>
  obtain ⟨X,rfl,hp,Z⟩:=hcut;obtain ⟨J,E,M,u,k6,_⟩:=l.o;obtain ⟨ho,C,K,c,N,h,x,z⟩:=HV.o;have k0:aa (λj=>F.S j\/j=v\/ps.bl j) w1 X:=Z.mono λ_ _ q=>.inl q;have kx:=E.same Z hp;have km:=kx.SD;have k8:aa (λk=>k=v) X (X.setCell ⟨v,5,ZX⟩ (Z7 Z8 (0:Nat))):=aa.setCell _ _ _ rfl;have ka:v≠ar:=by have:=ho.vlt;omega
  have ke:=E.arc k0 J;have kf:=ke.keep (k8.block _ ke.lt (λe=>ka e.symm));have V:(X.setCell ⟨v,5,ZX⟩ (Z7 Z8 (0:Nat))).heap[w.heap.size]?=ZW (Z4 (aj D L G t1 f1 n1) 130 (0,0)):=(k8.block _ (by have:=Z.size;omega) (by have:=ho.vol.vol.lt;omega)).trans ((Z.block _ (by omega) (λe=>by have:=K _ e;omega)).trans M);have T:aa (λj=>F.S j\/j=v\/ps.bl j) w1 (X.setCell ⟨v,5,ZX⟩ (Z7 Z8 (0:Nat))):=k0.trans (k8.mono λ_ _ q=>.inr (.inl q));have Q:(X.setCell ⟨v,5,ZX⟩ (Z7 Z8 (0:Nat))).rowIs g 223 A.n (λi=>gD (A.R9 i 0)):=((c.of_block (u.block _ c.lt)).of_block (Z.block _ (by have:=c.lt;omega) N)).of_block (k8.block _ (by have:=c.lt;have:=Z.size;omega) (λe=>by
   obtain ⟨cs,k5,_⟩:=c;have h2:=ho.vol.vol;rw [<- e] at h2;have m:w.heap[g]?=ZW (Z4 #[Z6 (ZW ⟨p,0,ZX⟩),Z7 Z9 D,Z7 Z9 L,Z7 Z9 G,Z6 (ZW ⟨ps.ps,0,ZX⟩),Z7 Z8 ps.ho] 144 (0,0)):=h2;rw [k5] at m;simp only [UF,U1] at m;exact absurd m.2.1 (by decide)))
  obtain ⟨Y,hY⟩:=nM (X.setCell ⟨v,5,ZX⟩ (Z7 Z8 (0:Nat)));rw [hY] at km kf V T Q ⊢;have kj:=rX (t1:=t1) km kf (⟨hv.sh,hv.re,hv.pk,hv.re _ _ hv.kind⟩:vG D L G Kind (ps.SD 0)) q8 qa h;rw [x,z] at kj;have HL:=a5 kj V T Q;clear J E M u k6 ho C K c N k0 kx km k8 ke kf V T kj ca hY hp Z Q ka h x z;go_wp2_with (show wpList _ _ _ ({ dst:=ZW 21,op:=_,type:=_,pos:=_,after:=_,guard:=_ }::_) _ _;refine kO (D:=D) (L:=L) (G:=G) (t:=t1) (f:=f1) (n:=n1) (b:=w.heap.size) rfl (Z0 4) rfl rfl (by rfl) (by exact HL.o.2.1) ?_);refine HL.o.1.mono ?_;rintro e a ⟨kc,kh⟩;obtain ⟨_,V,T,Q⟩:=HL.o;obtain ⟨ho,C,K,c,N,h,x,z⟩:=HV.o;obtain ⟨J,E,M,u,k6,_⟩:=l.o;have k7:aa (λj=>F.S j\/j=v\/ps.bl j\/j=ar) w a:=((aa.RN u _).trans (T.mono λj _ q=>by
   rcases q with q|q|q
   . exact .inl q
   . exact .inr (.inl q)
   . exact .inr (.inr (.inl q)))).trans kc
  obtain ⟨H,qc,hb,rfl,kv,O⟩:=kh;have q1:cA (∀ k,H.bl k->ps.bl k\/w.heap.size<=k):=ak λk hk=>(kv.2 k hk).imp id λq=>TU (TU u.size T.size) q;have ks:a.rowIs g 223 A.n (λi=>gD (A.R9 i 0)):=Q.of_block (kc.block _ Q.lt (λq=>by
   rcases q with q|q|q|q
   . exact N q
   . obtain ⟨cs,k5,_⟩:=c;have m:w.heap[v]?=ZW (Z4 #[Z6 (ZW ⟨p,0,ZX⟩),Z7 Z9 D,Z7 Z9 L,Z7 Z9 G,Z6 (ZW ⟨ps.ps,0,ZX⟩),Z7 Z8 ps.ho] 144 (0,0)):=ho.vol.vol;rw [<- q,k5] at m;simp only [UF,U1] at m;exact absurd m.2.1 (by decide)
   . obtain ⟨cs,k5,_⟩:=c;exact bZ ho.kit k5 (by unfold jS;decide) q
   . obtain ⟨cs,k5,_⟩:=c;have m:w.heap[ar]?=ZW (Z4 _ 135 (0,0)):=C;rw [<- q,k5] at m;simp only [UF,U1] at m;exact absurd m.2.1 (by decide)))
  have U:a.heap[w.heap.size]?=ZW (Z4 (aj D L G t1 f1 n1) 130 (0,0)):=(kc.block _ (TX.1 V).1 (λq=>by
   rcases q with q|q|q|q
   . have:=K _ q;omega
   . have:=ho.vol.vol.lt;omega
   . have q':ps.bl w.heap.size:=q;have:=ps.lt _ ho.kit _ q';omega
   . omega)).trans V
  have q0:=uY (w:=a.drew) (R:=λi=>A.R9 i 0) (r:=.root D L G t1 f1 n1) (by omega) trivial (λi W=>by rw [<- x,<- z];exact AK h.root W) (ks.of_block rfl);have ky:(bw.root D L G t1 f1 n1).ok:=by
   have h1:=ho.vol.par.d;have h2:=ho.vol.par.l4;have m:=ho.vol.par.g;have h4:=O.packL_le;have h5:f1<A.nb:=by
    rw [<- x];exact (h.Ti _ (UL _ (lY (by rw [h.pl];unfold pgs;omega)))).2
   exact ⟨by omega,by omega,by omega,by omega,by omega,by omega⟩
  have kr:∀ y,y<2^A.n->∀ I,aA I p (A.putAt (ab y) 0 (λ_=>.root D L G t1 f1 n1)) F->aa F.S a I->∃ B,dZ A B/\aT I ar v p H D L G t1 qc hb P xs B F:=λy hy I hB hO=>by
   have hg:=FE h (ab y) λi W=>vJ hy W;rw [x,z] at hg;exact ⟨_,hg.2,Jh O (O.arc.keep (hO.block _ O.arc.lt O.nar)) hB (hO.mono λ_ _ q=>.inr q) hg.2 hg.1⟩
  have z0:a.cell? ⟨w.heap.size,0,ZX⟩=ZW (Z7 Z9 D):=by simp [World.cell?,U,aj]
  have z1:a.cell? ⟨w.heap.size,1,ZX⟩=ZW (Z7 Z9 L):=by simp [World.cell?,U,aj]
  have z2:a.cell? ⟨w.heap.size,2,ZX⟩=ZW (Z7 Z9 G):=by simp [World.cell?,U,aj]
  have z3:a.cell? ⟨w.heap.size,3,ZX⟩=ZW (Z7 Z8 t1):=by simp [World.cell?,U,aj]
  have z4:a.cell? ⟨w.heap.size,4,ZX⟩=ZW (Z7 Z9 f1):=by simp [World.cell?,U,aj]
  have z5:a.cell? ⟨w.heap.size,5,ZX⟩=ZW (Z7 Z9 n1):=by simp [World.cell?,U,aj]
  have qd:=mL O.arc;have H4:=a6 O q0 ky k7 kr;clear V T Q ho C K c N J E M u k6 k7 kc ks U q0 ky O kr h x z;go_upto_region 5 with fail;go_cut [36] from 26 to 35 (λ_v I=>(∃ B,dZ A B/\aT I ar v p H D L G t1 qc hb P xs B F)/\aa F.S a I)
  case first=>
   go_region_with (first
    | (go_at_call 130;refine H4.o.2.1.mono ?_;rintro e w5 ⟨y,rfl,hy,rfl⟩;have HY:=ak hy;clear hy)
    | (go_at_call 120;refine (eX (H4.o.1.vol.below ((TW _ a).drew) lR) 0 y (by omega) (TZ HY.o (jJ kk)) (λi W=>vJ HY.o W) (.root D L G t1 f1 n1) H4.o.2.2.1).mono ?_;rintro e w6 ⟨rfl,hn,kp⟩;have H6:=al hn kp;clear hn kp))
   all_goals (go_wp2_with fail;go_meet;case rel=>exact ⟨H4.o.2.2.2.2 y HY.o _ H6.o.1 ((aa.drew a).trans H6.o.2),(aa.drew a).trans H6.o.2⟩)
  case rest=>
   have HF:=ak hcut;clear hcut qd;go_wp2;go_ret;obtain ⟨⟨B,hB,q7⟩,q2⟩:=HF.o;exact ⟨H4.o.2.2.2.1.trans (q2.mono λ_ _ q=>.inl q),⟨H,_,_,_,B,rfl,⟨kv.1,q1.out⟩,hB,q7⟩⟩
def pt:∀ k,(∀ i,i<k->R i=ZW .blank)->bu R k=⟨0,0,0,0,0,0⟩
 | 0,_=>rfl
 | k+1,h=>by
  show l8 (bu R k) (R k)=_;rw [h k (by omega),pt k λi a=>h i (by omega)];rfl
def Ro (k:Nat):(2^k-1)|||2^k=2^(k+1)-1:=by
 refine Xw λi=>?_;rw [Wh,WS,WS,XH];by_cases h:k=i
 . subst h;simp
 . by_cases a:i<k
   . simp [a];omega
   . simp [h,a];omega
def m9:∀ k,(∀ i,i<k->R i=ZW .blank)->dP R k=2^k-1
 | 0,_=>rfl
 | k+1,h=>by
  show Fk (dP R k) k (R k)=_;rw [h k (by omega),m9 k λi a=>h i (by omega)];exact Ro k
def qP {lost:Nat} (b:D<=12) (c:G<=4) (h:∀ i,i<D+L+G->lost/2^i%2=0):iT D L G lost:=
 mM.units (nL (λl hl=>oJ D L G b c l (tC _ _ _ (by rw [cL];omega) l hl)) 0) λj a=>aW.mem (jW j) ((oz _ _ _ _).2 ⟨j,by omega,h j (by omega),by rw [KQ D L G j a,KO D j a]⟩)
def JB {n i:Nat} (c:n<=60) (b:i<n):(18446744073709551615-(2^n-1))/2^i%2=0:=by
 have a:18446744073709551615-(2^n-1)=2^(i+1)*(2^(63-i)-2^(n-i-1)):=by
  rw [Nat.mul_sub,<- Nat.pow_add,<- Nat.pow_add,show i+1+(63-i)=64 by omega,show i+1+(n-i-1)=n by omega];have:0<2^n:=Vz n;omega
 rw [a,Xx,Nat.mul_assoc,Nat.mul_div_cancel_left _ (Vz i),Nat.mul_mod_right]
def O0 (x:Nat) (h:x<2^64):(2^64-1)^^^x=2^64-1-x:=by
 refine Xw λi=>?_;rw [abF,WS,show 2^64-1-x=2^64-(x+1) by omega,X5 h];by_cases a:i<64
 . simp [a]
 . have:x.testBit i=ZU:=Xk (TZ h (U8 (by decide) (by omega)));simp [a,this]
def O1 (x:Nat) (h:x<18446744073709551616):bits .xor .u64 IntKind.u64.max (x:Int)=((18446744073709551615-x:Nat):Int):=by
 have:=bits_xor_u64_nat 18446744073709551615 x (by decide) h;rw [show (18446744073709551615:Nat)=2^64-1 by decide,O0 x (by omega)] at this;exact this
def rE {n:Nat} (a:0<t):∀ k,(∀ i,i<k->R i=ZX\/R i=ZW (.root D L G t f n))->(bu R k=⟨D,L,G,t,f,n⟩)\/(bu R k=⟨0,0,0,0,0,0⟩/\∀ i,i<k->R i=ZX)
 | 0,_=>.inr ⟨rfl,λ_ h=>absurd h (Yv _)⟩
 | k+1,h=>by
  show (l8 (bu R k) (R k)=_)\/(l8 (bu R k) (R k)=_/\_);have ih:=rE a k λi b=>h i (by omega);rcases h k (by omega) with e|e
  . rw [e];refine ih.imp id λq=>⟨q.1,λi b=>?_⟩;by_cases c:i=k
    . rw [c];exact e
    . exact q.2 i (by omega)
  . rw [e];refine .inl ?_;rcases ih with q|q
    . rw [q];exact TS (Nat.lt_irrefl _)
    . rw [q.1];exact TT a
def aF.clean (A:aF):Prop:=∀ i b,A.bad i b=ZU
def aF.clean.fine {A:aF} (h:A.clean) (a:D<=12) (c:G<=4):A.fine D L G:=⟨0,qP a c λi _=>by rw [Nat.zero_div],λi b q=>by rw [h i b] at q;cases q⟩
def Beg (A:aF) (D L G t:Nat) (xs:aZ):Prop:=(t=1/\xs=[]/\A.clean/\∀ i,i<A.n->A.rc i 0=.blank)\/(t<=1000000/\∃ P,cM A D L G t P xs)
def JC {A:aF} (h:A.clean) (i b:Nat):A.R9 i b=ZW (A.rc i b):=by
 rw [Ap,TS];unfold gnB;simp [h i b]
theorem M1 {A:aF} {xs:aZ} (h:Beg A D L G t xs) (s:A.n=D+L+G) (f:1<=D) (o:A.fine D L G):(∃ P,t<=1000000/\cM A D L G t P xs/\bu (λi=>A.R9 i 0) A.n=⟨D,L,G,t,P.getD 0 0,(ai xs.os).length⟩) \/
 (bu (λi=>A.R9 i 0) A.n=⟨0,0,0,0,0,0⟩/\t=1/\xs=[]/\A.clean/\dP (λi=>A.R9 i 0) A.n=2^A.n-1):=by
 rcases h with ⟨g,j,e,k⟩|⟨p,P,c⟩
 . have a:∀ i,i<A.n->A.R9 i 0=ZW .blank:=λi b=>by rw [JC e,k i b]
   exact .inr ⟨pt _ a,g,j,e,m9 _ a⟩
 . rcases rE c.turn A.n (λi b=>AK c.root b) with q|⟨q,r⟩
   . exact .inl ⟨P,p,c,q⟩
   . obtain ⟨S,m,l⟩:=o;refine absurd m (Hz _ _ _ _ f λi b=>?_);have a:=l i 0 (show gnB A 0 i=ZV by
      have d:=r i (by omega);rw [Ap] at d;split at d
      . assumption
      . cases d)
     rw [WV] at a;exact Wy a
def FG {ps:aN} {A:aF} (ho:mS w ar v p ps D L G A F) (q:5<=A.nb) (d:A.nb<=1000) (h:aA w' p (nB A D L G) F) (j:bf w' ar v D L G 1 2 0 u (Z5 ZX 0 0) ZU) (o:bg (λk=>w.heap.size<=k) w' u [2]) (b:aa (λk=>k=ar\/F.S k) w w'):aT w' ar v p ps D L G 1 u (Z5 ZX 0 0) [2] [] (nB A D L G) F/\dZ A (nB A D L G):=by
 have r:=ho.vlt;have f:pgs D 0=1:=by
  unfold pgs;have:=ho.vol.par.d1;rw [Ui,Xy (by omega)];rfl
 have a:dZ A (nB A D L G):=dZ.trans (B:=A.putAt (YE A.n) 1 (λ_=>.filled)) (dZ.put _ _ _ _) (AD (A.putAt (YE A.n) 1 (λ_=>.filled)) D L G 1 [2] []);have l:cM (nB A D L G) D L G 1 [2] []:=qE (B:=A.putAt (YE A.n) 1 (λ_=>.filled)) (P':=[2]) (xs':=[]) (λi m=>uE _ _ _ m) (show [2].length=pgs D 0 from f.symm) (by decide) (λx c=>by
  have:x=2:=by simpa [af,aZ.os] using c
  rw [this];show 2<=2/\2<A.nb;omega) (λx c=>by cases c) List.Pairwise.nil (λx c=>by cases c) (by show 0+2*1+2<=A.nb;omega) (by decide)
 exact ⟨{ arc:=j,fine:=a.fine ho.fine,vol:={ ho.vol with vol:=ho.vol.vol.keep (b.block _ ho.vol.vol.lt (λe=>e.elim (by omega) ho.vol.v)),arr:=h,laid:=ho.vol.laid.keep (b.block _ ho.vol.laid.lt (λe=>e.elim (by omega) ho.vol.g)),tab:=ho.vol.tab.keep (b.block _ ho.vol.tab.lt (λe=>e.elim (by omega) ho.vol.t)),room:=TU ho.vol.room b.size,n:=a.n.trans ho.vol.n },nar:=ho.nar,vlt:=ho.vlt,disk:=l,pgs:=o.wk λk a _=>⟨by have:=ho.arl;omega,λe=>by have:=ho.vol.arr.RO (k:=k) e;omega,λe=>by have:=ps.lt _ ho.kit _ e;omega⟩,cat:=eN.nil _ _,nb:=by rw [a.nb];exact d,turn:=by decide,kit:=ps.keep _ _ ho.kit λk a=>b.block k (ps.lt _ ho.kit k a) (λe=>e.elim (ho.apt k a).2.1 (ho.apt k a).2.2.2),apt:=ho.apt,hl:=ho.hl },a⟩
theorem M2 {Kind:aN->Prop} {ps:aN} {xs:aZ} {A:aF} (ho:mS w ar v p ps D L G A F) (V:bf w ar v 0 0 0 0 0 0 (Z5 ZX 0 0) (Z5 ZX 0 0) ZU) (hv:vG D L G Kind ps) (qd:5<=A.nb) (kf:A.nb<=1000) (hS:Beg A D L G tt xs) :
 ZR ZO 68 #[Z6 (ZW ⟨ar,0,ZX⟩)] w (FD w ar v p D L G tt Kind ps xs A F):=by
 obtain ⟨c0,_⟩:=V.cells;have H:=ho.vol.par;have qc:=ho.vol.n;have kv:A.n<=16:=by rw [ho.vol.n];exact H.s
 have x:=M1 hS qc H.d1 ho.fine;have k8:∀ k,F.S k->k<w.heap.size:=λk hk=>ho.vol.arr.RO hk;have q8:=iL ho.vol 0 (by omega);have HV:=a5 ho V k8 hS;clear ho V k8 hS;go_enter func68,ntmps68;go_wp2_with fail;refine q8.mono ?_;rintro e w1 ⟨g,rfl,hg,U,kz,W⟩;obtain ⟨ho,V,k8,_⟩:=HV.o;have kg:=ho.same W kz;have k5:=V.keep (W.block _ V.lt ho.nar);have Z:¬ F.S g:=λe=>by have:=k8 _ e;omega
 have ke:=Ay (N:=A.n) (λi=>A.R9 i 0) (by omega) (w:=w1) U;obtain ⟨⟨a,l,c,rt,I,J⟩,q9⟩:∃ r,bu (λi=>A.R9 i 0) A.n=r:=⟨_,rfl⟩;rw [q9] at ke x;rw [show Jb ⟨a,l,c,rt,I,J⟩=aj a l c rt I J from rfl] at ke;have hn:(0<rt/\a=D/\l=L/\c=G)\/rt=0:=by
  rcases x with ⟨P,_,hd,q⟩|⟨q,_⟩
  . simp only [Rt.mk.injEq] at q;exact .inl ⟨by rw [q.2.2.2.1];exact hd.turn,q.1,q.2.1,q.2.2.1⟩
  . simp only [Rt.mk.injEq] at q;exact .inr q.2.2.2.1
 obtain ⟨N,y⟩:=nM (A.n);have H1:=hide7 k5 kg W U y Z x;rw [y] at ke kv;clear k5 kg W U kz q8 ho V k8 Z q9 x;rw [y];clear y;go_wp2_with fail;refine ke.mono ?_;rintro e w2 ⟨rfl,kp⟩;have qj:=xS;obtain ⟨k5,kg,W,U,y,Z,x⟩:=H1.o;have k6:bW w1 (fK w2 a l c rt I J):=kp.trans ((eW w2 a l c rt I J).mono kp.size);have R:=k5.keep (k6.block _ k5.lt);have hy:=kg.below k6;have Y:=U.of_block (k6.block g U.lt);have C:=uV w2 a l c rt I J;obtain ⟨K,ky⟩:=nM (fK w2 a l c rt I J);rw [ky] at k6 R hy Y C;have x0:K.cell? ⟨w2.heap.size,0,ZX⟩=ZW (Z7 Z9 a):=by simp [World.cell?,C,aj]
 have x1:K.cell? ⟨w2.heap.size,1,ZX⟩=ZW (Z7 Z9 l):=by simp [World.cell?,C,aj]
 have x2:K.cell? ⟨w2.heap.size,2,ZX⟩=ZW (Z7 Z9 c):=by simp [World.cell?,C,aj]
 have x3:K.cell? ⟨w2.heap.size,3,ZX⟩=ZW (Z7 Z8 rt):=by simp [World.cell?,C,aj]
 obtain ⟨d0,_⟩:=R.cells;have k9:aa (F.S) w K:=W.trans (aa.RN k6 _);have qa:=kF (w:=K.drew) (hy.vol.vol.keep rfl);have H3:=hide7 R hy Y k9 ky C qa;clear k5 kg W U kp k6 R hy Y C k9 ky c0 y Z ke qa x;have qe:∀ w:ZT,(binOp .neq 27 (.agg #[Z7 Z9 D,Z7 Z9 L,Z7 Z9 G]) (.agg #[Z7 Z9 D,Z7 Z9 L,Z7 Z9 G])).run ZO w=.ok (Z1 ZU) w:=λw=>by
  have h:=Mr D L G D L G w;rw [UZ (by exact ⟨rfl,rfl,rfl⟩)] at h;simp only [binOp];simp [Op.equal,Op.maxDepth,h]
 go_upto_region 3 with (show wpList _ _ _ ({ dst:=ZX,op:=Op.store 130 (Z0 4) (Z0 11),type:=_,pos:=_,after:=_,guard:=_ }::_) _ _;refine Aw (w:=w2) (D:=a) (L:=l) (G:=c) (t:=rt) (f:=I) (n:=J) rfl (Z0 4) (Z0 11) rfl (by rfl) (by rfl) ?_;rw [H3.o.2.2.2.2.1]);simp only [Act.put];go_cut [12] from 13 to 25 (λqn wx=>bW K wx/\qn=Z1 ZU)
 case first=>
  rcases hn with ⟨q7,rfl,rfl,rfl⟩|h0
  . have kx:(rt:Int)>0:=(by omega);have ko:cA (w2.heap.size<K.drew.heap.size):=ak (Ub x0);go_region_with (go_at_call 93;refine H3.o.2.2.2.2.2.2.mono ?_;rintro e M ⟨rfl,kb,_,_⟩;have Q:=ak kb;have y0:M.cell? ⟨w2.heap.size,0,ZX⟩=ZW (Z7 Z9 a):=(kb.cell (p:=⟨w2.heap.size,0,ZX⟩) ko.out).trans x0;have y1:M.cell? ⟨w2.heap.size,1,ZX⟩=ZW (Z7 Z9 l):=(kb.cell (p:=⟨w2.heap.size,1,ZX⟩) ko.out).trans x1;have y2:M.cell? ⟨w2.heap.size,2,ZX⟩=ZW (Z7 Z9 c):=(kb.cell (p:=⟨w2.heap.size,2,ZX⟩) ko.out).trans x2;clear kb);all_goals (go_wp2_with fail;go_meet;case rel=>exact ⟨(TW _ K).drew.trans Q.o,by simp⟩)
  . have qo:K.cell? ⟨w2.heap.size,3,ZX⟩=ZW (Z7 Z8 0):=(by rw [x3,h0];rfl);clear x3;go_quiet (fail);go_wp2_with fail;go_meet
    case rel=>exact ⟨⟨rfl,rfl,rfl,TV _,λ_ _=>rfl⟩,rfl⟩
 case rest=>
  rename ZT=>M;obtain ⟨h7,rfl⟩:=hcut;obtain ⟨R,hy,Y,k9,_,C,_⟩:=H3.o;have m:=R.keep (h7.block _ R.lt);have E:=hy.below h7;have z:=Y.of_block (h7.block g Y.lt);have q0:aa (F.S) w M:=k9.trans (aa.RN h7 _);have hz:=(h7.block _ (TX.1 C).1).trans C;have c3:M.cell? ⟨w2.heap.size,3,ZX⟩=ZW (Z7 Z8 rt):=by simp [World.cell?,hz,aj]
  obtain ⟨d4,_⟩:=m.cells;have O:aa (λj=>F.S j\/j=v\/ps.bl j\/j=ar) w M:=q0.mono λ_ _ q=>.inl q;have Q:=a6 m E z O hz;clear R hy Y k9 C m E z q0 O hz h7 x0 x1 x2 x3 d0 qe;rcases hn with ⟨kx,rfl,rfl,rfl⟩|rfl
  . have qi:(rt:Int)>0:=(by omega);obtain ⟨m,E,z,O,hz⟩:=Q.o;obtain ⟨_,_,_,_,y,Z,x⟩:=H1.o;obtain ⟨P,ht,hd,q⟩:∃ P,tt<=1000000/\cM A a l c tt P xs/\(⟨a,l,c,rt,I,J⟩:Rt)=⟨a,l,c,tt,P.getD 0 0,(ai xs.os).length⟩:=by
     rcases x with h|⟨q,_⟩
     . exact h
     . simp only [Rt.mk.injEq] at q;omega
    simp only [Rt.mk.injEq,true_and] at q;obtain ⟨rfl,rfl,rfl⟩:=q;have kk:=FF E m hv kf ht hd z Z;rw [y] at kk;obtain ⟨I,qf⟩:=nM (P.getD 0 0);obtain ⟨J,qg⟩:=nM ((ai xs.os).length);rw [qf,qg] at hz kk;have HR:=al kk hz;clear m E z O hz y Z x kk hd;go_wp2_with (show wpList _ _ _ ({ dst:=ZW 32,op:=_,type:=_,pos:=_,after:=_,guard:=_ }::_) _ _;refine kO (D:=a) (L:=l) (G:=c) (t:=rt) (f:=I) (n:=J) (b:=w2.heap.size) rfl (Z0 4) rfl rfl (by rfl) (by exact HR.o.2) ?_);refine HR.o.1.mono ?_;intro e w5 hp;obtain ⟨ev,he⟩:∃ ev,e=Z3 ev:=by
     obtain ⟨_,_,_,_,_,rfl,_⟩:=hp.ans;exact ⟨_,rfl⟩
    subst he;have T:=ak hp;clear hp;go_wp2;go_ret;obtain ⟨qm,pg5,qk,P5,B,k0,k1,k2⟩:=T.o.ans;exact ⟨Q.o.2.2.2.1.trans T.o.out,qm,pg5,qk,P5,B,k0,⟨k1.1,λk hk=>(k1.2 k hk).imp id λq=>TU Q.o.2.2.2.1.size q⟩,k2⟩
  . have hb:M.cell? ⟨w2.heap.size,3,ZX⟩=ZW (Z7 Z8 0):=c3;clear c3;go_wp2_with fail;refine (wg Q.o.2.1.vol.vol).mono ?_;rintro e w5 ⟨rfl,kr⟩;obtain ⟨m,E,z,O,_⟩:=Q.o;have q1:=z.of_block (kr.block g z.lt);obtain ⟨_,_,_,_,y,_,x⟩:=H1.o;have ks:=uW (N:=A.n) (λi=>A.R9 i 0) (by omega) (w:=w5) q1;obtain ⟨X,hX⟩:=nM (dP (λi=>A.R9 i 0) A.n);have qb:X<18446744073709551616:=by
     have h1:=nC (λi=>A.R9 i 0) A.n (by omega);have h2:=F7 (k:=A.n) (by omega);omega
    have hT:tt=1/\xs=[]/\A.clean/\iT D L G (18446744073709551615-X):=by
     rcases x with ⟨_,_,hd,q⟩|⟨_,h1,h2,h3,h4⟩
     . simp only [Rt.mk.injEq] at q;have:=hd.turn;omega
     . exact ⟨h1,h2,h3,qP H.d H.g λi hi=>by rw [<- hX,h4];exact JB (by omega) (by omega)⟩
    have key:=O1 X qb;rw [hX,y] at ks;have T:=aE kr ks hT;clear m E z O kr q1 ks hX hT y x;go_wp2_with fail;refine T.o.2.1.mono ?_;rintro e w6 ⟨rfl,q3⟩;have kc:bW M w6:=T.o.1.trans (q3.mono T.o.1.size);have H6:=ak kc;clear kc q3;go_wp2_with fail;refine (rR D L G (18446744073709551615-X) H.r H.d H.l1 H.l4 H.g H.div (by omega) w6).mono ?_;rintro e w7 ⟨bb,rfl,q5,q4⟩;obtain ⟨m,E,z,O,_⟩:=Q.o;have hj:bW M w7:=H6.o.trans (q4.mono H6.o.size);have q2:=m.keep (hj.block _ m.lt);have k7:=E.below hj;have ki:aa (λj=>F.S j\/j=v\/ps.bl j\/j=ar) w w7:=O.trans (aa.RN hj _);obtain ⟨rfl,rfl,qh,hT⟩:=T.o.2.2;obtain rfl:bb=ZV:=q5.2 hT;have q6:=IK q2 k7.vol k7.nar (by omega);have H7:=aE q6 k7 ki;clear m E z O hj q2 k7 q6 ki q5 q4 key hb d4 hT;go_wp2_with fail;refine H7.o.1.mono ?_;rintro e w8 ⟨rfl,kh,⟨u,kj,km⟩,ka⟩;have H8:=a5 kh kj km ka;clear kh kj km ka;go_wp2;go_ret;obtain ⟨kh,kj,km,ka⟩:=H8.o;obtain ⟨_,k7,ki⟩:=H7.o;obtain ⟨hl,hk⟩:=FG k7 qd kf kh kj km ka;exact ⟨ki.trans (ka.mono λk _ q=>q.elim (λe=>.inr (.inr (.inr e))) .inl),ps,_,_,_,_,rfl,⟨hv.kind,λ_ q=>.inl q⟩,hk,hl⟩
def Rp {sb:Nat} {room:Int} (h:pL w sb room) (D L G:Nat):gI w sb room D L G [] []:=by
 obtain ⟨d,⟨n,f⟩,g,_⟩:=h.parts;refine ⟨d,h.RZ,⟨n,f⟩,⟨λ_=>⟨0,0,0,0,ZU,0,Z5 ZX 0 0⟩,λ_=>sb,λ_=>sb,λa c=>?_,⟨rfl,rfl⟩,λq b=>by cases b⟩,by simp [jV],by simp [cP],λe i=>(by cases i),λq b=>(by cases b),rfl,λq b=>(by cases b),λq b=>(by cases b),λq b=>(by cases b),λq b=>(by cases b)⟩;rcases c with rfl|c
 . exact g
 . cases c
def M3 (w:ZT) (p D L G t:Nat) (cache:Int) (xs:aZ) (A:aF) (F:aQ) (ar:Nat) (w':ZT):Prop:=∃ v sb ps pg ob P B,aT w' ar v p ps D L G t pg ob P xs B F/\dZ A B/\m8 sb cache D L G ps/\w.heap.size<=v/\w.heap.size<=ar/\∀ k,ps.bl k->w.heap.size<=k
structure Rq (w:ZT) (p D L G t:Nat) (cache:Int) (xs:aZ) (A:aF) (F:aQ) (e:ZQ) (w':ZT):Prop where
 out:aa F.S w w'
 ans:∃ ar,e=Z3 (ZY #[Z6 (ZW ⟨ar,0,ZX⟩),.nilIface])/\M3 w p D L G t cache xs A F ar w'
structure JD (w:ZT) (p D L G t:Nat) (cache:Int) (xs:aZ) (A:aF) (F:aQ):Prop where
 arr:aA w p A F
 n:A.n=D+L+G
 par:zB D L G
 c0:0<=cache
 c1:cache<=64
 nb:8<=A.nb
 nb2:A.nb<=1000
 laid:bh w
 tab:aG w
 room:3<=w.heap.size
 g:¬ F.S 2
 gt:¬ F.S 1
 beg:Beg A D L G t xs
 fine:A.fine D L G
def JD.below {xs:aZ} {A:aF} (h:JD w p D L G t cache xs A F) (a:bW w w'):JD w' p D L G t cache xs A F:=
 { h with arr:=h.arr.below a lR,laid:=h.laid.below a h.laid.lt,tab:=h.tab.keep (a.block _ h.tab.lt),room:=TU h.room a.size }
theorem M4 {xs:aZ} {A:aF} (HP:JD w p D L G tt cache xs A F) :
 ZR ZO 50 #[Z6 (ZW ⟨p,0,ZX⟩),.agg #[Z7 Z9 D,Z7 Z9 L,Z7 Z9 G],.agg #[Z7 Z9 cache]] w (Rq w p D L G tt cache xs A F):=by
 obtain ⟨h,hn,u,qz,x0,x1,kr,hv,ht,hK,qf,qg,hS,qj⟩:=HP;have qh:∀ (args:Array ZS) (w:ZT),(callFunc 68 args).run ZO w=.ok (.enter 68 args) w:=Ve func68 (by kernel_rfl) rfl;have c:((w.alloc (Z4 #[Z7 Z9 (D:Int),Z7 Z9 (L:Int),Z7 Z9 (G:Int)] 27)).alloc (Z4 #[Z7 Z9 cache] 99)).heap[w.heap.size]?=ZW (Z4 #[Z7 Z9 (D:Int),Z7 Z9 (L:Int),Z7 Z9 (G:Int)] 27 (0,0)):=(UC _ _ _ (by simp)).trans (Ug _ _);have ho:((w.alloc (Z4 #[Z7 Z9 (D:Int),Z7 Z9 (L:Int),Z7 Z9 (G:Int)] 27)).alloc (Z4 #[Z7 Z9 cache] 99)).heap[w.heap.size+1]?=ZW (Z4 #[Z7 Z9 cache] 99 (0,0)):=by
  have:=Ug (w.alloc (Z4 #[Z7 Z9 (D:Int),Z7 Z9 (L:Int),Z7 Z9 (G:Int)] 27)) (Z4 #[Z7 Z9 cache] 99);rwa [Uq] at this
 have m:bW w ((w.alloc (Z4 #[Z7 Z9 (D:Int),Z7 Z9 (L:Int),Z7 Z9 (G:Int)] 27)).alloc (Z4 #[Z7 Z9 cache] 99)):=(bA w _).alloc (by simp) _;have U:((w.alloc (Z4 #[Z7 Z9 (D:Int),Z7 Z9 (L:Int),Z7 Z9 (G:Int)] 27)).alloc (Z4 #[Z7 Z9 cache] 99)).heap.size=w.heap.size+2:=by simp
 obtain ⟨w2,qp⟩:=nM ((w.alloc (Z4 #[Z7 Z9 (D:Int),Z7 Z9 (L:Int),Z7 Z9 (G:Int)] 27)).alloc (Z4 #[Z7 Z9 cache] 99));rw [qp] at c ho m U;have p0:w2.cell? ⟨w.heap.size,0,ZX⟩=ZW (Z7 Z9 D):=by simp [World.cell?,c]
 have p1:w2.cell? ⟨w.heap.size,1,ZX⟩=ZW (Z7 Z9 L):=by simp [World.cell?,c]
 have p2:w2.cell? ⟨w.heap.size,2,ZX⟩=ZW (Z7 Z9 G):=by simp [World.cell?,c]
 have H2:=a5 c ho m U;clear c ho m U;go_enter func50,ntmps50;go_wp2_with fail;refine (pG D L G _).mono ?_;rw [u.r];rintro e l ⟨rfl,J⟩;obtain ⟨c,ho,m,U⟩:=H2.o;have Q:=(J.block _ (by omega)).trans c;have H:=(J.block _ (by omega)).trans ho;have z:bW w l:=m.trans (J.mono m.size);have kx:=J.size;have o0:l.cell? ⟨w.heap.size+1,0,ZX⟩=ZW (Z7 Z9 cache):=by simp [World.cell?,H]
 have y:=a5 Q H z (show w.heap.size+2<=l.heap.size by omega);clear c ho m U Q H z J kx p0 p1 p2;obtain ⟨N,kj⟩:=nM (A.n);have fP:=Et (h.below (y.o.2.2.1.trans ((TW _ l).drew.mono y.o.2.2.1.size)) lR);rw [kj] at fP;have R:∀ X,ZR ZO 12 #[.agg #[Z7 Z9 D,Z7 Z9 L,Z7 Z9 G]] X λe w'=>e=Z3 (Z7 Z9 (N:Nat))/\bW X w':=λX=>by
  rw [<- kj,hn,show ((D+L+G:Nat):Int)=(D:Int)+L+G by omega];have:=u.d;have:=u.l4;have:=u.g;exact dL (D:Int) (L:Int) (G:Int) X ⟨by omega,by omega⟩ ⟨by omega,by omega⟩ ⟨by omega,by omega⟩
 have HD:=al fP R;have p0:l.cell? ⟨w.heap.size,0,ZX⟩=ZW (Z7 Z9 D):=by simp [World.cell?,y.o.1]
 have p1:l.cell? ⟨w.heap.size,1,ZX⟩=ZW (Z7 Z9 L):=by simp [World.cell?,y.o.1]
 have p2:l.cell? ⟨w.heap.size,2,ZX⟩=ZW (Z7 Z9 G):=by simp [World.cell?,y.o.1]
 clear fP R kj;go_upto_region 6 with fail;go_cut [21] from 24 to 28 (λhb wx=>hb=Z1 ZU/\bW l wx)
 case first=>
  go_region_with (first
   | (go_at_call 66;refine HD.o.1.mono ?_;rintro e w' ⟨rfl,rfl⟩)
   | (go_at_call 12;refine (HD.o.2 _).mono ?_;rintro e w7 ⟨rfl,q4⟩;have V:=ak (((TW _ l).drew).trans q4);clear q4))
  all_goals (go_wp2_with fail;go_meet;case rel=>exact ⟨by simp,V.o⟩)
 case rest=>
 rename ZT=>w4;obtain ⟨rfl,K⟩:=hcut;clear HD p0 p1 p2;obtain ⟨Q,H,z,kx⟩:=y.o;have kh:=(K.block _ (by omega)).trans Q;have q7:=(K.block _ (by omega)).trans H;have h8:bW w w4:=z.trans (K.mono z.size);have qy:=K.size;have q5:=tJ (h.below h8 lR) (by have:=u.d1;omega);have kp:¬ ((A.nb:Nat):Int)<8:=by omega
 have q0:w4.cell? ⟨w.heap.size,0,ZX⟩=ZW (Z7 Z9 D):=by simp [World.cell?,kh]
 have q1:w4.cell? ⟨w.heap.size,1,ZX⟩=ZW (Z7 Z9 L):=by simp [World.cell?,kh]
 have q2:w4.cell? ⟨w.heap.size,2,ZX⟩=ZW (Z7 Z9 G):=by simp [World.cell?,kh]
 have o4:w4.cell? ⟨w.heap.size+1,0,ZX⟩=ZW (Z7 Z9 cache):=by simp [World.cell?,q7]
 have H4:=aE h8 q5 (show w.heap.size+2<=w4.heap.size by omega);clear Q H z kx kh q7 h8 qy q5 K o0;obtain ⟨NB,kz⟩:=nM (A.nb);rw [kz] at H4 kp;clear kz;go_wp2_with fail;refine H4.o.2.1.mono ?_;rintro e w5 ⟨rfl,qq⟩;subst qq;go_wp2_with fail;refine (Er p D L G cache w5).mono ?_;rintro e w6 ⟨v,sb,rfl,qn,kf,kb,kk⟩;obtain ⟨h9,_,qd⟩:=H4.o;have ha:bW w w6:=h9.trans (kk.mono h9.size);have qe:=kk.size;have M:bW w6 (w6.alloc (Z4 (lH v 0 0 0 0 0 0 (Z5 ZX 0 0) (Z5 ZX 0 0) ZU) 135)):=bA w6 _;have E:bf (w6.alloc (Z4 (lH v 0 0 0 0 0 0 (Z5 ZX 0 0) (Z5 ZX 0 0) ZU) 135)) w6.heap.size v 0 0 0 0 0 0 (Z5 ZX 0 0) (Z5 ZX 0 0) ZU:=Ug _ _;obtain ⟨w7,ks⟩:=nM (w6.alloc (Z4 (lH v 0 0 0 0 0 0 (Z5 ZX 0 0) (Z5 ZX 0 0) ZU) 135));rw [ks] at M E;have f:bW w w7:=ha.trans (M.mono ha.size);have q3:pH w7 v p D L G (sb+1+1+1) 0 A F:=⟨kf.keep (M.block _ kf.lt),h.below f lR,hv.below f hv.lt,ht.keep (f.block _ ht.lt),TU hK f.size,λq=>by have:=h.RO q;omega,qf,qg,hn,u⟩;have C:∀ k,F.S k->k<w.heap.size:=λk a=>h.RO a;have hs:¬ F.S w6.heap.size:=λq=>by have:=C _ q;omega
 have ki:w6.heap.size<w7.heap.size:=E.lt;have qb:v<w6.heap.size:=kf.lt;have qk:=kb.2.2.lt;obtain ⟨hf,hg,R⟩:=kb;have k7:(m7 sb cache D L G [] [] 0).S w7:=Rp (R.below M) D L G;have s:∀ k,(m7 sb cache D L G [] [] 0).bl k->sb<=k/\k<=sb+1+1+1:=λk a=>by
  rcases a with q|q|⟨q,c,_⟩
  . exact q
  . cases q
  . cases c
 have q8:mS w7 w6.heap.size v p (m7 sb cache D L G [] [] 0) D L G A F:=⟨q3,hs,⟨by omega,qb⟩,ki,k7,λk a=>by
  have:=s k a;exact ⟨by omega,by omega,by omega,λe=>by have:=C _ e;omega⟩,Vz _,qj⟩
 have qa:vG D L G (m8 sb cache D L G) (m7 sb cache D L G [] [] 0):=⟨yU u,λps x a=>by
  obtain ⟨es,qs,ho,rfl⟩:=a;exact ⟨es,qs,x,rfl⟩,GM,⟨[],[],0,rfl⟩⟩
 have q9:=lX 68 #[Z6 (ZW ⟨w6.heap.size,0,ZX⟩)] #[] qh w7 w6.heap.size _ E rfl
  (λw1 x w2=>w2.heap[w7.heap.size]?=ZW (Z4 #[.nilIface] 63 (0,0))/\FD w1 w6.heap.size v p D L G tt (m8 sb cache D L G) (m7 sb cache D L G [] [] 0) xs A F (Z3 x) w2)
  (λw1 I qc qi=>(M2 (q8.below I) (E.keep (I.block _ E.lt)) qa (by omega) kr hS).mono (by
   intro e w2 t;have q6:w2.heap[w7.heap.size]?=w1.heap[w7.heap.size]?:=t.out.block _ (by omega) (λq=>by
    rcases q with q|q|q|q
    . have:=C _ q;omega
    . omega
    . have:=s _ q;omega
    . omega)
   obtain ⟨ps',pg,ob,P,B,rfl,_,_,hl⟩:=id t.ans;exact ⟨_,rfl,.inl rfl,⟨q6.trans qi,t⟩,q6,_,hl.arc,rfl⟩))
 have kv:w6.alloc (Z4 #[Z6 (ZW ⟨v,0,ZX⟩),Z7 Z9 0,Z7 Z9 0,Z7 Z9 0,Z7 Z8 0,Z7 Z9 0,Z7 Z9 0,Z5 ZX 0 0,Z5 ZX 0 0,Z1 ZU] 135)=w7:=ks;have V:=hide10 f C q9 s hf hg qb ki qd qe;have qm:w.heap.size<=v:=by omega
 clear qk hf hg R k7 s q8 qa q9 h9 ha M E f q3 kf kk hs q0 q1 q2 o4 ks;go_wp2_with fail;clear kv;refine V.o.2.2.1.mono ?_;rintro e w8 ⟨x,w1,i,rfl,_,I,qc,⟨ko,t⟩,rfl⟩;obtain ⟨f,C,_,s,hf,hg,qo,ki,qd,qe⟩:=V.o;have h7:bW w w1:=f.trans (I.mono f.size);have qx:=f.size;have hO:aa (F.S) w i:=(aa.RN h7 _).later t.out (λk a q=>by
  rcases q with q|q|q|q
  . exact q
  . omega
  . have:=s _ q;omega
  . omega)
 obtain ⟨ps',pg,ob,P,B,qv,O,Y,hl⟩:=t.ans;obtain rfl:x=.nilIface:=by injection qv
 have h4:∀ k,k≠w7.heap.size->k≠w6.heap.size->((i.setCell ⟨w7.heap.size,0,ZX⟩ .nilIface).setCell ⟨w6.heap.size,9,ZX⟩ (Z1 ZU)).heap[k]?=i.heap[k]?:=λk W h2=>(Ud _ _ _ _ h2).trans (Ud _ _ _ _ W);have ky:((i.setCell ⟨w7.heap.size,0,ZX⟩ .nilIface).setCell ⟨w6.heap.size,9,ZX⟩ (Z1 ZU)).heap.size=i.heap.size:=by simp [World.setCell]
 have Z:aa (F.S) w ((i.setCell ⟨w7.heap.size,0,ZX⟩ .nilIface).setCell ⟨w6.heap.size,9,ZX⟩ (Z1 ZU)):=hO.later (T:=λk=>w.heap.size<=k) ⟨rfl,rfl,rfl,by rw [ky];exact TV _,λk _ a=>h4 k (by omega) (by omega)⟩ (λk W h2=>by omega);have hx:(i.setCell ⟨w7.heap.size,0,ZX⟩ .nilIface).heap[w6.heap.size]?=ZW (Z4 (lH v D L G tt (P.getD 0 0) (ai xs.os).length pg ob ZU) 135 (0,0)):=(Ud _ _ _ _ (by show w6.heap.size≠w7.heap.size;omega)).trans hl.arc;have k9:=ag (j:=9) hx (Z1 ZU);have h5:∀ k,k≠w7.heap.size->((i.setCell ⟨w7.heap.size,0,ZX⟩ .nilIface).setCell ⟨w6.heap.size,9,ZX⟩ (Z1 ZU)).heap[k]?=i.heap[k]?:=λk W=>by
  by_cases e:k=w6.heap.size
  . subst e;exact k9.trans hl.arc.symm
  . exact h4 k W e
 have kg:=hl.aside (w':=(i.setCell ⟨w7.heap.size,0,ZX⟩ .nilIface).setCell ⟨w6.heap.size,9,ZX⟩ (Z1 ZU)) (b:=w7.heap.size) (B:=w7.heap.size) (yR ko) (hl.Tt ko) (by rw [ky];exact TV _) (λj hj _=>h5 j hj) lR (λk a=>by have:=C k a;omega) (by omega) ki (by omega);have HF:=a6 Z Y kg O.1 (show ∀ k,ps'.bl k->w.heap.size<=k from λk a=>by
  rcases O.2 k a with q|q
  . have:=s k q;omega
  . have:=h7.size;omega)
 clear hO t ko h4 ky Z hl hx k9 h5 kg Y O I qc h7;go_wp2;go_ret2;obtain ⟨Z,Y,kg,O,km⟩:=HF.o;exact ⟨Z,w6.heap.size,rfl,v,sb,ps',pg,ob,P,B,kg,Y,O,qm,by omega,km⟩
structure Rs (w w2:ZT) (D L G cache:Int):Prop where
 par:w2.heap[w.heap.size]?=ZW (Z4 #[Z7 Z9 D,Z7 Z9 L,Z7 Z9 G] 27 (0,0))
 opt:w2.heap[w.heap.size+1]?=ZW (Z4 #[Z7 Z9 cache] 99 (0,0))
 below:bW w w2
 size:w2.heap.size=w.heap.size+2
def Ru (w:ZT) (D L G cache:Int):Rs w ((w.alloc (Z4 #[Z7 Z9 D,Z7 Z9 L,Z7 Z9 G] 27)).alloc (Z4 #[Z7 Z9 cache] 99)) D L G cache:=by
 refine ⟨(UC _ _ _ (by simp)).trans (Ug _ _),?_,(bA w _).alloc (by simp) _,by simp⟩;have:=Ug (w.alloc (Z4 #[Z7 Z9 D,Z7 Z9 L,Z7 Z9 G] 27)) (Z4 #[Z7 Z9 cache] 99);rwa [Uq] at this
structure M5 (w:ZT) (p D L G t:Nat) (cache:Int) (xs:aZ) (A:aF) (F:aQ) (e:ZQ) (w':ZT):Prop where
 out:aa F.S w w'
 ans:∃ sa ar,e=Z3 (ZY #[Z6 (ZW ⟨sa,0,ZX⟩),.nilIface])/\w.heap.size<=sa/\ZP w' sa 108 (Z6 (ZW ⟨ar,0,ZX⟩))/\M3 w p D L G t cache xs A F ar w'
def M3.wide {w'':ZT} {xs:aZ} {A:aF} (h:M3 w p D L G t cache xs A F ar w') (a:w0.heap.size<=w.heap.size) (f:bW w' w''):M3 w0 p D L G t cache xs A F ar w'':=by
 obtain ⟨v,sb,ps,pg,ob,P,B,b,c,d,g,i,e⟩:=h;exact ⟨v,sb,ps,pg,ob,P,B,b.below f,c,d,by omega,by omega,λk q=>TU a (e k q)⟩
theorem JE {xs:aZ} {A:aF} (h:JD w p D L G t cache xs A F) :
 ZR ZO 35 #[Z6 (ZW ⟨p,0,ZX⟩),.agg #[Z7 Z9 D,Z7 Z9 L,Z7 Z9 G],.agg #[Z7 Z9 cache]] w (M5 w p D L G t cache xs A F):=by
 have a:=Ru w D L G cache;obtain ⟨w2,l⟩:=nM ((w.alloc (Z4 #[Z7 Z9 (D:Int),Z7 Z9 (L:Int),Z7 Z9 (G:Int)] 27)).alloc (Z4 #[Z7 Z9 cache] 99));rw [l] at a;have n:w2.cell? ⟨w.heap.size,0,ZX⟩=ZW (Z7 Z9 D):=by simp [World.cell?,a.par]
 have q:w2.cell? ⟨w.heap.size,1,ZX⟩=ZW (Z7 Z9 L):=by simp [World.cell?,a.par]
 have r:w2.cell? ⟨w.heap.size,2,ZX⟩=ZW (Z7 Z9 G):=by simp [World.cell?,a.par]
 have m:w2.cell? ⟨w.heap.size+1,0,ZX⟩=ZW (Z7 Z9 cache):=by simp [World.cell?,a.opt]
 have b:=a.below;have j:=M4 (h.below b);have H:=al a j;clear a j b;go_enter func35,ntmps35;go_wp2_with fail;refine H.o.2.mono ?_;rintro e c g;have b:=H.o.1.below;have d:aa F.S w c:=(aa.RN b _).trans g.out;obtain ⟨ar,rfl,f⟩:=g.ans;have k:=aE f d b;clear f d b g;go_wp2;go_ret2;obtain ⟨f,d,b⟩:=k.o;have i:bW c (c.alloc (Z4 #[Z6 (ZW ⟨ar,0,ZX⟩)] 108)):=bA c _;exact ⟨d.trans (aa.RN i _),c.heap.size,ar,rfl,d.size,Ut c _ _,f.wide b.size i⟩
theorem ik (d:Int) (m:Nat) (f:0<m) (e:m<=1000):∃ n:Nat,n<m/\wrap64 ((IntKind.u64.wrap d).tmod m)=(n:Int):=by
 have a:0<=IntKind.u64.wrap d:=by rw [Vd];omega
 rw [aby a];have b:=Int.emod_nonneg (IntKind.u64.wrap d) (show (m:Int)≠0 by omega);have c:=Int.emod_lt_of_pos (IntKind.u64.wrap d) (show (0:Int)<m by omega);refine ⟨(IntKind.u64.wrap d%m).toNat,by omega,?_⟩;rw [show ((IntKind.u64.wrap d%(m:Int)).toNat:Int)=IntKind.u64.wrap d%m by omega];generalize IntKind.u64.wrap d%(m:Int)=z at b c;unfold wrap64;omega
theorem O2 (a b c:Int) (w:ZT):ZR ZO 5 #[Z7 Z9 a,Z7 Z9 b,Z7 Z9 c] w λe w'=>∃ D L G:Nat,e=Z3 (.agg #[Z7 Z9 D,Z7 Z9 L,Z7 Z9 G])/\zB D L G/\D<=6/\bW w w':=by
 obtain ⟨q,C,g⟩:=ik a 6 (by decide) (by decide);obtain ⟨r,E,i⟩:=ik b 3 (by decide) (by decide);obtain ⟨d,R,k⟩:=ik c 4 (by decide) (by decide);have s:wrap64 ((IntKind.u64.wrap a).tmod 6)=(q:Int):=by simpa using g
 have t:wrap64 ((IntKind.u64.wrap b).tmod 3)=(r:Int):=by simpa using i
 have x:wrap64 ((IntKind.u64.wrap c).tmod 4)=(d:Int):=by simpa using k
 obtain ⟨D,I⟩:=nM (q+1);obtain ⟨n,F⟩:=nM (r+1);have O:wrap64 (1+(q:Int))=(D:Int):=by unfold wrap64;omega
 have A:wrap64 (1+(r:Int))=(n:Int):=by unfold wrap64;omega
 clear g i k;have Q:1<=D/\D<=6:=by omega
 have y:1<=n/\n<=3:=by omega
 clear I F C E;go_enter func5,ntmps5;go_wp2;go_loopw [8] (λv wr=>∃ l:Nat,1<=l/\l<=3/\v=Z7 Z9 (l:Nat)/\wr=w.alloc (Z4 #[Z7 Z9 0,Z7 Z9 0,Z7 Z9 0] 27)) (λv _=>(intOf v).toNat)
 case atStart=>exact ⟨n,y.1,y.2,by rw [A],rfl⟩
 case round=>
  obtain ⟨l,H,P,rfl,rfl⟩:=hrel;have U:¬ (l:Int)=0:=by omega
  have J:Int.tmod (D:Int) (l:Int)=((D%l:Nat):Int):=by rw [aby (by omega),YK]
  obtain ⟨m,f⟩:=nM (D%l);rw [f] at J;by_cases B:m=0
  . subst B;have z:cA (zB D l d):=ak ⟨by unfold de;apply UZ;refine ⟨by omega,by omega,by omega,by omega,by omega,by omega,?_,by omega⟩;rw [<- YK,f];rfl,by omega,by omega,H,by omega,by omega,f,by omega⟩;clear f;go_wp2;have p:an (w.alloc (Z4 #[Z7 Z9 (D:Nat),Z7 Z9 (l:Nat),Z7 Z9 (d:Nat)] 27)) w.heap.size 27 [Z7 Z9 (D:Nat),Z7 Z9 (l:Nat),Z7 Z9 (d:Nat)]:=UE w _;have K:=p.cell (j:=0) (u:=Z7 Z9 (D:Nat)) rfl;have M:=p.cell (j:=1) (u:=Z7 Z9 (l:Nat)) rfl;have N:=p.cell (j:=2) (u:=Z7 Z9 (d:Nat)) rfl;refine Ur (v:=.agg #[Z7 Z9 (D:Nat),Z7 Z9 (l:Nat),Z7 Z9 (d:Nat)]) (by simp [results,results5,go_sem,K,M,N]) rfl ?_;exact ⟨D,l,d,rfl,z.o,by omega,bA w _⟩
  . have S:2<=l:=by
     rcases XE l 2 with h|h
     . have:l=1:=by omega
       subst this;rw [Nat.mod_one] at f;omega
     . exact h
    have T:¬ (m:Int)=0:=(by omega);have V:IntKind.i64.wrap ((l:Int)-1)=(l:Int)-1:=(by rw [UB];omega);clear f;go_wp2;refine ⟨⟨l-1,by omega,by omega,by rw [show ((l-1:Nat):Int)=(l:Int)-1 by omega],trivial⟩,?_⟩;show ((l:Int)-1).toNat<((l:Int)).toNat;omega
structure rH where
 kind:Int
 a:Int
 s:ByteArray
 d:a8
def Scr (w:ZT) (v:ZS) (l:List rH):Prop:=
 ∃ ao c,v=.slice ao l.length c/\(l≠[]->∃ b off,ao=ZW ⟨b,off,ZX⟩/\b<w.heap.size/\∀ i (hi:i<l.length),∃ dv,w.cell? ⟨b,off+i*4,ZX⟩=ZW (Z7 Z9 l[i].kind)/\w.cell? ⟨b,off+i*4+1,ZX⟩=ZW (Z7 Z9 l[i].a)/\w.cell? ⟨b,off+i*4+2,ZX⟩=ZW (ZZ l[i].s)/\w.cell? ⟨b,off+i*4+3,ZX⟩=ZW dv/\Bs w dv l[i].d)
def gh (l:List rH):Nat:=(l.map λx=>x.s.size+x.d.length).sum
def rI (l:List rH) (k:Nat) (a:k<l.length):gh (l.take (k+1))=gh (l.take k)+(l[k].s.size+l[k].d.length):=by
 have e:l.take (k+1)=l.take k++[l[k]]:=by rw [Vh,Ua a];rfl
 rw [e];unfold gh;rw [Uv,YB];simp only [UG,Vg,XI,List.sum_nil,VR]
def Dr (l:List rH) (k:Nat):gh (l.take k)<=gh l:=by
 unfold gh;have h:l.map (λx=>x.s.size+x.d.length)=(l.take k).map (λx=>x.s.size+x.d.length)++(l.drop k).map (λx=>x.s.size+x.d.length):=by rw [<- Uv,Wo]
 rw [h,YB];omega
def abf (w:ZT) (l:List rH) (vn vi:ZS) (wr:ZT):Prop:=∃ k:Nat,k<=l.length/\vi=Z7 Z9 (k:Nat)/\vn=Z7 Z9 (gh (l.take k):Nat)/\gh (l.take k)<=100000/\bW w wr
def Rv (w:ZT) (l:List rH) (e:ZQ) (w':ZT):Prop:=∃ bb,e=Z3 (Z1 bb)/\(bb=ZV->l.length<=200/\gh l<=100000)/\bW w w'
theorem JF {v:ZS} {l:List rH} (h:Scr w v l) (K:∀ x∈l,x.s.size<=140737488355328/\x.d.length<=140737488355328) :
 ZR ZO 4 #[v] w (Rv w l):=by
 obtain ⟨ao,c,rfl,u⟩:=h;by_cases R:200<l.length
 . have J:(200:Int)<(l.length:Int):=(by omega);clear u;go_enter func4,ntmps4;go_wp2;go_ret;exact ⟨ZU,rfl,λe=>(by cases e),TW _ _⟩
 . have J:¬ (200:Int)<(l.length:Int):=(by omega);have F:=ak u;clear u;go_enter func4,ntmps4;go_wp2;go_loopw [3,4] (λN A wr=>abf w l N A wr) (λ_ A _=>l.length-(intOf A).toNat)
   case atStart=>exact ⟨0,T5 _,rfl,rfl,by simp [gh],TW _ _⟩
   case round=>
    obtain ⟨k,V,rfl,rfl,n,f⟩:=hrel;by_cases i:k<l.length
    . obtain ⟨b,off,rfl,C,B⟩:=F.o (λe=>by rw [e] at i;simp at i);obtain ⟨Q,L,M,y,z,E⟩:=B k i;obtain ⟨O,P,rfl,_⟩:=id E;have g:=rI l k i;have H:=K l[k] (TY i);obtain ⟨s,t⟩:=nM (l[k].s);obtain ⟨dl,q⟩:=nM (l[k].d.length);rw [t,q] at g H;rw [t] at y;rw [q] at z;obtain ⟨a,r⟩:=nM (gh (l.take k));rw [r] at g n ⊢;obtain ⟨Z,I⟩:=nM (s.size);have G:(k:Int)<(l.length:Int):=(by omega);have T:IntKind.i64.wrap ((a:Int)+(s.size:Int))=(a:Int)+(s.size:Int):=(by rw [UB];omega);have U:IntKind.i64.wrap ((a:Int)+(s.size:Int)+(dl:Int))=(a:Int)+(s.size:Int)+(dl:Int):=(by rw [UB];omega);have W:IntKind.i64.wrap ((k:Int)+1)=(k:Int)+1:=(by rw [UB];omega);have X:=(f.cell (p:=⟨b,off+k*4+2,ZX⟩) C).trans y;have Y:=(f.cell (p:=⟨b,off+k*4+3,ZX⟩) C).trans z;have m:=aE g r f;clear g r f L M y z E B t q I;go_wp2;go_quiet (fail);have j:cA (bW w (wr.drewN nq)):=ak (m.o.2.2.trans ⟨rfl,rfl,rfl,TV _,λ_ _=>rfl⟩);by_cases S:(100000:Int)<(a:Int)+(s.size:Int)+(dl:Int)
      . go_wp2;go_ret;exact ⟨ZU,rfl,λe=>(by cases e),j.o⟩
      . go_wp2;have g:=m.o.1;refine ⟨⟨k+1,by omega,by go_num,?_,by omega,j.o⟩,?_⟩
        . rw [g,show ((a+(s.size+dl):Nat):Int)=(a:Int)+(s.size:Int)+(dl:Int) by omega]
        . simp only [intOf];omega
    . have D:k=l.length:=(by omega);have G:¬ (k:Int)<(l.length:Int):=(by omega);have m:cA (l.length<=200/\gh l<=100000):=ak ⟨by omega,by rw [D,VE] at n;exact n⟩;have j:=ak f;clear D n f;go_wp2;go_ret;exact ⟨ZV,rfl,λ_=>m.o,j.o⟩
def aT.other {ps:aN} {xs:aZ} {A:aF} (h:aT w ar v p ps D L G t pg ob P xs A F) (g:w.heap.size<=w'.heap.size) {b:Nat} (a:∀ j,j≠b->j<w.heap.size->w'.heap[j]?=w.heap[j]?) (q:b<ar) (m:b≠v) (i:¬ F.S b) (o:3<=b) (l:¬ ps.bl b):aT w' ar v p ps D L G t pg ob P xs A F:=by
 have c:eu (λk=>ar<k/\¬ F.S k/\¬ ps.bl k) w w':=⟨g,λk n hK=>a k (by have:=hK.1;omega) n⟩;exact { h with arc:=h.arc.keep (a _ (by omega) h.arc.lt),vol:={ h.vol with vol:=h.vol.vol.keep (a _ (Vq m) h.vol.vol.lt),arr:=h.vol.arr.keep λj f=>a j (λe=>i (e▸f)) (h.vol.arr.RO f),laid:=h.vol.laid.keep (a _ (by omega) h.vol.laid.lt),tab:=h.vol.tab.keep (a _ (by omega) h.vol.tab.lt),room:=TU h.vol.room g },pgs:=h.pgs.keep c,cat:=h.cat.keep c,kit:=ps.keep _ _ h.kit λk d=>a k (λe=>l (e▸d)) (ps.lt _ h.kit k d) }
def aA.kind {X:ZT} {A:aF} (h:aA X p A F) {k:Nat} (e:F.S k):∃ cs T,X.heap[k]?=ZW (Z4 cs T (0,0))/\(T=91\/T=95\/T=102\/T=4):=by
 obtain ⟨R,h,_⟩:=h;rcases (h.S k).1 e with rfl|rfl|⟨i,b,rfl|rfl⟩
 . exact ⟨_,_,h.top,.inl rfl⟩
 . obtain ⟨cs,d,_⟩:=h.drv;exact ⟨_,_,d,.inr (.inl rfl)⟩
 . obtain ⟨c,a,_⟩:=h.blk i b;exact ⟨_,_,a,.inr (.inr (.inl rfl))⟩
 . obtain ⟨c,a,_⟩:=h.bad i b;exact ⟨_,_,a,.inr (.inr (.inr rfl))⟩
section
def wI (xs:aZ) (x:ByteArray) (k:Int):Prop:=(b9 x=ZU/\k=6)\/(b9 x=ZV/\x∉xs.names/\k=9)
def Ds (xs:aZ) (x:ByteArray) (xs':aZ):Prop:=b9 x=ZV/\x∈xs.names/\xs'=xs.del (aK xs.names x)
section
variable {w:ZT} {ar v p D L G t:Nat} {ps:aN} {pg ob:ZS} {P:a8} {xs:aZ} {A:aF} {F:aQ}
def aT.Tq (h:aT w ar v p ps D L G t pg ob P xs A F) (k:Nat):(ai (xs.del k).os).length<=1000000:=TU (qG xs k) h.packL_le
def O3 (h:aT w ar v p ps D L G t pg ob P xs A F) (k:Nat) {pgn:Nat} (d:pgn=pgs D (ai (xs.del k).os).length) :
 ZR ZO 82 #[Z6 (ZW ⟨ar,0,ZX⟩),Z7 Z9 (pgn:Nat)] w λe w'=>∃ g cap,e=Z3 (ZY #[Z5 (ZW ⟨g,0,ZX⟩) pgn cap,Z1 ZV])/\w'.ownsRow w.heap.size 3 1 (Z5 (ZW ⟨g,0,ZX⟩) pgn cap) pgn (jU ((aY (tk A.nb (P++af xs.os)).1 A.nb).take pgn))/\((aY (tk A.nb (P++af xs.os)).1 A.nb).take pgn).length=pgn/\w.heap.size<=g/\g<w'.heap.size/\bW w w'/\pgn<=1000:=by
 have:=h.nb;have:1<=pgn:=by rw [d];unfold pgs;omega
 have c:=E9 h.disk k;have:=lT h.disk.nod h.disk.Ti;rw [<- d] at c;have a:=lN h.arc h.vol.vol h.vol.arr h.n0 P xs.os h.pgs.any h.cat.any pgn (by omega);rw [UZ c] at a;have b:((aY (tk A.nb (P++af xs.os)).1 A.nb).take pgn).length=pgn:=by rw [Un];omega
 rw [b] at a;refine a.mono ?_;rintro e w' ⟨u,rfl,ho,f⟩;rcases ho.2 with ⟨_,l⟩|⟨g,cap,cur,rfl,i,j,q,_⟩
 . omega
 . exact ⟨g,cap,rfl,ho,b,i,(TX.1 j).1,f,by omega⟩
def JG (h:aT w ar v p ps D L G t pg ob P xs A F) (k7:t<1000000) (x:ByteArray) (X:b9 x=ZV) (T:x∈xs.names) (k:Nat) (k0:aK xs.names x=k) {w2:ZT} {u:ZS} {pgn g cap:Nat} (J:pgn=pgs D (ai (xs.del k).os).length) (l:eN (λk=>ar<k/\¬ F.S k/\¬ ps.bl k) w2 u (xs.del k).os) (z:bW w w2)
 (n:bg (λk=>ar<k/\¬ F.S k/\¬ ps.bl k) w2 (Z5 (ZW ⟨g,0,ZX⟩) pgn cap) ((aY (tk A.nb (P++af xs.os)).1 A.nb).take pgn)) (a:((aY (tk A.nb (P++af xs.os)).1 A.nb).take pgn).length=pgn) :
 ZR ZO 85 #[Z6 (ZW ⟨ar,0,ZX⟩),u,Z5 (ZW ⟨g,0,ZX⟩) pgn cap] w2 (dr w ar v p ps D L G t xs A F (wI xs x) (Ds xs x)):=by
 obtain ⟨oo,oc,rfl,hol,_⟩:=id l;have U:=h.vol.par;have f:=h.disk;have d:=nz f.nod f.Ti pgn;obtain ⟨fr,Z⟩:=nM ((aY (tk A.nb (P++af xs.os)).1 A.nb).take pgn);rw [Z] at n a d;have:1<=pgn:=by rw [J];unfold pgs;omega
 have V:fr≠[]:=λe=>by rw [e] at a;simp at a;omega
 have N:∀ b∈fr,b<A.nb:=λb W=>(d.2 b (UL _ W)).2;have O:=h.Tq k;have I:fr.length=pgs D (ai (xs.del k).os).length:=by rw [a,J]
 have s:=kT xs k;have M:∀ o∈(xs.del k).os,o.fit:=λo ho=>by
  obtain ⟨y,Y,rfl⟩:=T7.1 ho;exact (f.fits y (s.subset Y)).fit
 have Q:(xs.del k).os.length<=10000:=by
  have:=s.length_le;have e:(xs.del k).os.length=(xs.del k).length:=by simp [aZ.os]
  have:=h.Si.1;have:xs.os.length=xs.length:=by simp [aZ.os]
  omega
 have m:=h.below z;have B:=ny (w:=w2) m.arc m.vol m.nar
  oo _ oc (ai (xs.del k).os) (pr _) O (uz l.any M Q) g 0 cap fr (by rw [a];exact n.Tw λk c=>c.2.1) V N (λj R=>De U.d1 (by rw [<- I];exact R))
 rw [a] at B;refine B.mono ?_;rintro e K ⟨i,rfl,C,H⟩;have k5:nx t=t+1:=by unfold nx;omega
 have r:aa (λk=>k=ar\/F.S k) w K:=(aa.RN z _).trans i
 . have E:eu (λk=>ar<k/\¬ F.S k/\¬ ps.bl k) w2 K:=⟨i.size,λk c hK=>i.block k c (λe=>e.elim (λq=>by have:=hK.1;omega) hK.2.1)⟩;rw [k5] at C H;have c:=AD A D L G (t+1) fr (ai (xs.del k).os);exact ⟨_,_,_,_,_,_,_,rfl,qI h H C r c (by omega) (L0 f k I d.1 d.2) (n.keep E) (l.keep E),c,r,.inl ⟨rfl,rfl,X,T,by rw [k0]⟩⟩
end
theorem FH {ps:aN} {xs:aZ} {A:aF} (h:aT w ar v p ps D L G t pg ob P xs A F) (kc:t<1000000) (x:ByteArray) :
 ZR ZO 60 #[Z6 (ZW ⟨ar,0,ZX⟩),ZZ x] w (dr w ar v p ps D L G t xs A F (wI xs x) (Ds xs x)):=by
 have k8:∀ w' j,bW w w'->wI xs x j->dr w ar v p ps D L G t xs A F (wI xs x) (Ds xs x) (Z3 (Az j)) w':=λw' j E hq=>⟨_,_,_,_,_,_,_,rfl,h.below E,dZ.refl A,aa.RN E _,.inr ⟨rfl,rfl,j,rfl,hq⟩⟩;obtain ⟨_,_,_,_,c8⟩:=h.arc.cells;have R:=h.find x;obtain ⟨k,Q⟩:=nM (aK xs.names x);obtain ⟨i,l⟩:=nM (mP xs.os x);rw [Q,l] at R;have f:=a6 h Q l kc k8;clear Q l h k8 kc;go_enter func60,ntmps60;go_wp2_with fail;refine R.mono ?_;rintro e w1 ⟨rfl,E⟩;have H:=ak E;clear E R c8;go_wp2_with fail;refine (jR x w1).mono ?_;rintro e w2 ⟨rfl,rfl⟩;cases hx:b9 x
 . dsimp only;go_wp2;go_ret;exact f.o.2.2.2.2 _ 6 H.o (.inl ⟨hx,rfl⟩)
 by_cases r:x∈xs.names;rotate_left
 . have l:=f.o.1.Sm r;rw [f.o.2.2.1] at l;subst l;have J:=ak r;clear r;dsimp only;go_wp2;go_ret;exact f.o.2.2.2.2 _ 9 H.o (.inr ⟨hx,J.o,rfl⟩)
 have l:=f.o.1.there r;rw [f.o.2.2.1] at l;subst l;have U:aK xs.names x<xs.os.length:=by
  obtain ⟨q,_⟩:=uD f.o.1.disk.up r;rwa [<- eH,bm] at q
 rw [f.o.2.1] at U;obtain ⟨pgn,hc⟩:=nM (pgs D (ai (xs.del k).os).length);obtain ⟨len,h9⟩:=nM ((ai (xs.del k).os).length);have m:=a5 f.o.1 U hc h9;have J:=ak r;clear r U hc h9;dsimp only;have n:=m.o.1.below H.o;obtain ⟨_,_,_,_,d8⟩:=n.arc.cells;have X:=uK n.cat (by have:=n.Si.1;omega) (λj hj=>⟨by have:=n.arc.lt;omega,λe=>by have:=n.vol.arr.RO e;omega,λe=>by have:=ps.lt _ n.kit _ e;omega⟩) m.o.2.1;rw [<- LY] at X;have Y:=ak n;clear n;go_wp2_with fail;refine X.mono ?_;rintro e w3 ⟨u,rfl,M,N⟩;have C:=Y.o.below N;have h3:∀ o∈(xs.del k).os,o.fit:=λo ho=>by
  obtain ⟨y,hy,rfl⟩:=T7.1 ho;exact (C.disk.fits y ((kT xs k).subset hy)).fit
 have ha:(xs.del k).os.length<=10000:=by
  have h1:=(kT xs k).length_le;have e:(xs.del k).os.length=(xs.del k).length:=by simp [aZ.os]
  have h4:=C.Si.1;have h5:xs.os.length=xs.length:=by simp [aZ.os]
  omega
 have V:=uy M h3 ha;have kg:=C.Tq k;rw [m.o.2.2.2] at V kg;have z:=aE C M (H.o.trans (N.mono H.o.size));clear X M N C h3 ha d8 Y;dsimp only;go_wp2_with fail;refine V.mono ?_;rintro e w4 ⟨rfl,I⟩;have c:=z.o.1.below I;have W:=jb c.arc c.vol.vol c.vol.par.d1 (by have:=c.vol.par.d;omega) len (by omega);have B:pgs D len=pgn:=by rw [<- m.o.2.2.2];exact m.o.2.2.1
 rw [B] at W;have kb:=O3 c k m.o.2.2.1.symm;have s:bW w w4:=z.o.2.2.trans (I.mono z.o.2.2.size);have Z:=aE c (z.o.2.1.keep (eu.RM I)) s;clear c I s B V z;dsimp only;go_wp2_with fail;refine W.mono ?_;rintro e ki ⟨rfl,rfl⟩;clear W;dsimp only;go_wp2_with fail;refine kb.mono ?_;rintro e w5 ⟨g,cap,rfl,k9,T,ke,kf,O,hs⟩;obtain ⟨c,k6,s⟩:=Z.o;have h7:ar<g/\¬ F.S g/\¬ ps.bl g:=⟨by have:=c.arc.lt;omega,λe=>by have:=c.vol.arr.RO e;omega,λe=>by have:=ps.lt _ c.kit _ e;omega⟩;have ka:bg (λk=>ar<k/\¬ F.S k/\¬ ps.bl k) w5 (Z5 (ZW ⟨g,0,ZX⟩) pgn cap) ((aY (tk A.nb (P++af xs.os)).1 A.nb).take pgn):=by
  have:=yQ (K:=λk=>ar<k/\¬ F.S k/\¬ ps.bl k) (a:=pgn) (b:=0) (c1:=cap) k9 T h7 (by omega);rwa [UI (by omega)] at this
 have k7:=JG m.o.1 f.o.2.2.2.1 x hx J.o k f.o.2.1 m.o.2.2.1.symm (k6.keep (eu.RM O)) (s.trans (O.mono s.size)) ka T;clear c k6 s h7 hs ka kb k9 T ke kf O Z;dsimp only;go_wp2_with fail;refine k7.mono ?_;rintro e w6 ⟨er,t',kh,hd,P',xs',B',rfl,hp⟩;have HF:=ak hp;clear hp k7;dsimp only;go_wp2;go_ret;exact ⟨_,_,_,_,_,_,_,rfl,HF.o⟩
end
def dr.later {ps:aN} {xs:aZ} {A:aF} {N:aZ->Prop} (h:dr w ar v p ps D L G t xs A F Q N e w') (j:bW w0 w):dr w0 ar v p ps D L G t xs A F Q N e w':=by
 obtain ⟨x,k,b,a,P',xs',B,c,d,f,g,i⟩:=h;exact ⟨x,k,b,a,P',xs',B,c,d,f,(aa.RN j _).trans g,i⟩
def DoQ (t:Nat) (xs:aZ) (Q:Int->Prop) (N:aZ->Prop) (er:ZS) (t':Nat) (xs':aZ):Prop:=(er=.nilIface/\t'=t+1/\N xs')\/(xs'=xs/\t'=t/\∃ n,er=Az n/\Q n)
def aaO {ps:aN} {xs:aZ} {A:aF} {N:aZ->Prop} (r:¬ Q 13) (h:aT w ar v p ps D L G t pg ob P xs A F) (k:FuncId) (cap:Array ZS) (m:∀ (args:Array ZS) (w:ZT),(callFunc k args).run ZO w=.ok (.enter k args) w) (o:∀ w1,bW w w1->ZR ZO k (#[]++cap) w1 (dr w1 ar v p ps D L G t xs A F Q N)) :
 ZR ZO 52 #[Z6 (ZW ⟨ar,0,ZX⟩),.func (.func k) #[] cap] w (dr w ar v p ps D L G t xs A F Q N):=by
 refine (aaF h k #[] cap m (λx c xs' _ _=>DoQ t xs Q N x c xs') (λ_ _ _ _ _ _ _ q=>q) λw1 l _=>(o w1 l).mono ?_).mono ?_
 . rintro e w2 ⟨x,c,b,a,P',xs',B,f,g,i,j,d⟩;refine ⟨x,c,b,a,P',xs',B,f,?_,g,i,j,d⟩;rcases d with ⟨rfl,_⟩|⟨_,_,n,rfl,s⟩
   . exact .inl rfl
   . exact .inr ⟨n,λe=>r (e▸s),rfl⟩
 . rintro e w2 ⟨x,c,b,a,P',xs',B,f,_,g,i,j,d⟩;exact ⟨x,c,b,a,P',xs',B,f,g,i,j,d⟩
def O4 {nb:Nat} {xs:aZ} {n:Nat}:¬ wG D nb xs x n 13:=by
 rintro (⟨_,h⟩|⟨_,⟨_,h⟩|⟨_,⟨_,h⟩|⟨_,_,h⟩⟩⟩)<;>exact absurd h (by decide)
def O5 {xs:aZ}:¬ wI xs x 13:=by
 rintro (⟨_,h⟩|⟨_,_,h⟩)<;>exact absurd h (by decide)
theorem abg {ps:aN} {xs:aZ} {A:aF} (h:aT w ar v p ps D L G t pg ob P xs A F) (K:t<1000000) (x:ByteArray) (ao:Option Addr) (c:Nat) (d:a8) (B:∀ w',aa F.S w w'->Bs w' (.slice ao d.length c) d) (I:d.length<=c) :
 ZR ZO 51 #[Z6 (ZW ⟨ar,0,ZX⟩),ZZ x,.slice ao d.length c] w (dr w ar v p ps D L G t xs A F (wG D A.nb xs x d.length) (wH D A.nb xs x d)):=by
 have J:∀ (args:Array ZS) (w:ZT),(callFunc 69 args).run ZO w=.ok (.enter 69 args) w:=Ve func69 (by kernel_rfl) rfl;obtain ⟨n,u⟩:=nM (d.length);obtain ⟨i,g⟩:=nM (((w.alloc (Z4 #[Z6 (ZW ⟨ar,0,ZX⟩)] 106)).alloc (Z4 #[ZZ x] 9)).alloc (Z4 #[.slice ao n c] 39));have f:ZP i w.heap.size 106 (Z6 (ZW ⟨ar,0,ZX⟩)):=by rw [<- g];exact ((Ut w _ _).alloc _).alloc _
 have j:ZP i (w.heap.size+1) 9 (ZZ x):=by
  have:=(Ut (w.alloc (Z4 #[Z6 (ZW ⟨ar,0,ZX⟩)] 106)) 9 (ZZ x)).alloc (Z4 #[.slice ao n c] 39);rw [Uq] at this;rw [<- g];exact this
 have k:ZP i (w.heap.size+2) 39 (.slice ao n c):=by
  have:=Ut ((w.alloc (Z4 #[Z6 (ZW ⟨ar,0,ZX⟩)] 106)).alloc (Z4 #[ZZ x] 9)) 39 (.slice ao n c);simp only [Uq] at this;rw [<- g];exact this
 have b:bW w i:=by rw [<- g];exact ((bA w _).alloc (by simp) _).alloc (by simp;omega) _
 have z:∀ w1,bW i w1->ZR ZO 69 #[Z6 (ZW ⟨w.heap.size,0,ZX⟩),Z6 (ZW ⟨w.heap.size+1,0,ZX⟩),Z6 (ZW ⟨w.heap.size+2,0,ZX⟩)] w1 (dr w1 ar v p ps D L G t xs A F (wG D A.nb xs x d.length) (wH D A.nb xs x d)):=λw1 a=>by
  have M:=(show ZP w1 w.heap.size 106 _ from (a.block _ f.lt).trans f).cell;have N:=(show ZP w1 (w.heap.size+1) 9 _ from (a.block _ j.lt).trans j).cell;have O:=(show ZP w1 (w.heap.size+2) 39 _ from (a.block _ k.lt).trans k).cell;have l:bW w w1:=b.trans (a.mono b.size);have y:=OY (h.below l) K x ao c d (λw' E=>B w' ((aa.RN l _).trans E)) I;rw [u] at y ⊢;clear f j k a l g b;go_enter func69,ntmps69;go_wp2_with fail;refine y.mono ?_;rintro e w2 m;obtain ⟨r,_,_,_,_,_,_,rfl,_⟩:=id m;have H:=ak m;clear m y;go_wp2;go_ret;exact H.o
 have s:=aaO O4 (h.below b) 69 #[Z6 (ZW ⟨w.heap.size,0,ZX⟩),Z6 (ZW ⟨w.heap.size+1,0,ZX⟩),Z6 (ZW ⟨w.heap.size+2,0,ZX⟩)] J (λw1 a=>z w1 a);have c1:=f.cell;rw [u] at s ⊢;have H:=al s b;clear s b z f j k h B u;go_enter func51,ntmps51;go_wp2_with fail;refine H.o.1.mono ?_;rintro e w8 q;obtain ⟨r,_,_,_,_,_,_,rfl,_⟩:=id q;have C:=ak (dr.later q H.o.2);clear q;go_wp2;go_ret;exact C.o
theorem O6 {ps:aN} {xs:aZ} {A:aF} (h:aT w ar v p ps D L G t pg ob P xs A F) (u:t<1000000) (x:ByteArray) :
 ZR ZO 44 #[Z6 (ZW ⟨ar,0,ZX⟩),ZZ x] w (dr w ar v p ps D L G t xs A F (wI xs x) (Ds xs x)):=by
 have s:∀ (args:Array ZS) (w:ZT),(callFunc 59 args).run ZO w=.ok (.enter 59 args) w:=Ve func59 (by kernel_rfl) rfl;obtain ⟨g,f⟩:=nM ((w.alloc (Z4 #[Z6 (ZW ⟨ar,0,ZX⟩)] 106)).alloc (Z4 #[ZZ x] 9));have c:ZP g w.heap.size 106 (Z6 (ZW ⟨ar,0,ZX⟩)):=by rw [<- f];exact (Ut w _ _).alloc _
 have d:ZP g (w.heap.size+1) 9 (ZZ x):=by
  have:=Ut (w.alloc (Z4 #[Z6 (ZW ⟨ar,0,ZX⟩)] 106)) 9 (ZZ x);rw [Uq] at this;rw [<- f];exact this
 have b:bW w g:=by rw [<- f];exact (bA w _).alloc (by simp) _
 have l:∀ w1,bW g w1->ZR ZO 59 #[Z6 (ZW ⟨w.heap.size,0,ZX⟩),Z6 (ZW ⟨w.heap.size+1,0,ZX⟩)] w1 (dr w1 ar v p ps D L G t xs A F (wI xs x) (Ds xs x)):=λw1 a=>by
  have y:=(show ZP w1 w.heap.size 106 _ from (a.block _ c.lt).trans c).cell;have z:=(show ZP w1 (w.heap.size+1) 9 _ from (a.block _ d.lt).trans d).cell;have k:bW w w1:=b.trans (a.mono b.size);have n:=FH (h.below k) u x;clear c d a k f b;go_enter func59,ntmps59;go_wp2_with fail;refine n.mono ?_;rintro e w2 i;obtain ⟨r,_,_,_,_,_,_,rfl,_⟩:=id i;have H:=ak i;clear i n;go_wp2;go_ret;exact H.o
 have m:=aaO O5 (h.below b) 59 #[Z6 (ZW ⟨w.heap.size,0,ZX⟩),Z6 (ZW ⟨w.heap.size+1,0,ZX⟩)] s (λw1 a=>l w1 a);have c1:=c.cell;have H:=al m b;clear m b l c d h;go_enter func44,ntmps44;go_wp2_with fail;refine H.o.1.mono ?_;rintro e w8 j;obtain ⟨r,_,_,_,_,_,_,rfl,_⟩:=id j;have q:=ak (dr.later j H.o.2);clear j;go_wp2;go_ret;exact q.o
theorem abh {ps:aN} {xs:aZ} {A:aF} (g:ZP w sa 108 (Z6 (ZW ⟨ar,0,ZX⟩))) (h:aT w ar v p ps D L G t pg ob P xs A F) (k:t<1000000) (x:ByteArray) (ao:Option Addr) (c:Nat) (d:a8) (f:∀ w',aa F.S w w'->Bs w' (.slice ao d.length c) d) (j:d.length<=c) :
 ZR ZO 38 #[Z6 (ZW ⟨sa,0,ZX⟩),ZZ x,.slice ao d.length c] w (dr w ar v p ps D L G t xs A F (wG D A.nb xs x d.length) (wH D A.nb xs x d)):=by
 have cs:=g.cell;have b:=abg h k x ao c d f j;clear g h f;go_enter func38,ntmps38;go_wp2_with fail;refine b.mono ?_;rintro e w8 a;obtain ⟨r,_,_,_,_,_,_,rfl,_⟩:=id a;have i:=ak a;clear a b;go_wp2;go_ret;exact i.o
theorem O7 {ps:aN} {xs:aZ} {A:aF} (c:ZP w sa 108 (Z6 (ZW ⟨ar,0,ZX⟩))) (h:aT w ar v p ps D L G t pg ob P xs A F) (f:t<1000000) (x:ByteArray) :
 ZR ZO 26 #[Z6 (ZW ⟨sa,0,ZX⟩),ZZ x] w (dr w ar v p ps D L G t xs A F (wI xs x) (Ds xs x)):=by
 have cs:=c.cell;have b:=O6 h f x;clear c h;go_enter func26,ntmps26;go_wp2_with fail;refine b.mono ?_;rintro e w8 a;obtain ⟨r,_,_,_,_,_,_,rfl,_⟩:=id a;have d:=ak a;clear a b;go_wp2;go_ret;exact d.o
def vH.isSlice {xs:aZ} {r:ZS} (h:vH xs x base u r w):(∃ ao n c,u=.slice ao n c)/\mZ r:=by
 rcases h with ⟨rfl,h⟩|⟨rfl,_,X,_,_,ho⟩
 . refine ⟨⟨_,_,_,rfl⟩,.inr ?_⟩;rcases h with ⟨rfl,_⟩|⟨rfl,_⟩<;>exact ⟨_,by decide,rfl⟩
 . obtain ⟨a,b,e⟩:=bE ho;exact ⟨⟨_,_,_,e⟩,.inl rfl⟩
def vH.keep {xs:aZ} {base':Nat} {r:ZS} (h:vH xs x base u r w) (l:base'<=base) (m:∀ (j:Nat) (cs:Array ZS),w.heap[j]?=ZW (Z4 cs 5 (0,0))->w'.heap[j]?=w.heap[j]?):vH xs x base' u r w':=by
 refine h.imp id ?_;rintro ⟨e,f,X,i,k,ho⟩;refine ⟨e,f,X,i,k,ho.1,?_⟩;rcases ho.2 with d|⟨g,cap,cur,b,c,a,n⟩
 . exact .inl d
 . exact .inr ⟨g,cap,cur,b,TU l c,(m _ _ a).trans a,n⟩
def Du {n c:Nat} {ao:Option Addr} (d:ZP w b 39 (.slice ao n c)):vk w b:=λoff u h=>by
 have a:w.heap[b]?=ZW (Z4 #[.slice ao n c] 39 (0,0)):=d;cases off with
 | zero=>simp [World.cell?,a] at h;subst h;exact ⟨λ_=>nofun,λ_=>nofun⟩
 | succ n=>simp [World.cell?,a] at h
def FJ (w:ZT) (ar v p:Nat) (Kind:aN->Prop) (ps:aN) (D L G t:Nat) (xs:aZ) (A:aF) (F:aQ) (x:ByteArray) (e:ZQ) (w':ZT):Prop:=
 ∃ u r ps' pg ob P,e=Z3 (ZY #[u,r])/\Rm w ar v p Kind ps D L G t pg ob P xs A F ps' w'/\aa (λj=>j=ar\/F.S j\/j=v\/ps.bl j) w w'/\vH xs x w.heap.size u r w'
theorem M6 {w1:ZT} {q1 q2 q3:Nat} {Kind:aN->Prop} {ps:aN} {xs:aZ} {A:aF} (h:aT w ar v p ps D L G t pg ob P xs A F) (x:ByteArray) (i:∀ w1,bW w w1->ZR ZO 54 #[Z6 (ZW ⟨ar,0,ZX⟩),ZZ x] w1 (mJ w1 ar v p Kind ps D L G t pg ob P xs A F x)) (d:bW w w1) (z:ZP w1 q1 106 (Z6 (ZW ⟨ar,0,ZX⟩))) (C:ZP w1 q2 9 (ZZ x)) (f:ZP w1 q3 39 (Z5 ZX 0 0)) (R:w.heap.size<=q3) :
 ZR ZO 53 #[Z6 (ZW ⟨q1,0,ZX⟩),Z6 (ZW ⟨q2,0,ZX⟩),Z6 (ZW ⟨q3,0,ZX⟩)] w1 λe w2=>∃ u r ps',e=Z3 r/\Rm w ar v p Kind ps D L G t pg ob P xs A F ps' w2/\aa (λj=>F.S j\/j=v\/ps.bl j\/j=q3) w1 w2/\vH xs x w.heap.size u r w2/\ZP w2 q3 39 u:=by
 have J:=z.cell;have K:=C.cell;have E:=i w1 d;have g:∀ j,F.S j->j<w.heap.size:=λj a=>h.vol.arr.RO a;have H:=a5 h f g d;clear h z C f g d i;go_enter func53,ntmps53;go_wp2_with fail;refine E.mono ?_;rintro e w2 ⟨u,r,ps',rfl,i,l,m⟩;obtain ⟨h,f,g,d⟩:=H.o;have b:ZP w2 q3 39 (Z5 ZX 0 0):=(l.block _ f.lt (λe=>by
  rcases e with e|e|e
  . have:=g _ e;omega
  . have:=h.vol.vol.lt;omega
  . have:=ps.lt _ h.kit _ e;omega)).trans f
 have T:=b.cell;have U:=b.frozen;obtain ⟨ao,n,c,rfl⟩:=m.isSlice.1;have I:=a5 i l m b;clear i l m b E J K h f g d;go_wp2;go_ret;obtain ⟨⟨hl,O,Q⟩,l,m,b⟩:=I.o;obtain ⟨h,f,g,d⟩:=H.o;have M:ZP (w2.setCell ⟨q3,0,ZX⟩ (.slice ao n c)) q3 39 (.slice ao n c):=b.set _;have s:∀ j,j≠q3->(w2.setCell ⟨q3,0,ZX⟩ (.slice ao n c)).heap[j]?=w2.heap[j]?:=λj a=>Ud _ _ _ _ a;have N:vk w2 q3:=Du b;refine ⟨_,r,ps',rfl,⟨hl.aside (B:=w.heap.size) N (bZ hl.kit b oY) (by simp [World.setCell]) (λk y _=>s k y) R (by exact g) h.vol.vol.lt h.arc.lt h.vol.room,O,λk y=>(Q k y).imp id λq=>TU d.size q⟩,?_,m.keep d.size (λj cs a=>s j (λe=>by subst e;rw [b] at a;cases a)),M⟩;exact (l.mono λj _ a=>by
  rcases a with q|q|q
  . exact .inl q
  . exact .inr (.inl q)
  . exact .inr (.inr (.inl q))).trans ⟨rfl,rfl,rfl,by simp [World.setCell],λj _ a=>s j (λe=>a (.inr (.inr (.inr e))))⟩
theorem abi {Kind:aN->Prop} {ps:aN} {xs:aZ} {A:aF} (h:aT w ar v p ps D L G t pg ob P xs A F) (x:ByteArray) (C:∀ w1,bW w w1->ZR ZO 54 #[Z6 (ZW ⟨ar,0,ZX⟩),ZZ x] w1 (mJ w1 ar v p Kind ps D L G t pg ob P xs A F x)) :
 ZR ZO 41 #[Z6 (ZW ⟨ar,0,ZX⟩),ZZ x] w (FJ w ar v p Kind ps D L G t xs A F x):=by
 have hm:∀ (args:Array ZS) (w:ZT),(callFunc 53 args).run ZO w=.ok (.enter 53 args) w:=Ve func53 (by kernel_rfl) rfl;obtain ⟨K,J⟩:=nM (((w.alloc (Z4 #[Z6 (ZW ⟨ar,0,ZX⟩)] 106)).alloc (Z4 #[ZZ x] 9)).alloc (Z4 #[Z5 ZX 0 0] 39));have f:ZP K w.heap.size 106 (Z6 (ZW ⟨ar,0,ZX⟩)):=by rw [<- J];exact ((Ut w _ _).alloc _).alloc _
 have g:ZP K (w.heap.size+1) 9 (ZZ x):=by
  have:=(Ut (w.alloc (Z4 #[Z6 (ZW ⟨ar,0,ZX⟩)] 106)) 9 (ZZ x)).alloc (Z4 #[Z5 ZX 0 0] 39);rw [Uq] at this;rw [<- J];exact this
 have l:ZP K (w.heap.size+2) 39 (Z5 ZX 0 0):=by
  have:=Ut ((w.alloc (Z4 #[Z6 (ZW ⟨ar,0,ZX⟩)] 106)).alloc (Z4 #[ZZ x] 9)) 39 (Z5 ZX 0 0);simp only [Uq] at this;rw [<- J];exact this
 have d:bW w K:=by rw [<- J];exact ((bA w _).alloc (by simp) _).alloc (by simp;omega) _
 have U:=h.below d;have hr:=l.lt;have W:=AE U 53 #[] #[Z6 (ZW ⟨w.heap.size,0,ZX⟩),Z6 (ZW ⟨w.heap.size+1,0,ZX⟩),Z6 (ZW ⟨w.heap.size+2,0,ZX⟩)] hm
  (λr Q xs' B ps' w2=>∃ u,vH xs x w.heap.size u r w2/\ZP w2 (w.heap.size+2) 39 u/\(Kind ps'/\∀ k,ps'.bl k->ps.bl k\/w.heap.size<=k)/\Q=t/\xs'=xs/\B=A) (λj=>j=w.heap.size+2\/j=v\/ps.bl j) (λj e=>by
   rcases e with e|e|e
   . omega
   . have:=h.vol.vol.lt;have:=d.size;omega
   . have:=ps.lt _ h.kit _ e;have:=d.size;omega)
  (λr Q xs' B ps' w2 w' R=>by
   rintro ⟨u,E,z,Z⟩;have V:∀ j,w2.heap[j]?≠ZW (Obj.cells #[Value.nilIface] 63 (0,0))->w'.heap[j]?=w2.heap[j]?:=λj b=>R.2.2 j (λe=>by subst e;exact b R.1);refine ⟨u,E.keep lR (λj cs b=>V j (by rw [b];simp)),(V _ (by rw [z];simp)).trans z,Z⟩)
  (λw1 y hq=>(M6 h x C (d.trans (y.mono d.size)) ((y.block _ f.lt).trans f) ((y.block _ g.lt).trans g) ((y.block _ l.lt).trans l) (by omega)).mono (by
   rintro e w2 ⟨u,r,ps',rfl,⟨hl,C⟩,hO,E,z⟩;exact ⟨r,t,pg,ob,P,xs,A,ps',rfl,E.isSlice.2,hl,dZ.refl A,hO.mono λj _ b=>by
    rcases b with q|q|q|q
    . exact .inr (.inl q)
    . exact .inr (.inr (.inr (.inl q)))
    . exact .inr (.inr (.inr (.inr q)))
    . exact .inr (.inr (.inl q)),u,E,z,C,rfl,rfl,rfl⟩))
 have c1:=f.cell;have H:=aE W d h;clear W d f g l h U C;go_enter func41,ntmps41;go_wp2_with fail;refine H.o.1.mono ?_;rintro e w8 ⟨r,Q,O,N,P',xs',B,ps',rfl,hp,I,hn,s,u,i,T,m,rfl,rfl,rfl⟩;have a:ZP w8 (w.heap.size+1+1) 39 u:=T;have y0:=a.cell;have y1:=a.frozen;obtain ⟨ao,n,c,rfl⟩:=i.isSlice.1;have X:=a6 s i a I m;clear m I s i T a hp hn;go_wp2;obtain ⟨s,i,a,I,m⟩:=X.o;have Y:=(a.set (.slice ao n c)).cell;refine Ur (v:=ZY #[.slice ao n c,r]) (by simp [results,results41,go_sem,Y]) rfl ?_;have M:bW w8 (w8.setCell ⟨w.heap.size+1+1,0,ZX⟩ (.slice ao n c)):=⟨rfl,rfl,rfl,by simp [World.setCell],λj b=>by
  by_cases e:j=w.heap.size+1+1
  . subst e;exact (a.set (.slice ao n c)).trans a.symm
  . exact Ud _ _ _ _ e⟩
 refine ⟨_,r,ps',O,N,P',rfl,⟨I.below M,m⟩,?_,i.keep lR (λj cs b=>M.block j (TX.1 b).1)⟩;have hk:aa (λj=>j=ar\/F.S j\/j=v\/ps.bl j) w w8:=(aa.RN H.o.2.1 (λj=>j=ar\/F.S j\/j=v\/ps.bl j)).later s (λj f g=>by
  rcases g with q|q|q|q|q
  . exact .inl q
  . exact .inr (.inl q)
  . omega
  . exact .inr (.inr (.inl q))
  . exact .inr (.inr (.inr q)))
 exact hk.trans (aa.RN M _)
theorem abj {Kind:aN->Prop} {ps:aN} {xs:aZ} {A:aF} (g:ZP w sa 108 (Z6 (ZW ⟨ar,0,ZX⟩))) (h:aT w ar v p ps D L G t pg ob P xs A F) (x:ByteArray) (d:∀ w1,bW w w1->ZR ZO 54 #[Z6 (ZW ⟨ar,0,ZX⟩),ZZ x] w1 (mJ w1 ar v p Kind ps D L G t pg ob P xs A F x)) :
 ZR ZO 21 #[Z6 (ZW ⟨sa,0,ZX⟩),ZZ x] w (FJ w ar v p Kind ps D L G t xs A F x):=by
 have cs:=g.cell;have f:=abi h x d;clear g h d;go_enter func21,ntmps21;go_wp2_with fail;refine f.mono ?_;rintro e w8 ⟨u,r,ps',b,a,P',rfl,c⟩;have i:=ak c;clear c f;go_wp2;go_ret2;exact ⟨u,r,ps',b,a,P',rfl,i.o⟩
