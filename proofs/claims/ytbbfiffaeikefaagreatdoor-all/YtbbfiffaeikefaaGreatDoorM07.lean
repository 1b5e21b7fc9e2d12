import Derived.Test.YtbbfiffaeikefaaGreatDoorM06
set_option maxRecDepth 100000
set_option linter.all false
set_option maxHeartbeats 8000000
open Go.IntKind renaming i64 -> Z9, u64 -> Z8
open Go.Value renaming int -> Z7, pointer -> Z6, slice -> Z5, bool -> Z1, string -> ZZ, tuple -> ZY
open Go.Obj renaming cells -> Z4
open Go.Ending renaming returned -> Z3
open Go.Operand renaming tmp -> Z0
open Option renaming none -> ZX, some -> ZW
open Bool renaming true -> ZV, false -> ZU
open Go renaming World -> ZT, Value -> ZS, Calls -> ZR, Addr -> ZQ, Ending -> ZP, TypeId -> ZO, Boxed -> ZN
open Go.Proofs.YtbbfiffaeikefaaGreatDoor renaming pgs -> YE
open ByteArray renaming empty -> YF
open List renaming getElem_take -> YG, replicate -> YK, mem_eraseIdx_iff_getElem -> YM
open Int.ofNat renaming inj -> YH
open List.Nodup renaming sublist -> YI
open UInt8 renaming ofNat -> YJ
open Array renaming getElem?_setIfInBounds_self_of_lt -> YL
open Nat renaming left_le_or -> YN
open Go.Proofs.Tryz renaming prog -> ZM
open Go.Proofs.Tryz
namespace Go.Proofs.YtbbfiffaeikefaaGreatDoor
def abC:=@Nat.div_le_div_left
def ab6:=@Nat.le_div_iff_mul_le
def U2:=@Go.Proofs.Tryz.underlying51
end Go.Proofs.YtbbfiffaeikefaaGreatDoor
namespace Go.Proofs.YtbbfiffaeikefaaGreatDoor
open Go.RowKit Go.Deep Gf Go.Shelf
variable {A:aF} {C:Ck} {F:aQ} {room regs z:Int} {O:List (Int×Nat×Nat×a8)} {Dl:List a8} {es:List (Nat×Nat×Nat)} {l d P dl ds:a8} {os:List Ob} {ys:List ZS} {D n m c ar p L G ps ho t B k base g cap a b c1 lost sb N r gone sp s x l1 size:Nat} {nw ol:Nat->Nat} {K K' S:Nat->Prop} {f sv:Nat->ZS} {ao:Option ZQ} {e:ZO} {v pg ob vp er u:ZS} {w w' w2 w3 wx w1 w0 w4 w5 w6:ZT}
section
def jS (T:ZO):Prop:=T=230\/T=266\/T=263\/T=290
structure aN where
 ps:Nat
 ho:Nat
 bl:Nat->Prop
 S:ZT->Prop
 keep:∀ w w',S w->(∀ k,bl k->w'.heap[k]?=w.heap[k]?)->S w'
 kd:∀ w,S w->∀ k,bl k->∀ cs T z,w.heap[k]?=ZW (Z4 cs T z)->jS T
 lt:∀ w,S w->∀ k,bl k->k<w.heap.size
 cl:∀ w,S w->∀ k,bl k->k+2=ps\/∃ cs T z,w.heap[k]?=ZW (Z4 cs T z)
structure aT (w:ZT) (ar v p:Nat) (ps:aN) (D L G t:Nat) (pg ob:ZS) (P:a8) (xs:aZ) (A:aF) (F:aQ):Prop where
 arc:bf w ar v D L G t (P.getD 0 0) (ai xs.os).length pg ob ZU
 vol:pH w v p D L G ps.ps ps.ho A F
 nar:¬ F.S ar
 vlt:3<=v/\v<ar
 disk:cM A D L G t P xs
 pgs:bg (λk=>ar<k/\¬ F.S k/\¬ ps.bl k) w pg P
 cat:eN (λk=>ar<k/\¬ F.S k/\¬ ps.bl k) w ob xs.os
 nb:A.nb<=1000
 turn:t<=1000000
 kit:ps.S w
 apt:∀ k,ps.bl k->3<=k/\k≠ar/\k≠v/\¬ F.S k
 hl:ps.ho<2^(D+L+G)
 fine:A.fine D L G
def bg.any (h:bg K w v l):bg (λk=>k<w.heap.size) w v l:=by
 obtain ⟨ao,c,d,e,f⟩:=h;refine ⟨ao,c,d,e,λhl=>?_⟩;obtain ⟨b,off,g,j,a,i⟩:=f hl;exact ⟨b,off,g,a.lt,a,i⟩
def eN.any (h:eN K w v os):eN (λk=>k<w.heap.size) w v os:=by
 obtain ⟨ao,c,d,e,f⟩:=h;refine ⟨ao,c,d,e,λhl=>?_⟩;obtain ⟨b,off,j,q,a,l⟩:=f hl;refine ⟨b,off,j,a.lt,a,λi g=>?_⟩;obtain ⟨sv,m,n,o,p⟩:=l i g;exact ⟨sv,m,n,o,p.any⟩
def vh:∀ {xs:aZ},(∀ x∈xs,lh D x)->xs.os.length<=(af xs.os).length
 | [],_=>TV _
 | x::xs,h=>by
  have:=vh (xs:=xs) (λy c=>h y (by simp [c]));have b:=(h x (by simp)).st;have:1<=x.1.RL.length:=by rw [b];exact Nat.le_max_left _ _
  have e:af (aZ.os (x::xs))=x.1.RL++af (aZ.os xs):=by simp [af,aZ.os]
  have a:(aZ.os (x::xs)).length=(aZ.os xs).length+1:=by simp [aZ.os]
  rw [e,a,T8];omega
section
variable {w:ZT} {ar v p D L G t:Nat} {ps:aN} {pg ob:ZS} {P:a8} {xs:aZ} {A:aF} {F:aQ}
def aT.vne (h:aT w ar v p ps D L G t pg ob P xs A F):v≠ar:=by have:=h.vlt;omega
def aT.n0 (h:aT w ar v p ps D L G t pg ob P xs A F):0<A.n:=by have:=h.vol.n;have:=h.vol.par.d1;omega
def aT.Si (h:aT w ar v p ps D L G t pg ob P xs A F):xs.os.length<=1000/\(af xs.os).length<=1000/\P.length<=1000:=by
 have:=vh h.disk.fits;have:=h.disk.room;have:=h.nb;omega
def aT.packL_le (h:aT w ar v p ps D L G t pg ob P xs A F):(ai xs.os).length<=1000000:=by
 have:=jf h.vol.par.d1 h.disk.fits;have:=h.Si.1;have:xs.os.length=xs.length:=by simp [aZ.os]
 have:1500/(D*44)<=34:=by
  have:=h.vol.par.d1;have:1500/(D*44)<=1500/44:=abC (by omega) (by decide);omega
 have:xs.length*(19+4*(1500/(D*44)+1))<=1000*(19+4*(34+1)):=Xg (by omega) (by omega);omega
def aT.below (h:aT w ar v p ps D L G t pg ob P xs A F) {w':ZT} (a:bW w w'):aT w' ar v p ps D L G t pg ob P xs A F:=
 { h with arc:=h.arc.keep (a.block _ h.arc.lt),vol:=h.vol.below a lR,pgs:=h.pgs.keep (eu.RM a),cat:=h.cat.keep (eu.RM a),kit:=ps.keep _ _ h.kit λk b=>a.block k (ps.lt _ h.kit k b) }
def eH (xs:aZ):aS xs.os=xs.names:=by simp [aS,aZ.os,aZ.names]
def aT.find (h:aT w ar v p ps D L G t pg ob P xs A F) (x:ByteArray) :
 ZR ZM 73 #[ob,ZZ x] w λe w'=>e=Z3 (ZY #[Z7 Z9 (aK xs.names x:Nat),Z1 (mP xs.os x)])/\bW w w':=by
 have a:Up (aS xs.os):=by rw [eH];exact h.disk.up
 have:=L2 h.cat.any (by have:=h.Si.1;omega) a x;rwa [eH] at this
def aT.there (h:aT w ar v p ps D L G t pg ob P xs A F) {x:ByteArray} (b:x∈xs.names):mP xs.os x=ZV:=by
 have a:Up (aS xs.os):=by rw [eH];exact h.disk.up
 exact (CO a x).2 (by rw [eH];exact b)
def aT.Sm (h:aT w ar v p ps D L G t pg ob P xs A F) {x:ByteArray} (b:x∉xs.names):mP xs.os x=ZU:=by
 have a:Up (aS xs.os):=by rw [eH];exact h.disk.up
 cases hi:mP xs.os x
 . rfl
 . exact absurd ((CO a x).1 hi) (by rw [eH];exact b)
end
def bg.wk (h:bg K w v l) (g:∀ k,K k->k<w.heap.size->K' k):bg K' w v l:=by
 obtain ⟨ao,c,d,e,f⟩:=h;refine ⟨ao,c,d,e,λhl=>?_⟩;obtain ⟨b,off,i,j,a,m⟩:=f hl;exact ⟨b,off,i,g _ j a.lt,a,m⟩
def eN.wk (h:eN K w v os) (a:∀ k,K k->k<w.heap.size->K' k):eN K' w v os:=by
 obtain ⟨ao,c,e,f,g⟩:=h;refine ⟨ao,c,e,f,λhl=>?_⟩;obtain ⟨b,off,l,m,d,n⟩:=g hl;refine ⟨b,off,l,a _ m d.lt,d,λi j=>?_⟩;obtain ⟨sv,o,p,q,r⟩:=n i j;exact ⟨sv,o,p,q,r.wk a⟩
end
def Az (n:Int):ZS:=.iface 66 (Z7 Z9 n)
def mQ (D n:Nat):Nat:=max 1 ((n+D*44-1)/(D*44))
def AA (D m n:Nat):Nat:=YE D (m+(19+4*mQ D n))
def AC (hD:1<=D) (d:n<=1500):mQ D n<=36:=by
 unfold mQ;have e:(n+D*44-1)/(D*44)<=n/(D*44)+1:=by
  have:=Gw (D*44) n (by omega);exact TU (Nat.le_max_right _ _) this
 have f:n/(D*44)<=1500/44:=by
  have a:=Yn (c:=D*44) d;have b:1500/(D*44)<=1500/44:=abC (by omega) (by decide);omega
 omega
def Q8 (hD:1<=D) (c:m<=2000000):YE D m<=1000000:=by
 unfold YE;have:(m+(D*44-4)-1)/(D*44-4)<=(m+(D*44-4)-1)/40:=abC (by omega) (by decide);have:(m+(D*44-4)-1)/(D*44-4)<=m/40+1:=by
  refine TU ((Nat.div_le_iff_le_mul_add_pred (by omega)).2 ?_) lR;have:40*(m/40+1)<=(D*44-4)*(m/40+1):=WX _ (by omega);omega
 omega
theorem Jg (ao:Option ZQ) (n c a bb:Nat) (i:a<=bb) (j:bb<=c):∃ d,(∀ w,(Instr.sliceAt 39 (.slice ao n c) (ZW (Z7 Z9 (a:Nat))) (ZW (Z7 Z9 (bb:Nat))) ZX).run ZM w=.ok (.slice d (bb-a) (c-a)) w)/\∀ b off,ao=ZW ⟨b,off,ZX⟩->c≠a->d=ZW ⟨b,off+a,ZX⟩:=by
 match ao with
 | none=>exact ⟨ZX,λw=>by go_simp,λ_ _ h=>by cases h⟩
 | some ⟨b,off,x⟩=>exact ⟨if c=a then ZW ⟨b,off,x⟩ else ZW (Addr.add ⟨b,off,x⟩ a),λw=>by go_simp,λg e h f=>by rw [TS f];cases h;rw [Vr]⟩
def Q9 {a':Option ZQ} (h:Bs w (.slice ao n c) d) (A:n=d.length) {ks m a:Nat} (q:∀ b off,ao=ZW ⟨b,off,ZX⟩->c≠ks->a'=ZW ⟨b,off+ks,ZX⟩) (f:((d.drop ks).take m).length=a) (z:ks+a<=n):Bs w (.slice a' a (c-ks)) ((d.drop ks).take m):=by
 obtain ⟨g,t,e,u,v,l,o⟩:=h;simp only [VH] at e;obtain ⟨rfl,_,rfl⟩:=e;refine ⟨_,_,by rw [f],by omega,by omega,λx s=>l x (U0 (UY s)),λhl=>?_⟩;obtain ⟨b,off,i,r⟩:=o (λe=>by rw [e] at hl;simp at hl);have:0<a:=by rw [<- f];exact Yi.2 hl
 refine ⟨b,off+ks,q b off i (by omega),λk j=>?_⟩;have p:k<m:=by rw [Un] at j;omega
 rw [Vx,r (ks+k) (by omega)];simp only [T6,VO p,Wd]
theorem rW {v D' L' G' f nn:Nat} {ofb:Bool} (s:bf w ar v D' L' G' t f nn pg ob ofb) (g:pH w v p D L G ps ho A F) (k6:¬ F.S ar)
 (nm:ByteArray) (sv:ZS) (S:a8) (C:bg (λk=>¬ F.S k) w sv S) (k5:∀ x∈S,x<A.nb) (ao:Option ZQ) (c:Nat) (d:a8) (M:∀ w',aa F.S w w'->Bs w' (.slice ao d.length c) d) (kb:d.length<=1500) (ka:d.length<=c) (hm:∀ k,k<S.length->k*(D*44)<=d.length) :
 ZR ZM 102 #[Z6 (ZW ⟨ar,0,ZX⟩),.agg #[ZZ nm,Z7 Z9 (d.length:Nat),sv],.slice ao d.length c] w (EC w p D L G S (dA D d) A F):=by
 have kp:=g.par.d1;have hD:=g.par.d;obtain ⟨N,O,rfl,hn,_⟩:=id C;obtain ⟨c0,_⟩:=s.cells;have hz:=λW (hW:bW w W)=>dF (g.vol.keep (hW.block _ g.vol.lt)) (by omega);obtain ⟨a,K⟩:=nM (D*44);have kk:44<=a/\a<=528:=by omega
 have m:bW w (w.alloc (Z4 #[ZZ nm,Z7 Z9 (d.length:Nat),.slice N S.length O] 137)):=bA w _;have l:an (w.alloc (Z4 #[ZZ nm,Z7 Z9 (d.length:Nat),.slice N S.length O] 137)) w.heap.size 137 [ZZ nm,Z7 Z9 (d.length:Nat),.slice N S.length O]:=UE w _;obtain ⟨n,r⟩:=nM (d.length);rw [r] at m l ka kb ⊢;have g2:=l.cell (j:=2) (u:=.slice N S.length O) rfl;have I:=(m.cell (p:=⟨ar,0,ZX⟩) s.lt).trans c0;have T:=hz _ m;obtain ⟨w1,km⟩:=nM (w.alloc (Z4 #[ZZ nm,Z7 Z9 (n:Nat),.slice N S.length O] 137));rw [km] at T g2 I m l;rw [K] at T hm;have Q:=hide8 s g C M m l r K;clear s g C M hz m l r c0;go_enter func102,ntmps102;go_wp2_with fail;refine T.mono ?_;rintro e P ⟨rfl,rfl⟩;clear T;go_wp2;go_loopw [19] (λi wr=>∃ k:Nat,i=Z7 Z9 (k:Nat)/\k<=S.length/\aA wr p (A.wrTo D L G S (dA D d) k) F/\aa (F.S) P wr) (λi _=>S.length-(intOf i).toNat)
 case atStart=>exact ⟨0,rfl,T5 _,Q.o.2.1.arr.below Q.o.2.2.2.2.1 lR,aa.refl _ _⟩
 case round=>
  clear g2 I;obtain ⟨k,rfl,hk,U,B⟩:=hrel;by_cases z:k<S.length
  . obtain ⟨s,g,C,M,m,l,r,K⟩:=Q.o;have J:aa (F.S) w wr:=(aa.RN m _).trans B;obtain ⟨sb,so,hb,e1,hq⟩:=sr (C.keep (eu.R6 J)) (λe=>by rw [e] at z;simp at z);simp only [VH] at e1;obtain ⟨rfl,_,rfl⟩:=e1;have g1:=hq k z;obtain ⟨y,V⟩:=nM (S[k]);rw [V] at g1;have ko:y<A.nb:=(by rw [<- V];exact k5 _ (TY z));have Z:=s.keep (J.block _ s.lt k6);obtain ⟨ca,_⟩:=Z.cells;have kj:¬ F.S w.heap.size:=λh=>by have:=g.arr.RO h;omega
    have hf:an wr w.heap.size 137 _:=l.keep (B.block _ l.lt kj);have cz:=hf.cell (j:=1) (u:=Z7 Z9 (n:Nat)) rfl;have hv:=hm k z;obtain ⟨q,hx⟩:=nM (k*a);obtain ⟨b,hg⟩:=nM ((k+1)*a);have Y:(k+1)*a=k*a+a:=WZ k a;have kg:(k:Int)*(a:Int)=((k*a:Nat):Int):=(by rw [XL]);have kh:((k:Int)+1)*(a:Int)=(((k+1)*a:Nat):Int):=(by rw [XL];rfl);rw [hx] at kg Y hv;rw [hg] at kh Y;rw [r] at hv;obtain ⟨bb,k9⟩:=nM (min b n);have k7:q<=bb:=(by omega);have k8:bb<=c:=(by omega);have hs:dA D d k=(d.drop q).take a:=(by unfold dA;rw [K,hx]);have X:((d.drop q).take a).length=bb-q:=(by rw [Un,Um];omega);have ki:∀ H ty w,(Builtin.min_ H ty #[Z7 Z9 (b:Nat),Z7 Z9 (n:Nat)]).run ZM w=.ok (Z7 Z9 (bb:Nat)) w:=λH ty w=>by
     rw [gy];by_cases R:((n:Nat):Int)<((b:Nat):Int)
     . rw [TT R,show bb=n by omega]
     . rw [TS R,show bb=b by omega]
    obtain ⟨a',kv,hp⟩:=Jg ao n c q bb k7 k8;have hh:=ju A D L G S (dA D d) k;have k0:ZR ZM 139 #[Z6 (ZW ⟨v,0,ZX⟩),Z7 Z9 y,.slice a' (bb-q) (c-q)] wr.drew λe w'=>e=Z3 .nilIface/\aA w' p (A.wrTo D L G S (dA D d) (k+1)) F/\aa F.S P w':=by
     have hr:=M wr.drew (J.trans (aa.drew _));rw [r] at hr;refine (lf (g.turn (J.trans (aa.drew _)) (U.keep λ_ _=>rfl) hh.1) y (by rw [hh.2.1];exact ko) _ _ (Q9 hr r.symm hp X (by omega)) (by rw [X];omega)).mono ?_;rintro e w' ⟨rfl,R,h2⟩;refine ⟨rfl,?_,B.trans ((aa.drew _).trans h2)⟩;rw [aF.wrTo,hs,je z,V];exact R
    have HW:=aE k0 Z hf;have kr:IntKind.i64.wrap ((k:Int)+1)=(k:Int)+1:=(by rw [UB];omega);have ke:IntKind.i64.wrap (q:Int)=(q:Int):=(by rw [UB];omega);have kf:IntKind.i64.wrap (b:Int)=(b:Int):=(by rw [UB];omega);clear hp k0 Z hf B J U hh hs X hq V s g C M m l r K k9 Y;go_wp2;go_region_with (go_at_call 139;refine HW.o.1.mono ?_;rintro e w2 ⟨rfl,hi,hj⟩;have E:=al hi hj;clear hi hj);all_goals (
     go_wp2;go_roundw
     case rel=>exact ⟨k+1,by go_num,by omega,E.o.1,E.o.2⟩
     case measure=>simp only [intOf];omega)
  . have kc:k=S.length:=(by omega);subst kc;have E:=al U B;clear U B;go_wp2;go_ret;exact ⟨rfl,E.o.1,(aa.RN Q.o.2.2.2.2.1 _).trans E.o.2⟩
def Ra (A:aF) (D L G:Nat) (S:a8) (c:Nat->a8) (k:Nat):dZ A (A.wrTo D L G S c k):=(ju A D L G S c k).2.2
def AD (A:aF) (D L G t:Nat) (P l:a8):dZ A (A.TG D L G t P l):=(Px A D L G t P l).2.2
def qI {v t':Nat} {ps:aN} {vo:ZS} {P':a8} {xs xs':aZ} {B:aF} (h:aT w ar v p ps D L G t pg ob P xs A F) (i:bf w' ar v D L G t' (P'.getD 0 0) (ai xs'.os).length vp vo ZU) (c:aA w' p B F) (b:aa (λk=>k=ar\/F.S k) w w') (a:dZ A B) (l:t'<=1000000)
 (j:cM B D L G t' P' xs') (f:bg (λk=>ar<k/\¬ F.S k/\¬ ps.bl k) w' vp P') (d:eN (λk=>ar<k/\¬ F.S k/\¬ ps.bl k) w' vo xs'.os):aT w' ar v p ps D L G t' vp vo P' xs' B F:=by
 have:=h.vlt;exact ⟨i,{ h.vol with vol:=h.vol.vol.keep (b.block _ h.vol.vol.lt (λe=>e.elim h.vne h.vol.v)),arr:=c,laid:=h.vol.laid.keep (b.block _ h.vol.laid.lt (λe=>e.elim (λq=>by omega) h.vol.g)),tab:=h.vol.tab.keep (b.block _ h.vol.tab.lt (λe=>e.elim (λq=>by omega) h.vol.t)),room:=TU h.vol.room b.size,n:=a.n.trans h.vol.n },h.nar,h.vlt,j,f,d,by rw [a.nb];exact h.nb,l,ps.keep _ _ h.kit λk a=>b.block k (ps.lt _ h.kit k a) (λq=>q.elim (h.apt k a).2.1 (h.apt k a).2.2.2),h.apt,h.hl,a.fine h.fine⟩
def Jh {v:Nat} {ps:aN} {xs:aZ} {B:aF} (h:aT w ar v p ps D L G t pg ob P xs A F) (d:bf w' ar v D L G t (P.getD 0 0) (ai xs.os).length pg ob ZU) (c:aA w' p B F) (a:aa (λk=>k=ar\/F.S k) w w') (b:dZ A B) (f:cM B D L G t P xs):aT w' ar v p ps D L G t pg ob P xs B F:=
 have hK:eu (λk=>ar<k/\¬ F.S k/\¬ ps.bl k) w w':=⟨a.size,λk b hK=>a.block k b (λe=>e.elim (λq=>by have:=hK.1;omega) hK.2.1)⟩;qI h d c a b h.turn f (h.pgs.keep hK) (h.cat.keep hK)
def De (hD:1<=D) (h:k<YE D m):k*(D*44-4)<=m:=by
 unfold YE at h;rcases WQ k with rfl|c
 . simp
 . have a:k<(m+(D*44-4)-1)/(D*44-4):=(by omega);have b:(k+1)*(D*44-4)<=m+(D*44-4)-1:=(ab6 (by omega)).1 a;rw [WZ] at b;omega
def Df (hD:1<=D) (h:k<mQ D n):k*(D*44)<=n:=by
 unfold mQ at h;rcases WQ k with rfl|c
 . simp
 . have a:k<(n+D*44-1)/(D*44):=(by omega);have b:(k+1)*(D*44)<=n+D*44-1:=(ab6 (by omega)).1 a;rw [WZ] at b;omega
def yQ (ho:w.ownsRow base 3 1 (Z5 (ZW ⟨g,0,ZX⟩) (a+b) cap) (a+b) (jU l)) (hl:l.length=a+b) (hK:K g) (q:a+b<=100000):bg K w (Z5 (ZW ⟨g,0,ZX⟩) a c1) (l.take a):=by
 rcases ho.2 with ⟨e,_⟩|⟨j,c,cur,e,m,h,p,n,o,k⟩
 . cases e
 . simp only [VH,UF,abw] at e;obtain ⟨⟨rfl,_,_⟩,_,rfl⟩:=e;have f:(l.take a).length=a:=(by rw [Un];omega);refine ⟨_,c1,by rw [f],by omega,λ_=>⟨g,0,rfl,hK,⟨_,_,_,h,by decide⟩,λi r=>?_⟩⟩;have d:=ho.cells (g:=g) rfl i (Z7 Z9 ((l[i]'(by omega):Nat):Int)) (by unfold jU;rw [UA,Ua (by omega)];rfl);rw [jC] at d;rw [Ui,YG];exact d
def Ji (ho:w.ownsRow base 3 1 (Z5 (ZW ⟨g,0,ZX⟩) (a+b) cap) (a+b) (jU l)) (hl:l.length=a+b) (hK:K g) (q:a+b<=100000):bg K w (Z5 (ZW ⟨g,a,ZX⟩) b c1) (l.drop a):=by
 rcases ho.2 with ⟨e,_⟩|⟨j,c,cur,e,m,h,p,n,o,k⟩
 . cases e
 . simp only [VH,UF,abw] at e;obtain ⟨⟨rfl,_,_⟩,_,rfl⟩:=e;have f:(l.drop a).length=b:=(by rw [Um];omega);refine ⟨_,c1,by rw [f],by omega,λ_=>⟨g,a,rfl,hK,⟨_,_,_,h,by decide⟩,λi r=>?_⟩⟩;have d:=ho.cells (g:=g) rfl (a+i) (Z7 Z9 ((l[a+i]'(by omega):Nat):Int)) (by unfold jU;rw [UA,Ua (by omega)];rfl);rw [jC] at d;rw [Ym];exact d
def vk (w:ZT) (b:Nat):Prop:=∀ off u,w.cell? ⟨b,off,ZX⟩=ZW u->(∀ x,u≠Z7 Z9 x)/\∀ s,u≠ZZ s
def yR (a:w.heap[b]?=ZW (Z4 #[.nilIface] 63 (0,0))):vk w b:=λoff u h=>by
 cases off with
 | zero=>simp [World.cell?,a] at h;subst h;exact ⟨λ_=>nofun,λ_=>nofun⟩
 | succ n=>simp [World.cell?,a] at h
def bg.aside (h:bg K w v l) (p:vk w b) (t:w.heap.size<=w'.heap.size) (g:∀ k,k≠b->k<w.heap.size->w'.heap[k]?=w.heap[k]?):bg K w' v l:=by
 obtain ⟨ao,c,m,n,o⟩:=h;refine ⟨ao,c,m,n,λhl=>?_⟩;obtain ⟨a,off,r,s,d,j⟩:=o hl;have f:a≠b:=λe=>by
  subst e;exact (p _ _ (j 0 (Yi.2 hl))).1 _ rfl
 exact ⟨a,off,r,s,d.keep (g a f d.lt),λi q=>(Uk (g a f d.lt)).trans (j i q)⟩
def eN.aside (h:eN K w v os) (m:vk w b) (s:w.heap.size<=w'.heap.size) (f:∀ k,k≠b->k<w.heap.size->w'.heap[k]?=w.heap[k]?):eN K w' v os:=by
 obtain ⟨ao,c,o,p,q⟩:=h;refine ⟨ao,c,o,p,λhl=>?_⟩;obtain ⟨a,off,t,u,g,n⟩:=q hl;have l:a≠b:=λe=>by
  subst e;obtain ⟨sv,j,_⟩:=n 0 (Yi.2 hl);exact (m _ _ j).2 _ rfl
 refine ⟨a,off,t,u,g.keep (f a l g.lt),λi r=>?_⟩;obtain ⟨sv,j,x,y,z⟩:=n i r;have d:=f a l g.lt;exact ⟨sv,(Uk d).trans j,(Uk d).trans x,(Uk d).trans y,z.aside m s f⟩
def aT.aside {v:Nat} {ps:aN} {xs:aZ} (h:aT w ar v p ps D L G t pg ob P xs A F) (f:vk w b) (i:¬ ps.bl b) (c:w.heap.size<=w'.heap.size) (a:∀ k,k≠b->k<w.heap.size->w'.heap[k]?=w.heap[k]?) (m:B<=b) (l:∀ k,F.S k->k<B) (o:v<B) (n:ar<B) (hK:3<=B):aT w' ar v p ps D L G t pg ob P xs A F:=by
 exact { h with arc:=h.arc.keep (a _ (by omega) h.arc.lt),vol:={ h.vol with vol:=h.vol.vol.keep (a _ (by omega) h.vol.vol.lt),arr:=h.vol.arr.keep λj g=>a j (by have:=l j g;omega) (h.vol.arr.RO g),laid:=h.vol.laid.keep (a _ (by omega) h.vol.laid.lt),tab:=h.vol.tab.keep (a _ (by omega) h.vol.tab.lt),room:=TU h.vol.room c },pgs:=h.pgs.aside f c a,cat:=h.cat.aside f c a,kit:=ps.keep _ _ h.kit λk d=>a k (λe=>i (e▸d)) (ps.lt _ h.kit k d) }
def aT.Tt {v:Nat} {ps:aN} {xs:aZ} {cs:Array ZS} (h:aT w ar v p ps D L G t pg ob P xs A F) (a:w.heap[b]?=ZW (Z4 cs 63 (0,0))):¬ ps.bl b:=λq=>by
 exact absurd (ps.kd _ h.kit b q _ _ _ a) (by unfold jS;decide)
def MA (b:Nat) (w w':ZT):Prop:=w.heap[b]?=ZW (Z4 #[.nilIface] 63 (0,0))/\w'.heap.size=w.heap.size/\∀ j,j≠b->w'.heap[j]?=w.heap[j]?
def AE {v:Nat} {ps:aN} {xs:aZ} (h:aT w ar v p ps D L G t pg ob P xs A F) (k:FuncId) (first cap:Array ZS) (M:∀ (args:Array ZS) (w:ZT),(callFunc k args).run ZM w=.ok (.enter k args) w) (Q:ZS->Nat->aZ->aF->aN->ZT->Prop) (T:Nat->Prop) (J:∀ j,T j->j≠w.heap.size)
 (V:∀ x f xs' B a w2 w',MA w.heap.size w2 w'->Q x f xs' B a w2->Q x f xs' B a w')
 (N:∀ w1,bW w w1->w1.heap.size=w.heap.size+1->ZR ZM k (first++cap) w1 λe w2=>∃ x f d c P' xs' B a,e=Z3 x/\mZ x/\aT w2 ar v p a D L G f d c P' xs' B F/\dZ A B/\aa (λj=>j=ar\/F.S j\/T j) w1 w2/\Q x f xs' B a w2) :
 ZR ZM 52 #[Z6 (ZW ⟨ar,0,ZX⟩),.func (.func k) first cap] w λe w'=>∃ x f d c P' xs' B a,e=Z3 x/\mZ x/\aT w' ar v p a D L G f d c P' xs' B F/\dZ A B/\aa (λj=>j=ar\/F.S j\/T j) w w'/\Q x f xs' B a w':=by
 have E:=h.arc.lt;have W:=h.vol.vol.lt;have u:∀ j,F.S j->j<w.heap.size:=λj g=>h.vol.arr.RO g;have C:=h.vol.room;have U:=lX k first cap M w ar _ h.arc rfl (λw1 x w2=>bW w w1/\w1.heap.size=w.heap.size+1/\w2.heap[w.heap.size]?=ZW (Z4 #[.nilIface] 63 (0,0))/\∃ f d c P' xs' B a,aT w2 ar v p a D L G f d c P' xs' B F/\dZ A B/\aa (λj=>j=ar\/F.S j\/T j) w1 w2/\Q x f xs' B a w2)
  (λw1 l n O=>(N w1 l n).mono (by
   rintro e w2 ⟨x,f,d,c,P',xs',B,a,rfl,s,hl,r,o,q⟩;have y:=o;have z:w2.heap[w.heap.size]?=w1.heap[w.heap.size]?:=y.block _ (by omega) (λe=>by
    rcases e with e|e|e
    . omega
    . have:=u _ e;omega
    . exact J _ e rfl)
   exact ⟨x,rfl,s,⟨l,n,z.trans O,f,d,c,P',xs',B,a,hl,r,y,q⟩,z,_,hl.arc,rfl⟩))
 refine U.mono ?_;rintro e w' ⟨x,w1,w2,rfl,s,_,_,⟨l,n,m,f,d,c,P',xs',B,a,hl,r,o,q⟩,rfl⟩;have H:(w2.setCell ⟨w.heap.size,0,ZX⟩ x).heap[ar]?=ZW (Z4 (lH v D L G f (P'.getD 0 0) (ai xs'.os).length d c ZU) 135 (0,0)):=(Ud _ _ _ _ (by show ar≠w.heap.size;omega)).trans hl.arc;have I:=ag (j:=9) H (Z1 ZU);have i:MA w.heap.size w2 ((w2.setCell ⟨w.heap.size,0,ZX⟩ x).setCell ⟨ar,9,ZX⟩ (Z1 ZU)):=by
  refine ⟨m,by simp [World.setCell],λj g=>?_⟩;by_cases e:j=ar
  . subst e;exact I.trans hl.arc.symm
  . exact (Ud _ _ _ _ e).trans (Ud _ _ _ _ g)
 have R:=hl.aside (w':=(w2.setCell ⟨w.heap.size,0,ZX⟩ x).setCell ⟨ar,9,ZX⟩ (Z1 ZU)) (b:=w.heap.size) (B:=w.heap.size) (yR m) (hl.Tt m) (by rw [i.2.1];exact TV _) (λj g _=>i.2.2 j g) lR u W E C;refine ⟨x,f,d,c,P',xs',B,a,rfl,s,R,r,?_,V _ _ _ _ _ _ _ i q⟩;have K:aa (λj=>j=ar\/F.S j\/T j) w w2:=(aa.RN l _).trans o;exact K.later (T:=λj=>w.heap.size<=j) ⟨rfl,rfl,rfl,by rw [i.2.1];exact TV _,λj _ g=>i.2.2 j (by omega)⟩ (λj X Y=>by omega)
def aaF {v:Nat} {ps:aN} {xs:aZ} (h:aT w ar v p ps D L G t pg ob P xs A F) (k:FuncId) (first cap:Array ZS) (u:∀ (args:Array ZS) (w:ZT),(callFunc k args).run ZM w=.ok (.enter k args) w) (Q:ZS->Nat->aZ->aF->ZT->Prop)
 (z:∀ x a xs' B w2 w',MA w.heap.size w2 w'->Q x a xs' B w2->Q x a xs' B w')
 (y:∀ w1,bW w w1->w1.heap.size=w.heap.size+1->ZR ZM k (first++cap) w1 λe w2=>∃ x a c b P' xs' B,e=Z3 x/\mZ x/\aT w2 ar v p ps D L G a c b P' xs' B F/\dZ A B/\aa (λj=>j=ar\/F.S j) w1 w2/\Q x a xs' B w2) :
 ZR ZM 52 #[Z6 (ZW ⟨ar,0,ZX⟩),.func (.func k) first cap] w λe w'=>∃ x a c b P' xs' B,e=Z3 x/\mZ x/\aT w' ar v p ps D L G a c b P' xs' B F/\dZ A B/\aa (λj=>j=ar\/F.S j) w w'/\Q x a xs' B w':=by
 refine (AE h k first cap u (λx a xs' B d w2=>d=ps/\Q x a xs' B w2) (λ_=>False) (λ_ e=>e.elim) (λx a xs' B d w2 w' C r=>⟨r.1,z x a xs' B w2 w' C r.2⟩) λw1 s E=>(y w1 s E).mono ?_).mono ?_
 . rintro e w2 ⟨x,a,c,b,P',xs',B,f,g,i,l,m,n⟩;exact ⟨x,a,c,b,P',xs',B,ps,f,g,i,l,m.mono λj _ o=>o.elim .inl (λq=>.inr (.inl q)),rfl,n⟩
 . rintro e w2 ⟨x,a,c,b,P',xs',B,d,f,g,i,l,m,rfl,n⟩;exact ⟨x,a,c,b,P',xs',B,f,g,i,l,m.mono λj _ o=>o.elim .inl (λq=>q.elim .inr (λq=>q.elim)),n⟩
structure wE (w w2:ZT) (D L G lost:Int) (rd:Bool):Prop where
 par:w2.heap[w.heap.size]?=ZW (Z4 #[Z7 Z9 D,Z7 Z9 L,Z7 Z9 G,Z7 Z8 lost,Z1 rd] 228 (0,0))
 res:w2.heap[w.heap.size+1]?=ZW (Z4 #[Z7 Z9 0,Z5 ZX 0 0] 214 (0,0))
 below:bW w w2
 size:w.heap.size+2<=w2.heap.size
def wE.new (w:ZT) (D L G lost:Int) (rd:Bool):wE w ((w.alloc (Z4 #[Z7 Z9 D,Z7 Z9 L,Z7 Z9 G,Z7 Z8 lost,Z1 rd] 228)).alloc (Z4 #[Z7 Z9 0,Z5 ZX 0 0] 214)) D L G lost rd:=by
 refine ⟨(UC _ _ _ (by simp)).trans (Ug _ _),?_,(bA w _).alloc (by simp) _,by simp⟩;have:=Ug (w.alloc (Z4 #[Z7 Z9 D,Z7 Z9 L,Z7 Z9 G,Z7 Z8 lost,Z1 rd] 228)) (Z4 #[Z7 Z9 0,Z5 ZX 0 0] 214);rwa [Uq] at this
def wE.mono {D L G lost:Int} {rd:Bool} (h:wE w w2 D L G lost rd) (a:bW w2 w3):wE w w3 D L G lost rd:=by
 have:=h.size;exact ⟨(a.block _ (by omega)).trans h.par,(a.block _ (by omega)).trans h.res,h.below.trans (a.mono h.below.size),TU h.size a.size⟩
def wE.cells {D L G lost:Int} {rd:Bool} (h:wE w w2 D L G lost rd):w2.cell? ⟨w.heap.size,0,ZX⟩=ZW (Z7 Z9 D)/\w2.cell? ⟨w.heap.size,1,ZX⟩=ZW (Z7 Z9 L)/\w2.cell? ⟨w.heap.size,2,ZX⟩=ZW (Z7 Z9 G)/\w2.cell? ⟨w.heap.size,3,ZX⟩=ZW (Z7 Z8 lost)/\w2.cell? ⟨w.heap.size,4,ZX⟩=ZW (Z1 rd):=by
 have a:=h.par;simp [World.cell?,a]
def aa.after {T:Nat->Prop} (a:bW w w2) (b:aa T w2 w3):aa T w w3:=⟨b.os.trans a.os,b.tape.trans a.tape,b.output.trans a.output,TU a.size b.size,λk c d=>(b.block k (TZ c a.size) d).trans (a.block k c)⟩
def nE (D L G s:Nat) (ao:Option ZQ) (m c:Nat) (e:ZP):Prop:=e=Z3 (ZY #[.agg #[Z7 Z9 (1+((ab (aq (D+L+G) s)).length:Int)),.slice ao m c],.nilIface])
def pL.parts (h:pL w sb room):fI w sb room/\(∃ n,w.heap[sb+1]?=ZW (.map #[] n))/\aaC w sb sb/\w.cell? ⟨sb+1+1+1,0,ZX⟩=ZW (Z6 (ZW ⟨sb+1+1,0,ZX⟩)):=by
 refine ⟨h.list,h.map,h.ends,?_⟩;have a:=h.RZ;simp [World.cell?,a]
def MC (P:List St) (D c:List a8) (k:Nat) (h:(bI P k).k=0):bT P D c (k+1)=(bT P D c k).set (bI P k).a.toNat (D.getD (bI P k).b.toNat [])/\dB P D c (k+1)=dB P D c k:=by
 simp [bT,dB,dM,ia,h]
def OI (P:List St) (D d:List a8) (k:Nat) (h:(bI P k).k=1):bT P D d (k+1)=(bT P D d k).set (bI P k).a.toNat (iI ((bT P D d k).getD (bI P k).a.toNat []) ((bT P D d k).getD (bI P k).b.toNat []) (bI P k).c)/\dB P D d (k+1)=dB P D d k:=by
 simp [bT,dB,dM,ia,h]
def OJ (P:List St) (D c:List a8) (k:Nat) (h:(bI P k).k=2):bT P D c (k+1)=bT P D c k/\dB P D c (k+1)=dB P D c k++[((bI P k).b,(bT P D c k).getD (bI P k).a.toNat [])]:=by
 simp [bT,dB,dM,ia,h]
def RnR (w0:ZT) (B:Nat) (P:List St) (D R0:List a8) (n r gR:Nat) (vO iv:ZS) (wr:ZT):Prop:=
 ∃ k T O,k<=P.length/\iv=Z7 Z9 (k:Nat)/\Rn w0 B P D R0 n r gR k vO T O wr
def Rb (regs:Int) (P:List St) (D:List a8) (gone:Nat) (w:ZT) (e:ZP) (w':ZT):Prop:=
 (iH regs P D.length->gC P D gone->∃ v O,e=Z3 (ZY #[v,.nilIface])/\mO 256 w' w.heap.size v O/\O.map (λq=>(q.1,q.2.2.2.take q.2.2.1))=dB P D (eV regs.toNat (eE P D)) P.length) /\
 (iH regs P D.length->¬ gC P D gone->e=Z3 (ZY #[Z5 ZX 0 0,.iface 66 (Z7 Z9 2)]))/\(¬ iH regs P D.length->e=Z3 (ZY #[Z5 ZX 0 0,.iface 66 (Z7 Z9 4)]))/\bW w w'
def mO.weaken {t:ZO} {base':Nat} (h:mO t w base v O) (c:base'<=base):mO t w base' v O:=
 ⟨cY h.own c,λq d=>by obtain ⟨a,b⟩:=h.row q d;exact ⟨by omega,b⟩,h.nodup⟩
def Tryz.SY:(ZM.info? 256).map (λi=>(i.zero,i.size,i.bytes))=ZW (ZW (.agg #[Z7 Z9 0,Z5 ZX 0 0]),2,32):=by kernel_rfl
def OK (w:ZT) (n:Nat) (b:n=w.heap.size) (x y:ZS) (t:ZO):∀ j v,[x,y][j]?=ZW v->(w.alloc (Z4 #[x,y] t)).cell? ((⟨n,0,ZX⟩:ZQ).add j)=ZW v:=by
 subst b;intro j v a;rw [jC];rcases j with _|_|j;all_goals simp at a
 all_goals subst a;simp
def abb (w:ZT) (k a b c:ZS) (t:ZO):∃ d,w.alloc (Z4 #[k,a,b,c] t)=d/\bW w d/\d.heap.size=w.heap.size+1/\d.cell? ⟨w.heap.size,1,ZX⟩=ZW a/\d.cell? ⟨w.heap.size,2,ZX⟩=ZW b/\d.cell? ⟨w.heap.size,3,ZX⟩=ZW c:=
 ⟨_,rfl,bA _ _,Uh _ _,by simp,by simp,by simp⟩
theorem OL (regs:Int) (v:ZS) (P:List St) (U ci:Nat) (D:List a8) (gone:Nat) (w:ZT) (h:Ps .u8 w v P) (hP:∀ s∈P,zE s) (W:In w U D gone) (xd:U<w.heap.size) (q2:∀ l∈D,l.length<=100000) (hl:P.length<=5000) :
 ZR ZM 150 #[.agg #[Z7 Z9 regs,v],Z5 (ZW ⟨U,0,ZX⟩) D.length ci] w λe w'=>Rb regs P D gone w e w':=by
 obtain ⟨i0,x2,x9,xa,xb⟩:=Us Tryz.SY;have kf:bW w (w.alloc (Z4 #[Z7 Z9 regs,v] 214)):=bA _ _;have h0:=h.mono kf;obtain ⟨ao,c,rfl⟩:=h.slice;go_enter func150,ntmps150;go_wp2_with fail;refine (Ib regs D.length _ P _ h0).mono ?_;rintro e w1 ⟨kr,ks,L⟩;try change Below _ _ _ at L
 rw [Uh] at L;obtain ⟨p0,p1⟩:=aas L rfl;have x7:=L.size;try change Below _ _ _ at x7
 rw [Uh] at x7;have h5:=kf.trans (L.mono (by omega));by_cases K:iH regs P D.length
 . have H:=kr K;subst H;obtain ⟨⟨g0,g1,g2⟩,hy⟩:=id K;obtain ⟨r,rfl⟩:∃ r:Nat,regs=(r:Int):=⟨regs.toNat,by omega⟩;have q8:=ak K;have qp:=ak hy;have hr:∀ i,i<P.length->(bI P i).k=0->0<=(bI P i).b/\(bI P i).b<(D.length:Int):=by
    intro i hi hk;rw [dR P i hi] at *;rcases hy i hi with h|h
    . exact ⟨h.2.2.2.1,h.2.2.2.2⟩
    . omega
   have q4:r<=32:=(by omega);have h1:=h.mono h5;have qc:=W.mono h5;clear K hy kr ks h0 L kf g0 g1;go_wp2_with fail;refine (pJ _ P U ci D gone w1 h1 qc q2 hr hl).mono ?_;rintro e w2 ⟨kx,ky,k6⟩;have q0:=(k6.cell (Ub p0)).trans p0;have q1:=(k6.cell (Ub p1)).trans p1;have k7:=h5.trans (k6.mono (by omega));have xf:=k6.size;clear hr h1 qc p0 p1 h5 k6;by_cases E:gC P D gone
   . have H:=kx E;subst H;have qi:=Ic E;have ka:=ak E;have q6:=ak (Qr E);clear E kx ky;obtain ⟨n,F⟩:=nM (eE P D);have HN:=ak F;rw [F] at qi q6;rw [F];clear F;go_wp2_with fail;refine (Ar r n w2 q4 qi).mono ?_;rintro e w3 ⟨z,T0,rfl,qe,qb,ko⟩;have x8:=ko.size;have hd:=(ko.cell (Ub q1)).trans q1;have qd:Rn w2 w2.heap.size P D (eV r n) n r z 0 (Z5 ZX 0 0) T0 [] w3:=⟨qe,qb,λl hl=>by
      have:=VJ (show l∈YK r (YK n 0) from hl);rw [this];simp,mO.nil _ _ _,rfl,λp _ q hq=>by simp at hq,ko,x8⟩
     have qa:=ak qd;clear qd qe qb q0 q1;go_wp2;clear hd;go_loopw [10,37] (λvO iv wr=>RnR w2 w2.heap.size P D (eV r n) n r z vO iv wr) (λ_ iv _=>P.length-(intOf iv).toNat)
     case atStart=>exact ⟨0,T0,[],T5 _,rfl,qa.out⟩
     case round=>
      clear qa;rename ZT=>wo;obtain ⟨k,T,O,hk,rfl,Y⟩:=hrel;have xh:=Y.size;have kp:=k7.trans (Y.below.mono (by omega));by_cases J:k<P.length
      . rcases (h.mono kp).cases with ⟨rfl,_⟩|⟨b,off,cc,e,_,hc⟩
        . simp at J
        simp at e;obtain ⟨rfl,rfl⟩:=e;obtain ⟨d0,d1,d2,d3⟩:=hc k J;have hy:=qp.out k J;unfold iG at hy;have qh:=hP _ (TY J);have k9:=dR P k J;have C:=ak (MC P D (eV r n) k);have Z:=ak (OI P D (eV r n) k);have hs:=ak (OJ P D (eV r n) k);have kb:=ak (ka.out k J);have k0:=ak (q6.out k J);have h4:cA (NS P D gone k↔((bI P k).k=0->¬ oC gone (bI P k).b.toNat/\fl P D (k+1)=ZW (D.getD (bI P k).b.toNat []).length/\(D.getD (bI P k).b.toNat []).length<=4096)):=Iff.rfl;rw [k9] at C Z hs k0 h4;have qn:=ak (W.mono kp);have HC:=ak hc;have u:=ak Y;have HI:=ak W;have HH:=ak h;have xc:=ak hP;clear hc Y W h hP k9;have qj:=qh.2.2.2.2.2;clear qh;generalize P[k].k=sk at *;generalize P[k].a=sa at *;generalize P[k].b=sb at *;generalize P[k].c=M at *;obtain ⟨d,hz,B,xg,b1,b2,b3⟩:=abb wo (Z7 .u8 (sk:Int)) (Z7 Z9 sa) (Z7 Z9 sb) (Z7 .u8 (M:Int)) 290;have ki:=ak (u.o.next B);rcases hy with ⟨kz,a0,a1,x0,x1⟩|⟨x3,a0,a1,x0,x1,xe⟩
        . obtain ⟨A,rfl⟩:∃ A:Nat,sa=(A:Int):=⟨sa.toNat,by omega⟩;obtain ⟨X,rfl⟩:∃ X:Nat,sb=(X:Int):=⟨sb.toNat,by omega⟩;have hA:A<r:=(by omega);have hX:X<D.length:=(by omega);obtain ⟨g,I,t1,y,t,G,t5,t6,t7,t8,t9⟩:=u.o.reg A hA;replace t1:=(B.cell (Ub t1)).trans t1
          replace y:=y.below B
          rw [VG,VG] at C;rw [VG] at hs;rcases kz with rfl|rfl
          . have h6:cA (wo.alloc (Z4 #[Z7 .u8 0,Z7 Z9 (A:Int),Z7 Z9 (X:Int),Z7 .u8 (M:Int)] 290)=d):=hz;have qg:D.getD X []=D[X]:=(by simp [hX]);have q3:=h4.out.1 kb.out rfl;have kg:=k0.out rfl;rw [VG,qg] at q3 kg;rw [qg] at C;obtain ⟨ax,cx,u1,u2⟩:=(qn.out X hX).2 q3.1;have N:=(B.cell (Ub u1)).trans u1;have hb:=u2.mono B;have qk:∀ x∈D[X],x<256:=by
             obtain ⟨_,_,_,_,_,h,_⟩:=u2;exact h
            obtain ⟨wc,hh,ke,f⟩:=Mj d.drew 3 g n n _ D[X] (ZW ax) cx y hb kg t;have HW:=ak ((ki.out.next (show bW d d.drew from ⟨rfl,rfl,rfl,TV _,λ_ _=>rfl⟩)).write I t f ke kg qk (C.out rfl).1 (C.out rfl).2);rw [kg] at N hh;have kj:=ak hh;have z1:=f.cell (show d.drew.cell? ⟨wo.heap.size,1,ZX⟩=_ from b1) (by simp;omega);have z2:=f.cell (show d.drew.cell? ⟨wo.heap.size,2,ZX⟩=_ from b2) (by simp;omega);have z3:=f.cell (show d.drew.cell? ⟨z,A,ZX⟩=_ from t1) (by simp;omega);have z4:=f.cell (show d.drew.cell? ⟨U,X,ZX⟩=_ from N) (by simp;omega);clear hh ke f u1 u2 hb I y t G C Z hs kb k0 h4 q3 qk hz;go_wp2;rw [h6.out];go_region_held3 (λw'=>w'.cell? ⟨wo.heap.size,1,ZX⟩=ZW (Z7 Z9 (A:Int))/\w'.cell? ⟨wo.heap.size,2,ZX⟩=ZW (Z7 Z9 (X:Int))/\w'.cell? ⟨z,A,ZX⟩=ZW (Z5 (ZW ⟨g,0,ZX⟩) n n)/\w'.cell? ⟨U,X,ZX⟩=ZW (Z5 (ZW ax) n cx)) (first|exact ⟨b1,b2,t1,N⟩|exact ⟨z1,z2,z3,z4⟩) (refine I5 rfl (Z0 49) (Z0 54) rfl _ _ _ rfl rfl kj.out ?_);go_wp2;go_roundw
            case rel=>
             obtain ⟨T',km⟩:=HW.o;exact ⟨k+1,T',O,by omega,by go_num,km⟩
            case measure=>simp [intOf];omega
          . have h6:cA (wo.alloc (Z4 #[Z7 .u8 2,Z7 Z9 (A:Int),Z7 Z9 (X:Int),Z7 .u8 (M:Int)] 290)=d):=hz;have hv:=ki.out.next (show bW d d.drew from ⟨rfl,rfl,rfl,TV _,λ_ _=>rfl⟩);have hol:=hv.olen;have kv:=En ⟨g,0,ZX⟩ n _ d.drew (by have:=Bs.Sq (n:=n) (show aI d.drew g _ from y) (by omega) (by omega) G;rw [UI (by omega),t] at this;rw [t];exact this) (by omega);rw [t] at kv;have qm:=ak kv;have k5:=ak hv;have q9:=ak (hs.out rfl);have kc:=ak t;have kk:=ak G;have q7:=ak (λj hj=>(u.o.outs.own.lt j hj).2);have qo:=ak (uS u.o.tab.own u.o.outs.own);have z1:d.drew.cell? ⟨wo.heap.size,1,ZX⟩=ZW (Z7 Z9 (A:Int)):=b1;have z2:d.drew.cell? ⟨wo.heap.size,2,ZX⟩=ZW (Z7 Z9 (X:Int)):=b2;have z3:d.drew.cell? ⟨z,A,ZX⟩=ZW (Z5 (ZW ⟨g,0,ZX⟩) n n):=t1;clear kv hv I y t G C Z hs kb k0 h4 hz;go_wp2;rw [h6.out];go_region_held3 (λw'=>w'.cell? ⟨wo.heap.size,1,ZX⟩=ZW (Z7 Z9 (A:Int))/\w'.cell? ⟨wo.heap.size,2,ZX⟩=ZW (Z7 Z9 (X:Int))/\w'.cell? ⟨z,A,ZX⟩=ZW (Z5 (ZW ⟨g,0,ZX⟩) n n)) (first|exact ⟨b1,b2,t1⟩|exact ⟨Q,R,S⟩|exact ⟨((bA _ _).cell (Ub Q)).trans Q,((bA _ _).cell (Ub R)).trans R,((bA _ _).cell (Ub S)).trans S⟩|exact ⟨qr,xi,xj⟩)
             (first
              | (go_at_call 177;refine qm.out.mono ?_;rintro e wd ⟨bd,m,rfl,qy,qv,x6,V⟩
                 have Q:=(V.cell (Ub z1)).trans z1;have R:=(V.cell (Ub z2)).trans z2;have S:=(V.cell (Ub z3)).trans z3)
              | (refine step_append_lies _ rfl (Z0 73) (Z0 83) 252 rfl w2.heap.size 256 i0 (.agg #[Z7 Z9 0,Z5 ZX 0 0]) 2 32 underlying252 x2 x9 xa xb rfl (by decide) u10 O.length (qt O) rfl ((k5.out.next V).next (bA _ _)).outs.own ⟨wd.heap.size,0,ZX⟩ 1 1 [Z7 Z9 (X:Int),Z5 (ZW ⟨bd,0,ZX⟩) n (n+m)] rfl rfl (OK _ _ rfl _ _ _) (by intro q hq;simp at hq;rcases hq with rfl|rfl<;>rfl) (by omega) (by unfold maxLen;omega) (by omega) (by have:=((k5.out.next V).next ((TW _ _).alloc lR (Z4 #[Z7 Z9 (X:Int),Z5 (ZW ⟨bd,0,ZX⟩) n (n+m)] 256))).size;exact this) _ rfl ?_;intro g5 xk w5 k8 h8 qx x5
                 have qr:=h8.cell (((bA _ _).cell (Ub Q)).trans Q) (λe=>by have:=q7.out _ e.symm;simp at this);have xi:=h8.cell (((bA _ _).cell (Ub R)).trans R) (λe=>by have:=q7.out _ e.symm;simp at this);have xj:=h8.cell (((bA _ _).cell (Ub S)).trans S) (λe=>qo.out e.symm)))
            go_wp2;go_roundw
            case rel=>exact ⟨k+1,T,_,by omega,by go_num,k5.out.put V qy qv kc.out (by omega) x6 kk.out h8 k8 q9.out.1 q9.out.2⟩
            case measure=>simp [intOf];omega
        . obtain ⟨A,rfl⟩:∃ A:Nat,sa=(A:Int):=⟨sa.toNat,by omega⟩;obtain ⟨X,rfl⟩:∃ X:Nat,sb=(X:Int):=⟨sb.toNat,by omega⟩;have hA:A<r:=(by omega);have hX:X<r:=(by omega);have qs:A≠X:=(by omega);obtain ⟨g,I,t1,y,t,G,t5,t6,t7,t8,t9⟩:=u.o.reg A hA;obtain ⟨g',qf,s1,s2,s3,s4,s5,s6,s7,s8,s9⟩:=u.o.reg X hX;have qz:=u.o.reg_ne I qf qs;replace t1:=(B.cell (Ub t1)).trans t1
          replace y:=y.below B
          replace s1:=(B.cell (Ub s1)).trans s1
          replace s2:=s2.below B
          rw [VG,VG] at Z;subst x3;have h6:cA (wo.alloc (Z4 #[Z7 .u8 1,Z7 Z9 (A:Int),Z7 Z9 (X:Int),Z7 .u8 (M:Int)] 290)=d):=hz;have hv:=ki.out.next (show bW d d.drew from ⟨rfl,rfl,rfl,TV _,λ_ _=>rfl⟩);have kh:=ak (At g g' n M _ _ d.drew qj y s2 t s3 qz G s4 (by omega));have k5:=ak hv;have q5:=ak (Z.out rfl);have qq:=ak I;have kc:=ak t;have kk:=ak G;have z1:d.drew.cell? ⟨wo.heap.size,1,ZX⟩=ZW (Z7 Z9 (A:Int)):=b1;have z2:d.drew.cell? ⟨wo.heap.size,2,ZX⟩=ZW (Z7 Z9 (X:Int)):=b2;have z3:d.drew.cell? ⟨wo.heap.size,3,ZX⟩=ZW (Z7 .u8 (M:Int)):=b3;have z4:d.drew.cell? ⟨z,A,ZX⟩=ZW (Z5 (ZW ⟨g,0,ZX⟩) n n):=t1;have z5:d.drew.cell? ⟨z,X,ZX⟩=ZW (Z5 (ZW ⟨g',0,ZX⟩) n n):=s1;clear hv I qf y t G s2 s3 s4 C Z hs kb k0 h4 hz;go_wp2;rw [h6.out];go_region_held3 (λw'=>w'.cell? ⟨wo.heap.size,1,ZX⟩=ZW (Z7 Z9 (A:Int))/\w'.cell? ⟨wo.heap.size,2,ZX⟩=ZW (Z7 Z9 (X:Int))/\w'.cell? ⟨wo.heap.size,3,ZX⟩=ZW (Z7 .u8 (M:Int))/\w'.cell? ⟨z,A,ZX⟩=ZW (Z5 (ZW ⟨g,0,ZX⟩) n n)/\w'.cell? ⟨z,X,ZX⟩=ZW (Z5 (ZW ⟨g',0,ZX⟩) n n)) (first|exact ⟨b1,b2,b3,t1,s1⟩|exact ⟨Q,R,S,y4,y5⟩)
           (first
            | (go_at_call 176;refine kh.out.mono ?_;rintro e wc ⟨rfl,ke,f⟩
               have Q:=f.cell z1 (by simp;omega);have R:=f.cell z2 (by simp;omega);have S:=f.cell z3 (by simp;omega);have y4:=f.cell z4 (by simp;omega);have y5:=f.cell z5 (by simp;omega)))
          go_wp2;go_roundw
          case rel=>
           obtain ⟨T',km⟩:=k5.out.write qq.out kc.out f ke (by rw [uR];exact kc.out) (I7 kk.out qj) q5.out.1 q5.out.2;exact ⟨k+1,T',O,by omega,by go_num,km⟩
          case measure=>simp [intOf];omega
      . have x4:k=P.length:=(by omega);subst x4;have u:=ak Y;clear Y h hP W;go_wp2;go_ret2;refine ⟨λ_ _=>⟨_,O,rfl,u.o.outs.weaken (by omega),?_⟩,λ_ hl=>absurd ka.out hl,λF=>absurd q8.out F,kp⟩;rw [HN.o,VG];exact u.o.vals
   . have H:=ky E;subst H;have ka:=ak E;clear E kx ky;go_wp2;go_ret2;exact ⟨λ_ hl=>absurd hl ka.out,λ_ _=>rfl,λF=>absurd q8.out F,k7⟩
 . have H:=ks K;subst H;have HN:=ak K;clear K kr ks h0 h hP W L kf;go_wp2;go_ret2;exact ⟨λhp=>absurd hp HN.o,λhp=>absurd hp HN.o,λ_=>rfl,h5⟩
structure PA (w wx:ZT) (O:List (Int×Nat×Nat×a8)) (gg:Nat):Prop where
 ge:w.heap.size<=gg
 lt:gg<wx.heap.size
 cells:∀ i (hi:i<O.length),wx.cell? ⟨gg,i*2,ZX⟩=ZW (Z7 Z9 O[i].1)/\wx.cell? ⟨gg,i*2+1,ZX⟩=ZW (fP O[i].2)
 row:∀ q∈O,w.heap.size<=q.2.1/\aI wx q.2.1 q.2.2.2/\q.2.2.1<=q.2.2.2.length/\∀ x∈q.2.2.2,x<256
 below:bW w wx
def MD {P:List St} {Ms:List (Int×a8)} (C:Ps .u8 w vp P) (z:∀ s∈P,zE s) (x:In w g Dl lost) (B:g<w.heap.size) (y:Dl.length=N) (o:∀ l∈Dl,l.length<=100000) (hl:P.length<=5000) (u:iH regs P N) (r:gC P Dl lost) (ho:dB P Dl (eV regs.toNat (eE P Dl)) P.length=Ms) (i:Ms≠[]) :
 ZR ZM 150 #[.agg #[Z7 Z9 regs,vp],Z5 (ZW ⟨g,0,ZX⟩) N N] w λe w'=>∃ O b cap,e=Z3 (ZY #[Z5 (ZW ⟨b,0,ZX⟩) O.length cap,.nilIface])/\O.map (λq=>(q.1,q.2.2.2.take q.2.2.1))=Ms/\PA w w' O b:=by
 subst y;refine (OL regs vp P g Dl.length Dl lost w C z x B o hl).mono ?_;rintro e w' ⟨n,_,_,A⟩;obtain ⟨v,O,rfl,f,c⟩:=n u r;rw [ho] at c;rcases f.cases with ⟨d,_⟩|⟨b,cap,rfl,j⟩
 . rw [d] at c;exact absurd c.symm i
 . have p:O≠[]:=λq=>i (by rw [<- c,q];rfl);have t:b<w'.heap.size:=Ub (j 0 (Yi.2 p)).1;refine ⟨O,b,cap,rfl,c,?_,t,j,λq D=>?_,A⟩
   . rcases f.own.2 with ⟨d,_⟩|⟨F,E,cur,a,h,_⟩
     . cases d
     . injection a with a;injection a with a;injection a with a;omega
   . obtain ⟨a,h,k,_,m⟩:=f.row q D;exact ⟨a,h,k,m⟩
def Fd (f0 f:Nat->ZS) (O:List (Int×Nat×Nat×a8)) (k:Nat):Prop:=(∀ i:Nat,(∀ q∈O.take k,q.1≠(i:Int))->f i=f0 i)/\∀ i:Nat,(∃ q∈O.take k,q.1=(i:Int))->∃ q∈O,q.1=(i:Int)/\f i=fP q.2
def abc (w2:ZT) (r v b g N gone sp:Nat) (f0:Nat->ZS) (O:List (Int×Nat×Nat×a8)) (iv:ZS) (wr:ZT):Prop:=∃ k:Nat,k<=O.length/\iv=Z7 Z9 k/\∃ f,wr.rowIs g 39 N f/\Fd f0 f O k/\ew wr r v b g N gone sp/\aa (λk=>k=g) w2 wr
theorem Fd.step {f0:Nat->ZS} {d:Nat} (h:Fd f0 f O k) (g:k<O.length) (c:O[k].1=(d:Int)):Fd f0 (λi=>if i=d then fP O[k].2 else f i) O (k+1):=by
 have j:O.take (k+1)=O.take k++[O[k]]:=by rw [Vh,Ua g];rfl
 constructor
 . intro i b;rw [j] at b;have l:i≠d:=λe=>b O[k] (V6 _ (Vp.2 rfl)) (by rw [c,e]);show (if i=d then _ else f i)=f0 i;rw [TS l];exact h.1 i λq a=>b q (UL _ a)
 . rintro i ⟨q,a,e⟩;show ∃ q∈O,q.1=(i:Int)/\(if i=d then fP O[k].2 else f i)=fP q.2;by_cases b:i=d
   . rw [TT b];exact ⟨O[k],TY g,by rw [c,b],rfl⟩
   . rw [TS b];rw [j] at a;rcases Uj.1 a with a|a
     . exact h.2 i ⟨q,a,e⟩
     . rw [Vp] at a;rw [a,c] at e;exact absurd (YH e).symm b
structure ME (w:ZT) (r v b g N gone sp:Nat) (f:Nat->ZS) (M:a8) (R:Nat->a8) (w':ZT):Prop where
 rd:ew w' r v b g N gone sp
 row:∃ f',w'.rowIs g 39 N f'/\(∀ i,i∉M->f' i=f i)/\∀ i,i∈M->∃ bl m l,f' i=Z5 (ZW ⟨bl,0,ZX⟩) m l.length/\w.heap.size<=bl/\m<=l.length/\aI w' bl l/\l.take m=R i/\∀ x∈l,x<256
 out:aa (λk=>k=g) w w'
theorem MF {P:List St} {pm pc:Nat} {v:Nat} {M:a8} {R:Nat->a8} (hr:ew w r v b g N gone sp) (K:w.rowIs g 39 N f) (kz:r≠g) (hp:Ps .u8 w (.slice ao pm pc) P) (hP:∀ s∈P,zE s) (hI:In w g Dl lost) (hN:Dl.length=N) (k6:∀ l∈Dl,l.length<=100000) (hl:P.length<=5000) (J:iH regs P N) (kj:gC P Dl lost) (ho:dB P Dl (eV regs.toNat (eE P Dl)) P.length=M.map (λd:Nat=>((d:Int),R d))) (hM:M≠[]) (km:∀ d∈M,d<N) (q4:M.length<=16) :
 ZR ZM 126 #[Z6 (ZW ⟨r,0,ZX⟩),.agg #[Z7 Z9 regs,.slice ao pm pc]] w λe w'=>e=Z3 .nilIface/\ME w r v b g N gone sp f M R w':=by
 obtain ⟨w1,ke⟩:=nM (w.alloc (Z4 #[Z7 Z9 regs,.slice ao pm pc] 214));have a:bW w w1:=by rw [<- ke];exact bA w _
 have kf:w1.heap[w.heap.size]?=ZW (Z4 #[Z7 Z9 regs,.slice ao pm pc] 214 (0,0)):=by rw [<- ke];exact Ug _ _
 have k0:w1.cell? ⟨w.heap.size,0,ZX⟩=ZW (Z7 Z9 regs):=by simp [World.cell?,kf]
 have k1:w1.cell? ⟨w.heap.size,1,ZX⟩=ZW (.slice ao pm pc):=by simp [World.cell?,kf]
 have F:=hr.keep (a.block _ hr.lt);have I:=K.of_block (a.block _ K.lt);have cs:=F.cells.2.2.1;have k7:=MD (w:=w1.drew) (hp.mono a.drew) hP (hI.mono a.drew) (TZ K.lt a.size) hN k6 hl J kj ho (λq=>hM (List.map_eq_nil_iff.1 q));have HG:=ak (show g<w1.heap.size from TZ K.lt a.size);have H:=a5 a F I k7;clear hr K hp hI a kf F I k7 J kj ho k6 hP hM;go_enter func126,ntmps126;go_upto_region 1 with fail;go_cut [5,6] from 9 to 17 (λv5 v6 wx=>∃ O n cap,v5=Z5 (ZW ⟨n,0,ZX⟩) O.length cap/\v6=.nilIface/\O.map (λq=>(q.1,q.2.2.2.take q.2.2.1))=M.map (λd:Nat=>((d:Int),R d))/\PA w1.drew wx O n)
 case first=>
  go_region_with (go_at_call 150;refine H.o.2.2.2.mono ?_;rintro e w2 ⟨O,n,cap,rfl,x,z⟩;have c:=al x z;clear x z);all_goals (go_wp2_with fail;go_meet;case rel=>exact ⟨O,n,cap,rfl,rfl,c.o.1,c.o.2⟩)
 case rest=>
  rename ZT=>w2;clear k0 k1 cs ke;obtain ⟨O,n,cap,rfl,rfl,x,z⟩:=hcut;obtain ⟨a,F,I,_⟩:=H.o;have U:bW w1 w2:=((TW _ w1).drew).trans z.below;have kk:=F.keep (U.block _ F.lt);have hf:=I.of_block (U.block _ I.lt);have kg:O.length=M.length:=by have:=Uy List.length x;simpa using this
  have Q:∀ k (Y:k<O.length),∃ d,d∈M/\O[k].1=(d:Int)/\O[k].2.2.2.take O[k].2.2.1=R d:=λk Y=>by
   have e:=Uy (λl=>l[k]?) x;simp only [UA,Ua Y,Ua (show k<M.length by omega),WO,UF,Xd] at e;exact ⟨M[k],TY _,e.1,e.2⟩
  have c:=hide7 z kk hf (a.trans (U.mono a.size)) x kg Q;clear z a F I U kk hf x Q;go_wp2;go_loopw [20] (λZ wr=>abc w2 r v b g N gone sp f O Z wr) (λZ _=>O.length-(intOf Z).toNat)
  case atStart=>exact ⟨0,T5 _,rfl,f,c.o.2.2.1,⟨λ_ _=>rfl,λi ⟨q,L,_⟩=>by cases L⟩,c.o.2.1,aa.refl _ _⟩
  case round=>
   rename ZT=>wo;obtain ⟨k,Y,rfl,fk,D,p,hs,B⟩:=hrel;by_cases kc:k<O.length
   . obtain ⟨d,ka,E,_⟩:=c.o.2.2.2.2.2.2 k kc;have kp:=km d ka;obtain ⟨q0,q1⟩:=c.o.1.cells k kc;have kh:=HG.o;have kr:n≠g:=(by have:=c.o.1.ge;have:w1.drew.heap.size=w1.heap.size:=rfl;omega);have k5:=c.o.1.lt;have J:=B.block n k5 kr;have d0:wo.cell? ⟨n,k*2,ZX⟩=ZW (Z7 Z9 (d:Int)):=(Uk J).trans (by rw [q0,E]);have d1:wo.cell? ⟨n,k*2+1,ZX⟩=ZW (fP O[k].2):=(Uk J).trans q1;have C:=p.step kc E;obtain ⟨hv,kb⟩:=nM (fP O[k].2);rw [kb] at d1 C;obtain ⟨t,y,u,q2⟩:∃ t y u,hv=.slice t y u:=⟨_,_,_,kb.symm⟩;subst q2;have V:bW wo (wo.alloc (Z4 #[Z7 Z9 (d:Int),.slice t y u] 256)):=bA wo _;have G:(wo.alloc (Z4 #[Z7 Z9 (d:Int),.slice t y u] 256)).heap[wo.heap.size]?=ZW (Z4 #[Z7 Z9 (d:Int),.slice t y u] 256 (0,0)):=Ug _ _;have m:=hs.keep (V.block _ hs.lt);have h:=D.of_block (V.block _ D.lt);have A:aa (λk=>k=g) w2 (wo.alloc (Z4 #[Z7 Z9 (d:Int),.slice t y u] 256)):=B.trans (aa.RN V _);obtain ⟨w3,S⟩:=nM (wo.alloc (Z4 #[Z7 Z9 (d:Int),.slice t y u] 256));have T:=a7 m h A G C S;clear p C q0 q1 J kb V G m h A hs D B E kh k5 S;go_wp2;obtain ⟨m,h,A,G,C,S⟩:=T.o;rw [S] at m h A G ⊢;have k0:w3.cell? ⟨wo.heap.size,0,ZX⟩=ZW (Z7 Z9 d):=(by simp [World.cell?,G]);have k1:w3.cell? ⟨wo.heap.size,1,ZX⟩=ZW (.slice t y u):=(by simp [World.cell?,G]);have cs:=m.cells.2.2.1;have cg:=h.cell (i:=d) kp;have fg:=h.frozen d;have H4:=a5 m h A C;clear m h A G C S T d0 d1;go_region;go_wp2;go_roundw
     case rel=>
      obtain ⟨m,h,A,C⟩:=H4.o;have hO:aa (λk=>k=g) w3 (w3.setCell ⟨g,d,ZX⟩ (.slice t y u)):=aa.setCell _ _ _ rfl;exact ⟨k+1,by omega,by go_num,_,h.set d _,C,m.keep (hO.block _ m.lt kz),A.trans (hO.trans (aa.drew _))⟩
     case measure=>simp [intOf]<;>omega
   . have kv:k=O.length:=(by omega);subst kv;have T:=a5 D p hs B;clear D p hs B;go_wp2;go_ret;obtain ⟨D,p,hs,B⟩:=T.o;obtain ⟨z,_,_,ko,x,kg,Q⟩:=c.o;unfold Fd at p;rw [VE] at p;have q3:=H.o.1.size;refine ⟨rfl,hs,⟨fk,D,λi W=>p.1 i λq L e=>?_,λi W=>?_⟩,(aa.RN ko _).trans B⟩
     . obtain ⟨j,X,rfl⟩:=UT L;obtain ⟨d,ka,E,_⟩:=Q j X;rw [E] at e;exact W (YH e▸ka)
     . obtain ⟨j,X,rfl⟩:=UT W;have ks:j<O.length:=(by omega);have kx:O[j].1=((M[j]:Nat):Int):=by
        have e:=Uy (λl=>l[j]?) x;simp only [UA,Ua ks,Ua X,WO,UF,Xd] at e;exact e.1
       obtain ⟨q,L,e1,e2⟩:=p.2 M[j] ⟨O[j],TY _,kx⟩;obtain ⟨j2,ki,rfl⟩:=UT L;obtain ⟨d,_,E,ky⟩:=Q j2 ki;rw [E] at e1;obtain ⟨r1,r2,r3,r4⟩:=z.row _ (TY ki);have kh:=HG.o;have q5:w1.drew.heap.size=w1.heap.size:=rfl;exact ⟨_,_,_,e2,by omega,r3,VA r2 (B.block _ (aI.lt r2) (by omega)),by rw [ky,YH e1],r4⟩
def bZ {ps:aN} (a:ps.S w) {k:Nat} {cs:Array ZS} {T:ZO} {z:Nat×Nat} (h:w.heap[k]?=ZW (Z4 cs T z)) (b:¬ jS T):¬ ps.bl k:=λc=>b (ps.kd w a k c cs T z h)
def qJ:¬ jS 200:=by unfold jS;decide
def oY:¬ jS 39:=by unfold jS;decide
def GL (h:w.ownsRow 0 290 4 v (bX D L G s C).length (eC .u8 (bX D L G s C))) (hl:(bX D L G s C).length<=4398046511104):Ps .u8 w v (bX D L G s C):=NR h hl
def aaG (a b:Nat) (c:a<65536) (d:b<65536):bits .or .u64 (a:Int) (b:Int)=((a|||b:Nat):Int):=abR a b (by omega) (by omega)
def Jj {S l:Nat} (h:S &&& l=0) {i:Nat} (a:S.testBit i=ZV):l.testBit i=ZU:=by
 have:=Uy (λx=>x.testBit i) h;simp only [XG,a,Bool.true_and,Xu] at this;exact this
structure DD (D L G:Nat) (Kind:aN->Prop) (ps ps':aN) (lost s:Nat) (C:Ck) (ao:Option ZQ) (m c B:Nat) (wx:ZT):Prop where
 kind:Kind ps'
 psE:ps'.ps=ps.ps
 hoE:ps'.ho=ps.ho
 kit:ps'.S wx
 bl:∀ k,ps'.bl k->ps.bl k\/B<=k
 ob:∀ k,(Value.slice ao m c).ownBlock=ZW k->ps.bl k\/B<=k
 own:wx.ownsRow 0 290 4 (.slice ao m c) (bX D L G s C).length (eC .u8 (bX D L G s C))
 Tj:∀ i,lost.testBit i=ZV->s.testBit i=ZV
 told:tells (jL D L G) (ab (aq (D+L+G) s))=ZW C
def DD.keep {Kind:aN->Prop} {ps ps':aN} {wy:ZT} (h:DD D L G Kind ps ps' lost s C ao m c B wx) {T:Nat->Prop} (d:aa T wx wy) (f:∀ k,T k->k<B/\¬ ps.bl k):DD D L G Kind ps ps' lost s C ao m c B wy:=
 ⟨h.kind,h.psE,h.hoE,ps'.keep _ _ h.kit λk a=>d.block k (ps'.lt _ h.kit k a) (λq=>by
  have b:=f k q;rcases h.bl k a with e|e
  . exact b.2 e
  . omega),h.bl,h.ob,bV h.own d (λk a q=>by
  have b:=f k q;rcases h.ob k a with e|e
  . exact b.2 e
  . omega),h.Tj,h.told⟩
def DD.mono {Kind:aN->Prop} {ps ps':aN} {B':Nat} (h:DD D L G Kind ps ps' lost s C ao m c B wx) (b:B'<=B):DD D L G Kind ps ps' lost s C ao m c B' wx:=
 ⟨h.kind,h.psE,h.hoE,h.kit,λk a=>(h.bl k a).imp id λq=>TU b q,λk a=>(h.ob k a).imp id λq=>TU b q,h.own,h.Tj,h.told⟩
def C5 (r v ps D L G:Nat) (w:ZT):Prop:=w.cell? ⟨r,0,ZX⟩=ZW (Z6 (ZW ⟨v,0,ZX⟩))/\w.cell? ⟨v,1,ZX⟩=ZW (Z7 Z9 (D:Int))/\w.cell? ⟨v,2,ZX⟩=ZW (Z7 Z9 (L:Int))/\w.cell? ⟨v,3,ZX⟩=ZW (Z7 Z9 (G:Int))/\w.cell? ⟨v,4,ZX⟩=ZW (Z6 (ZW ⟨ps,0,ZX⟩))
def MG {v:Nat} (hr:ew w r v b g N gone sp) (a:bt w v p D L G ps ho):C5 r v ps D L G w:=by
 obtain ⟨_,c,d,e,f,_⟩:=a.cells;exact ⟨hr.cells.1,c,d,e,f⟩
theorem Fq (hl:fI w sb room) {D L G:Int} {es:List (Nat×Nat×Nat)} (i:w.heap[sb+1]?=ZW (.map (dW D L G es).toArray n)) {x:Nat} (y:x∉cP es) :
 ZR ZM 170 #[Z6 (ZW ⟨sb+1+1,0,ZX⟩),bJ D L G (eL x:Nat) (fJ x)] w λe w'=>e=Z3 (ZY #[.agg #[Z7 Z9 0,Z5 ZX 0 0],Z1 ZU])/\bW w w':=by
 have l1:w.cell? ⟨sb+1+1,1,ZX⟩=ZW (.map (ZW (sb+1))):=by
  have u:w.heap[sb+1+1]?=_:=hl;simp [World.cell?,u]
 have k:∀ w',bW w w'->(Instr.lookup 264 (.map (ZW (sb+1))) (bJ D L G (eL x:Nat) (fJ x)) ZV).run ZM w'=.ok (ZY #[.pointer ZX,Z1 ZU]) w':=λw' z=>Mm ((z.block _ (TX.1 i).1).trans i) y;obtain ⟨w2,f⟩:=nM ((w.alloc (Z4 #[Z7 Z9 D,Z7 Z9 L,Z7 Z9 G,Z7 Z8 (eL x:Nat),Z1 (fJ x)] 228)).alloc (Z4 #[Z7 Z9 0,Z5 ZX 0 0] 214));have a:bW w w2:=by rw [<- f];exact (bA w _).alloc (by simp) _
 have d:w2.heap[w.heap.size]?=ZW (Z4 #[Z7 Z9 D,Z7 Z9 L,Z7 Z9 G,Z7 Z8 (eL x:Nat),Z1 (fJ x)] 228 (0,0)):=by rw [<- f];exact (UC _ _ _ (by simp)).trans (Ug _ _)
 have c0:w2.cell? ⟨w.heap.size,0,ZX⟩=ZW (Z7 Z9 D):=by simp [World.cell?,d]
 have c1:w2.cell? ⟨w.heap.size,1,ZX⟩=ZW (Z7 Z9 L):=by simp [World.cell?,d]
 have r:w2.cell? ⟨w.heap.size,2,ZX⟩=ZW (Z7 Z9 G):=by simp [World.cell?,d]
 have s:w2.cell? ⟨w.heap.size,3,ZX⟩=ZW (Z7 Z8 (eL x:Nat)):=by simp [World.cell?,d]
 have t:w2.cell? ⟨w.heap.size,4,ZX⟩=ZW (Z1 (fJ x)):=by simp [World.cell?,d]
 have h:w2.heap[w.heap.size+1]?=ZW (Z4 #[Z7 Z9 0,Z5 ZX 0 0] 214 (0,0)):=by
  have:=Ug (w.alloc (Z4 #[Z7 Z9 D,Z7 Z9 L,Z7 Z9 G,Z7 Z8 (eL x:Nat),Z1 (fJ x)] 228)) (Z4 #[Z7 Z9 0,Z5 ZX 0 0] 214);rw [Uq] at this;rw [<- f];exact this
 have A:=(a.cell (p:=⟨sb+1+1,1,ZX⟩) (Ub l1)).trans l1;have j:=k w2.drew a.drew;unfold bJ at j ⊢;have c:w2.heap.size=w.heap.size+2:=by rw [<- f];simp
 have H:=aE a h c;clear hl i k a d h c;go_enter func170,ntmps170;go_wp2;go_region;obtain ⟨a,h,c⟩:=H.o;have b:bW w2 (w2.drew.alloc (Z4 #[Z7 Z9 0,Z5 ZX 0 0] 214)):=((TW _ w2).drew).alloc lR _;obtain ⟨w3,m⟩:=nM (w2.drew.alloc (Z4 #[Z7 Z9 0,Z5 ZX 0 0] 214));rw [m] at b;have g:=(b.block (w.heap.size+1) (by omega)).trans h;obtain ⟨F,I,E,C⟩:=aw g;have l:w3.heap[w2.heap.size]?=ZW (Z4 #[Z7 Z9 0,Z5 ZX 0 0] 214 (0,0)):=by rw [<- m];exact Ug w2.drew _
 obtain ⟨J,K,_,_⟩:=aw l;have q:=a5 g b a c;clear a h c b g l c0 c1 r s t l1 A j f;go_wp2;obtain ⟨g,b,a,c⟩:=q.o;obtain ⟨n0,B,_⟩:=aw (iR (y':=Z5 ZX 0 0) (iQ (x':=Z7 Z9 0) g));refine Ur (v:=ZY #[.agg #[Z7 Z9 0,Z5 ZX 0 0],Z1 ZU]) (by simp [results,results170,go_sem,n0,B]) rfl ?_;exact ⟨rfl,((a.trans (b.mono a.size)).setCell (p:=⟨w.heap.size+1,0,ZX⟩) (by show w.heap.size<=w.heap.size+1;omega) _).setCell (p:=⟨w.heap.size+1,1,ZX⟩) (by show w.heap.size<=w.heap.size+1;omega) _⟩
theorem Jk {nb:Nat} {D L G:Int} {cn:Nat->Fj} (hl:fI w sb room) (I:w.heap[sb+1]?=ZW (.map (dW D L G es).toArray n)) (F:k<es.length) (O:(cP es).Nodup) (X:es[k].1=x) (P:es[k].2.1=nb) (h:px w S cn nw ol) (l:∀ a,S a->a≠sb+1/\a≠sb+1+1) (f:S nb) (M:S (nw nb)) (C:S (ol nb)) (r:S sb) (N:S (ol sb)) (p:cn nb=⟨D,L,G,(eL x:Nat),fJ x,regs,.slice ao m c⟩) :
 ZR ZM 170 #[Z6 (ZW ⟨sb+1+1,0,ZX⟩),bJ D L G (eL x:Nat) (fJ x)] w λe w'=>e=Z3 (ZY #[.agg #[Z7 Z9 regs,.slice ao m c],Z1 ZV])/\px w' S cn (ij (ij (ij nw (ol nb) (nw nb)) nb sb) (ij ol (nw nb) (ol nb) sb) nb) (ij (ij (ij ol (nw nb) (ol nb)) nb (ij ol (nw nb) (ol nb) sb)) sb nb)/\aa S w w':=by
 obtain ⟨w2,A⟩:=nM ((w.alloc (Z4 #[Z7 Z9 D,Z7 Z9 L,Z7 Z9 G,Z7 Z8 (eL x:Nat),Z1 (fJ x)] 228)).alloc (Z4 #[Z7 Z9 0,Z5 ZX 0 0] 214));have b:bW w w2:=by rw [<- A];exact (bA w _).alloc (by simp) _
 have i:w2.heap.size=w.heap.size+2:=by rw [<- A];simp
 have u:w2.heap[w.heap.size]?=ZW (Z4 #[Z7 Z9 D,Z7 Z9 L,Z7 Z9 G,Z7 Z8 (eL x:Nat),Z1 (fJ x)] 228 (0,0)):=by rw [<- A];exact (UC _ _ _ (by simp)).trans (Ug _ _)
 have c0:w2.cell? ⟨w.heap.size,0,ZX⟩=ZW (Z7 Z9 D):=by simp [World.cell?,u]
 have c1:w2.cell? ⟨w.heap.size,1,ZX⟩=ZW (Z7 Z9 L):=by simp [World.cell?,u]
 have Z:w2.cell? ⟨w.heap.size,2,ZX⟩=ZW (Z7 Z9 G):=by simp [World.cell?,u]
 have c3:w2.cell? ⟨w.heap.size,3,ZX⟩=ZW (Z7 Z8 (eL x:Nat)):=by simp [World.cell?,u]
 have c4:w2.cell? ⟨w.heap.size,4,ZX⟩=ZW (Z1 (fJ x)):=by simp [World.cell?,u]
 have s:w2.heap[w.heap.size+1]?=ZW (Z4 #[Z7 Z9 0,Z5 ZX 0 0] 214 (0,0)):=by
  have:=Ug (w.alloc (Z4 #[Z7 Z9 D,Z7 Z9 L,Z7 Z9 G,Z7 Z8 (eL x:Nat),Z1 (fJ x)] 228)) (Z4 #[Z7 Z9 0,Z5 ZX 0 0] 214);rw [Uq] at this;rw [<- A];exact this
 have hll:sb+1+1<w.heap.size:=(TX.1 hl).1;have g:fI w2 sb room:=(b.block _ hll).trans hl;have l1:=(gd g).2.1;have Q:px w2 S cn nw ol:=λa t=>(h a t).keep (b.block _ (h a t).lt);have d:∀ a,S a->a<w.heap.size:=λa t=>(h a t).lt;have J:=OE (w:=w2.drew) ((b.block _ (TX.1 I).1).trans I) F O;rw [X,P] at J;have V:=rC (w:=w2.drew) (show px w2.drew S cn nw ol from Q) f M C;have j:S (ij ol (nw nb) (ol nb) sb):=by
  by_cases e:sb=nw nb
  . rw [e,eG];exact C
  . rw [eM _ e];exact N
 unfold bJ at J ⊢;have H:=hide12 b s i g d l f r j p hll V;clear hl I h b u s i g Q V l f M C r N j p d O F X P hll;go_enter func170,ntmps170;go_wp2;go_region;clear c0 c1 Z c3 c4 l1 J A;go_wp2_with fail;refine H.o.2.2.2.2.2.2.2.2.2.2.2.mono ?_;rintro e w3 ⟨rfl,R,hr⟩;obtain ⟨b,s,i,g,d,l,f,r,j,p,hll,_⟩:=H.o;have E:aa S w2 w3:=(aa.drew w2).trans hr;have U:=Au (w:=w3) (n:=nb) (show fI w3 sb room from (E.block _ (by omega) (λq=>(l _ q).2 rfl)).trans g) R f r j;have K:=al E U;clear b s i g d l f r j p R hr E U hll;go_wp2_with fail;refine K.o.2.mono ?_;rintro e w4 ⟨rfl,z,hs⟩;obtain ⟨b,s,i,g,d,l,f,r,j,p,hll,_⟩:=H.o;have y:aa S w2 w4:=K.o.1.trans hs;have B:=(y.block (w.heap.size+1) (by omega) (λq=>by have:=d _ q;omega)).trans s;have W:=(z nb f).value;rw [p] at W;obtain ⟨v5,v6⟩:=W;obtain ⟨r0,r1,g1,g0⟩:=aw B;have Y:=a7 z y B b i d;clear b s i g d l f r j p z hs y B hll;go_wp2;obtain ⟨z,y,B,b,i,d⟩:=Y.o;obtain ⟨n0,n1,_⟩:=aw (iR (y':=.slice ao m c) (iQ (x':=Z7 Z9 regs) B));refine Ur (v:=ZY #[.agg #[Z7 Z9 regs,.slice ao m c],Z1 ZV]) (by simp [results,results170,go_sem,n0,n1]) rfl ?_;have T:aa (λk=>k=w.heap.size+1) w4 ((w4.setCell ⟨w.heap.size+1,0,ZX⟩ (Z7 Z9 regs)).setCell ⟨w.heap.size+1,1,ZX⟩ (.slice ao m c)):=fH w4 (w.heap.size+1) 0 1 _ _;exact ⟨rfl,z.keep T (λa t e=>by have:=d a t;omega),((aa.RN b _).trans y).later T (λk F q=>by omega)⟩
theorem AF {cn:Nat->Fj} (hl:fI w sb room) {n:Nat} {ne0 j:ZS} (i:jy w n (cn n).D (cn n).L (cn n).G (cn n).lost (cn n).rd (cn n).regs (cn n).steps ne0 j) (h:px w (λa=>S a/\a≠n) cn nw ol) (c:S n) (hs:S sb) (m:sb≠n) (ho:S (ol sb)) :
 ZR ZM 192 #[Z6 (ZW ⟨sb+1+1,0,ZX⟩),Z6 (ZW ⟨n,0,ZX⟩)] w λe w'=>e=Z3 (ZY #[])/\px w' S cn (ij (ij nw n sb) (ol sb) n) (ij (ij ol n (ol sb)) sb n)/\aa S w w':=by
 have u:=(gd hl).2.2;obtain ⟨p,_,b7,_⟩:=i.cells;obtain ⟨_,s,_,_⟩:=(h sb ⟨hs,m⟩).cells;have f:=i.SS (Z6 (ZW ⟨sb,0,ZX⟩));obtain ⟨_,q,_,r⟩:=f.cells;have k:px ((w.setCell ⟨n,7,ZX⟩ (Z6 (ZW ⟨sb,0,ZX⟩))).setCell ⟨n,8,ZX⟩ (Z6 (ZW ⟨ol sb,0,ZX⟩))) S cn (ij nw n sb) (ij ol n (ol sb)):=λa t=>by
  by_cases e:a=n
  . subst e;rw [eG,eG];exact f.SO _
  . rw [eM _ e,eM _ e];exact ((h a ⟨t,e⟩).keep (Ud _ _ _ _ e)).keep (Ud _ _ _ _ e)
 obtain ⟨w2,g⟩:=nM (((w.setCell ⟨n,7,ZX⟩ (Z6 (ZW ⟨sb,0,ZX⟩))).setCell ⟨n,8,ZX⟩ (Z6 (ZW ⟨ol sb,0,ZX⟩))).drew);have b:px w2 S cn (ij nw n sb) (ij ol n (ol sb)):=by rw [<- g];exact k
 have l:aa S w w2:=by rw [<- g];exact ((aa.setCell _ _ _ c).trans (aa.setCell _ _ _ c)).trans (aa.drew _)
 obtain ⟨v,x,_,_⟩:=(b n c).cells;rw [eG] at v x;have d:=b.SO sb n;obtain ⟨_,A,_,t8⟩:=(b sb hs).cells;obtain ⟨B,_,C,_⟩:=(d (ol sb) ho).cells;have H:=a5 (d.SS (ol sb) n) l hs ho;clear h f k b d hl i hs ho l c m;generalize ol sb=y at *;generalize ij ol n y sb=z at *;generalize ij nw n sb y=E at *;go_enter func192,ntmps192;go_wp2;go_region;clear g p b7 s q r u;go_wp2;go_region;go_end0
 exact ⟨rfl,H.o.1,H.o.2.1.trans (((aa.setCell _ _ _ H.o.2.2.1).trans (aa.setCell _ _ _ H.o.2.2.2)).trans (aa.drew _))⟩
def cnN (cn:Nat->Fj) (N:Nat) (c:Fj):Nat->Fj:=λa=>if a=N then c else cn a
def jy.key {D L G lost:Int} {rd:Bool} {steps ne ol:ZS} (h:jy w n D L G lost rd regs steps ne ol):w.cell? ⟨n,0,ZX⟩=ZW (Z7 Z9 D)/\w.cell? ⟨n,1,ZX⟩=ZW (Z7 Z9 L)/\w.cell? ⟨n,2,ZX⟩=ZW (Z7 Z9 G)/\w.cell? ⟨n,3,ZX⟩=ZW (Z7 Z8 lost)/\w.cell? ⟨n,4,ZX⟩=ZW (Z1 rd):=by
 have a:w.heap[n]?=ZW (Z4 (mX D L G lost rd regs steps ne ol) 263 (0,0)):=h;simp [World.cell?,a,mX]
def PC (w':ZT) (sb:Nat) (room:Int) (D L G:Int) (es:List (Nat×Nat×Nat)) (S:Nat->Prop) (cn:Nat->Fj) (nw ol:Nat->Nat):Prop:=
 (((es.length:Nat):Int)<=room->(∃ n,w'.heap[sb+1]?=ZW (.map (dW D L G es).toArray n))/\px w' S cn nw ol) /\
 (room<((es.length:Nat):Int)->∃ j,∃ hj:j<es.length,es[j].2.1=nw sb/\(∃ n,w'.heap[sb+1]?=ZW (.map (dW D L G (es.eraseIdx j)).toArray n))/\px w' S cn (ij nw (ol (nw sb)) (nw (nw sb))) (ij ol (nw (nw sb)) (ol (nw sb))))
theorem Fs {D L G:Int} {cn:Nat->Fj} (hl:fI w sb room) (hm:w.heap[sb+1]?=ZW (.map (dW D L G es).toArray n)) (q2:x∉cP es) (h:px w S cn nw ol) (g:∀ a,S a->a≠sb+1/\a≠sb+1+1) (v:S sb) (B:S (ol sb)) {N:Nat} (hN:N=w.heap.size+1+1) {cn':Nat->Fj} (k5:cn'=cnN cn N ⟨D,L,G,(eL x:Nat),fJ x,regs,.slice ao m c⟩) {nw' l:Nat->Nat} (k8:nw'=ij (ij nw N sb) (ol sb) N) (k9:l=ij (ij ol N (ol sb)) sb N) {b:List (Nat×Nat×Nat)} (k6:b=es++[(x,N,n)])
 (hB:room<((b.length:Nat):Int)->(cP b).Nodup/\∃ j,∃ Z:j<b.length,b[j].2.1=nw' sb/\(∃ rg st,cn' (nw' sb)=⟨D,L,G,(eL b[j].1:Nat),fJ b[j].1,rg,st⟩)/\(nw' sb=N\/S (nw' sb))/\(nw' (nw' sb)=N\/S (nw' (nw' sb)))/\(l (nw' sb)=N\/S (l (nw' sb)))) :
 ZR ZM 172 #[Z6 (ZW ⟨sb+1+1,0,ZX⟩),bJ D L G (eL x:Nat) (fJ x),.agg #[Z7 Z9 regs,.slice ao m c]] w λe w'=>e=Z3 (ZY #[])/\PC w' sb room D L G b (λa=>a=N\/S a) cn' nw' l/\aa (λk=>S k\/k=sb+1) w w':=by
 subst hN;obtain ⟨w3,ki⟩:=nM (((w.alloc (Z4 #[Z7 Z9 D,Z7 Z9 L,Z7 Z9 G,Z7 Z8 (eL x:Nat),Z1 (fJ x)] 228)).alloc (Z4 #[Z7 Z9 regs,.slice ao m c] 214)).alloc (Z4 #[Z7 Z9 D,Z7 Z9 L,Z7 Z9 G,Z7 Z8 (eL x:Nat),Z1 (fJ x),Z7 Z9 regs,.slice ao m c,.pointer ZX,.pointer ZX] 263));have d:bW w w3:=by rw [<- ki];exact ((bA w _).alloc (by simp) _).alloc (by simp;omega) _
 obtain ⟨J,_,hn⟩:=mY w (Z4 #[Z7 Z9 D,Z7 Z9 L,Z7 Z9 G,Z7 Z8 (eL x:Nat),Z1 (fJ x)] 228) (Z4 #[Z7 Z9 regs,.slice ao m c] 214) (Z4 #[Z7 Z9 D,Z7 Z9 L,Z7 Z9 G,Z7 Z8 (eL x:Nat),Z1 (fJ x),Z7 Z9 regs,.slice ao m c,.pointer ZX,.pointer ZX] 263);rw [ki] at J hn;have F:jy w3 (w.heap.size+1+1) D L G (eL x:Nat) (fJ x) regs (.slice ao m c) (.pointer ZX) (.pointer ZX):=hn;have hll:sb+1+1<w.heap.size:=(TX.1 hl).1;have p:fI w3 sb room:=(d.block _ hll).trans hl;have kx:=(d.block _ (by omega)).trans hm;have O:px w3 S cn nw ol:=λa f=>(h a f).keep (d.block _ (h a f).lt);have s:∀ a,S a->a<w.heap.size:=λa f=>(h a f).lt;have c0:w3.cell? ⟨w.heap.size,0,ZX⟩=ZW (Z7 Z9 D):=by simp [World.cell?,J]
 have c1:w3.cell? ⟨w.heap.size,1,ZX⟩=ZW (Z7 Z9 L):=by simp [World.cell?,J]
 have c2:w3.cell? ⟨w.heap.size,2,ZX⟩=ZW (Z7 Z9 G):=by simp [World.cell?,J]
 have X:w3.cell? ⟨w.heap.size,3,ZX⟩=ZW (Z7 Z8 (eL x:Nat)):=by simp [World.cell?,J]
 have Y:w3.cell? ⟨w.heap.size,4,ZX⟩=ZW (Z1 (fJ x)):=by simp [World.cell?,J]
 obtain ⟨_,l1,_⟩:=gd p;have kg:=OF (w:=w3.drew) kx q2 (w.heap.size+1+1);have i:aa (λk=>k=sb+1) w3 (w3.drew.putObj (sb+1) (.map (dW D L G (es++[(x,w.heap.size+1+1,n)])).toArray (n+1))):=(aa.drew w3).trans (aa.putObj _ _ _ rfl);have u:(w3.drew.putObj (sb+1) (.map (dW D L G (es++[(x,w.heap.size+1+1,n)])).toArray (n+1))).heap[sb+1]?=ZW (.map (dW D L G (es++[(x,w.heap.size+1+1,n)])).toArray (n+1)):=by
  have hz:=d.size;unfold World.putObj;exact YL (by show sb+1<w3.heap.size;omega)
 obtain ⟨w4,q1⟩:=nM (w3.drew.putObj (sb+1) (.map (dW D L G (es++[(x,w.heap.size+1+1,n)])).toArray (n+1)));rw [q1] at kg i u;unfold bJ at kg ⊢;have M:=a6 k5 k8 k9 k6 hB;clear k5 k8 k9 k6 hB;have H:=hide11 d F p O i u hll s g v B;clear hl hm h d F p kx O i u J hn q1 s g v B q2;go_enter func172,ntmps172;go_wp2;go_region;clear c0 c1 c2 X Y l1 kg ki;obtain ⟨d,F,p,O,i,u,hll,s,g,v,B⟩:=H.o;have kz:=F.lt;have kj:∀ a,S a->a≠w.heap.size+1+1:=λa f=>by have:=s a f;omega
 have ko:cn' (w.heap.size+1+1)=⟨D,L,G,(eL x:Nat),fJ x,regs,.slice ao m c⟩:=by rw [M.o.1];exact TT rfl
 have kp:∀ a,S a->cn' a=cn a:=λa f=>by rw [M.o.1];exact TS (kj a f)
 have q0:=AF (w:=w4) (S:=λa=>a=w.heap.size+1+1\/S a) (cn:=cn') (nw:=nw) (ol:=ol) (n:=w.heap.size+1+1) (show fI w4 sb room from (i.block _ (by omega) (by omega)).trans p) (by rw [ko];exact F.keep (i.block _ F.lt (by omega))) (λa f=>by
  have W:=f.1.resolve_left f.2;rw [kp a W];exact (O a W).keep (i.block _ (O a W).lt (g a W).1)) (.inl rfl) (.inr v) (kj sb v) (.inr B)
 have H4:=hide7 u i p d kz hll q0;clear d F p O i u q0 ko kp;go_wp2_with fail;refine H4.o.2.2.2.2.2.2.mono ?_;rintro e w5 ⟨rfl,z,A⟩;obtain ⟨u,i,p,d,kz,hll,_⟩:=H4.o;obtain ⟨_,_,_,_,_,_,_,s,g,v,B⟩:=H.o;have U:aa (λk=>k=sb+1\/k=w.heap.size+1+1\/S k) w3 w5:=(i.mono λ_ _ q=>.inl q).trans (A.mono λ_ _ q=>.inr q);have E:fI w5 sb room:=(U.block _ (by omega) (λq=>by
  rcases q with q|q|q
  . omega
  . omega
  . exact (g _ q).2 rfl)).trans p
 have q5:=i.size;have r:=(A.block (sb+1) (by omega) (λq=>by
  rcases q with q|q
  . omega
  . exact (g _ q).1 rfl)).trans u
 obtain ⟨l0,l1,l2⟩:=gd E;have kf:=λt=>OG (w:=w5.drew) r t;have V:aa (λk=>S k\/k=sb+1) w w5:=(aa.RN d _).later U (λk hk q=>by
  rcases q with q|q|q
  . exact .inr q
  . omega
  . exact .inl q)
 rw [<- M.o.2.1,<- M.o.2.2.1] at z;rw [<- M.o.2.2.2.1] at r kf;obtain ⟨K,hK⟩:=nM (b.length);rw [hK] at kf;by_cases hr:(K:Int)<=room
 . have q3:¬ (room<(K:Int)):=(by omega);have Q:decide (room<(K:Int))=ZU:=Vu q3;have T:=a5 z r V hK;clear u i p U E r z A V g v B s d hK;go_wp2;go_region;go_wp2;go_end0
   obtain ⟨z,r,hO,hK⟩:=T.o;exact ⟨rfl,⟨λ_=>⟨⟨_,r⟩,z⟩,λq=>by rw [hK] at q;omega⟩,hO.trans (aa.drew _)⟩
 . have q4:room<(K:Int):=(by omega);obtain ⟨Q,j,Z,hs,⟨rg,st,P⟩,C,kc,ke⟩:=M.o.2.2.2.2 (by rw [hK];exact q4);obtain ⟨e7,_,_,_⟩:=(z sb (.inr v)).cells;have kh:=rC (w:=w5.drew) (show px w5.drew (λa=>a=w.heap.size+1+1\/S a) cn' nw' l from z) C kc ke;obtain ⟨q,I⟩:=nM (nw' sb);rw [I] at hs P C kc ke e7 kh;have T:=hide13 E r V hK Q hs P C kh I g s d;clear u i p U E r z A V g v B s d hK Q hs P C kc ke kh I;go_wp2;go_region;go_wp2_with fail;refine T.o.2.2.2.2.2.2.2.2.1.mono ?_;rintro e w6 ⟨rfl,kb,kk⟩;clear l0 l1 l2 e7 kf;obtain ⟨E,r,A,hK,Q,hs,P,C,_,I,g,s,d⟩:=T.o;have R:aa (λa=>a=w.heap.size+1+1\/S a) w5 w6:=(aa.drew w5).trans kk;have q6:=A.size;have kv:fI w6 sb room:=(R.block _ (by omega) (λe=>by
    rcases e with e|e
    . omega
    . exact (g _ e).2 rfl)).trans E
   have ky:=(R.block (sb+1) (by omega) (λe=>by
    rcases e with e|e
    . omega
    . exact (g _ e).1 rfl)).trans r
   obtain ⟨_,l1,_⟩:=gd kv;have ks:=(kb q C).key;rw [P] at ks;obtain ⟨c0,c1,c2,X,Y⟩:=ks;have kr:=λt=>Q6 (w:=w6.drew) ky Z Q t;obtain ⟨y,hy⟩:=nM (b[j].1);rw [hy] at kr X Y;unfold bJ at kr;have k7:PC (w6.drew.putObj (sb+1) (.map (dW D L G (b.eraseIdx j)).toArray (n+1))) sb room D L G b (λa=>a=w.heap.size+1+1\/S a) cn' nw' l/\aa (λk=>S k\/k=sb+1) w (w6.drew.putObj (sb+1) (.map (dW D L G (b.eraseIdx j)).toArray (n+1))):=by
    have km:aa (λk=>k=sb+1) w6 (w6.drew.putObj (sb+1) (.map (dW D L G (b.eraseIdx j)).toArray (n+1))):=(aa.drew w6).trans (aa.putObj _ _ _ rfl);have q7:=R.size;refine ⟨⟨λe=>by rw [hK] at e;omega,λ_=>⟨j,Z,hs.trans I.symm,⟨n+1,?_⟩,?_⟩⟩,?_⟩
    . unfold World.putObj;exact YL (by show sb+1<w6.heap.size;omega)
    . rw [I];exact kb.keep km (λa f e=>by
       rcases f with f|f
       . omega
       . exact (g a f).1 e)
    . exact (A.later R (λk hk e=>by
       rcases e with e|e
       . omega
       . exact .inl e)).later km (λk hk e=>.inr e)
   have H6:=ak k7;clear k7 E r A hK Q hs P C I g s d R kv ky kb kk hy;go_wp2;go_region;go_end0
   exact ⟨rfl,H6.o⟩
section
structure Pq where
 lost:Nat
 nb:Nat
 s:Nat
 C:Ck
 ao:Option ZQ
 m:Nat
 c:Nat
def Pq.cn (D L G:Nat) (q:Pq):Fj:=⟨D,L,G,(eL q.lost:Nat),fJ q.lost,1+((ab (aq (D+L+G) q.s)).length:Int),.slice q.ao q.m q.c⟩
def jV (qs:List Pq):a8:=qs.map (·.nb)
def oZ (sb:Nat) (qs:List Pq) (a:Nat):Prop:=a=sb\/a∈jV qs
structure gI (w:ZT) (sb:Nat) (room:Int) (D L G:Nat) (es:List (Nat×Nat×Nat)) (qs:List Pq):Prop where
 list:fI w sb room
 RZ:w.heap[sb+1+1+1]?=ZW (Z4 #[Z6 (ZW ⟨sb+1+1,0,ZX⟩)] 230 (0,0))
 map:∃ n,w.heap[sb+1]?=ZW (.map (dW D L G es).toArray n)
 ring:∃ cn nw ol,px w (oZ sb qs) cn nw ol/\vS nw ol sb (jV qs) sb/\∀ q∈qs,cn q.nb=q.cn D L G
 nd:(sb::jV qs).Nodup
 lo:(cP es).Nodup
 TE:∀ e∈es,∃ q∈qs,q.lost=e.1/\q.nb=e.2.1
 qs_es:∀ q∈qs,∃ e∈es,e.1=q.lost/\e.2.1=q.nb
 len:es.length=qs.length
 SL:∀ q∈qs,sb+1+1+1<q.nb
 own:∀ q∈qs,w.ownsRow 0 290 4 (.slice q.ao q.m q.c) (bX D L G q.s q.C).length (eC .u8 (bX D L G q.s q.C))
 Tj:∀ q∈qs,∀ i,(eL q.lost).testBit i=ZV->q.s.testBit i=ZV
 told:∀ q∈qs,tells (jL D L G) (ab (aq (D+L+G) q.s))=ZW q.C
section
variable {w w':ZT} {sb:Nat} {room:Int} {D L G:Nat} {es:List (Nat×Nat×Nat)} {qs:List Pq}
def gI.apart (h:gI w sb room D L G es qs) (a:Nat) (b:oZ sb qs a):a≠sb+1/\a≠sb+1+1/\a≠sb+1+1+1/\a<w.heap.size/\∃ cs,w.heap[a]?=ZW (Z4 cs 263 (0,0)):=by
 obtain ⟨cn,nw,ol,d,_,_⟩:=h.ring;have c:=d a b;refine ⟨?_,?_,?_,c.lt,_,c⟩;all_goals
  rcases b with rfl|b
  . omega
  . obtain ⟨q,e,rfl⟩:=T7.1 b;have:=h.SL q e;omega
def gI.steps (h:gI w sb room D L G es qs) {q:Pq} (f:q∈qs) {k:Nat} (d:(Value.slice q.ao q.m q.c).ownBlock=ZW k):¬ oZ sb qs k:=λe=>by
 obtain ⟨_,_,_,_,cs,b⟩:=h.apart k e;obtain ⟨cur,a⟩:=bz (h.own q f) d;rw [b] at a;simp only [UF,U1] at a;exact absurd a.2.1 (by decide)
def MH (qs l r:List Pq) (q:Pq) (h:qs=l++q::r):jV qs=jV l++q.nb::jV r:=by rw [h];simp [jV]
theorem Rc (h:gI w sb room D L G es qs) {x:Nat} (Y:x∈cP es) :
 ∃ q t,q∈qs/\q.lost=x/\(∀ p,p∈t↔p∈qs)/\∀ W,gI W sb room D L G es qs->ZR ZM 170 #[Z6 (ZW ⟨sb+1+1,0,ZX⟩),bJ D L G (eL x:Nat) (fJ x)] W λe w'=>e=Z3 (ZY #[.agg #[Z7 Z9 (1+((ab (aq (D+L+G) q.s)).length:Int)),.slice q.ao q.m q.c],Z1 ZV])/\gI w' sb room D L G es t/\aa (oZ sb qs) W w':=by
 obtain ⟨e,u,f⟩:=T7.1 Y;obtain ⟨k,H,M⟩:=UT u;obtain ⟨q,v,O,Z⟩:=h.TE e u;obtain ⟨l,r,B⟩:=List.append_of_mem v;have d:∀ p,p∈q::(l++r)↔p∈qs:=λp=>by rw [B];simp only [Uw,Uj];constructor<;>(intro h;rcases h with h|h|h<;>simp [h])
 refine ⟨q,q::(l++r),v,O.trans f,d,λW h=>?_⟩;obtain ⟨cn,nw,ol,S,hL,K⟩:=h.ring;obtain ⟨n,P⟩:=h.map;have N:=MH qs l r q B;have i:=h.nd;rw [N] at hL i;have F:sb∉jV l++q.nb::jV r:=(UR.1 i).1;obtain ⟨U,hr,hs⟩:=vS.take hL i F;have X:∀ a,oZ sb (q::(l++r)) a↔oZ sb qs a:=λa=>by
  unfold oZ jV;simp only [T7];constructor
  . rintro (e|⟨p,b,e⟩)
    . exact .inl e
    . exact .inr ⟨p,(d p).1 b,e⟩
  . rintro (e|⟨p,b,e⟩)
    . exact .inl e
    . exact .inr ⟨p,(d p).2 b,e⟩
 have E:∀ a,a∈sb::(jV l++q.nb::jV r)->oZ sb qs a:=λa g=>by
  rcases Uw.1 g with e|e
  . exact .inl e
  . exact .inr (by rw [N];exact e)
 have I:oZ sb qs (nw q.nb):=E _ (by
  rcases Uw.1 hr with e|e
  . rw [e];exact U7 ..
  . exact UP _ (UL _ e))
 have J:oZ sb qs (ol q.nb):=by
  rcases hs with e|e
  . exact E _ (UP _ (V6 _ (UP _ e)))
  . exact .inl e
 have R:oZ sb qs (ol sb):=by
  rcases hL.Sb with e|e
  . exact .inl e.1
  . exact E _ (UP _ e)
 have C:q.nb∉sb::(jV l++jV r):=by
  intro o;have A:=(UR.1 i).2;rcases Uw.1 o with e|e
  . exact F (by rw [<- e];simp)
  . rw [U9] at A;rcases Uj.1 e with e|e
    . exact A.2.2 _ e _ (U7 ..) rfl
    . exact (UR.1 A.2.1).1 e
 have z:(sb::(jV l++jV r)).Nodup:=by
  refine UR.2 ⟨λe=>F ?_,?_⟩
  . rcases Uj.1 e with e|e
    . exact UL _ e
    . exact V6 _ (UP _ e)
  . exact YI (List.Sublist.append_left (List.sublist_cons_self _ _) _) (UR.1 i).2
 have T:=U.put z C;refine (Jk h.list P H h.lo (by rw [M];exact f) (by rw [M];exact Z.symm) S (λa g=>⟨(h.apart a g).1,(h.apart a g).2.1⟩) (.inr (T7.2 ⟨q,v,rfl⟩)) I J (.inl rfl) R (by rw [K q v,Pq.cn,O.trans f])).mono ?_;rintro e w' ⟨rfl,V,j⟩;have y:∀ a,sb<a->a<=sb+1+1+1->¬ oZ sb qs a:=λa I J q=>by
  obtain ⟨q1,q2,q3,_⟩:=h.apart a q;rcases q with q|q
  . omega
  . obtain ⟨p,b,rfl⟩:=T7.1 q;have:=h.SL p b;omega
 have hll:sb+1+1+1<W.heap.size:=(TX.1 h.RZ).1;refine ⟨rfl,⟨(j.block _ (by omega) (y _ (by omega) (by omega))).trans h.list,(j.block _ hll (y _ (by omega) (by omega))).trans h.RZ,⟨n,(j.block _ (by omega) (y _ (by omega) (by omega))).trans P⟩,⟨cn,_,_,λa g=>V a ((X a).1 g),?_,λp b=>K p ((d p).1 b)⟩,?_,h.lo,λe u=>?_,λp b=>h.qs_es p ((d p).1 b),?_,λp b=>h.SL p ((d p).1 b),λp b=>bV (h.own p ((d p).1 b)) j (λk H q=>h.steps ((d p).1 b) H q),λp b=>h.Tj p ((d p).1 b),λp b=>h.told p ((d p).1 b)⟩,j⟩
 . have e:jV (q::(l++r))=q.nb::(jV l++jV r):=(by simp [jV]);rw [e];exact T
 . have e:jV (q::(l++r))=q.nb::(jV l++jV r):=(by simp [jV]);rw [e,UR];refine ⟨λo=>?_,UR.2 ⟨λo=>C (UP _ o),(UR.1 z).2⟩⟩;rcases Uw.1 o with e|e
   . exact C (by rw [<- e];exact U7 ..)
   . exact (UR.1 z).1 e
 . obtain ⟨p,b,Q⟩:=h.TE e u;exact ⟨p,(d p).2 b,Q⟩
 . rw [h.len,B];simp;omega
end
end
section
section
variable {w w':ZT} {sb:Nat} {room:Int} {D L G:Nat} {es:List (Nat×Nat×Nat)} {qs:List Pq}
def vl:∀ (es:List (Nat×Nat×Nat)) (j:Nat),cP (es.eraseIdx j)=(cP es).eraseIdx j
 | [],_=>rfl
 | _::_,0=>rfl
 | e::es,j+1=>Uy (e.1::·) (vl es j)
def Ft (h:l.Nodup) {i j:Nat} (a:i<l.length) (b:j<l.length) (e:l[i]=l[j]):i=j:=by
 rcases Nat.lt_trichotomy i j with q|q|q
 . exact absurd e (V0.1 h i j a b q)
 . exact q
 . exact absurd e.symm (V0.1 h j i b a q)
def AG (q:Pq) (qs:List Pq):jV (q::qs)=q.nb::jV qs:=rfl
theorem Re (h:gI w sb room D L G es qs) {x:Nat} (hx:x∉cP es) {s m c:Nat} {C:Ck} {ao:Option ZQ} (ho:w.ownsRow 0 290 4 (.slice ao m c) (bX D L G s C).length (eC .u8 (bX D L G s C))) (hr:∀ i,(eL x).testBit i=ZV->s.testBit i=ZV) (ht:tells (jL D L G) (ab (aq (D+L+G) s))=ZW C) :
 ZR ZM 172 #[Z6 (ZW ⟨sb+1+1,0,ZX⟩),bJ D L G (eL x:Nat) (fJ x),.agg #[Z7 Z9 (1+((ab (aq (D+L+G) s)).length:Int)),.slice ao m c]] w λe w'=>e=Z3 (ZY #[])/\(∃ f R,gI w' sb room D L G f R/\∀ q∈R,q∈qs\/q=⟨x,w.heap.size+1+1,s,C,ao,m,c⟩)/\aa (λk=>oZ sb qs k\/k=sb+1) w w':=by
 obtain ⟨cn,nw,ol,hN,hL,q8⟩:=h.ring;obtain ⟨n,hm⟩:=h.map;have hll:sb+1+1+1<w.heap.size:=(TX.1 h.RZ).1;obtain ⟨N,kx⟩:∃ N,N=w.heap.size+1+1:=⟨_,rfl⟩;obtain ⟨g,z⟩:∃ g:Pq,g=⟨x,N,s,C,ao,m,c⟩:=⟨_,rfl⟩;have q5:∀ a,oZ sb qs a->a<w.heap.size:=λa r=>(h.apart a r).2.2.2.1;have Y:N∉sb::jV qs:=λe=>by
  have:=q5 N (by rcases Uw.1 e with e|e;exact .inl e;exact .inr e);omega
 have V:=hL.put h.nd Y;obtain ⟨A,ka⟩:∃ A,A=ij (ij nw N sb) (ol sb) N:=⟨_,rfl⟩;obtain ⟨E,kb⟩:∃ E,E=ij (ij ol N (ol sb)) sb N:=⟨_,rfl⟩;obtain ⟨cn',k0⟩:∃ cn',cn'=cnN cn N (g.cn D L G):=⟨_,rfl⟩;obtain ⟨f,H⟩:∃ f,f=es++[(x,N,n)]:=⟨_,rfl⟩;rw [<- ka,<- kb] at V;have h3:oZ sb qs (ol sb):=by
  rcases hL.Sb with e|e
  . exact .inl e.1
  . exact .inr e
 have I:g.nb=N:=by rw [z]
 have kp:∀ q∈g::qs,cn' q.nb=q.cn D L G:=λq d=>by
  rw [k0];unfold cnN;rcases Uw.1 d with e|e
  . rw [e,I,TT rfl]
  . rw [TS (show ¬ q.nb=N from λt=>Y (UP _ (by rw [<- t];exact T7.2 ⟨q,e,rfl⟩))),q8 q e]
 have km:(cP f).Nodup:=by
  have e:cP f=cP es++[x]:=by rw [H];simp [cP]
  rw [e,U9];exact ⟨h.lo,by simp,λa r b hb e=>hx (by rw [Vp] at hb;rw [<- hb,<- e];exact r)⟩
 have kv:∀ q∈g::qs,∃ e∈f,e.1=q.lost/\e.2.1=q.nb:=λq d=>by
  rcases Uw.1 d with e|e
  . exact ⟨(x,N,n),by rw [H];simp,by rw [e,z],by rw [e,z]⟩
  . obtain ⟨y,hy,o⟩:=h.qs_es q e;exact ⟨y,by rw [H];exact UL _ hy,o⟩
 have kr:∀ e∈f,∃ q∈g::qs,q.lost=e.1/\q.nb=e.2.1:=λe B=>by
  rw [H] at B;rcases Uj.1 B with o|o
  . obtain ⟨q,d,t⟩:=h.TE e o;exact ⟨q,UP _ d,t⟩
  . rw [Vp] at o;exact ⟨g,U7 ..,by rw [o,z],by rw [o,z]⟩
 have k7:f.length=qs.length+1:=by rw [H,T8,h.len];rfl
 have T:(sb::jV (g::qs)).Nodup:=by
  rw [AG,I];refine UR.2 ⟨λe=>?_,UR.2 ⟨λe=>Y (UP _ e),(UR.1 h.nd).2⟩⟩;rcases Uw.1 e with e|e
  . exact Y (by rw [<- e];exact U7 ..)
  . exact (UR.1 h.nd).1 e
 rw [<- I,<- AG] at V;obtain ⟨l,u,Q⟩:∃ l u,g::qs=l++[u]:=⟨(g::qs).dropLast,(g::qs).getLast (by simp),(List.dropLast_concat_getLast (by simp)).symm⟩;have hv:u∈g::qs:=by rw [Q];simp
 have S:jV (g::qs)=jV l++u.nb::jV []:=by rw [Q];simp [jV]
 have ko:=V;have U:=T;rw [S] at ko U;have F:A sb=u.nb:=by
  rw [ko.last (by simp)];simp [jV]
 obtain ⟨hT,q6,q7⟩:=vS.take ko U (UR.1 U).1;have Z:∀ a,a∈sb::jV (g::qs)->a=N\/oZ sb qs a:=λa r=>by
  rw [AG,I] at r;rcases Uw.1 r with e|e
  . exact .inr (.inl e)
  . rcases Uw.1 e with e|e
    . exact .inl e
    . exact .inr (.inr e)
 have k6:∀ q∈g::qs,q.nb=u.nb->q∉l:=λq d e qd=>by
  have kz:=(UR.1 U).2;rw [U9] at kz;exact kz.2.2 q.nb (T7.2 ⟨q,qd,rfl⟩) u.nb (by simp) e
 have kc:∀ q∈g::qs,q∈l\/q=u:=λq d=>by
  rw [Q] at d;rcases Uj.1 d with e|e
  . exact .inl e
  . exact .inr (Vp.1 e)
 refine (Fs (cn':=cn') (regs:=1+((ab (aq (D+L+G) s)).length:Int)) (ao:=ao) (m:=m) (c:=c) h.list hm hx hN (λa r=>⟨(h.apart a r).1,(h.apart a r).2.1⟩) (.inl rfl) h3 kx (by rw [k0,z];rfl) ka kb H (λ_=>⟨km,?_⟩)).mono ?_
 . obtain ⟨e,B,o,t⟩:=kv u hv;obtain ⟨j,K,q4⟩:=UT B;refine ⟨j,K,by rw [q4,t,F],⟨_,_,by rw [F,kp u hv,q4,o];rfl⟩,?_,?_,?_⟩
   . rw [F];exact Z _ (UP _ (T7.2 ⟨u,hv,rfl⟩))
   . rw [F];refine Z _ ?_;rw [S];rcases Uw.1 q6 with e|e
     . rw [e];exact U7 ..
     . exact UP _ (UL _ e)
   . rw [F];rcases q7 with e|e
     . cases e
     . rw [e];exact .inr (.inl rfl)
 . rintro e w' ⟨rfl,hA,J⟩;have hh:∀ {v:ZS} {nn:Nat} {xs:List ZS},w.ownsRow 0 290 4 v nn xs->∀ k,v.ownBlock=ZW k->¬ (oZ sb qs k\/k=sb+1):=λhw k M q=>by
    obtain ⟨cur,O⟩:=bz hw M;rcases q with q|q
    . obtain ⟨_,_,_,_,cs,hc⟩:=h.apart k q;rw [hc] at O;simp only [UF,U1] at O;exact absurd O.2.1 (by decide)
    . rw [q,hm] at O;cases O
   have k8:∀ a,sb+1<a->a<=sb+1+1+1->¬ (oZ sb qs a\/a=sb+1):=λa h1 h2 q=>by
    rcases q with q|q
    . obtain ⟨q1,q2,q3,_⟩:=h.apart a q;rcases q with q|q
      . omega
      . obtain ⟨p,hp,rfl⟩:=T7.1 q;have:=h.SL p hp;omega
    . omega
   have hn:=(J.block (sb+1+1) (by omega) (k8 _ (by omega) (by omega))).trans h.list;have h6:=(J.block _ hll (k8 _ (by omega) (by omega))).trans h.RZ;have ky:∀ q∈g::qs,sb+1+1+1<q.nb:=λq d=>by
    rcases Uw.1 d with e|e
    . rw [e,I];omega
    . exact h.SL q e
   have ke:∀ q∈g::qs,w'.ownsRow 0 290 4 (.slice q.ao q.m q.c) (bX D L G q.s q.C).length (eC .u8 (bX D L G q.s q.C)):=λq d=>by
    rcases Uw.1 d with e|e
    . subst z;rw [e];exact bV ho J (λk M q=>hh ho k M q)
    . exact bV (h.own q e) J (λk M q'=>hh (h.own q e) k M q')
   have W:∀ q∈g::qs,(∀ i,(eL q.lost).testBit i=ZV->q.s.testBit i=ZV)/\tells (jL D L G) (ab (aq (D+L+G) q.s))=ZW q.C:=λq d=>by
    rcases Uw.1 d with e|e
    . subst z;rw [e];exact ⟨hr,ht⟩
    . exact ⟨h.Tj q e,h.told q e⟩
   have kg:∀ q∈g::qs,q∈qs\/q=⟨x,w.heap.size+1+1,s,C,ao,m,c⟩:=λq d=>by
    rcases Uw.1 d with e|e
    . right;rw [e,z,kx]
    . exact .inl e
   refine ⟨rfl,?_,J⟩;by_cases kf:((f.length:Nat):Int)<=room
   . obtain ⟨ks,X⟩:=hA.1 kf;exact ⟨f,g::qs,⟨hn,h6,ks,⟨cn',A,E,λa r=>X a (Z a (by rcases r with e|e;rw [e];exact U7 ..;exact UP _ e)),V,kp⟩,T,km,kr,kv,by rw [k7];rfl,ky,ke,λq d=>(W q d).1,λq d=>(W q d).2⟩,kg⟩
   . obtain ⟨j,K,kk,ks,X⟩:=hA.2 (by omega);rw [F] at X kk;have hs:∀ q∈l,q∈g::qs:=λq d=>by rw [Q];exact UL _ d
     have qa:f[j].1=u.lost:=by
      obtain ⟨q,d,o,t⟩:=kr _ (TY K);rcases kc q d with e|e
      . exact absurd e (k6 q d (by rw [t,kk]))
      . rw [<- o,e]
     have e0:cP (f.eraseIdx j)=(cP f).eraseIdx j:=vl _ _;have qc:jV l++jV []=jV l:=(by simp [jV]);rw [qc] at hT;refine ⟨f.eraseIdx j,l,⟨hn,h6,ks,⟨cn',_,_,λa r=>X a (Z a ?_),hT,λq d=>kp q (hs q d)⟩,?_,?_,λe B=>?_,λq d=>?_,?_,λq d=>ky q (hs q d),λq d=>ke q (hs q d),λq d=>(W q (hs q d)).1,λq d=>(W q (hs q d)).2⟩,λq d=>kg q (hs q d)⟩
     . rw [S];rcases r with e|e
       . rw [e];exact U7 ..
       . exact UP _ (UL _ e)
     . rw [S] at T;exact YI (List.Sublist.cons_cons _ (List.sublist_append_left _ _)) T
     . rw [e0];exact YI (List.eraseIdx_sublist _ _) km
     . obtain ⟨i,hi,qb,P⟩:=YM.1 B;obtain ⟨q,d,o,t⟩:=kr e (by rw [<- P];exact TY _);refine ⟨q,(kc q d).resolve_right λeq=>?_,o,t⟩;subst eq;have q9:(cP f)[i]'(by simpa [cP] using hi)=(cP f)[j]'(by simpa [cP] using K):=by
        simp only [cP,UQ,P,qa,o]
       exact qb (Ft km _ _ q9)
     . obtain ⟨e,B,o,t⟩:=kv q (hs q d);obtain ⟨i,hi,P⟩:=UT B;refine ⟨e,YM.2 ⟨i,hi,λhd=>?_,P⟩,o,t⟩;subst hd;rw [P,t] at kk;exact k6 q (hs q d) kk d
     . have:(g::qs).length=l.length+1:=by rw [Q];simp
       rw [List.length_eraseIdx_of_lt K,k7];simp at this;omega
def OM (sb:Nat) (qs:List Pq) (k:Nat):Prop:=(sb<=k/\k<=sb+1+1+1)\/k∈jV qs\/∃ q∈qs,(Value.slice q.ao q.m q.c).ownBlock=ZW k
def Dg {qs:List Pq} (h:oZ sb qs k):OM sb qs k:=h.elim (λe=>.inl (by omega)) λe=>.inr (.inl e)
def gI.keep (h:gI w sb room D L G es qs) (b:∀ k,OM sb qs k->w'.heap[k]?=w.heap[k]?):gI w' sb room D L G es qs:=by
 obtain ⟨cn,nw,ol,g,hL,f⟩:=h.ring;obtain ⟨n,i⟩:=h.map;exact ⟨(b _ (.inl ⟨by omega,by omega⟩)).trans h.list,(b _ (.inl ⟨by omega,by omega⟩)).trans h.RZ,⟨n,(b _ (.inl ⟨by omega,by omega⟩)).trans i⟩,⟨cn,nw,ol,λa c=>(g a c).keep (b a (Dg c)),hL,f⟩,h.nd,h.lo,h.TE,h.qs_es,h.len,h.SL,λq d=>xY (h.own q d) λk e=>b k (.inr (.inr ⟨q,d,e⟩)),h.Tj,h.told⟩
def gI.blt (h:gI w sb room D L G es qs) (k:Nat) (a:OM sb qs k):k<w.heap.size:=by
 have:sb+1+1+1<w.heap.size:=(TX.1 h.RZ).1;rcases a with e|e|⟨q,b,e⟩
 . omega
 . exact (h.apart k (.inr e)).2.2.2.1
 . exact QO (h.own q b) e
def m7 (sb:Nat) (room:Int) (D L G:Nat) (es:List (Nat×Nat×Nat)) (qs:List Pq) (ho:Nat):aN where
 ps:=sb+1+1+1
 ho:=ho
 bl:=OM sb qs
 S:=λw=>gI w sb room D L G es qs
 keep:=λ_ _ h hk=>h.keep hk
 kd:=λw h k hk cs T z e=>by
  rcases hk with ⟨h1,h2⟩|hk|⟨q,hq,hk⟩
  . have hx:k=sb\/k=sb+1\/k=sb+1+1\/k=sb+1+1+1:=by omega
    rcases hx with rfl|rfl|rfl|rfl
    . obtain ⟨_,_,_,_,cs',q⟩:=h.apart k (.inl rfl)
      rw [q] at e;injection e with e;injection e with _ e;exact .inr (.inr (.inl e.symm))
    . obtain ⟨n,q⟩:=h.map;rw [q] at e;injection e with e;cases e
    . have q:w.heap[sb+1+1]?=_:=h.list
      rw [q] at e;injection e with e;injection e with _ e;exact .inr (.inl e.symm)
    . rw [h.RZ] at e;injection e with e;injection e with _ e;exact .inl e.symm
  . obtain ⟨_,_,_,_,cs',q⟩:=h.apart k (.inr hk)
    rw [q] at e;injection e with e;injection e with _ e;exact .inr (.inr (.inl e.symm))
  . obtain ⟨cur,q⟩:=bz (h.own q hq) hk
    rw [q] at e;injection e with e;injection e with _ e;exact .inr (.inr (.inr e.symm))
 lt:=λ_ h=>h.blt
 cl:=λw h k hk=>by
  rcases hk with ⟨h1,h2⟩|hk|⟨q,hq,hk⟩
  . have hx:k=sb\/k=sb+1\/k=sb+1+1\/k=sb+1+1+1:=by omega
    rcases hx with rfl|rfl|rfl|rfl
    . obtain ⟨_,_,_,_,cs',q⟩:=h.apart k (.inl rfl)
      exact .inr ⟨_,_,_,q⟩
    . exact .inl rfl
    . exact .inr ⟨_,_,_,h.list⟩
    . exact .inr ⟨_,_,_,h.RZ⟩
  . obtain ⟨_,_,_,_,cs',q⟩:=h.apart k (.inr hk)
    exact .inr ⟨_,_,_,q⟩
  . obtain ⟨cur,q⟩:=bz (h.own q hq) hk
    exact .inr ⟨_,_,_,q⟩
def m8 (sb:Nat) (room:Int) (D L G:Nat) (ps:aN):Prop:=∃ es qs ho,ps=m7 sb room D L G es qs ho
end
end
def Dh {qs qs':List Pq} (h:∀ p,p∈qs'↔p∈qs) (c:OM sb qs' k):OM sb qs k:=by
 rcases c with e|e|⟨q,a,e⟩
 . exact .inl e
 . obtain ⟨q,a,b⟩:=T7.1 e;exact .inr (.inl (T7.2 ⟨q,(h q).1 a,b⟩))
 . exact .inr (.inr ⟨q,(h q).1 a,e⟩)
def gI.cell {qs:List Pq} (h:gI w sb room D L G es qs):w.cell? ⟨sb+1+1+1,0,ZX⟩=ZW (Z6 (ZW ⟨sb+1+1,0,ZX⟩)):=by
 have a:=h.RZ;simp [World.cell?,a]
theorem MI {qs:List Pq} (t:gI w sb room D L G es qs) {lost:Nat} (T:lost∈cP es):∃ q d,q∈qs/\q.lost=lost/\(∀ p,p∈d↔p∈qs)/\ZR ZM 149 #[Z6 (ZW ⟨sb+1+1+1,0,ZX⟩),bJ D L G (eL lost:Nat) (fJ lost)] w λe w'=>nE D L G q.s q.ao q.m q.c e/\gI w' sb room D L G es d/\aa (oZ sb qs) w w':=by
 obtain ⟨q,d,S,hr,B,E⟩:=Rc t T;refine ⟨q,d,S,hr,B,?_⟩;obtain ⟨s,hs⟩:=nM (q.s);obtain ⟨ao,Q⟩:=nM (q.ao);obtain ⟨m,P⟩:=nM (q.m);obtain ⟨c,K⟩:=nM (q.c);rw [hs,Q,P,K] at E ⊢;clear hs Q P K;have f:=wE.new w D L G (eL lost:Nat) (fJ lost);obtain ⟨w2,hy⟩:=nM ((w.alloc (Z4 #[Z7 Z9 (D:Int),Z7 Z9 (L:Int),Z7 Z9 (G:Int),Z7 Z8 ((eL lost:Nat):Int),Z1 (fJ lost)] 228)).alloc (Z4 #[Z7 Z9 0,Z5 ZX 0 0] 214));rw [hy] at f;obtain ⟨c0,c1,V,W,X⟩:=f.cells;have j:∀ k,OM sb qs k->k<w.heap.size:=t.blt;have g:∀ k,OM sb d k->k<w.heap.size:=λk b=>j k (Dh B b);have u:=t.keep λk b=>f.below.block k (j k b);have hv:=u.cell;obtain ⟨z,i⟩:∃ z:Int,1+((ab (aq (D+L+G) s)).length:Int)=z:=⟨_,rfl⟩;have J:∀ w',bW w2 w'->ZR ZM 170 #[Z6 (ZW ⟨sb+1+1,0,ZX⟩),bJ D L G (eL lost:Nat) (fJ lost)] w' λe r=>e=Z3 (ZY #[.agg #[Z7 Z9 z,.slice ao m c],Z1 ZV])/\gI r sb room D L G es d/\aa (oZ sb qs) w' r:=λw' hb=>by
  rw [<- i];exact E w' (u.keep λk b=>hb.block k (TZ (j k b) f.below.size))
 have C:bW w2 (w2.alloc (Z4 #[Z7 Z9 0,Z5 ZX 0 0] 214)):=bA w2 _;obtain ⟨Y,d1,Z,d3,d4⟩:=(f.mono C).cells;have dp:=(u.keep λk b=>C.block k (TZ (j k b) f.below.size)).cell;have k5:=f.size;have O:∀ k,oZ sb qs k->k<w.heap.size:=λk b=>j k (Dg b);have M:=ak O;have H:=a5 f g i J;clear f J C t u g j O E B S hr T;unfold bJ at H ⊢;unfold nE;rw [i];clear i;go_enter func149,ntmps149;go_upto_region 1 with fail;go_cut [6,7] from 10 to 18 (λv6 v7 wx=>v7=Z1 ZV/\∃ gb,v6=Z6 (ZW ⟨gb,0,ZX⟩)/\w2.heap.size<=gb/\wx.heap[gb]?=ZW (Z4 #[Z7 Z9 z,.slice ao m c] 214 (0,0))/\gI wx sb room D L G es d/\aa (oZ sb qs) w2 wx)
 case first=>
  go_region_with (go_at_call 170;refine (H.o.2.2.2 _ ?_).mono ?_;(first|exact (TW _ _).drew|exact ((TW _ _).drew).alloc lR _);rintro e w3 ⟨rfl,h,a⟩;(try (have F:w3.heap[w2.heap.size]?=ZW (Z4 #[Z7 Z9 0,Z5 ZX 0 0] 214 (0,0)):=(a.block w2.heap.size (by simp) (λq=>by have:=M.out _ q;omega)).trans (Ug w2.drew _);obtain ⟨r0,r1,g1,g0⟩:=aw F;have U:=ak F;clear F));have I:aa (oZ sb qs) w2 w3:=(by first|exact (aa.drew w2).trans a|exact aa.after ((bA w2 _).drew) a);have x:=al h I;clear h a I);all_goals (go_wp2_with fail;go_meet;case rel=>(
   obtain ⟨h,a⟩:=x.o;have g:=H.o.2.1;have hg:=a.size;first
    | (refine ⟨rfl,w2.heap.size,rfl,TV _,iR (y':=.slice ao m c) (iQ (x':=Z7 Z9 z) U.o),h.keep λk b=>(fH w3 w2.heap.size 0 1 _ _).block k (by have:=g k b;omega) (by have:=g k b;omega),?_⟩
       have n:=fH w3 w2.heap.size 0 1 (Z7 Z9 z) (.slice ao m c);exact ⟨n.os.trans a.os,n.tape.trans a.tape,n.output.trans a.output,TU a.size n.size,λk y A=>(n.block k (by omega) (by omega)).trans (a.block k y A)⟩)
    | exact ⟨rfl,w3.heap.size,rfl,hg,Ug _ _,h.keep λk b=>UC _ _ _ (by have:=g k b;omega),a.os,a.tape,a.output,by rw [Uq];omega,λk y A=>(UC _ _ _ (by omega)).trans (a.block k y A)⟩))
 case rest=>
  clear c0 c1 V W X Y d1 Z d3 d4 dp hv;rename ZT=>w3;obtain ⟨rfl,gb,rfl,k0,R,h,a⟩:=hcut;obtain ⟨f,g,i,_⟩:=H.o;have l:=(a.block (w.heap.size+1) (by omega) (λq=>by have:=M.out _ q;omega)).trans f.res;obtain ⟨q0,q1,g1,g0⟩:=aw l;obtain ⟨r0,r1,_,_⟩:=aw R;have x:=aE l h a;clear l h a R f g i;go_wp2;obtain ⟨l,h,a⟩:=x.o;obtain ⟨f,g,i,_⟩:=H.o;obtain ⟨n0,n1,_⟩:=aw (iR (y':=.slice ao m c) (iQ (x':=Z7 Z9 z) l));have N:aa (λk=>k=w.heap.size+1) w3 ((w3.setCell ⟨w.heap.size+1,0,ZX⟩ (Z7 Z9 z)).setCell ⟨w.heap.size+1,1,ZX⟩ (.slice ao m c)):=fH w3 (w.heap.size+1) 0 1 _ _;refine Ur (v:=ZY #[.agg #[Z7 Z9 z,.slice ao m c],.nilIface]) (by simp [results,results149,go_sem,n0,n1]) rfl ?_;exact ⟨rfl,h.keep λk b=>N.block k (by have:=g k b;have:=a.size;omega) (by have:=g k b;omega),(aa.after f.below a).later N (λk b q=>by omega)⟩
section
def MK:¬ jS 221:=by unfold jS;decide
section
variable {w':ZT} {D L G:Nat} {Kind:aN->Prop} {ps:aN}
def Rf (D L G:Nat) (Kind:aN->Prop) (ps:aN) (l1:Nat) (w1:ZT) (v6 v7:ZS) (wx:ZT):Prop:=v7=.nilIface/\∃ gb ps' s C ao m c,v6=Z6 (ZW ⟨gb,0,ZX⟩)/\w1.heap.size<=gb/\wx.heap[gb]?=ZW (Z4 #[Z7 Z9 (1+((ab (aq (D+L+G) s)).length:Int)),.slice ao m c] 214 (0,0))/\DD D L G Kind ps ps' l1 s C ao m c w1.heap.size wx/\aa ps.bl w1 wx
def Jl {ps':aN} (e:DD D L G Kind ps ps' l1 s C ao m c w1.heap.size w3) (d:bW w1 w') (b:aa ps.bl w' w3) :
 Rf D L G Kind ps l1 w1 (Z6 (ZW ⟨w3.heap.size,0,ZX⟩)) .nilIface (w3.alloc (Z4 #[Z7 Z9 (1+((ab (aq (D+L+G) s)).length:Int)),.slice ao m c] 214)):=by
 have a:bW w3 (w3.alloc (Z4 #[Z7 Z9 (1+((ab (aq (D+L+G) s)).length:Int)),.slice ao m c] 214)):=bA _ _;exact ⟨rfl,_,ps',s,C,ao,m,c,rfl,TU d.size b.size,Ug _ _,e.keep (T:=λ_=>False) (aa.RN a _) (λ_ q=>q.elim),(aa.after d b).trans (aa.RN a _)⟩
def Fu {ps':aN} (n:DD D L G Kind ps ps' l1 s C ao m c (w1.heap.size+1) w3) (hl:∀ k,ps.bl k->k<w1.heap.size) (r:w2.heap.size=w1.heap.size) (o:bW w1 w2) (g:aa ps.bl (w2.alloc (Z4 #[Z7 Z9 0,Z5 ZX 0 0] 214)) w3) :
 Rf D L G Kind ps l1 w1 (Z6 (ZW ⟨w1.heap.size,0,ZX⟩)) .nilIface ((w3.setCell ⟨w1.heap.size,0,ZX⟩ (Z7 Z9 (1+((ab (aq (D+L+G) s)).length:Int)))).setCell ⟨w1.heap.size,1,ZX⟩ (.slice ao m c)):=by
 have p:w3.heap[w1.heap.size]?=ZW (Z4 #[Z7 Z9 0,Z5 ZX 0 0] 214 (0,0)):=(g.block w1.heap.size (by rw [Uq];omega) (λq=>by have:=hl _ q;omega)).trans (by rw [<- r];exact Ug _ _);have b:=fH w3 w1.heap.size 0 1 (Z7 Z9 (1+((ab (aq (D+L+G) s)).length:Int))) (.slice ao m c);have j:DD D L G Kind ps ps' l1 s C ao m c w1.heap.size ((w3.setCell ⟨w1.heap.size,0,ZX⟩ (Z7 Z9 (1+((ab (aq (D+L+G) s)).length:Int)))).setCell ⟨w1.heap.size,1,ZX⟩ (.slice ao m c)):=by
  have h:=n.keep b (λk (q:k=w1.heap.size)=>⟨by omega,λe=>by have:=hl k e;omega⟩);exact ⟨h.kind,h.psE,h.hoE,h.kit,λk d=>(h.bl k d).imp id (by omega),λk d=>(h.ob k d).imp id (by omega),h.own,h.Tj,h.told⟩
 have l:bW w1 (w2.alloc (Z4 #[Z7 Z9 0,Z5 ZX 0 0] 214)):=o.alloc (by omega) _;have a:=aa.after l g;exact ⟨rfl,_,ps',s,C,ao,m,c,rfl,TV _,iR (iQ p),j,b.os.trans a.os,b.tape.trans a.tape,b.output.trans a.output,TU a.size b.size,λk f i=>(b.block k (TZ f a.size) (by omega)).trans (a.block k f i)⟩
end
end
section
section
variable (D L G lost:Nat) (hr:de D L G=ZV) (hD1:1<=D) (hD:D<=12) (hL:1<=L) (hL4:L<=4) (hG:G<=4) (hdiv:D%L=0) (h16:D+L+G<=16) (hl:lost<2^(D+L+G))
include hr hD1 hD hL hL4 hG hdiv h16 hl
theorem Jm (rd:Bool) (w:ZT) (g:aG w) (i:3<=w.heap.size):ZR ZM 171 #[bJ D L G lost rd] w (Q4 D L G lost w):=by
 have a:=wE.new w D L G lost rd;obtain ⟨w2,n⟩:=nM ((w.alloc (Z4 #[Z7 Z9 (D:Int),Z7 Z9 (L:Int),Z7 Z9 (G:Int),Z7 Z8 (lost:Int),Z1 rd] 228)).alloc (Z4 #[Z7 Z9 0,Z5 ZX 0 0] 214));rw [n] at a;obtain ⟨c0,c1,t,u,x⟩:=a.cells;have l:=CY D L G lost hr hD1 hD hL hL4 hG hdiv h16 hl w2 (g.mono (by omega) a.below) (TU i a.below.size);have j:=rB D L G lost hr hD1 hD hL hL4 hG hdiv h16 hl w2 (g.mono (by omega) a.below) (TU i a.below.size);have H:=aE a l j;clear a j l g;unfold bJ;cases rd;all_goals (
  go_enter func171,ntmps171;go_wp2_with fail;first|refine H.o.2.1.mono ?_|refine H.o.2.2.mono ?_
  rintro e w3 ⟨z,ao,m,c,er,rfl,b,f⟩;have a:=H.o.1;have hs:=a.size;have d:=(b.block (w.heap.size+1) (by omega)).trans a.res;obtain ⟨N,O,M,K⟩:=aw d;have r:=a5 f b d hs;clear f b d c0 c1 t u x n a;go_wp2;obtain ⟨f,b,d,hs⟩:=r.o;obtain ⟨n0,B,_⟩:=aw (iR (y':=.slice ao m c) (iQ (x':=Z7 Z9 z) d));refine Ur (v:=ZY #[.agg #[Z7 Z9 z,.slice ao m c],er]) (by simp [results,results171,go_sem,n0,B]) rfl ?_;have y:bW w w3:=H.o.1.below.trans (b.mono H.o.1.below.size);refine ⟨z,ao,m,c,er,rfl,(y.setCell (p:=⟨w.heap.size+1,0,ZX⟩) (by show w.heap.size<=w.heap.size+1;omega) _).setCell (p:=⟨w.heap.size+1,1,ZX⟩) (by show w.heap.size<=w.heap.size+1;omega) _,?_⟩;rcases f with q|⟨E,s,C,F,I,J,k⟩
  . exact .inl q
  . have h:(Value.slice ao m c).ownBlock≠ZW (w.heap.size+1):=λe=>by have:=jM k e;omega
    have A:=(k.kept (dz w3 (w.heap.size+1) 0 (Z7 Z9 z)) (.inr h)).kept (dz _ (w.heap.size+1) 1 (.slice ao m c)) (.inr h);exact .inr ⟨E,s,C,F,I,J,ga A (by omega)⟩)
end
def PlA (sb:Nat) (room:Int) (D L G x:Nat) (qs:List Pq) (w w':ZT) (z:Int) (ao:Option ZQ) (m c:Nat) (er:ZS):Prop:=(er=.iface 66 (Z7 Z9 3)/\z=0/\ao=ZX/\m=0/\c=0/\¬ iT D L G (eL x)/\bW w w')\/(er=.nilIface/\∃ s C es' qs',(∀ i,(eL x).testBit i=ZV->s.testBit i=ZV)/\tells (jL D L G) (ab (aq (D+L+G) s))=ZW C/\z=1+((ab (aq (D+L+G) s)).length:Int)/\w'.ownsRow w.heap.size 290 4 (.slice ao m c) (bX D L G s C).length (eC .u8 (bX D L G s C))/\gI w' sb room D L G es' qs'/\(∀ q∈qs',q∈qs\/(w.heap.size<=q.nb/\∀ k,(Value.slice q.ao q.m q.c).ownBlock=ZW k->w.heap.size<=k))/\aa (λk=>oZ sb qs k\/k=sb+1) w w')
section
variable (D L G x:Nat) (hr:de D L G=ZV) (hD1:1<=D) (hD:D<=12) (hL:1<=L) (hL4:L<=4) (hG:G<=4) (hdiv:D%L=0) (h16:D+L+G<=16) (hl:eL x<2^(D+L+G))
include hr hD1 hD hL hL4 hG hdiv h16 hl
theorem ML {qs:List Pq} (U:gI w sb room D L G es qs) (hx:x∉cP es) (hT:aG w) (h2:3<=w.heap.size):ZR ZM 149 #[Z6 (ZW ⟨sb+1+1+1,0,ZX⟩),bJ D L G (eL x:Nat) (fJ x)] w λe w'=>∃ z ao m c er,e=Z3 (ZY #[.agg #[Z7 Z9 z,.slice ao m c],er])/\PlA sb room D L G x qs w w' z ao m c er:=by
 have i:=wE.new w D L G (eL x:Nat) (fJ x);obtain ⟨w2,q4⟩:=nM ((w.alloc (Z4 #[Z7 Z9 (D:Int),Z7 Z9 (L:Int),Z7 Z9 (G:Int),Z7 Z8 ((eL x:Nat):Int),Z1 (fJ x)] 228)).alloc (Z4 #[Z7 Z9 0,Z5 ZX 0 0] 214));rw [q4] at i;obtain ⟨c0,c1,Q,R,S⟩:=i.cells;have f:=U.keep λk a=>i.below.block k (U.blt k a);have k7:=f.list;obtain ⟨n,k8⟩:=f.map;have q2:=f.cell;have hy:∀ w',bW w2 w'->ZR ZM 170 #[Z6 (ZW ⟨sb+1+1,0,ZX⟩),bJ D L G (eL x:Nat) (fJ x)] w' λe hd=>e=Z3 (ZY #[.agg #[Z7 Z9 0,Z5 ZX 0 0],Z1 ZU])/\bW w' hd:=λw' hb=>Fq ((hb.block _ (TX.1 k7).1).trans k7) ((hb.block _ (TX.1 k8).1).trans k8) hx;have ka:bW w2 (w2.alloc (Z4 #[Z7 Z9 0,Z5 ZX 0 0] 214)):=bA w2 _;obtain ⟨d0,d1,d2,d3,d4⟩:=(i.mono ka).cells;have dp:=(f.keep λk a=>ka.block k (f.blt k a)).cell;have ke:=aE (TX.1 U.RZ).1 (λk (a:oZ sb qs k)=>U.blt k (Dg a)) hx;have q6:=i.size;have H:=aE i f hy;clear i f hy k7 k8 U ka hx;unfold bJ at H ⊢;go_enter func149,ntmps149;go_upto_region 1 with fail;go_cut [6,7] from 10 to 18 (λv6 v7 wx=>v7=Z1 ZU/\bW w2 wx)
 case first=>
  go_region_with (go_at_call 170;refine (H.o.2.2 _ ?_).mono ?_;(first|exact (TW _ _).drew|exact ((TW _ _).drew).alloc lR _);rintro e w3 ⟨rfl,y⟩;(try (have q3:w3.heap[w2.heap.size]?=ZW (Z4 #[Z7 Z9 0,Z5 ZX 0 0] 214 (0,0)):=(y.block w2.heap.size (by simp)).trans (Ug w2.drew _);obtain ⟨r0,r1,g1,g0⟩:=aw q3;clear q3));have hv:bW w2 w3:=(by first|exact ((TW _ w2).drew).trans y|exact ((bA w2 _).drew).trans (y.mono (by simp)));have N:=ak hv;clear y hv);all_goals (go_wp2_with fail;go_meet;case rel=>(refine ⟨rfl,?_⟩;first|exact N.o.alloc N.o.size _|exact (N.o.setCell (p:=⟨w2.heap.size,0,ZX⟩) lR _).setCell (p:=⟨w2.heap.size,1,ZX⟩) lR _))
 case rest=>
  clear c0 c1 Q R S d0 d1 d2 d3 d4 dp q2;rename ZT=>w3;obtain ⟨rfl,y⟩:=hcut;obtain ⟨i,f,_⟩:=H.o;have d:=i.mono y;have I:=f.keep λk a=>y.block k (f.blt k a);obtain ⟨c0,c1,Q,R,S⟩:=d.cells;have kb:=Jm D L G (eL x) hr hD1 hD hL hL4 hG hdiv h16 hl (fJ x) w3 (hT.mono (by omega) d.below) (TU h2 d.below.size);unfold bJ at kb;have N:=aE d I kb;clear i f d I kb y hT;go_wp2_with fail;refine N.o.2.2.mono ?_;rintro e w4 ⟨z,ao,m,c,er,rfl,J,kv⟩;clear c0 c1 Q R S;obtain ⟨d,I,_⟩:=N.o;have q5:=d.size;rcases kv with ⟨rfl,rfl,rfl,rfl,rfl,ki⟩|⟨rfl,s,C,K,F,M,kj⟩
  . have kr:=ak ki;clear ki;have E:bW w4 (w4.alloc (Z4 #[Z7 Z9 0,Z5 ZX 0 0] 214)):=bA w4 _;have r:=J.trans (E.mono J.size);have V:=(r.block (w.heap.size+1) (by omega)).trans d.res;have g:(w4.alloc (Z4 #[Z7 Z9 0,Z5 ZX 0 0] 214)).heap[w4.heap.size]?=ZW (Z4 #[Z7 Z9 0,Z5 ZX 0 0] 214 (0,0)):=Ug _ _;obtain ⟨q0,q1,g1,g0⟩:=aw V;obtain ⟨r0,r1,_,_⟩:=aw g;have Y:bW w (w4.alloc (Z4 #[Z7 Z9 0,Z5 ZX 0 0] 214)):=d.below.trans (r.mono d.below.size);have P:=al V Y;clear J E r V g Y d I;go_wp2;obtain ⟨V,Y⟩:=P.o;obtain ⟨n0,n1,_⟩:=aw (iR (y':=Z5 ZX 0 0) (iQ (x':=Z7 Z9 0) V));refine Ur (v:=ZY #[.agg #[Z7 Z9 0,Z5 ZX 0 0],.iface 66 (Z7 Z9 3)]) (by simp [results,results149,go_sem,n0,n1]) rfl ⟨0,ZX,0,0,_,rfl,.inl ⟨rfl,rfl,rfl,rfl,rfl,kr.out,?_⟩⟩;exact (Y.setCell (p:=⟨w.heap.size+1,0,ZX⟩) (by show w.heap.size<=w.heap.size+1;omega) _).setCell (p:=⟨w.heap.size+1,1,ZX⟩) (by show w.heap.size<=w.heap.size+1;omega) _
  have kp:=ak (show w.heap.size+2<=w3.heap.size/\w3.heap.size<=w4.heap.size from ⟨d.size,J.size⟩);have E:bW w4 (w4.alloc (Z4 #[Z7 Z9 z,.slice ao m c] 214)):=bA w4 _;have r:=J.trans (E.mono J.size);have h:=d.mono r;have u:=I.keep λk a=>r.block k (I.blt k a);have kk:=u.cell;have g:(w4.alloc (Z4 #[Z7 Z9 z,.slice ao m c] 214)).heap[w4.heap.size]?=ZW (Z4 #[Z7 Z9 z,.slice ao m c] 214 (0,0)):=Ug _ _;have t:=ay kj E;obtain ⟨w5,kc⟩:=nM (w4.alloc (Z4 #[Z7 Z9 z,.slice ao m c] 214));rw [kc] at E r h u kk g t;obtain ⟨c0,c1,Q,R,S⟩:=h.cells;obtain ⟨r0,r1,_,_⟩:=aw g;have X:=Re (w:=w5.drew) (u.keep λ_ _=>rfl) ke.out.2.2 (show w5.drew.ownsRow 0 290 4 (.slice ao m c) (bX D L G s C).length (eC .u8 (bX D L G s C)) from ga (ay t (TW _ w5).drew) (T5 _)) K F;rw [<- M] at X;unfold bJ at X;have P:=hide8 h u g t X K F M;clear kj J E r h u g t X d I K F M;go_upto_region 6 with fail;go_cut [34] from 28 to 33 (λ_v wx=>(∃ j b,gI wx sb room D L G j b/\∀ q∈b,q∈qs\/q=⟨x,w5.drew.heap.size+1+1,s,C,ao,m,c⟩)/\aa (λk=>oZ sb qs k\/k=sb+1) w5.drew wx)
  case first=>
   go_region_with (go_at_call 172;refine P.o.2.2.2.2.1.mono ?_;rintro e w6 ⟨rfl,l,hs⟩;have H6:=al l hs;clear l hs);all_goals (go_wp2_with fail;go_meet;case rel=>exact H6.o)
  case rest=>
   rename ZT=>w6;clear c0 c1 Q R S r0 r1 kk;obtain ⟨⟨j,b,l,k5⟩,hs⟩:=hcut;obtain ⟨h,u,g,t,_,K,F,M⟩:=P.o;have B:aa (λk=>oZ sb qs k\/k=sb+1) w5 w6:=(aa.drew w5).trans hs;obtain ⟨ko,kg,_⟩:=ke.out;have km:=h.size;have kz:w4.heap.size<w5.heap.size:=(TX.1 g).1;have kf:=kp.out;have Z:∀ k,w.heap.size<=k->¬ (oZ sb qs k\/k=sb+1):=λk h1 q=>by
    rcases q with q|q
    . have:=kg k q;omega
    . omega
   have A:=(B.block (w.heap.size+1) (by omega) (Z _ (by omega))).trans h.res;have kh:=(B.block w4.heap.size kz (Z _ (by omega))).trans g;have O:w6.ownsRow w3.heap.size 290 4 (.slice ao m c) (bX D L G s C).length (eC .u8 (bX D L G s C)):=bV t B (λk a q=>Z k (by have:=eh t a;omega) q);obtain ⟨q0,q1,g1,g0⟩:=aw A;obtain ⟨r0,r1,_,_⟩:=aw kh;have q7:w5.drew.heap.size=w5.heap.size:=rfl;have W:∀ q∈b,q∈qs\/(w.heap.size<=q.nb/\∀ k,(Value.slice q.ao q.m q.c).ownBlock=ZW k->w.heap.size<=k):=λq hq=>(k5 q hq).imp id λe=>by
    subst e;exact ⟨by show w.heap.size<=w5.drew.heap.size+1+1;omega,λk a=>by have:=eh O a;omega⟩
   have H6:=hide9 A l O B W km ko kf u.blt;clear l k5 W hs h u g t B A kh O K F M kg Z;go_wp2;obtain ⟨A,l,O,B,W,km,ko,kf,ks⟩:=H6.o;obtain ⟨n0,n1,_⟩:=aw (iR (y':=.slice ao m c) (iQ (x':=Z7 Z9 z) A));have k9:aa (λk=>k=w.heap.size+1) w6 ((w6.setCell ⟨w.heap.size+1,0,ZX⟩ (Z7 Z9 z)).setCell ⟨w.heap.size+1,1,ZX⟩ (.slice ao m c)):=fH w6 (w.heap.size+1) 0 1 _ _;refine Ur (v:=ZY #[.agg #[Z7 Z9 z,.slice ao m c],.nilIface]) (by simp [results,results149,go_sem,n0,n1]) rfl ?_;obtain ⟨h,_,_,_,_,K,F,M⟩:=P.o;have kx:∀ k,OM sb b k->k≠w.heap.size+1:=λk a e=>by
    obtain ⟨cs,T,zz,ky⟩:∃ cs T zz,w6.heap[k]?=ZW (Z4 cs T zz):=⟨_,_,_,by rw [e];exact A⟩;rw [e,A] at ky;have:=(m7 sb room D L G j b 0).kd w6 l k a _ _ _ (by rw [e];exact A);exact absurd this (by unfold jS;decide)
   exact ⟨z,ao,m,c,_,rfl,.inr ⟨rfl,s,C,j,b,K,F,M,ga (bV O k9 (λk a q=>by have:=eh O a;omega)) (by omega),l.keep λk a=>k9.block k (l.blt k a) (kx k a),W,(aa.after h.below B).later k9 (λk a q=>by omega)⟩⟩
end
end
section
def PnA (D L G:Nat) (Kind:aN->Prop) (ps:aN) (lost:Nat) (w:ZT) (e:ZP) (w':ZT):Prop:=(e=uQ/\¬ iT D L G lost/\bW w w')\/∃ (ps':aN) (s:Nat) (C:Ck) (ao:Option ZQ) (m c:Nat),nE D L G s ao m c e/\DD D L G Kind ps ps' lost s C ao m c w.heap.size w'/\aa ps.bl w w'
section
variable (D L G:Nat) (hr:de D L G=ZV) (hD1:1<=D) (hD:D<=12) (hL:1<=L) (hL4:L<=4) (hG:G<=4) (hdiv:D%L=0) (h16:D+L+G<=16)
include hr hD1 hD hL hL4 hG hdiv h16
def MM (hl:eL x<2^(D+L+G)) {w:ZT} {sb:Nat} {room:Int} {ps:aN} (hK:m8 sb room D L G ps) (E:ps.S w) (F:aG w) (b:3<=w.heap.size):ZR ZM 149 #[Z6 (ZW ⟨ps.ps,0,ZX⟩),bJ D L G (eL x:Nat) (fJ x)] w (PnA D L G (m8 sb room D L G) ps (eL x) w):=by
 obtain ⟨es,qs,ho,rfl⟩:=hK;have t:gI w sb room D L G es qs:=E;by_cases u:x∈cP es
 . obtain ⟨q,a,h,K,n,J⟩:=MI t u;refine J.mono ?_;rintro e w' ⟨y,b,i⟩;have j:=(n q).2 h;exact .inr ⟨m7 sb room D L G es a ho,q.s,q.C,q.ao,q.m,q.c,y,⟨⟨es,a,ho,rfl⟩,rfl,rfl,b,λk d=>.inl (Dh n d),λk d=>.inl (.inr (.inr ⟨q,h,d⟩)),b.own q j,K▸b.Tj q j,b.told q j⟩,i.mono λk _ e=>Dg e⟩
 . refine (ML D L G x hr hD1 hD hL hL4 hG hdiv h16 hl t u F b).mono ?_;rintro e w' ⟨z,ao,m,c,er,rfl,⟨rfl,rfl,rfl,rfl,rfl,H,I⟩|⟨rfl,s,C,g,a,b,i,rfl,o,A,r,B⟩⟩
   . exact .inl ⟨rfl,H,I⟩
   refine .inr ⟨m7 sb room D L G g a ho,s,C,ao,m,c,rfl,⟨⟨g,a,ho,rfl⟩,rfl,rfl,A,λk d=>?_,λk d=>.inr (eh o d),ga o (T5 _),b,i⟩,B.mono λk _ e=>?_⟩
   . rcases d with q|q|⟨q,h,v⟩
     . exact .inl (.inl q)
     . obtain ⟨p,M,l⟩:=T7.1 q;rcases r p M with f|f
       . exact .inl (.inr (.inl (T7.2 ⟨p,f,l⟩)))
       . exact .inr (l▸f.1)
     . rcases r q h with f|f
       . exact .inl (.inr (.inr ⟨q,f,v⟩))
       . exact .inr (f.2 k v)
   . rcases e with e|e
     . exact Dg e
     . exact .inl (by omega)
theorem yS {ps:aN} (hK:m8 sb room D L G ps) {w:ZT} (N:ps.S w) (X:aG w) (i:3<=w.heap.size) {l:Nat} (Z:l<2^(D+L+G)) {f:FuncId} {b:Bool} (hf:(f=142/\b=ZV)\/(f=125/\b=ZU)):ZR ZM f #[Z6 (ZW ⟨ps.ps,0,ZX⟩),.agg #[Z7 Z9 D,Z7 Z9 L,Z7 Z9 G],Z7 Z8 l] w (PnA D L G (m8 sb room D L G) ps l w):=by
 have a:=CI.new w D L G;have j:((w.alloc (Z4 #[Z7 Z9 (D:Int),Z7 Z9 (L:Int),Z7 Z9 (G:Int)] 27)).alloc (Z4 #[Z7 Z9 0,Z5 ZX 0 0] 214)).heap.size=w.heap.size+2:=by simp
 obtain ⟨w2,T⟩:=nM ((w.alloc (Z4 #[Z7 Z9 (D:Int),Z7 Z9 (L:Int),Z7 Z9 (G:Int)] 27)).alloc (Z4 #[Z7 Z9 0,Z5 ZX 0 0] 214));rw [T] at a j;obtain ⟨c0,c1,V⟩:=ft a.par;have Q:eL (2*l+b.toNat)=l:=by cases b<;>simp [eL]<;>omega
 have W:fJ (2*l+b.toNat)=b:=by cases b<;>simp [fJ]<;>omega
 have O:=MM D L G hr hD1 hD hL hL4 hG hdiv h16 (x:=2*l+b.toNat) (by rw [Q];exact Z) hK (ps.keep _ _ N λk d=>a.below.block k (ps.lt _ N k d)) (X.mono (by omega) a.below) (TU i a.below.size);rw [Q,W] at O;unfold bJ at O;have H:=a5 a j O (ps.lt _ N);clear a j O N X Z Q W;rcases hf with ⟨rfl,rfl⟩|⟨rfl,rfl⟩;go_enter func142,ntmps142;rotate_left
 go_enter func125,ntmps125;all_goals (
  go_wp2_with fail;refine H.o.2.2.1.mono ?_;rintro e w3 (⟨rfl,hq,A⟩|⟨h,s,C,ao,m,c,Y,hP,y⟩)
  . unfold uQ;have hs:=ak hq;clear hq;obtain ⟨a,j,_,B⟩:=H.o;have g:=(A.block (w.heap.size+1) (by omega)).trans a.res;obtain ⟨r0,r1,g1,g0⟩:=aw g;have P:=al g (a.below.trans (A.mono a.below.size));clear A g c0 c1 V T a;go_wp2;obtain ⟨g,A⟩:=P.o;obtain ⟨n0,U,_⟩:=aw (iR (y':=Z5 ZX 0 0) (iQ (x':=Z7 Z9 0) g));refine Ur (v:=ZY #[.agg #[Z7 Z9 0,Z5 ZX 0 0],.iface 66 (Z7 Z9 3)]) (by simp [results,results142,results125,go_sem,n0,U]) rfl (.inl ⟨rfl,hs.out,?_⟩);exact (A.setCell (p:=⟨w.heap.size+1,0,ZX⟩) (by show w.heap.size<=w.heap.size+1;omega) _).setCell (p:=⟨w.heap.size+1,1,ZX⟩) (by show w.heap.size<=w.heap.size+1;omega) _
  . obtain ⟨F,i,I,r,t,u,J,K,M⟩:=hP;unfold nE at Y;subst Y;obtain ⟨z,E⟩:∃ z:Int,1+((ab (aq (D+L+G) s)).length:Int)=z:=⟨_,rfl⟩;rw [E];obtain ⟨a,j,_,B⟩:=H.o;have g:=(y.block (w.heap.size+1) (by omega) (λq=>by have:=B _ q;omega)).trans a.res;obtain ⟨r0,r1,g1,g0⟩:=aw g;have P:=hide12 F i I r t u J K M y g E;clear F i I r t u J K M y g c0 c1 V T E a;go_wp2;obtain ⟨F,i,I,r,t,u,J,K,M,y,g,E⟩:=P.o;obtain ⟨a,j,_,B⟩:=H.o;obtain ⟨n0,U,_⟩:=aw (iR (y':=.slice ao m c) (iQ (x':=Z7 Z9 z) g));have R:aa (λk=>k=w.heap.size+1) w3 ((w3.setCell ⟨w.heap.size+1,0,ZX⟩ (Z7 Z9 z)).setCell ⟨w.heap.size+1,1,ZX⟩ (.slice ao m c)):=fH w3 (w.heap.size+1) 0 1 _ _;have hv:∀ k,h.bl k->k≠w.heap.size+1:=λk d=>by rcases t k d with q|q;have:=B k q;omega;omega
    refine Ur (v:=ZY #[.agg #[Z7 Z9 z,.slice ao m c],.nilIface]) (by simp [results,results142,results125,go_sem,n0,U]) rfl ?_;have n:=(y.mono λ_ _ q=>(.inl q:_\/_)).trans (R.mono λk _ q=>(.inr q:ps.bl k\/_));refine .inr ⟨h,s,C,ao,m,c,by unfold nE;rw [E],⟨F,i,I,h.keep _ _ r λk d=>R.block k (h.lt _ r k d) (hv k d),λk d=>?_,λk d=>?_,bV J R λk d q=>?_,K,M⟩,⟨n.os.trans a.below.os,n.tape.trans a.below.tape,n.output.trans a.below.output,TU a.below.size n.size,λk d hn=>(n.block k (by have:=a.below.size;omega) (λq=>q.elim hn (by omega))).trans (a.below.block k d)⟩⟩
    . rcases t k d with q|q
      . exact .inl q
      . exact .inr (by omega)
    . rcases u k d with q|q
      . exact .inl q
      . exact .inr (by omega)
    . rcases u k d with q'|q'
      . have:=B k q';omega
      . omega)
end
end
section
structure qK (w:ZT) (r v b g N p D L G:Nat) (Kind:aN->Prop) (ps:aN) (A:aF) (F:aQ) (dl:a8):Prop where
 vol:pH w v p D L G ps.ps ps.ho A F
 nN:N=D+L+G
 hol:ps.ho<2^N
 kit:ps.S w
 kind:Kind ps
 apt:∀ k,ps.bl k->3<=k/\k≠v/\¬ F.S k
 vr:v≠r
 vg:v≠g
 rg:r≠g
 gF:¬ F.S g
 rF:¬ F.S r
 rK:3<=r
 vK:3<=v
 gK:3<=g
 nb:b<A.nb
 cw:A.at b (Pu D L G dl)
 len:dl.length<=D*44
 byt:∀ x∈dl,x<256
 fine:A.fine D L G
structure qM (w0:ZT) (r v b g N p D L G:Nat) (A:aF) (F:aQ) (Kind:aN->Prop) (ps ps1:aN) (dl:a8) (sp gone hl:Nat) (ds:a8) (f:Nat->ZS) (w:ZT):Prop where
 rd:ew w r v b g N gone sp
 vol:pH w v p D L G ps.ps hl A F
 row:w.rowIs g 39 N f
 kn:Kn w w0.heap.size wC f (vR D L G dl) ds
 kit:ps1.S w
 kind:Kind ps1
 psE:ps1.ps=ps.ps
 bl:∀ k,ps1.bl k->ps.bl k\/w0.heap.size<=k
 out:aa (λk=>k=g\/k=r\/k=v\/F.S k\/ps.bl k) w0 w
 okd:∀ i∈ds,gnB A b i=ZU/\i<N
 gol:gone<2^N
 hll:hl<2^N
 spl:sp<2^N
 gb:∀ i,gone.testBit i=ZV->gnB A b i=ZV
section
variable {w0 w w':ZT} {r v b g N p D L G:Nat} {Kind:aN->Prop} {ps ps1:aN} {A:aF} {F:aQ} {dl:a8} {sp gone hl:Nat} {ds:a8} {f:Nat->ZS}
def qM.apart (h:qM w0 r v b g N p D L G A F Kind ps ps1 dl sp gone hl ds f w) (hs:qK w0 r v b g N p D L G Kind ps A F dl) (hr:r<w0.heap.size) (i:g<w0.heap.size) (c:¬ ps.bl r) (a:¬ ps.bl g) (k:Nat) (d:ps1.bl k):3<=k/\k≠v/\k≠r/\k≠g/\¬ F.S k:=by
 rcases h.bl k d with q|q
 . exact ⟨(hs.apt k q).1,(hs.apt k q).2.1,λe=>c (e▸q),λe=>a (e▸q),(hs.apt k q).2.2⟩
 . have:=hs.vol.vol.lt;have:=hs.vol.room;exact ⟨by omega,by omega,by omega,by omega,λe=>by have:=hs.vol.arr.RO e;omega⟩
def pH.TC {q:Nat} (h:pH w v p D L G q ho A F) {T:Nat->Prop} (a:aa T w w') (b:∀ k,T k->3<=k/\k≠v/\¬ F.S k):pH w' v p D L G q ho A F:=by
 exact { h with vol:=h.vol.keep (a.block _ h.vol.lt λq=>(b _ q).2.1 rfl),arr:=h.arr.keep (λk c=>a.block k (h.arr.RO c) λq=>(b k q).2.2 c),laid:=h.laid.keep (a.block _ h.laid.lt λq=>by have:=(b _ q).1;omega),tab:=h.tab.keep (a.block _ h.tab.lt λq=>by have:=(b _ q).1;omega),room:=TU h.room a.size }
def qM.SC (h:qM w0 r v b g N p D L G A F Kind ps ps1 dl sp gone hl ds f w) (c:∀ k,ps1.bl k->3<=k/\k≠v/\k≠r/\k≠g/\¬ F.S k) {ps2:aN} (a:aa ps1.bl w w') (l:ps2.S w') (hK:Kind ps2) (o:ps2.ps=ps1.ps) (s:∀ k,ps2.bl k->ps1.bl k\/w.heap.size<=k):qM w0 r v b g N p D L G A F Kind ps ps2 dl sp gone hl ds f w':=by
 have u:=h.out.size;refine { h with rd:=h.rd.keep (a.block _ h.rd.lt λq=>(c _ q).2.2.1 rfl),vol:=h.vol.TC a λk q=>⟨(c k q).1,(c k q).2.1,(c k q).2.2.2.2⟩,row:=h.row.of_block (a.block _ h.row.lt λq=>(c _ q).2.2.2.1 rfl),kn:=⟨h.kn.1,λi t=>?_⟩,kit:=l,kind:=hK,psE:=o.trans h.psE,bl:=λk q=>(s k q).elim (h.bl k) λe=>.inr (TU u e),out:=h.out.later (a.mono λk _ q=>h.bl k q) ?_ }
 . obtain ⟨bl,m,n,d,j⟩:=h.kn.2 i t;exact ⟨bl,m,n,TZ d a.size,(a.block bl d (bZ h.kit j MK)).trans j⟩
 . intro k l q;rcases q with q|q
   . exact .inr (.inr (.inr (.inr q)))
   . omega
def MN {i:Nat} (h:gnB A b i=ZV):∃ b,A.bad i b=ZV:=⟨_,h⟩
def nF (h:qM w0 r v b g N p D L G A F Kind ps ps1 dl sp gone hl ds f w) (hs:qK w0 r v b g N p D L G Kind ps A F dl) (hr:r<w0.heap.size) (m:g<w0.heap.size) (O:¬ ps.bl r) (K:¬ ps.bl g) (T:Nat) (Q:T<65536) (j:∀ i,i∈ab T->i<N) :
 ZR ZM 124 #[Z6 (ZW ⟨r,0,ZX⟩),Z7 Z8 T] w λe w'=>e=Z3 (ZY #[])/\∃ z,qM w0 r v b g N p D L G A F Kind ps ps1 dl sp (gone|||zC (gnB A b) (RK T gone sp ds)) hl (ds++CU A b (RK T gone sp ds)) z w'/\aa (λk=>k=g\/k=r\/k=v\/F.S k) w w':=by
 have R:=h.apart hs hr m O K;have:=hs.vol.n;have P:=hs.nN;have H:N<=16:=by rw [P];exact hs.vol.par.s
 have:2^N<=65536:=jJ H;have I:=h.gol;have:=h.spl;have:=hs.gK;have:=hs.rK;have:=hs.vK;have l:∀ i∈RK T gone sp ds,i<N:=λi a=>j i ((sI (by omega) (by omega)).1 a).1;refine (IZ (ds:=ds) (M:=vR D L G dl) h.vol hs.nb (λi a=>⟨hs.cw i a,(pU hs.vol.par dl (by omega)).1⟩) h.rd h.row h.kn T Q (by omega) (by omega) (λi a=>⟨j i a,by have:=j i a;omega⟩) hs.vr hs.rK hs.vK hs.gF hs.rF hs.rg hs.vg hs.gK h.out.size m hr hs.vol.vol.lt (λk d=>hs.vol.arr.RO d)).mono ?_;rintro e w' ⟨rfl,U,V,⟨B,E,J⟩,C,c⟩;refine ⟨rfl,B,{ h with rd:=U,vol:={ h.vol with vol:=V,arr:=C,laid:=h.vol.laid.keep (c.block _ h.vol.laid.lt λq=>?_),tab:=h.vol.tab.keep (c.block _ h.vol.tab.lt λq=>?_),room:=TU h.vol.room c.size },row:=E,kn:=J,kit:=ps1.keep _ _ h.kit λk d=>c.block k (ps1.lt _ h.kit k d) (λq=>?_),out:=h.out.trans (c.mono λk _ q=>q.imp_right λq=>q.imp_right λq=>q.imp_right .inl),okd:=λi a=>?_,gol:=Xt I (xH _ _ l),gb:=λi q=>?_ },c⟩
 . rcases q with q|q|q|q
   . omega
   . omega
   . omega
   . exact hs.vol.g q
 . rcases q with q|q|q|q
   . omega
   . omega
   . omega
   . exact hs.vol.t q
 . obtain ⟨_,o,u,x,y⟩:=R k d;rcases q with q|q|q|q
   . exact x q
   . exact u q
   . exact o q
   . exact y q
 . rcases Uj.1 a with q|q
   . exact h.okd i q
   . exact ⟨(mF.1 q).2,l i (mF.1 q).1⟩
 . rw [Wh,XF] at q;exact q.elim (h.gb i) λq=>((sq _ i _).1 q).2
end
end
section
def Fv (N sp gone:Nat):Nat:=(if sp=0 then 0 else 1)+(2^N-gone)
def ON (h:a|||b≠a):a<a|||b:=Nat.lt_of_le_of_ne YN (Vq h)
def aaH (f:FuncId) (D L G:Nat) (Kind:aN->Prop):Prop:=∀ (ps:aN),Kind ps->∀ (w:ZT),ps.S w->aG w->3<=w.heap.size->∀ lost:Nat,lost<2^(D+L+G) ->
 ZR ZM f #[Z6 (ZW ⟨ps.ps,0,ZX⟩),.agg #[Z7 Z9 D,Z7 Z9 L,Z7 Z9 G],Z7 Z8 lost] w (PnA D L G Kind ps lost w)
def pd (D L G:Nat) (Kind:aN->Prop):Prop:=aaH 142 D L G Kind/\aaH 125 D L G Kind
structure OO (w:ZT) (r v b g N p D L G:Nat) (Kind:aN->Prop) (ps:aN) (A:aF) (F:aQ) (dl M:a8) (e:ZP) (w':ZT):Prop where
 rd:∃ gone sp,ew w' r v b g N gone sp
 row:∃ f,w'.rowIs g 39 N f/\e=Z3 .nilIface/\∀ i∈M,∃ bl c,f i=Z5 (ZW ⟨bl,0,ZX⟩) 44 c/\bl<w'.heap.size/\w'.rangeAt bl 0 (aH (vR D L G dl i))
 kit:∃ (ps1:aN) (hl:Nat),Kind ps1/\ps1.ps=ps.ps/\ps1.S w'/\bt w' v p D L G ps.ps hl/\hl<2^N/\∀ k,ps1.bl k->ps.bl k\/w.heap.size<=k
 arr:aA w' p A F
 out:aa (λk=>k=g\/k=r\/k=v\/F.S k\/ps.bl k) w w'
def OP (D L G:Nat) (Kind:aN->Prop) (ps:aN) (l1:Nat) (w1:ZT) (v6 v7:ZS) (wx:ZT):Prop:=(v7=.iface 66 (Z7 Z9 3)/\¬ iT D L G l1/\bW w1 wx)\/Rf D L G Kind ps l1 w1 v6 v7 wx
def C2A (D L G:Nat) (Kind:aN->Prop) (ps1:aN) (l1:Nat) (w' w3:ZT) (z:Int) (ao:Option ZQ) (m c:Nat) (er:ZS):Prop:=(er=.iface 66 (Z7 Z9 3)/\¬ iT D L G l1/\bW w' w3)\/(er=.nilIface/\∃ ps' s C,z=1+((ab (aq (D+L+G) s)).length:Int)/\DD D L G Kind ps1 ps' l1 s C ao m c w'.heap.size w3/\aa ps1.bl w' w3)
def vq {Kind:aN->Prop} {ps1:aN} {e:ZP} (h:(e=uQ/\¬ iT D L G l1/\bW w' w3)\/∃ a s C ao m c,nE D L G s ao m c e/\DD D L G Kind ps1 a l1 s C ao m c w'.heap.size w3/\aa ps1.bl w' w3) :
 ∃ z ao m c er,e=Z3 (ZY #[.agg #[Z7 Z9 z,.slice ao m c],er])/\aa ps1.bl w' w3/\cA (C2A D L G Kind ps1 l1 w' w3 z ao m c er):=by
 rcases h with ⟨d,g,b⟩|⟨a,s,C,ao,m,c,d,b,f⟩
 . exact ⟨0,ZX,0,0,_,d,aa.RN b _,ak (.inl ⟨rfl,g,b⟩)⟩
 . exact ⟨_,ao,m,c,_,d,f,ak (.inr ⟨rfl,a,s,C,rfl,b,f⟩)⟩
def yT {Kind:aN->Prop} {ps1:aN} (h:C2A D L G Kind ps1 l1 w' w3 z ao m c er) (a:bW w1 w') (g:w'.heap.size=w1.heap.size):OP D L G Kind ps1 l1 w1 (Z6 (ZW ⟨w3.heap.size,0,ZX⟩)) er (w3.alloc (Z4 #[Z7 Z9 z,.slice ao m c] 214)):=by
 rcases h with ⟨rfl,b,h⟩|⟨rfl,f,s,C,rfl,d,e⟩
 . exact .inl ⟨rfl,b,(a.trans (h.mono a.size)).alloc (by have:=h.size;omega) _⟩
 . exact .inr (Jl (d.mono (by omega)) a e)
def vt {Kind:aN->Prop} {ps1:aN} (h:C2A D L G Kind ps1 l1 (w2.alloc (Z4 #[Z7 Z9 0,Z5 ZX 0 0] 214)) w3 z ao m c er) (hl:∀ k,ps1.bl k->k<w1.heap.size) (g:w2.heap.size=w1.heap.size) (b:bW w1 w2):OP D L G Kind ps1 l1 w1 (Z6 (ZW ⟨w1.heap.size,0,ZX⟩)) er ((w3.setCell ⟨w1.heap.size,0,ZX⟩ (Z7 Z9 z)).setCell ⟨w1.heap.size,1,ZX⟩ (.slice ao m c)):=by
 have a:bW w1 (w2.alloc (Z4 #[Z7 Z9 0,Z5 ZX 0 0] 214)):=b.alloc (by omega) _;rcases h with ⟨rfl,e,h⟩|⟨rfl,i,s,C,rfl,d,f⟩
 . exact .inl ⟨rfl,e,((a.trans (h.mono a.size)).setCell (p:=⟨w1.heap.size,0,ZX⟩) lR _).setCell (p:=⟨w1.heap.size,1,ZX⟩) lR _⟩
 . exact .inr (Fu (d.mono (by rw [Uq];omega)) hl g b f)
def KnG (w0:ZT) (r v b g N p D L G:Nat) (A:aF) (F:aQ) (Kind:aN->Prop) (ps:aN) (dl:a8) (wr:ZT):Prop:=
 ∃ sp gone hl ds f ps1,qM w0 r v b g N p D L G A F Kind ps ps1 dl sp gone hl ds f wr
def qM.Sz {v:Nat} {Kind:aN->Prop} {ps ps1:aN} {hl:Nat} (h:qM w0 r v b g N p D L G A F Kind ps ps1 dl sp gone hl ds f w) (hs:qK w0 r v b g N p D L G Kind ps A F dl) (hr:r<w0.heap.size) (u:g<w0.heap.size) (s:¬ ps.bl r) (o:¬ ps.bl g):qM w0 r v b g N p D L G A F Kind ps ps1 dl 0 gone hl ds f (w.setCell ⟨r,4,ZX⟩ (Z7 Z8 0)):=by
 have t:=h.apart hs hr u s o;have a:aa (λk=>k=r) w (w.setCell ⟨r,4,ZX⟩ (Z7 Z8 0)):=aa.setCell _ _ _ rfl;refine { h with rd:=ag (j:=4) h.rd _,vol:=h.vol.TC a λk e=>e▸⟨hs.rK,hs.vr.symm,hs.rF⟩,row:=h.row.of_block (a.block _ h.row.lt λq=>hs.rg q.symm),kn:=⟨h.kn.1,λi x=>?_⟩,kit:=ps1.keep _ _ h.kit λk d=>a.block k (ps1.lt _ h.kit k d) λq=>(t k d).2.2.1 q,out:=h.out.trans (a.mono λk _ q=>.inr (.inl q)),spl:=YD (by decide) };obtain ⟨bl,l,m,c,n⟩:=h.kn.2 i x;exact ⟨bl,l,m,TZ c a.size,(a.block bl c (by omega)).trans n⟩
theorem Di {v:Nat} {Kind:aN->Prop} {ps ps1 ps2:aN} {hl:Nat} (hs:qK w0 r v b g N p D L G Kind ps A F dl) (j:qM w0 r v b g N p D L G A F Kind ps ps2 dl sp gone hl ds f w) (h:DD D L G Kind ps1 ps2 l1 s C ao m c B w) (S:l1≠0) (O:l1<2^N) (T:∀ i,(zH (bX D L G s C)).testBit i=ZV->i<N/\i∈ds) (E:1+((ab (aq (D+L+G) s)).length:Int)=z) :
 ZR ZM 126 #[Z6 (ZW ⟨r,0,ZX⟩),.agg #[Z7 Z9 z,.slice ao m c]] w λe w'=>e=Z3 .nilIface/\ME w r v b g N gone sp f (ab (aq (D+L+G) s)) (vR D L G dl) w':=by
 have a:=hs.vol.par;have n:=LN a.d a.l4 a.g a.s h.told;have K:=CB a.d a.g a.s h.told;have W:(bX D L G s C).length<=2000:=n.1.2.2;rw [E] at n;obtain ⟨l,o⟩:∃ i,l1.testBit i=ZV:=Nat.exists_testBit_of_ne_zero S;have u:l<N:=by
  by_cases q:l<N
  . exact q
  . rw [Xk (TZ O (U8 (by decide) (by omega)))] at o;cases o
 have y:∀ i∈ds,(vR D L G dl i).length=44/\∀ x∈vR D L G dl i,x<256:=λi t=>pU a dl (by have:=(j.okd i t).2;have:=hs.nN;omega);obtain ⟨I,J⟩:=Oq (x:=Ot N ds) (Dl:=Aq N ds (vR D L G dl)) (dl:=dS D dl) a.d1 a.d a.g a.div a.s h.told (by rw [<- hs.nN];exact u) (h.Tj l o) (CM hs.byt).1 (CM hs.byt).2 (λi t=>by
  obtain ⟨V,k⟩:=T i t;rw [CW V,TT k];exact ⟨rfl,uO λe=>((uN N ds i).1 e).2 k⟩)
 have P:(ab (aq (D+L+G) s)).length<=16:=TU (WL _ _) (by simp);have H:ab (aq (D+L+G) s)≠[]:=λq=>by
  have:l∈ab (aq (D+L+G) s):=(bO a.s).2 ⟨by rw [<- hs.nN];exact u,h.Tj l o⟩;rw [q] at this;cases this
 have U:z.toNat=1+(ab (aq (D+L+G) s)).length:=by rw [<- E];omega
 exact MF (M:=ab (aq (D+L+G) s)) (R:=vR D L G dl) j.rd j.row hs.rg (GL h.own (by omega)) K (aaB j.row y j.kn) (CV N ds (vR D L G dl)) (I0 y) (by omega) (by rw [<- hs.nN] at n;exact n) I (by rw [U];exact J) H (λd Q=>by rw [hs.nN];exact ((bO a.s).1 Q).1) P
section
variable {w:ZT} {r v b g N p D L G:Nat} {Kind:aN->Prop} {ps:aN} {A:aF} {F:aQ} {dl:a8} (hs:qK w r v b g N p D L G Kind ps A F dl) (hSh:pd D L G Kind)
include hs hSh
theorem MO (hr:ew w r v b g N 0 ps.ho) (kc:w.rowIs g 39 N wC) (S:Nat) (hS:S<65536) (x5:∀ i,i∈ab S->i<D) :
 ZR ZM 110 #[Z6 (ZW ⟨r,0,ZX⟩),Z7 Z8 S] w λe w'=>OO w r v b g N p D L G Kind ps A F dl (ab S) e w':=by
 have qb:N<=16:=by rw [hs.nN];exact hs.vol.par.s
 have y6:2^N<=65536:=jJ qb;have xj:∀ i,i∈ab S->i<N:=λi I=>by have:=x5 i I;rw [hs.nN];omega
 have u:=bZ hs.kit hr qJ;have f:¬ ps.bl g:=by obtain ⟨cs,h1,_⟩:=kc;exact bZ hs.kit h1 oY
 have h0:KnG w r v b g N p D L G A F Kind ps dl w:=⟨ps.ho,0,ps.ho,[],wC,ps,⟨hr,hs.vol,kc,Kn.nil _ _ _ _,hs.kit,hs.kind,rfl,λk q=>.inl q,aa.refl _ _,λi q=>(by cases q),YD (by decide),hs.hol,hs.hol,λi q=>by rw [Xu] at q;cases q⟩⟩;have W:=hide7 hs hSh hr.lt kc.lt u f h0;clear hs hSh hr kc u f h0;go_enter func110,ntmps110;go_wp2_with fail;go_loopw [5] (λ_ wr=>KnG w r v b g N p D L G A F Kind ps dl wr) (λ_ wr=>Fv N (intOf ((wr.cell? ⟨r,4,ZX⟩).getD undef)).toNat (intOf ((wr.cell? ⟨r,3,ZX⟩).getD undef)).toNat)
 case atStart=>exact W.o.2.2.2.2.2.2
 case round=>
  obtain ⟨sp,gone,hl,ds,f0,ps1,hM⟩:=hrel;obtain ⟨hs,hSh,B,E,u,f,_⟩:=W.o;have qg:=nF hM hs B E u f S hS xj;have kv:Fv N (intOf ((wr.cell? ⟨r,4,ZX⟩).getD undef)).toNat (intOf ((wr.cell? ⟨r,3,ZX⟩).getD undef)).toNat=Fv N sp gone:=by
   obtain ⟨_,_,_,d3,d4⟩:=hM.rd.cells;rw [d3,d4];simp [intOf]
  have xp:=hM.gol;have qs:=hM.spl;have HM:=ak kv;obtain ⟨nw,qo⟩:=nM (RK S gone sp ds);rw [qo] at qg;have HN:=ak qo;clear kv hM qo hs hSh B E u f;go_wp2_with fail;refine qg.mono ?_;rintro e w1 ⟨rfl,f1,a,_⟩;clear qg;obtain ⟨d1,qf⟩:=nM (ds++CU A b nw);obtain ⟨g1,U⟩:=nM (gone|||zC (gnB A b) nw);obtain ⟨h1,x8⟩:=nM (hl);rw [qf,U,x8] at a;have P:∀ i,i∈ab S->(g1|||sp).testBit i=ZU->i∈d1:=λi I hb=>by
   rw [Wh,Yl,<- U,Wh,Yl] at hb;rw [<- qf];by_cases q:i∈ds
   . exact UL _ q
   . have xa:i∈nw:=(by rw [<- HN.o];exact (sI (by omega) (by omega)).2 ⟨I,hb.1.1,hb.2,q⟩);refine V6 _ (mF.2 ⟨xa,?_⟩);cases hq:gnB A b i
     . rfl
     . rw [(sq _ i nw).2 ⟨xa,hq⟩] at hb;cases hb.1.2
  have qh:=a.gol;have hc:gone<=g1:=by rw [<- U];exact YN
  have xy:=aaG g1 sp (by omega) (by omega);have kh:g1|||sp<2^N:=Xt qh qs;obtain ⟨e0,_,_,e3,e4⟩:=a.rd.cells;obtain ⟨l1,R⟩:=nM (g1|||sp);rw [R] at xy kh P;have qc:=fC S l1 (by omega) (by omega);have V:=a6 a P hc R U;clear a P hc R qf U x8;by_cases hz:S &&& l1=0
  . have xf:bits .and .u64 (S:Int) (l1:Int)=0:=(by rw [qc,hz];rfl);go_wp2_with fail;go_region;go_wp2;go_ret;obtain ⟨a,P,_⟩:=V.o;refine ⟨⟨_,_,a.rd⟩,⟨f1,a.row,rfl,λi I=>?_⟩,⟨ps1,h1,a.kind,a.psE,ps1.keep _ _ a.kit (λ_ _=>rfl),a.vol.vol,a.hll,a.bl⟩,a.vol.arr.keep λ_ _=>rfl,a.out.trans (aa.drew _)⟩;obtain ⟨bl,q1,Z,K,q4⟩:=a.kn.2 i (P i I (Jj hz (cW.1 I).2));exact ⟨bl,44,q1,K,jg q4⟩
  . have xf:(bits .and .u64 (S:Int) (l1:Int)==0)=ZU:=by
     rw [qc];generalize S &&& l1=q at hz;simp;omega
    have xq:l1≠0:=λe=>hz (by rw [e,Nat.and_zero]);have xe:∀ w',bW w1 w'->ZR ZM 142 #[Z6 (ZW ⟨ps.ps,0,ZX⟩),.agg #[Z7 Z9 D,Z7 Z9 L,Z7 Z9 G],Z7 Z8 l1] w' λe qr=>(e=uQ/\¬ iT D L G l1/\bW w' qr)\/∃ yc s C ao m c,nE D L G s ao m c e/\DD D L G Kind ps1 yc l1 s C ao m c w'.heap.size qr/\aa ps1.bl w' qr:=λw' hb=>by
     obtain ⟨a,_⟩:=V.o;obtain ⟨hs,hSh,B,E,u,f,_⟩:=W.o;have hv:=a.vol;have h:=hSh.1 ps1 a.kind w' (ps1.keep _ _ a.kit λk Q=>hb.block k (ps1.lt _ a.kit k Q)) (hv.tab.keep (hb.block _ hv.tab.lt)) (TU hv.room hb.size) l1 (by rw [<- hs.nN];exact kh);rw [a.psE] at h;exact h
    have HB:=al xe (λk (Q:ps1.bl k)=>ps1.lt _ V.o.1.kit k Q);have q9:=V.o.1.vol;obtain ⟨_,y1,y2,y3,y4,_⟩:=q9.vol.cells;have qe:bW w1 (w1.alloc (Z4 #[Z7 Z9 0,Z5 ZX 0 0] 214)):=bA w1 _;obtain ⟨_,x1,x2,x3,x4,_⟩:=(q9.vol.keep (qe.block _ q9.vol.lt)).cells;obtain ⟨x0,_,_,_,_⟩:=(V.o.1.rd.keep (qe.block _ V.o.1.rd.lt)).cells;clear qe xe q9;have HY:cA (∀ (w' w3:ZT),bW w1 w'->aa ps1.bl w' w3->C5 r v ps.ps D L G w3/\(∀ o:Obj,C5 r v ps.ps D L G (w3.alloc o))/\(∀ k x y,w1.heap.size<=k->C5 r v ps.ps D L G ((w3.setCell ⟨k,0,ZX⟩ x).setCell ⟨k,1,ZX⟩ y))):=ak λw' w3 hb hO=>by
     have qz:=aa.after hb hO;have hM:=V.o.1;obtain ⟨hs,_,B,E,u,f,_⟩:=W.o;have ha:=hM.apart hs B E u f;have hv:=hM.vol;have kz:=hM.rd.keep (qz.block _ hM.rd.lt λq=>(ha _ q).2.2.1 rfl);have hv3:=hv.vol.keep (qz.block _ hv.vol.lt λq=>(ha _ q).2.1 rfl);have B:=hM.rd.lt;have ya:=hv.vol.lt;exact ⟨MG kz hv3,λo=>MG (kz.keep (UC _ _ _ kz.lt)) (hv3.keep (UC _ _ _ hv3.lt)),λk x y Q=>MG (kz.keep ((fH w3 k 0 1 x y).block _ kz.lt (by omega))) (hv3.keep ((fH w3 k 0 1 x y).block _ hv3.lt (by omega)))⟩
    go_wp2_with fail;go_region;go_upto_region 5 with fail;have xg:(((S &&& l1:Nat):Int)==0)=ZU:=by
     rw [<- qc];exact xf
    simp only [xg];clear xg;go_cut [6,7] from 24 to 42 (λv6 v7 wx=>OP D L G Kind ps1 l1 w1 v6 v7 wx)
    case first=>
     go_region_held3 (λw'=>w'.cell? ⟨r,0,ZX⟩=ZW (Z6 (ZW ⟨v,0,ZX⟩))/\w'.cell? ⟨v,1,ZX⟩=ZW (Z7 Z9 (D:Int))/\w'.cell? ⟨v,2,ZX⟩=ZW (Z7 Z9 (L:Int))/\w'.cell? ⟨v,3,ZX⟩=ZW (Z7 Z9 (G:Int))/\w'.cell? ⟨v,4,ZX⟩=ZW (Z6 (ZW ⟨ps.ps,0,ZX⟩))) (first|exact ⟨e0,y1,y2,y3,y4⟩|exact ⟨x0,x1,x2,x3,x4⟩|exact Y0.out|exact Y1.out _|exact Y2.out _ _ _ lR|go_keep)
      (first|(go_at_call 142;refine (HB.o.1 _ ?_).mono ?_;(first|exact ((TW _ _).drew).drew|exact (((TW _ _).drew).drew).alloc lR _);rintro e w3 ky;obtain ⟨z,ao,m,c,er,he,X,H3⟩:=vq ky;subst he;clear ky;(try (have K:w3.heap[w1.heap.size]?=ZW (Z4 #[Z7 Z9 0,Z5 ZX 0 0] 214 (0,0)):=(X.block w1.heap.size (by simp) (λq=>by have:=HB.o.2 _ q;omega)).trans (Ug w1.drew.drew _);obtain ⟨r0,r1,g1,g0⟩:=aw K;clear K));obtain ⟨Y0,Y1,Y2⟩:cA (C5 r v ps.ps D L G w3)/\cA (∀ o:Obj,C5 r v ps.ps D L G (w3.alloc o))/\cA (∀ k x y,w1.heap.size<=k->C5 r v ps.ps D L G ((w3.setCell ⟨k,0,ZX⟩ x).setCell ⟨k,1,ZX⟩ y)):=HY.o _ w3 (by first|exact ((TW _ w1).drew).drew|exact (((TW _ w1).drew).drew).alloc lR _) X;clear X))
     all_goals (go_wp2_with fail;go_meet;case rel=>first|(refine yT (w':=w1.drew.drew) H3.o ?_ rfl;exact ((TW _ _).drew).drew)|(refine vt (w2:=w1.drew.drew) H3.o HB.o.2 rfl ?_;exact ((TW _ _).drew).drew))
    case rest=>
     clear e0 e3 e4 y1 y2 y3 y4 x0 x1 x2 x3 x4 HY HB;rename ZT=>w3;rcases hcut with ⟨rfl,xd,qd⟩|hcut
     . have xh:=ak xd;clear xd;obtain ⟨a,P,hc,R,U⟩:=V.o;obtain ⟨hs,hSh,B,E,u,f,_⟩:=W.o;have M:=a.SC (a.apart hs B E u f) (aa.RN qd _) (ps1.keep _ _ a.kit λk Q=>qd.block k (ps1.lt _ a.kit k Q)) a.kind rfl (λk q=>.inl q);obtain ⟨_,_,_,e3,e4⟩:=M.rd.cells;have f4:w3.frozen? ⟨r,4,ZX⟩=ZU:=by
        have h':w3.heap[r]?=_:=M.rd;simp [World.frozen?,h']
       have H3:=ak M;clear M a P R U hs hSh B E u f qd;by_cases qq:sp=0
       . exact absurd W.o.1.fine (Cb xh.out λi q=>MN (H3.o.gb i (by rw [<- V.o.2.2.2.1,qq,Nat.or_zero] at q;exact q)))
       . have y9:((sp:Int)==0)=ZU:=(by simp;omega);have HQ:=al qq hc;clear qq hc;go_wp2;go_roundw
         case rel=>
          obtain ⟨hs,_,B,E,u,f,_⟩:=W.o;exact ⟨0,g1,h1,d1,f1,ps1,H3.o.Sz hs B E u f⟩
         case measure=>
          obtain ⟨hs,_,B,E,u,f,_⟩:=W.o;obtain ⟨_,_,_,K,q4⟩:=(H3.o.Sz hs B E u f).rd.cells;rw [HM.o,K,q4];have q:=HQ.o.2;unfold Fv;rw [TS HQ.o.1];simp [intOf];omega
     . obtain ⟨rfl,gb,J,s,C,ao,m,c,rfl,hm,Y,O,X⟩:=hcut;obtain ⟨a,P,hc,R,U⟩:=V.o;obtain ⟨hs,hSh,B,E,u,f,_⟩:=W.o;have M:=a.SC (a.apart hs B E u f) X O.kit O.kind O.psE O.bl;have k8:=hs.vol.par;have hg:=LN k8.d k8.l4 k8.g k8.s O.told;have hn:=CB k8.d k8.g k8.s O.told;have hf:(bX D L G s C).length<=2000:=hg.1.2.2;have ka:∀ t∈bX D L G s C,t.k=0->0<=t.b/\t.b<16:=λt ht h0=>by
        obtain ⟨i,q1,Z,_⟩:=jN k8.s ht h0;have:=k8.s;omega
       have qm:=Ie (1+((ab (aq (D+L+G) s)).length:Int)) (GL O.own (by omega)) ka (by omega);obtain ⟨z,ke⟩:∃ z:Int,1+((ab (aq (D+L+G) s)).length:Int)=z:=⟨_,rfl⟩;rw [ke] at Y hg qm;obtain ⟨k0,k1,_,_⟩:=aw Y;have H3:=hide11 M O Y hg hn hf ka qm ke X hm;clear M O Y hg hn hf ka qm ke X hm k8 a P hc R U hs hSh B E u f;go_wp2_with fail;refine H3.o.2.2.2.2.2.2.2.1.mono ?_;rintro e w4 ⟨rfl,k9⟩;clear k0 k1;obtain ⟨M,O,Y,hg,hn,hf,ka,_,ke,X,hm⟩:=H3.o;obtain ⟨hs,hSh,B,E,u,f,_⟩:=W.o;have qy:=M.SC (M.apart hs B E u f) (aa.RN k9 _) (J.keep _ _ M.kit λk Q=>k9.block k (J.lt _ M.kit k Q)) M.kind rfl (λk q=>.inl q);obtain ⟨T,hT⟩:=nM (zH (bX D L G s C));have ko:T<65536:=by rw [<- hT];exact KX λt ht h0=>by have:=ka t ht h0;omega
       have x6:∀ i,T.testBit i=ZV->i<N/\s.testBit i=ZU:=λi I=>by
        rw [<- hT] at I;obtain ⟨t,ht,h0,y5⟩:=(oE _ _).1 I;obtain ⟨j,q1,Z,K⟩:=jN hs.vol.par.s ht h0;have:j=i:=by rw [<- y5,q1];rfl
        subst this;exact ⟨by rw [hs.nN];exact Z,K⟩
       have kf:∀ i,i∈ab T->i<N/\s.testBit i=ZU:=λi I=>x6 i (cW.1 I).2;have kr:=nF qy hs B E u f T ko (λi I=>(kf i I).1);have km:=(k9.block gb (TX.1 Y).1).trans Y;have H4:=a5 kf hT km k9;clear kf qy km k9 M O Y hg hn hf ka ke X hm hs hSh B E u f x6;rw [hT];clear hT;go_wp2_with fail;refine kr.mono ?_;rintro e w5 ⟨rfl,f5,H,q8⟩;clear kr;obtain ⟨kf,hT,km,k9⟩:=H4.o;obtain ⟨M,O,Y,hg,hn,hf,ka,_,ke,X,hm⟩:=H3.o;obtain ⟨a,P,hc,R,U⟩:=V.o;obtain ⟨hs,hSh,B,E,u,f,_⟩:=W.o;have kk:=hs.vol;obtain ⟨hd,kb⟩:=nM (RK T g1 sp d1);rw [kb] at H;have hx:∀ i,i∈hd↔i∈ab T/\g1.testBit i=ZU/\sp.testBit i=ZU/\i∉d1:=λi=>by rw [<- kb];exact sI (by omega) (by omega)
       obtain ⟨d2,kg⟩:=nM (d1++CU A b hd);obtain ⟨g2,kj⟩:=nM (g1|||zC (gnB A b) hd);obtain ⟨h2,qj⟩:=nM (h1);rw [kg,kj,qj] at H;have qi:=H.gol;have xz:=aaG g2 sp (by omega) (by omega);have qx:=k9.size;have q7:=a.out.size;have qv:=(q8.block gb (TZ (TX.1 Y).1 qx) (λq=>by
        rcases q with q|q|q|q
        . omega
        . omega
        . have:=kk.vol.lt;omega
        . have:=kk.arr.RO q;omega)).trans km
       obtain ⟨_,_,_,e3,e4⟩:=H.rd.cells;obtain ⟨k0,k1,_,_⟩:=aw qv;by_cases ks:g2|||sp=l1
       . have kx:∀ i∈hd,gnB A b i=ZU:=λi I=>by
          cases hq:gnB A b i
          . rfl
          . have q:=(sq (gnB A b) i hd).2 ⟨I,hq⟩;have Z:(g2|||sp).testBit i=ZV:=(by rw [Wh,<- kj,Wh,q,Bool.or_true,Bool.true_or]);obtain ⟨_,K,q4,_⟩:=(hx i).1 I;rw [ks,<- R,Wh,K,q4] at Z;cases Z
         have kp:=a.apart hs B E u f;have ki:DD D L G Kind ps1 J l1 s C ao m c w1.heap.size w5:=(O.keep (T:=λ_=>False) (aa.RN k9 _) (λ_ q=>q.elim)).keep q8 (λk q=>by
          rcases q with q|q|q|q
          . subst q;exact ⟨by omega,λe=>(kp _ e).2.2.2.1 rfl⟩
          . subst q;exact ⟨by omega,λe=>(kp _ e).2.2.1 rfl⟩
          . subst q;exact ⟨by have:=kk.vol.lt;omega,λe=>(kp _ e).2.1 rfl⟩
          . exact ⟨by have:=kk.arr.RO q;omega,λe=>(kp _ e).2.2.2.2 q⟩)
         have x7:=Di hs (H.SC (H.apart hs B E u f) (aa.drew _) (J.keep _ _ H.kit λ_ _=>rfl) H.kind rfl (λk q=>.inl q)) (ki.keep (T:=λ_=>False) (aa.drew w5) (λ_ q=>q.elim)) xq kh (λi I=>by
          rw [hT] at I;have qk:i<16:=by
           by_cases q:i<16
           . exact q
           . rw [Xk (TZ ko (U8 (n:=2) (i:=16) (by decide) (by omega)))] at I;cases I
          have x9:i∈ab T:=cW.2 ⟨qk,I⟩;obtain ⟨q1,Z⟩:=kf i x9;refine ⟨q1,?_⟩;rw [<- kg];by_cases q:i∈d1
          . exact UL _ q
          . have qn:l1.testBit i=ZU:=uO λe=>by rw [ki.Tj i e] at Z;cases Z
            rw [<- R,Wh,Yl] at qn;have K:=(hx i).2 ⟨x9,qn.1,qn.2,q⟩;exact V6 _ (mF.2 ⟨K,kx i K⟩)) ke
         have H5:=a5 x7 H ki kg;clear x7 ki qv H q8 kf hT km k9 M O Y hg hn hf ka ke X hm a P R U hs hSh B E u f kb hx kg kj qj qx q7 kx kp kk hc;go_wp2_with fail;go_region;go_wp2_with fail;refine H5.o.1.mono ?_;rintro e w6 ⟨rfl,hF⟩;clear e3 e4 k0 k1;have H6:=ak hF;clear hF;go_wp2;go_ret;obtain ⟨y0,⟨f6,q0,xn,xo⟩,xi⟩:=H6.o;obtain ⟨_,H,ki,kg⟩:=H5.o;obtain ⟨hs,hSh,B,E,u,f,_⟩:=W.o;obtain ⟨a,P,_,R,U⟩:=V.o;have hy:aa (λk=>k=g) w5 w6:=(aa.drew w5).trans xi;have xk:=H.apart hs B E u f;have qa:=H.vol;refine ⟨⟨_,_,y0⟩,⟨f6,q0,rfl,λi I=>?_⟩,⟨J,h2,H.kind,H.psE,J.keep _ _ H.kit (λk Q=>hy.block k (J.lt _ H.kit k Q) (λq=>(xk k Q).2.2.2.1 q)),qa.vol.keep (hy.block _ qa.vol.lt hs.vg),H.hll,H.bl⟩,qa.arr.keep (λk Q=>hy.block k (qa.arr.RO Q) λq=>hs.gF (q▸Q)),H.out.trans (hy.mono λk _ q=>.inl q)⟩;have y7:=x5 i I;by_cases qp:s.testBit i=ZV
         . obtain ⟨bl,mm,l,q1,Z,K,q4,q5,q6⟩:=xo i ((bO hs.vol.par.s).2 ⟨by have:=hs.nN;omega,qp⟩);obtain ⟨h1,h2⟩:=yJ q4 K q5;rw [(pU hs.vol.par dl (by have:=hs.nN;omega)).1] at h2;subst h2;exact ⟨bl,l.length,q1,aI.lt q4,h1⟩
         . have xx:i∉ab (aq (D+L+G) s):=λq=>qp ((bO hs.vol.par.s).1 q).2;have yb:i∈d2:=by
            rw [<- kg];exact UL _ (P i I (uO λe=>qp (ki.Tj i e)))
           obtain ⟨bl,q1,Z,K,q4⟩:=H.kn.2 i yb;have xm:bl≠g:=(by omega);exact ⟨bl,44,by rw [xn i xx];exact q1,TZ K hy.size,jg ((hy.block bl K xm).trans q4)⟩
       . have xb:g1<g2:=(by rw [<- kj];exact ON λe=>ks (by rw [<- kj,e,R]));have hR:KnG w r v b g N p D L G A F Kind ps dl w5.drew:=⟨sp,g2,h2,d2,f5,J,H.SC (H.apart hs B E u f) (aa.drew _) (J.keep _ _ H.kit λ_ _=>rfl) H.kind rfl (λk q=>.inl q)⟩;have xc:Fv N (intOf ((w5.drew.cell? ⟨r,4,ZX⟩).getD undef)).toNat (intOf ((w5.drew.cell? ⟨r,3,ZX⟩).getD undef)).toNat=Fv N sp g2:=by
          rw [show w5.drew.cell? ⟨r,3,ZX⟩=w5.cell? ⟨r,3,ZX⟩ from rfl,show w5.drew.cell? ⟨r,4,ZX⟩=w5.cell? ⟨r,4,ZX⟩ from rfl,e3,e4];simp [intOf]
         have y8:((g2|||sp:Nat):Int)≠(l1:Int):=(by omega);have xv:((((g2|||sp:Nat):Int))==(l1:Int))=ZU:=(by simp;omega);have H5:=a6 hR xb xc hc qi;clear hR xb xc qv H q8 kf hT km k9 M O Y hg hn hf ka ke X hm a P R U hs hSh B E u f kb hx kg kj qj qx q7 kk hc;go_wp2_with fail;go_region;go_wp2;go_roundw
         case rel=>exact H5.o.1
         case measure=>
          rw [H5.o.2.2.1,HM.o];have q1:=H5.o.2.1;have Z:=H5.o.2.2.2;unfold Fv;omega
end
def GM (ps:aN) (w:ZT) (b:m8 sb room D L G ps) (a:ps.S w):ps.ps<w.heap.size:=by
 obtain ⟨es,qs,ho,rfl⟩:=b;exact (m7 sb room D L G es qs ho).lt w a _ (.inl ⟨by show sb<=sb+1+1+1;omega,TV _⟩)
def yU (a:zB D L G) {sb:Nat} {room:Int}:pd D L G (m8 sb room D L G):=
 ⟨λ_ hK _ c e b _ hl=>yS D L G a.r a.d1 a.d a.l1 a.l4 a.g a.div a.s hK c e b hl (.inl ⟨rfl,rfl⟩),λ_ hK _ c e b _ hl=>yS D L G a.r a.d1 a.d a.l1 a.l4 a.g a.div a.s hK c e b hl (.inr ⟨rfl,rfl⟩)⟩
end
def aaI (l:a8):ByteArray:=⟨(l.map YJ).toArray⟩
theorem vu (h:Bs w v l):(convert 39 9 v).run ZM w=.ok (ZZ (aaI l)) w:=by
 obtain ⟨ao,c,rfl,_,_,k,f⟩:=h;by_cases hl:l=[]
 . subst hl;exact Av ao c w
 . obtain ⟨b,off,rfl,i⟩:=f hl;have:=run_convert_bytes_back (P:=ZM) w 39 9 5 ⟨b,off,ZX⟩ c (l.map YJ) Ul Xn abB (λj a=>by
    rw [T9] at a;have d:=i j a;have g:((l.map YJ)[j]'(by rw [T9];exact a)).toNat=l.getD j 0:=by
     rw [UQ,T6,Ua a];have:=k _ (TY a);simp;omega
    rw [g];unfold Addr.add;split
    . rename_i e;subst e;exact d
    . exact d)
   rw [T9] at this;exact this
theorem Fw {v':ZS} (h:Bs w v l) (b:Bs w v' l):ZR ZM 183 #[v,v'] w λe w'=>e=Z3 (Z1 ZV)/\w'=w:=by
 have g:=vu h;have i:=vu b;obtain ⟨ao,c,rfl,_⟩:=h;obtain ⟨j,d,rfl,_⟩:=b;obtain ⟨S,f⟩:=nM (aaI l);obtain ⟨N,a⟩:=nM (l.length);rw [f,a] at g i;rw [a];clear f a;go_enter func183,ntmps183;go_wp2;go_ret;exact ⟨rfl,rfl⟩
def Dj (D:Nat) (l:a8) (os:List Ob):Prop:=∀ (w:ZT) (v:ZS),Bs w v l->ZR ZM 159 #[v,Z7 Z9 ((D*44:Nat):Int)] w λe w'=>∃ o,e=Z3 (ZY #[o,Z1 ZV])/\eN (λk=>w.heap.size<=k) w' o os/\bW w w'
def Bs.Tk (h:w.ownsRow base 5 1 v n (aH l)) (c:∀ x∈l,x<256) (hl:l.length<=1000000000):Bs w v l:=by
 have i:l.length=n:=by have:=h.1;rw [aX] at this;omega
 rcases h.2 with ⟨rfl,q⟩|⟨g,cap,cur,rfl,j,d,m,o,p,e⟩
 . have:l=[]:=Xb.1 (by omega);subst this;exact ⟨ZX,0,rfl,TV _,by decide,c,λh=>absurd rfl h⟩
 . refine ⟨ZW ⟨g,0,ZX⟩,cap,by rw [i],by omega,by omega,c,λ_=>⟨g,0,rfl,λk b=>?_⟩⟩;have a:=Uy (λl=>l[k]?) e;simp only [We,aH] at a;rw [VO (by omega),abx,UA,Ua b] at a;have f:l.getD k 0=l[k]:=(by simp [T6,b]);rw [f];simp only [Ui,World.cell?,d];exact a
def AH (os:List Ob) (sv:Nat->ZS) (k:Nat):List ZS:=(List.range k).flatMap λi=>[ZZ (os.getD i Gt).name,Z7 Z9 ((os.getD i Gt).size:Nat),sv i]
def GN (os:List Ob) (sv:Nat->ZS):∀ k,(AH os sv k).length=k*3
 | 0=>rfl
 | k+1=>by
  unfold AH;rw [Vy,WD,T8];have:=GN os sv k;unfold AH at this;rw [this];simp;omega
def pe (os:List Ob) (sv:Nat->ZS) (k:Nat):AH os sv (k+1)=AH os sv k++[ZZ (os.getD k Gt).name,Z7 Z9 ((os.getD k Gt).size:Nat),sv k]:=by
 unfold AH;rw [Vy,WD];simp
def Jn {sv':Nat->ZS} (h:∀ i,i<k->sv i=sv' i):AH os sv k=AH os sv' k:=by
 induction k with
 | zero=>rfl
 | succ k ih=>rw [pe,pe,ih (λi a=>h i (by omega)),h k (by omega)]
def Fx (os:List Ob) (sv:Nat->ZS):∀ (k i:Nat),i<k->(AH os sv k)[i*3]?=ZW (ZZ (os.getD i Gt).name)/\(AH os sv k)[i*3+1]?=ZW (Z7 Z9 ((os.getD i Gt).size:Nat))/\(AH os sv k)[i*3+2]?=ZW (sv i)
 | k+1,i,hi=>by
  have hl:=GN os sv k;rw [pe];by_cases h:i<k
  . obtain ⟨a,b,c⟩:=Fx os sv k i h;rw [VD (by omega),VD (by omega),VD (by omega)];exact ⟨a,b,c⟩
  . have e:i=k:=(by omega);subst e;rw [U6 (by omega),U6 (by omega),U6 (by omega),hl,show i*3-i*3=0 by omega,show i*3+1-i*3=1 by omega,show i*3+2-i*3=2 by omega];exact ⟨rfl,rfl,rfl⟩
def Fy (h:w.ownsRow base 137 3 v os.length (AH os sv os.length)) (hl:os.length<=1000000) (hK:∀ k,base<=k->K k) (q:∀ i (a:i<os.length),bg K w (sv i) os[i].RL):eN K w v os:=by
 rcases h.2 with ⟨o,p⟩|⟨g,cap,cur,f,m,n,_⟩
 . have:os=[]:=Xb.1 p;subst this;rw [o];exact eN.nil _ _
 . refine ⟨ZW ⟨g,0,ZX⟩,cap,f,hl,λ_=>⟨g,0,rfl,hK g m,⟨_,_,_,n,by decide⟩,λi a=>?_⟩⟩;obtain ⟨c,d,l⟩:=Fx os sv os.length i a;have e:os.getD i Gt=os[i]:=(by simp [T6,a]);rw [e] at c d;have b:∀ j u,(AH os sv os.length)[j]?=ZW u->w.cell? ⟨g,j,ZX⟩=ZW u:=λj u r=>by
    have:=h.cells (g:=g) (by rw [f];rfl) j u r;rwa [jC] at this
   refine ⟨sv i,?_,?_,?_,q i a⟩
   . rw [Ui];exact b _ _ c
   . rw [Ui];exact b _ _ d
   . rw [Ui];exact b _ _ l
def packL_le:∀ {l:List Ob},(∀ o∈l,o.fit)->(ai l).length<=l.length*5000
 | [],_=>by simp [ai]
 | o::l,h=>by
  have:=packL_le (l:=l) (λx b=>h x (UP _ b));have a:=h o (U7 ..);have:=a.len;have e:ai (o::l)=bP o++ai l:=rfl;rw [e,T8,dh a,UD];omega
structure UpI (w:ZT) (os:List Ob) (k:Nat) (cv rv:ZS) (sv:Nat->ZS) (wr:ZT):Prop where
 rest:Bs w rv (ai (os.drop k))
 own:wr.ownsRow w.heap.size 137 3 cv k (AH os sv k)
 ints:∀ i (hi:i<os.length),i<k->bg (λb=>w.heap.size<=b/\cv.ownBlock≠ZW b) wr (sv i) os[i].RL
 below:bW w wr
def GO {wr:ZT} {sz sc:Nat} {cv v5 bv:ZS} {rv:ZS} {nm:ByteArray} {sa:Option ZQ} (I:k<os.length) (g:UpI w os k cv rv sv wr) (y:bW wr w2) (H:bg (λb=>wr.heap.size<=b) w2 (.slice sa m sc) os[k].RL) (G:Bs w bv (ai (os.drop (k+1))))
 (z:bW w2 w4) (J:os[k].name=nm) (L:os[k].size=sz) (K:w5.ownsRow w.heap.size 137 3 v5 (k+1) (AH os sv k++[ZZ nm,Z7 Z9 (sz:Int),.slice sa m sc])) (f:(w4.alloc (Z4 #[ZZ nm,Z7 Z9 (sz:Int),.slice sa m sc] 137)).grownBy w5 cv.ownBlock)
 (u:v5.ownBlock=cv.ownBlock\/v5.ownBlock=ZW (w4.alloc (Z4 #[ZZ nm,Z7 Z9 (sz:Int),.slice sa m sc] 137)).heap.size):UpI w os (k+1) v5 bv (λi=>if i=k then .slice sa m sc else sv i) w5:=by
 have E:bW w4 (w4.alloc (Z4 #[ZZ nm,Z7 Z9 (sz:Int),.slice sa m sc] 137)):=bA w4 _;have:(w4.alloc (Z4 #[ZZ nm,Z7 Z9 (sz:Int),.slice sa m sc] 137)).heap.size=w4.heap.size+1:=by simp
 have M:=y.size;have N:=z.size;have O:=g.below.size;have v:bW w2 (w4.alloc (Z4 #[ZZ nm,Z7 Z9 (sz:Int),.slice sa m sc] 137)):=z.trans (E.mono N);have x:bW wr (w4.alloc (Z4 #[ZZ nm,Z7 Z9 (sz:Int),.slice sa m sc] 137)):=y.trans (v.mono M);have A:∀ b,cv.ownBlock=ZW b->b<wr.heap.size:=λb a=>by
  obtain ⟨cur,F⟩:=bz g.own a;exact (TX.1 F).1
 have e:os.getD k Gt=os[k]:=by simp [T6,I]
 refine ⟨G,?_,λi C hr=>?_,?_⟩
 . rw [pe,e,J,L,TT rfl];rw [Jn (sv':=sv) (λi C=>TS (by omega))];exact K
 . by_cases B:i=k
   . subst B;rw [TT rfl];have l:bg (λb=>wr.heap.size<=b/\b<w2.heap.size) w2 (.slice sa m sc) os[i].RL:=by
      obtain ⟨ao,c,n,o,p⟩:=H;refine ⟨ao,c,n,o,λhl=>?_⟩;obtain ⟨b,off,r,s,j,t⟩:=p hl;exact ⟨b,off,r,⟨s,j.lt⟩,j,t⟩
     refine (l.keep (w':=w5) ⟨by have:=f.size;omega,λb a d=>?_⟩).weaken λb d=>⟨by omega,λq=>?_⟩
     . exact (f.block b (by omega) (λq=>by have:=A b q.symm;omega)).trans (v.block b a)
     . rcases u with h|h
       . rw [h] at q;have:=A b q;omega
       . rw [h] at q;have:=UJ q;omega
   . rw [TS B];have l:=g.ints i C (by omega);have D:bg (λb=>(w.heap.size<=b/\cv.ownBlock≠ZW b)/\b<wr.heap.size) wr (sv i) os[i].RL:=by
      obtain ⟨ao,c,n,o,p⟩:=l;refine ⟨ao,c,n,o,λhl=>?_⟩;obtain ⟨b,off,r,s,j,t⟩:=p hl;exact ⟨b,off,r,⟨s,j.lt⟩,j,t⟩
     refine (D.keep (w':=w5) ⟨by have:=f.size;omega,λb a d=>?_⟩).weaken λb d=>⟨d.1.1,λq=>?_⟩
     . exact (f.block b (by omega) (λq=>d.1.2 q.symm)).trans (x.block b a)
     . rcases u with h|h
       . rw [h] at q;exact d.1.2 q
       . rw [h] at q;have:=UJ q;omega
 . exact (g.below.trans (x.mono O)).grown f (by omega) (λb a=>eh g.own a)
def UpR (w:ZT) (os:List Ob) (cv rv:ZS) (wr:ZT):Prop:=∃ (k:Nat) (sv:Nat->ZS),k<=os.length/\UpI w os k cv rv sv wr
def vv (w:ZT) (x y z:ZS) (t:ZO):∀ j u,[x,y,z][j]?=ZW u->(w.alloc (Z4 #[x,y,z] t)).cell? ((⟨w.heap.size,0,ZX⟩:ZQ).add j)=ZW u:=by
 intro j u h;rw [jC];match j,h with
 | 0,h=>simp at h;subst h;simp only [World.cell?,Ug w (Z4 #[x,y,z] t)];rfl
 | 1,h=>simp at h;subst h;simp only [World.cell?,Ug w (Z4 #[x,y,z] t)];rfl
 | 2,h=>simp at h;subst h;simp only [World.cell?,Ug w (Z4 #[x,y,z] t)];rfl
 | j+3,h=>simp at h
def Rh (w:ZT) (os:List Ob) (e:ZP) (w':ZT):Prop:=∃ o,e=Z3 (ZY #[o,Z1 ZV])/\eN (λk=>w.heap.size<=k) w' o os/\bW w w'
def Ri:ZS->Nat
 | .slice _ n _=>n
 | _=>0
theorem Fz (O:Nat) (qq:1<=O/\O<=1000000) (q:Bs w v (ai os)) (j:∀ o∈os,o.fit) (C:∀ o∈os,o.RL.length=max 1 ((o.size+O-1)/O)) (hr:Af os) (qo:os.length<=10000) :
 ZR ZM 159 #[v,Z7 Z9 O] w λe w'=>Rh w os e w':=by
 obtain ⟨ao,c,hv,_⟩:=id q;obtain ⟨M,r⟩:=nM ((ai os).length);rw [r] at hv;subst hv;have X:=a6 q j C hr r;clear q j C hr r;go_enter func159,ntmps159;go_wp2_with fail;go_loopw [6,7] (λcv rv wr=>UpR w os cv rv wr) (λ_ rv _=>Ri rv)
 case atStart=>exact ⟨0,λ_=>Z5 ZX 0 0,T5 _,by rw [Xz];exact X.o.1,UN _ _ _ _,λi _ h=>absurd h (Yv _),TW _ _⟩
 case round=>
  obtain ⟨k,sv,hk,f⟩:=hrel;by_cases E:k<os.length
  . obtain ⟨q,j,C,hr,r⟩:=X.o;have he:os.drop k=os[k]::os.drop (k+1):=X7 E;have kf:ai (os.drop k)=bP os[k]++ai (os.drop (k+1)):=(by rw [he];rfl);have L:=j _ (TY E);have h7:=f.rest;rw [kf] at h7;have D:Bs wr _ (ai (os.drop k)):=f.rest.mono f.below;rw [kf] at D;obtain ⟨W,rc,hs,q2,q3,_,ka⟩:=id D;have qb:bP os[k]++ai (os.drop (k+1))≠[]:=λe=>by
     have:=Uy List.length e;rw [T8,dh L] at this;simp at this
    obtain ⟨rb,ro,rfl,_⟩:=ka qb;have qp:(ai (os.drop (k+1))).length<=100000000:=by
     have G:=packL_le (l:=os.drop (k+1)) (λo ho=>j o (U0 ho));rw [Um] at G;omega
    obtain ⟨bl,K⟩:=nM ((bP os[k]++ai (os.drop (k+1))).length);have qf:0<bl:=(by rw [<- K,T8,dh L];omega);rw [K] at hs;rw [hs] at D;have qd:=rV O D K.symm L qq (C _ (TY E)) qp;obtain ⟨F,cc,Z⟩:=bE f.own;have HR:=ak hr;have kk:(ai (os.drop (k+1))).length<bl:=(by rw [<- K,T8,dh L];omega);clear hr;have s:=a7 f qd L K kf h7;clear f q j C r he kf L D h7 q2 q3 ka qb qd K;subst hs Z;go_wp2_with fail;refine s.o.2.1.mono ?_;rintro e w2 ⟨⟨t,y,bv,rfl,kv,hz⟩,U⟩;have km:=hz w s.o.2.2.2.2.2;clear hz;obtain ⟨o,ho⟩:=nM (os[k]);rw [ho] at kv ⊢;have a:=a5 kv km U ho;obtain ⟨hd,bc,q9,_⟩:=id km;obtain ⟨bn,q8⟩:=nM ((ai (os.drop (k+1))).length);rw [q8] at q9 kk;subst q9;clear kv km U ho q8;have ki:bW w2 (w2.alloc (Z4 #[ZZ o.name,Z7 Z9 (o.size:Nat),.slice t o.RL.length y] 137)):=bA w2 _;have kg:(w2.alloc (Z4 #[ZZ o.name,Z7 Z9 (o.size:Nat),.slice t o.RL.length y] 137)).heap[w2.heap.size]?=ZW (Z4 #[ZZ o.name,Z7 Z9 (o.size:Nat),.slice t o.RL.length y] 137 (0,0)):=Ug _ _;obtain ⟨w3,kh⟩:=nM (w2.alloc (Z4 #[ZZ o.name,Z7 Z9 (o.size:Nat),.slice t o.RL.length y] 137));rw [kh] at ki kg;have q0:w3.cell? ⟨w2.heap.size,0,ZX⟩=ZW (ZZ o.name):=(by simp [World.cell?,kg]);have z:=al ki kg;clear ki kg;obtain ⟨nm,ky⟩:=nM (o.name);obtain ⟨P,q5⟩:=nM (o.size);obtain ⟨m,hm⟩:=nM (o.RL.length);rw [ky] at q0 kh ⊢;rw [q5] at kh ⊢;rw [hm] at kh ⊢;have d:=aE ky q5 hm;clear ky q5 hm;go_wp2_with fail;obtain ⟨io,qa,k5,k6,k7⟩:=Us Tryz.RX;by_cases qi:k=0
    . subst qi;go_quiet (fail);have B:bW w3 (w3.drewN nq):=⟨rfl,rfl,rfl,TV _,λ_ _=>rfl⟩;obtain ⟨w4,V⟩:=nM (w3.drewN nq);rw [V] at B ⊢;have n:=(B.block _ (TX.1 z.o.2).1).trans z.o.2;rw [d.o.1,d.o.2.1,d.o.2.2] at n;have r0:w4.cell? ⟨w2.heap.size,0,ZX⟩=ZW (ZZ nm):=(by simp [World.cell?,n]);have r1:w4.cell? ⟨w2.heap.size,1,ZX⟩=ZW (Z7 Z9 (P:Int)):=(by simp [World.cell?,n]);have r2:w4.cell? ⟨w2.heap.size,2,ZX⟩=ZW (.slice t m y):=(by simp [World.cell?,n]);have A:bW w2 w4:=z.o.1.trans (B.mono z.o.1.size);have I:bW wr (w4.alloc (Z4 #[ZZ nm,Z7 Z9 (P:Int),.slice t m y] 137)):=(a.o.2.2.1.trans (A.mono a.o.2.2.1.size)).alloc (TU a.o.2.2.1.size A.size) _;have R:=bV s.o.1.own (aa.RN I (λ_=>False)) (λ_ _ h=>h);have q6:w.heap.size<=(w4.alloc (Z4 #[ZZ nm,Z7 Z9 (P:Int),.slice t m y] 137)).heap.size:=TU s.o.1.below.size I.size;have Q:=al R A;clear R B V n q0 A I;go_wp2_with (show wpList _ _ _ ({ dst:=ZW 44,op:=_,type:=_,pos:=_,after:=_,guard:=_ }::_) _ _;refine Yy _ rfl (Z0 41) (Z0 43) 133 rfl w.heap.size 137 io (.agg #[ZZ YF,Z7 Z9 0,Z5 ZX 0 0]) 3 48 Vw qa k5 k6 k7 rfl (by decide) (.slice F 0 cc) 0 (AH os sv 0) rfl (by exact Q.o.1) ⟨w4.heap.size,0,ZX⟩ 1 1 _ rfl rfl (vv w4 _ _ _ _) (by intro u T;simp at T;rcases T with rfl|rfl|rfl<;>rfl) (by unfold maxLen;omega) (by omega) (by exact q6) ?_;intro v5 w5 kz ks qh hj);refine ⟨⟨0+1,_,E,GO E s.o.1 a.o.2.2.1 (by have S:=a.o.1;rw [d.o.2.2,<- a.o.2.2.2] at S;exact S) a.o.2.1 Q.o.2 (by rw [a.o.2.2.2];exact d.o.1) (by rw [a.o.2.2.2];exact d.o.2.1) kz ks hj⟩,?_⟩;show bn<bl;omega
    . have qs:0<k:=(by omega);obtain ⟨pv,q1⟩:=nM ((os.getD (k-1) Gt).name);obtain ⟨J,qg,kp⟩:∃ J,F=ZW ⟨J,0,ZX⟩/\wr.cell? ⟨J,(k-1)*3,ZX⟩=ZW (ZZ pv):=by
       rcases s.o.1.own.2 with ⟨_,h0⟩|⟨g,cap,cur,Y,_⟩
       . omega
       . injection Y with Y _ _;refine ⟨g,Y,?_⟩;have G:=(Fx os sv k (k-1) (by omega)).1;have h2:=s.o.1.own.cells (g:=g) (by rw [Y];rfl) _ _ G;rw [jC,q1] at h2;exact h2
      subst qg;have k0:w3.cell? ⟨J,(k-1)*3,ZX⟩=ZW (ZZ pv):=((a.o.2.2.1.trans (z.o.1.mono a.o.2.2.1.size)).cell (p:=⟨J,(k-1)*3,ZX⟩) (Ub kp)).trans kp;have ke:Pw nm pv=ZU:=by
       have G:=HR.o (k-1) (by omega);rw [show k-1+1=k by omega,q1] at G;have e:os.getD k Gt=os[k]:=(by simp [T6,E]);rw [e,a.o.2.2.2,d.o.1] at G;exact G
      have kx:∀ w':ZT,(binOp .leq 9 (ZZ nm) (ZZ pv)).run ZM w'=.ok (Z1 ZU) w':=λw'=>by
       unfold Pw at ke;simp [binOp,Op.stringOp,ke]
      have k9:=ke;unfold Pw at k9;have qm:((k:Nat):Int)-1=((k-1:Nat):Int):=(by omega);have qn:(((k-1:Nat)):Int).toNat=k-1:=(by omega);obtain ⟨k1,k8⟩:=nM (k-1);rw [k8] at k0 qm qn;have qj:k1<k:=(by omega);clear kp ke q1 k8;go_quiet (fail);clear k0 kx k9;have B:bW w3 (w3.drewN nq):=⟨rfl,rfl,rfl,TV _,λ_ _=>rfl⟩;obtain ⟨w4,V⟩:=nM (w3.drewN nq);rw [V] at B ⊢;have n:=(B.block _ (TX.1 z.o.2).1).trans z.o.2;rw [d.o.1,d.o.2.1,d.o.2.2] at n;have r0:w4.cell? ⟨w2.heap.size,0,ZX⟩=ZW (ZZ nm):=(by simp [World.cell?,n]);have r1:w4.cell? ⟨w2.heap.size,1,ZX⟩=ZW (Z7 Z9 (P:Int)):=(by simp [World.cell?,n]);have r2:w4.cell? ⟨w2.heap.size,2,ZX⟩=ZW (.slice t m y):=(by simp [World.cell?,n]);have A:bW w2 w4:=z.o.1.trans (B.mono z.o.1.size);have I:bW wr (w4.alloc (Z4 #[ZZ nm,Z7 Z9 (P:Int),.slice t m y] 137)):=(a.o.2.2.1.trans (A.mono a.o.2.2.1.size)).alloc (TU a.o.2.2.1.size A.size) _;have R:=bV s.o.1.own (aa.RN I (λ_=>False)) (λ_ _ h=>h);have q6:w.heap.size<=(w4.alloc (Z4 #[ZZ nm,Z7 Z9 (P:Int),.slice t m y] 137)).heap.size:=TU s.o.1.below.size I.size;have Q:=al R A;clear R B V n q0 A I;go_wp2_with (show wpList _ _ _ ({ dst:=ZW 44,op:=_,type:=_,pos:=_,after:=_,guard:=_ }::_) _ _;refine Yy _ rfl (Z0 41) (Z0 43) 133 rfl w.heap.size 137 io (.agg #[ZZ YF,Z7 Z9 0,Z5 ZX 0 0]) 3 48 Vw qa k5 k6 k7 rfl (by decide) (Z5 (ZW ⟨J,0,ZX⟩) k cc) k (AH os sv k) rfl (by exact Q.o.1) ⟨w4.heap.size,0,ZX⟩ 1 1 _ rfl rfl (vv w4 _ _ _ _) (by intro u T;simp at T;rcases T with rfl|rfl|rfl<;>rfl) (by unfold maxLen;omega) (by omega) (by exact q6) ?_;intro v5 w5 kz ks qh hj);refine ⟨⟨k+1,_,E,GO E s.o.1 a.o.2.2.1 (by have S:=a.o.1;rw [d.o.2.2,<- a.o.2.2.2] at S;exact S) a.o.2.1 Q.o.2 (by rw [a.o.2.2.2];exact d.o.1) (by rw [a.o.2.2.2];exact d.o.2.1) kz ks hj⟩,?_⟩;show bn<bl;omega
  . have qk:k=os.length:=(by omega);subst qk;obtain ⟨q,j,C,hr,r⟩:=X.o;have D:=f.rest;rw [WM lR] at D;obtain ⟨W,rc,hs,_⟩:=D;have q4:u7=.slice W 0 rc:=hs;have hn:eN (λk=>w.heap.size<=k) wr u6 os:=Fy f.own (by omega) (λk hk=>hk) (λi hi=>(f.ints i hi hi).weaken λb hb=>hb.1);have qc:=yD hn j qo;obtain ⟨F,cc,Z⟩:=bE f.own;obtain ⟨N,hN⟩:=nM (os.length);rw [hN] at Z;have H:=a5 hn f.below qc hN;clear hn qc f q j C hr r hs hN;subst q4 Z;go_wp2_with fail;refine H.o.2.2.1.mono ?_;rintro e w5 ⟨g,cap,rfl,hh,kj⟩;obtain ⟨q,j,C,hr,r⟩:=X.o;have hx:∀ x∈ai os,x<256:=(by obtain ⟨_,_,_,_,_,h,_⟩:=q;exact h);have hl:(ai os).length<=1000000000:=(by have:=packL_le j;omega);have q7:=Bs.Tk hh hx hl;have ko:bW w w5:=H.o.2.1.trans (kj.mono H.o.2.1.size);have U:=q.mono ko;have kr:=Fw q7 U;rw [r] at kr;have H5:=aE kr kj ko;rw [r];clear q j C hr r q7 U kr hh kj ko hx hl;go_wp2_with fail;refine H5.o.1.mono ?_;rintro e w6 ⟨rfl,qe⟩;obtain rfl:w5=w6:=qe.symm;clear qe;go_wp2;go_ret2;exact ⟨_,rfl,H.o.1.keep (eu.RM H5.o.2.1),H5.o.2.2⟩
def AI (D:Nat) (hD:1<=D/\D<=1000) {os:List Ob} (c:∀ o∈os,o.fit) (b:∀ o∈os,o.RL.length=max 1 ((o.size+D*44-1)/(D*44))) (hr:Af os) (a:os.length<=10000):Dj D (ai os) os:=λw v d=>Fz (D*44) ⟨by omega,by omega⟩ d c b hr a
def vw {L:List (ByteArray×ZS)} (hs:∀ o∈L,kD o.2):∀ u∈aO L,u.oneCell'=ZV:=by
 intro u a;unfold aO at a;rw [XR] at a;obtain ⟨q,d,b⟩:=a;simp at b;rcases b with rfl|rfl
 . rfl
 . obtain ⟨ao,n,c,e,_⟩:=hs q d;rw [e];rfl
def MP {L:List (ByteArray×ZS)} (h:w.ownsRow base 82 2 v L.length (aO L)) (hs:∀ o∈L,kD o.2):Src ZM 2 51 v L.length (aO L) w:=by
 rcases h.2 with ⟨rfl,a⟩|⟨g,cap,cur,rfl,b,c,d,e,f,i⟩
 . have:L=[]:=UX a;subst this;exact XS w U2 0
 . exact Vn w U2 ⟨g,0,ZX⟩ L.length cap (aO L) (kC L) (h.cells (g:=g) rfl) (vw hs)
def Tryz.Se:(ZM.info? 82).map (λi=>(i.zero,i.size,i.bytes))=ZW (ZW (.agg #[ZZ YF,Z5 ZX 0 0]),2,40):=by kernel_rfl
theorem yV {L:List (ByteArray×ZS)} (h:rQ w r base v L) (hl:L.length<=1000000) (hs:∀ o∈L,kD o.2) :
 ZR ZM 27 #[Z6 (ZW ⟨r,0,ZX⟩)] w λe w'=>e=Z3 (Z6 (ZW ⟨w.heap.size,0,ZX⟩))/\(∃ u,rQ w' w.heap.size (w.heap.size+1) u L)/\bW w w':=by
 have C:r<w.heap.size:=(TX.1 h.top).1;obtain ⟨w1,j⟩:=nM (w.alloc (Z4 #[Z5 ZX 0 0] 53));have l:w1.heap.size=w.heap.size+1:=by rw [<- j];simp
 have b:bW w w1:=by rw [<- j];exact bA w _
 have m:w1.heap[w.heap.size]?=ZW (Z4 #[Z5 ZX 0 0] 53 (0,0)):=by rw [<- j];exact Ug w (Z4 #[Z5 ZX 0 0] 53)
 have t:World.ownsRow w1.drew base 82 2 v L.length (aO L):=by rw [<- j];exact h.own.alloc _
 have x:=(b.block r C).trans h.top;obtain ⟨id,n,B,A,z⟩:=Us Tryz.Se;obtain ⟨G,w2,hr,a,d,y⟩:=ld (P:=ZM) w1.drew w1.heap.size 51 51 51 82 id _ 2 40 U2 n B A z rfl (Z5 ZX 0 0) 0 [] (UN _ _ _ _) v L.length (aO L) (MP t hs) (by unfold maxLen;omega) (by omega) lR;rw [Ui,Uo] at a;obtain ⟨s,sl,q,rfl⟩:∃ s sl q,G=.slice s sl q:=by
  rcases a.2 with ⟨e,_⟩|⟨g,cap,cur,e,_⟩
  . exact ⟨_,_,_,e⟩
  . exact ⟨_,_,_,e⟩
 have f:bW w1 w2:=⟨d.os,d.tape,d.output,d.size,λk F=>d.block k F (by simp [Value.ownBlock])⟩;have c:=(f.block _ (by omega)).trans m;have c0:w1.cell? ⟨w.heap.size,0,ZX⟩=ZW (Z5 ZX 0 0):=by simp [World.cell?,m]
 have c1:w1.cell? ⟨r,0,ZX⟩=ZW v:=by simp [World.cell?,x]
 have I:w2.cell? ⟨w.heap.size,0,ZX⟩=ZW (Z5 ZX 0 0):=by simp [World.cell?,c]
 have J:w2.frozen? ⟨w.heap.size,0,ZX⟩=ZU:=by simp [World.frozen?,c]
 have H:=a7 hr a f c b l;clear hr a d y f c b m t x l;go_enter func27,ntmps27;go_wp2_with fail;go_region_law (refine lZ rfl _ _ 51 51 rfl _ _ (by simp [Act.eval]) (by simp [Act.eval]) H.o.1 ?_)
 all_goals (
  go_wp2;go_ret;obtain ⟨_,a,f,c,b,l⟩:=H.o;have D:w2.grownBy (w2.setCell ⟨w.heap.size,0,ZX⟩ (.slice s sl q)) (ZW w.heap.size):=⟨rfl,rfl,rfl,by simp [World.setCell],λi _ E=>Ud _ _ _ _ (λe=>E (by rw [e]))⟩;rw [l] at a;exact ⟨rfl,⟨_,by simp [World.setCell,VL,c],a.kept D (.inr λe=>by have:=(a.lt _ e).1;omega)⟩,(b.trans (f.mono b.size)).setCell (p:=⟨w.heap.size,0,ZX⟩) lR _⟩)
def yW {L:List (ByteArray×ZS)} (hs:∀ o∈L,kD o.2) (k:Nat):∀ o∈L.take k,kD o.2:=λo h=>hs o (UY h)
def qN {L:List (ByteArray×ZS)} (hs:∀ o∈L,kD o.2) (k:Nat):∀ o∈L.drop k,kD o.2:=λo h=>hs o (U0 h)
def pf {off:Nat} {L:List (ByteArray×ZS)} (l:L.length=n) (i:∀ k (p:k<L.length),w.cell? ⟨g,off+k*2,ZX⟩=ZW (ZZ L[k].1)/\w.cell? ⟨g,off+k*2+1,ZX⟩=ZW L[k].2) (hs:∀ o∈L,kD o.2) :
 Src ZM 2 51 (Z5 (ZW ⟨g,off,ZX⟩) n c) n (aO L) w:=by
 subst l;refine Vn w U2 ⟨g,off,ZX⟩ L.length c (aO L) (kC L) (λj u a=>?_) (vw hs);rw [Vr];have:j<L.length*2:=by
  obtain ⟨q,_⟩:=Va.1 a;rwa [kC] at q
 obtain ⟨f,h⟩:=tF L (j/2) (by omega);obtain ⟨c1,d⟩:=i (j/2) (by omega);by_cases e:j%2=0
 . have b:j/2*2=j:=(by omega);rw [b] at f c1;rw [f] at a;rw [c1,a]
 . have b:j/2*2+1=j:=(by omega);rw [b] at h;rw [h] at a;rw [show off+j/2*2+1=off+j by omega] at d;rw [d,a]
def vz {xs:List ZS} (h:w.ownsRow base e size v n xs):∃ b sl a,v=.slice b sl a:=by
 rcases h.2 with ⟨q,_⟩|⟨g,cap,cur,q,_⟩
 . exact ⟨_,_,_,q⟩
 . exact ⟨_,_,_,q⟩
def aaJ (w:ZT) (r:Nat) (L:List (ByteArray×ZS)) (name:ByteArray) (e:ZP) (w':ZT):Prop:=
 (¬ eK name/\e=Z3 (Z7 Z9 6)/\w'=w)\/(eK name/\pK L name/\e=Z3 (Z7 Z9 9)/\w'=w) \/
 (eK name/\∃ k,NT L name k/\e=Z3 (Z7 Z9 0)/\(∃ u,rQ w' r w.heap.size u (L.take k++L.drop (k+1)))/\aa (λj=>j=r) w w')
theorem Dk {L:List (ByteArray×ZS)} (h:rQ w r base v L) (hl:L.length<=1000000) (hs:∀ o∈L,kD o.2) (name:ByteArray) :
 ZR ZM 28 #[Z6 (ZW ⟨r,0,ZX⟩),ZZ name] w λe w'=>aaJ w r L name e w':=by
 obtain ⟨c0,f0⟩:=h.cell;have Z:=h.shape;have G:=jG h hl name;have hm:=BH h hl name;obtain ⟨id,p,J,I,H⟩:=Us Tryz.Se;go_enter func28,ntmps28;go_wp2_with fail;refine hm.mono ?_;clear hm;rintro e w1 ⟨rfl,hg⟩;rcases hg with ⟨kk,rfl⟩|⟨hr,F,rfl⟩|⟨hr,k0,W,rfl⟩
 . have D:=ak kk;clear kk G Z;go_wp2;go_ret;exact .inl ⟨D.o,rfl,rfl⟩
 . have D:=al hr F;clear hr F G Z;go_wp2;go_ret;exact .inr (.inl ⟨D.o.1,D.o.2,rfl,rfl⟩)
 . obtain ⟨x,hx⟩:=nM ((L.getD k0 (YF,undef)).2);rw [hx];clear hx;go_wp2_with fail;refine G.mono ?_;clear G;rintro e w2 ⟨rfl,hf⟩;rcases hf with ⟨k,hk,rfl,hn,h3⟩|⟨rfl,F⟩
   . rcases Z with ⟨rfl,rfl⟩|⟨g,cap,rfl,kr,ko,E⟩
     . exact absurd hk (by simp)
     . have kh:NT L name k:=⟨hk,hn,h3⟩;have ki:g<w2.heap.size:=Ub (E 0 (by omega)).1;have hp:r≠g:=by
        intro e;rcases h.own.2 with ⟨q,_⟩|⟨g',hb,cur,e1,e2,O,_⟩
        . cases q
        . simp at e1;rw [<- e1.1] at O;rw [<- e,h.top] at O;simp at O
       have km:Src ZM 2 51 (Z5 (ZW ⟨g,0,ZX⟩) k cap) k (aO (L.take k)) w2:=pf (by rw [Un];omega) (λj f=>by
        rw [Un] at f;obtain ⟨q1,q2⟩:=E j (by omega);rw [Ui,YG];exact ⟨q1,q2⟩) (yW hs k)
       have m:=a6 hr kh E h hp;clear hr kh hn h3 E h hp W;have kx:r<w2.heap.size:=Ub c0;have K:¬ cap=k+1\/cap=k+1:=(Decidable.em (cap=k+1)).symm;have ks:wrap64 ((k:Int)+1)=(k:Int)+1:=(by unfold wrap64;omega);rcases K with K|K
       . have kv:¬ (cap:Int)-((k:Int)+1)=0:=(by omega);go_wp2_with (first
          | (at_builtin;refine ae _ rfl (Z0 21) (Z0 27) 51 51 rfl w2.heap.size 82 id _ 2 40 U2 p J I H rfl (Z5 ZX 0 0) 0 [] rfl (UN _ _ _ _) _ rfl k (aO (L.take k)) km (by unfold maxLen;omega) (by omega) lR ?_;intro C w3 z c k9
             have n:∀ j,j<w2.heap.size->w3.heap[j]?=w2.heap[j]?:=λj f=>c.block j f (by simp [Value.ownBlock]);have s:w3.heap[r]?=_:=(n r (Ub c0)).trans m.o.2.2.2.1.top;have N:w3.cell? ⟨r,0,ZX⟩=ZW (Z5 (ZW ⟨g,0,ZX⟩) L.length cap):=(by simp [World.cell?,s]);have f3:w3.frozen? ⟨r,0,ZX⟩=ZU:=(by simp [World.frozen?,s]);have B:=c.size;have R:=c.os;have P:=c.tape;have Q:=c.output;have A:Src ZM 2 51 (Z5 (ZW ⟨g,(k+1)*2,ZX⟩) (L.length-(k+1)) (cap-(k+1))) (L.length-(k+1)) (aO (L.drop (k+1))) w3:=pf (by rw [Um]) (λj f=>by
              rw [Um] at f;obtain ⟨q1,q2⟩:=m.o.2.2.1 (k+1+j) (by omega);rw [Ym,show (k+1)*2+j*2=(k+1+j)*2 by omega];exact ⟨(Uk (n g ki)).trans q1,(Uk (n g ki)).trans q2⟩) (qN hs (k+1))
             have b:=aE z n A;clear z c n A s)
          | (at_builtin;refine ae _ rfl (Z0 29) (Z0 36) 51 51 rfl w2.heap.size 82 id _ 2 40 U2 p J I H rfl C (0+k) _ rfl b.o.1 _ rfl (L.length-(k+1)) (aO (L.drop (k+1))) b.o.2.2 (by unfold maxLen;omega) (by omega) B ?_;intro v2 w4 l a ka
             obtain ⟨u,sl,t,rfl⟩:=vz l;have Y:¬ ZW r=C.ownBlock:=λe=>by have:=(b.o.1.lt r e.symm).1;omega
             have d:w4.heap[r]?=_:=(a.block r (Ub N) Y).trans ((b.o.2.1 r (Ub c0)).trans m.o.2.2.2.1.top);have c4:w4.cell? ⟨r,0,ZX⟩=ZW (Z5 (ZW ⟨g,0,ZX⟩) L.length cap):=(by simp [World.cell?,d]);have f4:w4.frozen? ⟨r,0,ZX⟩=ZU:=(by simp [World.frozen?,d]);have M:=aE l a d;clear l a d))
         have X:(L.take k++L.drop (k+1)).length=0+k+(L.length-(k+1)):=(by rw [T8,Un,Um];omega);obtain ⟨l,a,d⟩:=M.o;have y:w4.ownsRow w2.heap.size 82 2 (.slice u sl t) (L.take k++L.drop (k+1)).length (aO (L.take k++L.drop (k+1))):=(by rw [X,jq];exact l);have S:aa (λj=>j=r) w2 w4:=⟨a.os.trans R,a.tape.trans P,a.output.trans Q,TU B a.size,λj f kp=>(a.block j (by omega) (λe=>by have:=(b.o.1.lt j e.symm).1;omega)).trans (b.o.2.1 j f)⟩;go_ret;have V:w4.grownBy (w4.setCell ⟨r,0,ZX⟩ (.slice u sl t)) (ZW r):=⟨rfl,rfl,rfl,by simp [World.setCell],λi _ T=>Ud _ _ _ _ (λe=>T (by rw [e]))⟩;refine .inr (.inr ⟨m.o.1,k,m.o.2.1,rfl,⟨.slice u sl t,⟨by simp [World.setCell,VL,d],y.kept V (.inr λe=>by have:=(y.lt r e).1;omega)⟩⟩,S.trans (aa.setCell _ _ _ rfl)⟩)
       . subst K;have kj:L.length=k+1:=(by omega);have U:=ak kj;clear kj;go_wp2_with (first
          | (at_builtin;refine ae _ rfl (Z0 21) (Z0 27) 51 51 rfl w2.heap.size 82 id _ 2 40 U2 p J I H rfl (Z5 ZX 0 0) 0 [] rfl (UN _ _ _ _) _ rfl k (aO (L.take k)) km (by unfold maxLen;omega) (by omega) lR ?_;intro C w3 z c k9
             have n:∀ j,j<w2.heap.size->w3.heap[j]?=w2.heap[j]?:=λj f=>c.block j f (by simp [Value.ownBlock]);have s:w3.heap[r]?=_:=(n r (Ub c0)).trans m.o.2.2.2.1.top;have N:w3.cell? ⟨r,0,ZX⟩=ZW (Z5 (ZW ⟨g,0,ZX⟩) L.length (k+1)):=(by simp [World.cell?,s]);have f3:w3.frozen? ⟨r,0,ZX⟩=ZU:=(by simp [World.frozen?,s]);have B:=c.size;have R:=c.os;have P:=c.tape;have Q:=c.output;have A:Src ZM 2 51 (Z5 (ZW ⟨g,0,ZX⟩) 0 0) 0 (aO (L.drop (k+1))) w3:=pf (by rw [Um,U.out];omega) (λj f=>absurd f (by rw [Um,U.out];omega)) (qN hs (k+1));have b:=aE z n A;clear z c n A s)
          | (at_builtin;refine ae _ rfl (Z0 29) (Z0 36) 51 51 rfl w2.heap.size 82 id _ 2 40 U2 p J I H rfl C (0+k) _ rfl b.o.1 _ rfl 0 (aO (L.drop (k+1))) b.o.2.2 (by unfold maxLen;omega) (by omega) B ?_;intro v2 w4 l a ka
             obtain ⟨u,sl,t,rfl⟩:=vz l;have Y:¬ ZW r=C.ownBlock:=λe=>by have:=(b.o.1.lt r e.symm).1;omega
             have d:w4.heap[r]?=_:=(a.block r (Ub N) Y).trans ((b.o.2.1 r (Ub c0)).trans m.o.2.2.2.1.top);have c4:w4.cell? ⟨r,0,ZX⟩=ZW (Z5 (ZW ⟨g,0,ZX⟩) L.length (k+1)):=(by simp [World.cell?,d]);have f4:w4.frozen? ⟨r,0,ZX⟩=ZU:=(by simp [World.frozen?,d]);have M:=aE l a d;clear l a d))
         have X:(L.take k++L.drop (k+1)).length=0+k+0:=(by rw [T8,Un,Um,U.out];omega);obtain ⟨l,a,d⟩:=M.o;have y:w4.ownsRow w2.heap.size 82 2 (.slice u sl t) (L.take k++L.drop (k+1)).length (aO (L.take k++L.drop (k+1))):=(by rw [X,jq];exact l);have S:aa (λj=>j=r) w2 w4:=⟨a.os.trans R,a.tape.trans P,a.output.trans Q,TU B a.size,λj f kp=>(a.block j (by omega) (λe=>by have:=(b.o.1.lt j e.symm).1;omega)).trans (b.o.2.1 j f)⟩;go_ret;have V:w4.grownBy (w4.setCell ⟨r,0,ZX⟩ (.slice u sl t)) (ZW r):=⟨rfl,rfl,rfl,by simp [World.setCell],λi _ T=>Ud _ _ _ _ (λe=>T (by rw [e]))⟩;refine .inr (.inr ⟨m.o.1,k,m.o.2.1,rfl,⟨.slice u sl t,⟨by simp [World.setCell,VL,d],y.kept V (.inr λe=>by have:=(y.lt r e).1;omega)⟩⟩,S.trans (aa.setCell _ _ _ rfl)⟩)
   . exact absurd W.2.1 (F k0 W.1)
def vA (h:Bs w v l):Src ZM 1 39 v l.length (aH l) w:=by
 obtain ⟨ao,c,rfl,m,n,o,g⟩:=h;have i:∀ u∈aH l,u.oneCell'=ZV:=λu a=>by unfold aH at a;rw [T7] at a;obtain ⟨x,_,rfl⟩:=a;rfl
 by_cases hl:l=[]
 . subst hl;cases ao with
   | none=>exact XS w Ul c
   | some f=>exact Vn w Ul f 0 c [] rfl (λj u d=>by simp at d) (λu a=>by simp at a)
 . obtain ⟨b,off,rfl,k⟩:=g hl;refine Vn w Ul ⟨b,off,ZX⟩ l.length c (aH l) (by rw [aX,We]) (λj u d=>?_) i;rw [Vr];have e:j<l.length:=(by obtain ⟨q,_⟩:=Va.1 d;rwa [aX] at q);rw [k j e,<- d];unfold aH;rw [UA,Ua e,T6,Ua e];rfl
def Tryz.Sv:(ZM.info? 5).map (λi=>(i.zero,i.size,i.bytes))=ZW (ZW (Z7 .u8 0),1,1):=by kernel_rfl
theorem Jo (r:Nat) (name:ByteArray) (ao:Option ZQ) (n c:Nat) (a:¬ eK name) (w:ZT) :
 ZR ZM 40 #[Z6 (ZW ⟨r,0,ZX⟩),ZZ name,.slice ao n c] w λe w'=>e=Z3 (Z7 Z9 6)/\w'=w:=by
 by_cases b:name.size=0
 . have n0:(name.size:Int)=0:=(by omega);go_enter func40,ntmps40;go_wp2;go_ret;exact ⟨rfl,rfl⟩
 . have n0:¬ (name.size:Int)=0:=(by omega);have d:(16:Int)<(name.size:Int):=(by unfold eK at a;omega);go_enter func40,ntmps40;go_wp2;go_ret;exact ⟨rfl,rfl⟩
theorem Jp (r:Nat) (name:ByteArray) (ao:Option ZQ) (n c:Nat) (a:eK name) (d:1500<n) (w:ZT) :
 ZR ZM 40 #[Z6 (ZW ⟨r,0,ZX⟩),ZZ name,.slice ao n c] w λe w'=>e=Z3 (Z7 Z9 7)/\w'=w:=by
 have b:¬ name.size=0:=by have:=a.1;omega
 have n0:¬ (name.size:Int)=0:=by omega
 have f:¬ (16:Int)<(name.size:Int):=by have:=a.2;omega
 have g:(1500:Int)<(n:Int):=by omega
 clear a;go_enter func40,ntmps40;go_wp2;go_ret;exact ⟨rfl,rfl⟩
theorem Dm {L:List (ByteArray×ZS)} (h:rQ w r base v L) (hl:L.length<=1000000) (name:ByteArray) (ao:Option ZQ) (n c:Nat) (a:eK name) (l:n<=1500) (b:¬ pK L name) :
 ZR ZM 40 #[Z6 (ZW ⟨r,0,ZX⟩),ZZ name,.slice ao n c] w λe w'=>e=Z3 (Z7 Z9 8)/\w'=w:=by
 have d:=jG h hl name;have i:¬ name.size=0:=by have:=a.1;omega
 have n0:¬ (name.size:Int)=0:=by omega
 have m:¬ (16:Int)<(name.size:Int):=by have:=a.2;omega
 have o:¬ (1500:Int)<(n:Int):=by omega
 clear a h;go_enter func40,ntmps40;go_wp2_with fail;refine d.mono ?_;rintro e w1 ⟨rfl,g⟩;rcases g with ⟨k,j,rfl,_⟩|⟨rfl,f⟩
 . have k2:(0:Int)<=(k:Int):=(by omega);clear d b;go_wp2;go_ret;exact ⟨rfl,rfl⟩
 . exact absurd f b
def bB {xs:List ZS} (h:w.ownsRow base e size v n xs):∃ d f,v=.slice d n f:=by
 rcases h.2 with ⟨b,c⟩|⟨g,cap,cur,a,_⟩
 . exact ⟨ZX,0,by rw [b,c]⟩
 . exact ⟨_,_,a⟩
def cD (L:List (ByteArray×ZS)):List ByteArray:=L.map (·.1)
def vC {L:List (ByteArray×ZS)} (e:∀ k (m:k<L.length),w1.cell? ⟨g,k*2,ZX⟩=ZW (ZZ L[k].1)/\w1.cell? ⟨g,k*2+1,ZX⟩=ZW L[k].2) (d:g<w1.heap.size) (b:bW w1 w3) (hs:∀ o∈L,kD o.2) (l:a<=L.length):∀ c,Src ZM 2 51 (Z5 (ZW ⟨g,0,ZX⟩) a c) a (aO (L.take a)) w3:=λc=>
 pf (by rw [Un];omega) (λj f=>by
  rw [Un] at f;obtain ⟨h,i⟩:=e j (by omega);rw [Ui,YG];exact ⟨(Uk (b.block g d)).trans h,(Uk (b.block g d)).trans i⟩) (yW hs a)
def vD {L:List (ByteArray×ZS)} (e:∀ k (m:k<L.length),w1.cell? ⟨g,k*2,ZX⟩=ZW (ZZ L[k].1)/\w1.cell? ⟨g,k*2+1,ZX⟩=ZW L[k].2) (d:g<w1.heap.size) (b:bW w1 w3) (hs:∀ o∈L,kD o.2) (l:a<=L.length):∀ c,Src ZM 2 51 (Z5 (ZW ⟨g,a*2,ZX⟩) (L.length-a) c) (L.length-a) (aO (L.drop a)) w3:=λc=>
 pf (by rw [Um]) (λj f=>by
  rw [Um] at f;obtain ⟨h,i⟩:=e (a+j) (by omega);rw [Ym,show a*2+j*2=(a+j)*2 by omega];exact ⟨(Uk (b.block g d)).trans h,(Uk (b.block g d)).trans i⟩) (qN hs a)
def yX {L:List (ByteArray×ZS)} (h:k=L.length) (off c:Nat) (w:ZT):Src ZM 2 51 (Z5 (ZW ⟨g,off,ZX⟩) (L.length-k) c) (L.length-k) (aO (L.drop k)) w:=by
 subst h;rw [WK,List.drop_length];exact Vn w U2 ⟨g,off,ZX⟩ 0 c [] rfl (λj u a=>by simp at a) (λu b=>by simp at b)
def sK (w4:ZT) (name:ByteArray) (a:Option ZQ) (n b:Nat):Src ZM 2 51 (Z5 (ZW ⟨w4.heap.size,0,ZX⟩) 1 1) 1 [ZZ name,.slice a n b] (w4.alloc (Z4 #[ZZ name,.slice a n b] 82)):=
 Vn _ U2 ⟨w4.heap.size,0,ZX⟩ 1 1 [ZZ name,.slice a n b] rfl (λj u d=>by
  rw [Vr,Ui];have f:=UE w4 (Z4 #[ZZ name,.slice a n b] 82);have e:(#[Value.string name,.slice a n b]:Array ZS)[j]?=ZW u:=by simpa using d
  simp only [World.cell?,f];exact e) (λu c=>by
  simp only [Uw,W5,or_false] at c;rcases c with rfl|rfl<;>rfl)
def PD {b1 b2:Nat} {xs:List ZS} (f:w.ownsRow b1 5 1 v n xs) (hr:w.ownsRow b2 82 2 u m ys) (o:w.grownBy w' u.ownBlock):w'.ownsRow b1 5 1 v n xs:=by
 refine ⟨f.1,?_⟩;rcases f.2 with l|⟨g,cap,cur,i,j,b,p⟩
 . exact .inl l
 . refine .inr ⟨g,cap,cur,i,j,(o.block g (TX.1 b).1 (λe=>?_)).trans b,p⟩;rcases hr.2 with ⟨rfl,_⟩|⟨k,c,d,rfl,_,a,_⟩
   . cases e
   . have h:k=g:=(by simpa [Value.ownBlock] using e.symm);subst h;rw [b] at a;cases a
def GP {xs:List ZS} (h:w.ownsRow base e size v n xs) {k:Nat} (a:v.ownBlock=ZW k):base<=k:=by
 rcases h.2 with ⟨rfl,_⟩|⟨g,cap,cur,rfl,c,_⟩
 . cases a
 . have:g=k:=(by simpa [Value.ownBlock] using a);omega
def mG {vb:ZS} {L:List (ByteArray×ZS)} {xs:List ZS} {o:Obj} (_:rQ w r base v L) (j:w3.ownsRow w.heap.size 5 1 vb n xs) (f:bW w w3) (l:w4.ownsRow w.heap.size 82 2 u a ys) (g:bW w3 w4) (h:(w4.alloc o).grownBy w5 u.ownBlock):bW w w5/\w5.ownsRow w.heap.size 5 1 vb n xs:=by
 have b:bW w4 (w4.alloc o):=bA w4 _;have c:bW w w4:=f.trans (g.mono f.size);have d:bW w (w4.alloc o):=c.trans (b.mono c.size);have i:=ay l b;exact ⟨d.grown h d.size (λk e=>GP i e),PD (ay (ay j g) b) i h⟩
def kV {vb:ZS} {xs:List ZS} (d:w5.ownsRow w.heap.size 82 2 u a ys) (b:bW w w5) (f:w5.ownsRow w.heap.size 5 1 vb n xs) (c:w5.grownBy w6 u.ownBlock):bW w w6/\w6.ownsRow w.heap.size 5 1 vb n xs:=
 ⟨b.grown c b.size (λ_ e=>GP d e),PD f d c⟩
def MQ (w:ZT) (r:Nat) (L:List (ByteArray×ZS)) (x:ByteArray) (d:a8) (e:ZP) (w':ZT):Prop:=
 e=Z3 (Z7 Z9 0)/\∃ u vb,rQ w' r w.heap.size u (L.take (aK (cD L) x)++(x,vb)::L.drop (aK (cD L) x))/\w'.ownsRow w.heap.size 5 1 vb d.length (aH d)/\aa (λj=>j=r) w w'
def ph {vb:ZS} {L:List (ByteArray×ZS)} {x:ByteArray} (D:d.length=n) (y:aK (cD L) x=a) (c:w6.ownsRow w.heap.size 82 2 u m (aO (L.take a)++[ZZ x,vb]++aO (L.drop a))) (t:bW w w6) (B:w6.ownsRow w.heap.size 5 1 vb n (aH d)) (A:w6.heap[r]?=ZW (Z4 #[v] 53 (0,0))) (hr:r<w.heap.size):MQ w r L x d (Z3 (Z7 Z9 0)) (w6.setCell ⟨r,0,ZX⟩ u):=by
 have l:∀ j,j≠r->(w6.setCell ⟨r,0,ZX⟩ u).heap[j]?=w6.heap[j]?:=λj f=>Ud _ _ _ _ f;have i:aO (L.take a)++[ZZ x,vb]++aO (L.drop a)=aO (L.take a++(x,vb)::L.drop a):=by
  rw [jq,Uz];rfl
 have C:m=(L.take a++(x,vb)::L.drop a).length:=by
  have:=c.1;rw [i,kC] at this;omega
 rw [i,C] at c;have b:∀ {e:ZO} {size k:Nat} {z:ZS} {xs:List ZS},w6.ownsRow w.heap.size e size z k xs->(w6.setCell ⟨r,0,ZX⟩ u).ownsRow w.heap.size e size z k xs:=λ{e size k z xs} h=>by
  refine ⟨h.1,?_⟩;rcases h.2 with s|⟨g,cap,cur,o,p,q,E⟩
  . exact .inl s
  . exact .inr ⟨g,cap,cur,o,p,(l g (by omega)).trans q,E⟩
 refine ⟨rfl,u,vb,?_,?_,?_⟩
 . rw [y];refine ⟨?_,b c⟩;have:=ag (j:=0) A u;exact this
 . rw [D];exact b B
 . exact (aa.RN t _).trans ⟨rfl,rfl,rfl,by simp [World.setCell],λj _ f=>l j f⟩
def PuR (w:ZT) (L:List (ByteArray×ZS)) (x:ByteArray) (i:ZS) (wr:ZT):Prop:=∃ k:Nat,k<=L.length/\i=Z7 Z9 k/\wr=w/\∀ j (hj:j<L.length),j<k->jx L[j].1 x=ZV
theorem MR {L:List (ByteArray×ZS)} (h:rQ w r base (Z5 (ZW ⟨g,0,ZX⟩) L.length cap) L) (hl:L.length<=100000) (hs:∀ o∈L,kD o.2) (name:ByteArray) (ao:Option ZQ) (c:Nat) (d:a8) (hd:Bs w (.slice ao d.length c) d) (q4:d.length<=1500) (ky:eK name) (q3:pK L name) (M:∀ k (hk:k<L.length),w.cell? ⟨g,k*2,ZX⟩=ZW (ZZ L[k].1)/\w.cell? ⟨g,k*2+1,ZX⟩=ZW L[k].2) (U:g<w.heap.size) (q6:L.length<=cap) :
 ZR ZM 40 #[Z6 (ZW ⟨r,0,ZX⟩),ZZ name,.slice ao d.length c] w (MQ w r L name d):=by
 obtain ⟨c0,f0⟩:=h.cell;have hc:=jG h (by omega) name;obtain ⟨id,f,I,H,G⟩:=Us Tryz.Se;obtain ⟨ib,ks,ke,kf,kg⟩:=Us Tryz.Sv;have h0:¬ name.size=0:=by have:=ky.1;omega
 have n0:¬ (name.size:Int)=0:=by omega
 have n1:¬ (16:Int)<(name.size:Int):=by have:=ky.2;omega
 obtain ⟨n,Y⟩:=nM (d.length);have kz:=vA hd;rw [Y] at kz q4 ⊢;have n2:¬ (1500:Int)<(n:Int):=by omega
 have A:r<w.heap.size:=Ub c0;have p:=aE kz h Y;clear ky h kz hd Y;go_enter func40,ntmps40;go_wp2_with fail;refine hc.mono ?_;rintro e w1 ⟨rfl,hf⟩;rcases hf with ⟨k,hk,rfl,Y,kp⟩|⟨rfl,kk⟩
 . exact absurd Y (q3 k hk)
 clear hc kk q3;go_wp2;go_loopw [8] (λi wr=>PuR w1 L name i wr) (λi _=>L.length-(intOf i).toNat)
 case atStart=>exact ⟨0,T5 _,rfl,rfl,λj _ h=>by omega⟩
 case round=>
  obtain ⟨k,hk,rfl,rfl,T⟩:=hrel;by_cases kv:k<L.length
  . obtain ⟨q1,q2⟩:=M k kv;obtain ⟨nm,kj⟩:=nM (L[k].1);rw [kj] at q1;have kx:(k:Int)<(L.length:Int):=(by omega);cases h6:jx nm name with
    | true=>
     have q5:Op.bytesLess nm.toList name.toList=ZV:=h6;have ka:PuR wr L name (Z7 Z9 ((k+1:Nat):Int)) wr:=⟨k+1,by omega,rfl,rfl,λj l h=>by
      rcases XT (Nat.le_of_lt_succ h) with e|h'
      . subst e;rw [kj];exact h6
      . exact T j l h'⟩
     have HN:=ak ka;clear ka T q2 kj M;go_wp2;refine ⟨by simpa using HN.o,?_⟩;show L.length-((k:Int)+1).toNat<L.length-((k:Int)).toNat;omega
    | false=>
     have q5:Op.bytesLess nm.toList name.toList=ZU:=h6;have S:aK (cD L) name=k:=gH _ _ _ (by unfold cD;rw [T9];omega) (λj l h=>by
      unfold cD at l ⊢;rw [UQ];exact T j (by rwa [T9] at l) h) (λhi=>by simp only [cD,UQ,kj];exact h6)
     have k3:¬ cap=k:=(by omega);have k4:k<=cap:=(by omega);have k5:(k:Int)<=(cap:Int):=(by omega);clear T q2 kj;have B:=al S M;clear S M;go_wp2_with (first
      | (at_builtin;refine ae _ rfl (Z0 48) (Z0 49) 39 39 rfl wr.heap.size 5 ib (Z7 .u8 0) 1 1 Ul ks ke kf kg rfl (Z5 ZX 0 0) 0 [] rfl (UN _ _ _ _) _ rfl n (aH d) p.o.1 (by unfold maxLen;omega) (by omega) lR ?_;intro vb w3 x a V;rw [Ui,Uo] at x;have u:bW wr w3:=⟨a.os,a.tape,a.output,a.size,λj l=>a.block j l (by simp [Value.ownBlock])⟩;have E:=(u.block r A).trans p.o.2.1.top;have c3:w3.cell? ⟨r,0,ZX⟩=ZW (Z5 (ZW ⟨g,0,ZX⟩) L.length cap):=by simp [World.cell?,E]
         have f3:w3.frozen? ⟨r,0,ZX⟩=ZU:=(by simp [World.frozen?,E]);obtain ⟨J,K,rfl⟩:=bB x;have q:=aE x u (vC B.o.2 U u hs (show k<=L.length by omega));clear x a V u E)
      | (at_builtin;refine ae _ rfl (Z0 51) (Z0 57) 51 51 rfl wr.heap.size 82 id _ 2 40 U2 f I H G rfl (Z5 ZX 0 0) 0 [] rfl (UN _ _ _ _) _ rfl (k) (aO (L.take (k))) (q.o.2.2 cap) (by unfold maxLen;omega) (by omega) q.o.2.1.size ?_;intro v4 w4 y b W;rw [Ui,Uo] at y;have N:bW w3 w4:=⟨b.os,b.tape,b.output,b.size,λj l=>b.block j l (by simp [Value.ownBlock])⟩
         obtain ⟨la,lc,rfl⟩:=bB y;have s:=al y N;clear y b W N)
      | (at_builtin;refine ae _ rfl (Z0 59) (Z0 63) 51 51 rfl wr.heap.size 82 id _ 2 40 U2 f I H G rfl (.slice la (k) lc) (k) (aO (L.take (k))) rfl (ay s.o.1 (bA w4 _)) _ rfl 1 [ZZ name,.slice J n K] (sK w4 name J n K) (by unfold maxLen;omega) (by omega) (TU q.o.2.1.size (TU s.o.2.size (bA w4 _).size)) ?_;intro v5 w5 hr O X
         have km:=mG p.o.2.1 q.o.1 q.o.2.1 s.o.1 s.o.2 O;obtain ⟨v,Q⟩:=km;have F:=(v.block r A).trans p.o.2.1.top;have c5:w5.cell? ⟨r,0,ZX⟩=ZW (Z5 (ZW ⟨g,0,ZX⟩) L.length cap):=(by simp [World.cell?,F]);have f5:w5.frozen? ⟨r,0,ZX⟩=ZU:=(by simp [World.frozen?,F]);obtain ⟨ma,mc,rfl⟩:=bB hr;have m:=a5 hr v Q (vD B.o.2 U v hs (show k<=L.length by omega));clear hr O X v Q F)
      | (at_builtin;refine ae _ rfl (Z0 65) (Z0 71) 51 51 rfl wr.heap.size 82 id _ 2 40 U2 f I H G rfl (.slice ma (k+1) mc) (k+1) _ rfl m.o.1 _ rfl (L.length-(k)) (aO (L.drop (k))) (m.o.2.2.2 _) (by unfold maxLen;omega) (by omega) m.o.2.1.size ?_;intro v6 w6 D P Z
         have ko:=kV m.o.1 m.o.2.1 m.o.2.2.1 P;obtain ⟨C,R⟩:=ko;have z:=(C.block r A).trans p.o.2.1.top;have c6:w6.cell? ⟨r,0,ZX⟩=ZW (Z5 (ZW ⟨g,0,ZX⟩) L.length cap):=(by simp [World.cell?,z]);have f6:w6.frozen? ⟨r,0,ZX⟩=ZU:=(by simp [World.frozen?,z]);obtain ⟨na,nc,rfl⟩:=bB D;have t:=a5 D C R z;clear D P Z C R z))
     all_goals (go_ret;exact ph p.o.2.2 B.o.1 t.o.1 t.o.2.1 t.o.2.2.1 t.o.2.2.2 A)
  . have q0:k=L.length:=(by omega);have kx:¬ (k:Int)<(L.length:Int):=(by omega);have S:aK (cD L) name=k:=gH _ _ _ (by unfold cD;rw [T9];omega) (λj l h=>by
     unfold cD at l ⊢;rw [UQ];exact T j (by rwa [T9] at l) h) (λhi=>by unfold cD at hi;rw [T9] at hi;omega)
    have HK:=ak q0;clear T q0;by_cases kr:cap=k
    . subst kr;clear q6 kv;have B:=al S M;clear S M;go_wp2_with (first
       | (at_builtin;refine ae _ rfl (Z0 48) (Z0 49) 39 39 rfl wr.heap.size 5 ib (Z7 .u8 0) 1 1 Ul ks ke kf kg rfl (Z5 ZX 0 0) 0 [] rfl (UN _ _ _ _) _ rfl n (aH d) p.o.1 (by unfold maxLen;omega) (by omega) lR ?_;intro vb w3 x a V;rw [Ui,Uo] at x;have u:bW wr w3:=⟨a.os,a.tape,a.output,a.size,λj l=>a.block j l (by simp [Value.ownBlock])⟩;have E:=(u.block r A).trans p.o.2.1.top;have c3:w3.cell? ⟨r,0,ZX⟩=ZW (Z5 (ZW ⟨g,0,ZX⟩) L.length cap):=by simp [World.cell?,E]
          have f3:w3.frozen? ⟨r,0,ZX⟩=ZU:=(by simp [World.frozen?,E]);obtain ⟨J,K,rfl⟩:=bB x;have q:=aE x u (vC B.o.2 U u hs (show cap<=L.length by omega));clear x a V u E)
       | (at_builtin;refine ae _ rfl (Z0 51) (Z0 57) 51 51 rfl wr.heap.size 82 id _ 2 40 U2 f I H G rfl (Z5 ZX 0 0) 0 [] rfl (UN _ _ _ _) _ rfl (cap) (aO (L.take (cap))) (q.o.2.2 cap) (by unfold maxLen;omega) (by omega) q.o.2.1.size ?_;intro v4 w4 y b W;rw [Ui,Uo] at y;have N:bW w3 w4:=⟨b.os,b.tape,b.output,b.size,λj l=>b.block j l (by simp [Value.ownBlock])⟩
          obtain ⟨la,lc,rfl⟩:=bB y;have s:=al y N;clear y b W N)
       | (at_builtin;refine ae _ rfl (Z0 59) (Z0 63) 51 51 rfl wr.heap.size 82 id _ 2 40 U2 f I H G rfl (.slice la (cap) lc) (cap) (aO (L.take (cap))) rfl (ay s.o.1 (bA w4 _)) _ rfl 1 [ZZ name,.slice J n K] (sK w4 name J n K) (by unfold maxLen;omega) (by omega) (TU q.o.2.1.size (TU s.o.2.size (bA w4 _).size)) ?_;intro v5 w5 hr O X
          have km:=mG p.o.2.1 q.o.1 q.o.2.1 s.o.1 s.o.2 O;obtain ⟨v,Q⟩:=km;have F:=(v.block r A).trans p.o.2.1.top;have c5:w5.cell? ⟨r,0,ZX⟩=ZW (Z5 (ZW ⟨g,0,ZX⟩) L.length cap):=(by simp [World.cell?,F]);have f5:w5.frozen? ⟨r,0,ZX⟩=ZU:=(by simp [World.frozen?,F]);obtain ⟨ma,mc,rfl⟩:=bB hr;have m:=a5 hr v Q (vD B.o.2 U v hs (show cap<=L.length by omega));clear hr O X v Q F)
       | (at_builtin;refine ae _ rfl (Z0 65) (Z0 71) 51 51 rfl wr.heap.size 82 id _ 2 40 U2 f I H G rfl (.slice ma (cap+1) mc) (cap+1) _ rfl m.o.1 _ rfl (L.length-(cap)) (aO (L.drop (cap))) (yX HK.o _ _ _) (by unfold maxLen;omega) (by omega) m.o.2.1.size ?_;intro v6 w6 D P Z
          have ko:=kV m.o.1 m.o.2.1 m.o.2.2.1 P;obtain ⟨C,R⟩:=ko;have z:=(C.block r A).trans p.o.2.1.top;have c6:w6.cell? ⟨r,0,ZX⟩=ZW (Z5 (ZW ⟨g,0,ZX⟩) L.length cap):=(by simp [World.cell?,z]);have f6:w6.frozen? ⟨r,0,ZX⟩=ZU:=(by simp [World.frozen?,z]);obtain ⟨na,nc,rfl⟩:=bB D;have t:=a5 D C R z;clear D P Z C R z))
      all_goals (go_ret;exact ph p.o.2.2 B.o.1 t.o.1 t.o.2.1 t.o.2.2.1 t.o.2.2.2 A)
    . have k4:k<=cap:=(by omega);have k5:(k:Int)<=(cap:Int):=(by omega);clear kv;have B:=al S M;clear S M;go_wp2_with (first
       | (at_builtin;refine ae _ rfl (Z0 48) (Z0 49) 39 39 rfl wr.heap.size 5 ib (Z7 .u8 0) 1 1 Ul ks ke kf kg rfl (Z5 ZX 0 0) 0 [] rfl (UN _ _ _ _) _ rfl n (aH d) p.o.1 (by unfold maxLen;omega) (by omega) lR ?_;intro vb w3 x a V;rw [Ui,Uo] at x;have u:bW wr w3:=⟨a.os,a.tape,a.output,a.size,λj l=>a.block j l (by simp [Value.ownBlock])⟩;have E:=(u.block r A).trans p.o.2.1.top;have c3:w3.cell? ⟨r,0,ZX⟩=ZW (Z5 (ZW ⟨g,0,ZX⟩) L.length cap):=by simp [World.cell?,E]
          have f3:w3.frozen? ⟨r,0,ZX⟩=ZU:=(by simp [World.frozen?,E]);obtain ⟨J,K,rfl⟩:=bB x;have q:=aE x u (vC B.o.2 U u hs (show k<=L.length by omega));clear x a V u E)
       | (at_builtin;refine ae _ rfl (Z0 51) (Z0 57) 51 51 rfl wr.heap.size 82 id _ 2 40 U2 f I H G rfl (Z5 ZX 0 0) 0 [] rfl (UN _ _ _ _) _ rfl (k) (aO (L.take (k))) (q.o.2.2 cap) (by unfold maxLen;omega) (by omega) q.o.2.1.size ?_;intro v4 w4 y b W;rw [Ui,Uo] at y;have N:bW w3 w4:=⟨b.os,b.tape,b.output,b.size,λj l=>b.block j l (by simp [Value.ownBlock])⟩
          obtain ⟨la,lc,rfl⟩:=bB y;have s:=al y N;clear y b W N)
       | (at_builtin;refine ae _ rfl (Z0 59) (Z0 63) 51 51 rfl wr.heap.size 82 id _ 2 40 U2 f I H G rfl (.slice la (k) lc) (k) (aO (L.take (k))) rfl (ay s.o.1 (bA w4 _)) _ rfl 1 [ZZ name,.slice J n K] (sK w4 name J n K) (by unfold maxLen;omega) (by omega) (TU q.o.2.1.size (TU s.o.2.size (bA w4 _).size)) ?_;intro v5 w5 hr O X
          have km:=mG p.o.2.1 q.o.1 q.o.2.1 s.o.1 s.o.2 O;obtain ⟨v,Q⟩:=km;have F:=(v.block r A).trans p.o.2.1.top;have c5:w5.cell? ⟨r,0,ZX⟩=ZW (Z5 (ZW ⟨g,0,ZX⟩) L.length cap):=(by simp [World.cell?,F]);have f5:w5.frozen? ⟨r,0,ZX⟩=ZU:=(by simp [World.frozen?,F]);obtain ⟨ma,mc,rfl⟩:=bB hr;have m:=a5 hr v Q (vD B.o.2 U v hs (show k<=L.length by omega));clear hr O X v Q F)
       | (at_builtin;refine ae _ rfl (Z0 65) (Z0 71) 51 51 rfl wr.heap.size 82 id _ 2 40 U2 f I H G rfl (.slice ma (k+1) mc) (k+1) _ rfl m.o.1 _ rfl (L.length-(k)) (aO (L.drop (k))) (yX HK.o _ _ _) (by unfold maxLen;omega) (by omega) m.o.2.1.size ?_;intro v6 w6 D P Z
          have ko:=kV m.o.1 m.o.2.1 m.o.2.2.1 P;obtain ⟨C,R⟩:=ko;have z:=(C.block r A).trans p.o.2.1.top;have c6:w6.cell? ⟨r,0,ZX⟩=ZW (Z5 (ZW ⟨g,0,ZX⟩) L.length cap):=(by simp [World.cell?,z]);have f6:w6.frozen? ⟨r,0,ZX⟩=ZU:=(by simp [World.frozen?,z]);obtain ⟨na,nc,rfl⟩:=bB D;have t:=a5 D C R z;clear D P Z C R z))
      all_goals (go_ret;exact ph p.o.2.2 B.o.1 t.o.1 t.o.2.1 t.o.2.2.1 t.o.2.2.2 A)
theorem MT (h:rQ w r base (Z5 ZX 0 0) []) (name:ByteArray) (ao:Option ZQ) (c:Nat) (d:a8) (O:Bs w (.slice ao d.length c) d) (kb:d.length<=1500) (I:eK name) :
 ZR ZM 40 #[Z6 (ZW ⟨r,0,ZX⟩),ZZ name,.slice ao d.length c] w (MQ w r [] name d):=by
 obtain ⟨c0,f0⟩:=h.cell;have N:=jG h (by simp) name;obtain ⟨id,b,F,D,B⟩:=Us Tryz.Se;obtain ⟨ib,kc,hq,hr,hs⟩:=Us Tryz.Sv;have h0:¬ name.size=0:=by have:=I.1;omega
 have n0:¬ (name.size:Int)=0:=by omega
 have n1:¬ (16:Int)<(name.size:Int):=by have:=I.2;omega
 obtain ⟨n,E⟩:=nM (d.length);have J:=vA O;rw [E] at J kb ⊢;have n2:¬ (1500:Int)<(n:Int):=by omega
 have v:r<w.heap.size:=Ub c0;have f:=aE J h E;clear I h J O E;go_enter func40,ntmps40;go_wp2_with fail;refine N.mono ?_;rintro e w1 ⟨rfl,hf⟩;rcases hf with ⟨k,hk,_⟩|⟨rfl,_⟩
 . exact absurd hk (by simp)
 clear N;go_wp2;go_loopw [8] (λi wr=>i=Z7 Z9 0/\wr=w1) (λ_ _=>0)
 case atStart=>exact ⟨rfl,rfl⟩
 case round=>
  obtain ⟨rfl,rfl⟩:=hrel;go_wp2_with (first
   | (at_builtin;refine ae _ rfl (Z0 48) (Z0 49) 39 39 rfl wr.heap.size 5 ib (Z7 .u8 0) 1 1 Ul kc hq hr hs rfl (Z5 ZX 0 0) 0 [] rfl (UN _ _ _ _) _ rfl n (aH d) f.o.1 (by unfold maxLen;omega) (by omega) lR ?_;intro vb w3 t g W;rw [Ui,Uo] at t;have y:bW wr w3:=⟨g.os,g.tape,g.output,g.size,λj C=>g.block j C (by simp [Value.ownBlock])⟩;have S:=(y.block r v).trans f.o.2.1.top;have c3:w3.cell? ⟨r,0,ZX⟩=ZW (Z5 ZX 0 0):=by simp [World.cell?,S]
      obtain ⟨K,M,rfl⟩:=bB t;have p:=al t y;clear t g W y S)
   | (at_builtin;refine ae _ rfl (Z0 51) (Z0 57) 51 51 rfl wr.heap.size 82 id _ 2 40 U2 b F D B rfl (Z5 ZX 0 0) 0 [] rfl (UN _ _ _ _) _ rfl 0 [] (XS _ U2 0) (by unfold maxLen;omega) (by omega) p.o.2.size ?_;intro v4 w4 u l X;rw [Ui,Uo] at u;have P:bW w3 w4:=⟨l.os,l.tape,l.output,l.size,λj C=>l.block j C (by simp [Value.ownBlock])⟩
      obtain ⟨la,lc,rfl⟩:=bB u;have q:=al u P;clear u l X P)
   | (at_builtin;refine ae _ rfl (Z0 59) (Z0 63) 51 51 rfl wr.heap.size 82 id _ 2 40 U2 b F D B rfl (.slice la 0 lc) 0 [] rfl (ay q.o.1 (bA w4 _)) _ rfl 1 [ZZ name,.slice K n M] (sK w4 name K n M) (by unfold maxLen;omega) (by omega) (TU p.o.2.size (TU q.o.2.size (bA w4 _).size)) ?_;intro v5 w5 G Q Y
      have ke:=mG f.o.2.1 p.o.1 p.o.2 q.o.1 q.o.2 Q;obtain ⟨z,U⟩:=ke;have T:=(z.block r v).trans f.o.2.1.top;have c5:w5.cell? ⟨r,0,ZX⟩=ZW (Z5 ZX 0 0):=(by simp [World.cell?,T]);obtain ⟨ma,mc,rfl⟩:=bB G;have m:=aE G z U;clear G Q Y z U T)
   | (at_builtin;refine ae _ rfl (Z0 65) (Z0 71) 51 51 rfl wr.heap.size 82 id _ 2 40 U2 b F D B rfl (.slice ma 1 mc) 1 _ rfl m.o.1 _ rfl 0 [] (XS _ U2 0) (by unfold maxLen;omega) (by omega) m.o.2.1.size ?_;intro v6 w6 H R Z
      have kf:=kV m.o.1 m.o.2.1 m.o.2.2 R;obtain ⟨A,V⟩:=kf;have x:=(A.block r v).trans f.o.2.1.top;have c6:w6.cell? ⟨r,0,ZX⟩=ZW (Z5 ZX 0 0):=(by simp [World.cell?,x]);have f6:w6.frozen? ⟨r,0,ZX⟩=ZU:=(by simp [World.frozen?,x]);obtain ⟨na,nc,rfl⟩:=bB H;have s:=a5 H A V x;clear H R Z A V x))
  all_goals (go_ret;exact ph (a:=0) (L:=[]) f.o.2.2 rfl s.o.1 s.o.2.1 s.o.2.2.1 s.o.2.2.2 v)
def GQ {L:List (ByteArray×ZS)} (h:rQ w r base v L) (hl:L.length<=100000) (hs:∀ o∈L,kD o.2) (name:ByteArray) (ao:Option ZQ) (c:Nat) (d:a8) (i:Bs w (.slice ao d.length c) d) (e:d.length<=1500) (f:eK name) (s:pK L name) :
 ZR ZM 40 #[Z6 (ZW ⟨r,0,ZX⟩),ZZ name,.slice ao d.length c] w (MQ w r L name d):=by
 rcases h.shape with ⟨rfl,rfl⟩|⟨g,cap,rfl,u,n,m⟩
 . exact MT h name ao c d i e f
 . have p:g<w.heap.size:=by
    rcases h.own.2 with ⟨q,_⟩|⟨l,a,cur,b,t,k,_⟩
    . cases q
    . have j:g=l:=by
       simp only [VH,UF,abw] at b;exact b.1.1
      rw [j];exact (TX.1 k).1
   exact MR h hl hs name ao c d i e f s m p n
def en2 (o:Ob):List ZS:=[ZZ o.name,Z7 Z9 (o.size:Nat)]
def l9 (os:List Ob):List ZS:=os.flatMap en2
def Jq (os:List Ob) (k:Nat) (a:k<os.length):l9 (os.take (k+1))=l9 (os.take k)++en2 os[k]:=by
 unfold l9;rw [Vh,Ua a,WD];simp
def Tryz.Tb:(ZM.info? 80).map (λi=>(i.zero,i.size,i.bytes))=ZW (ZW (.agg #[ZZ YF,Z7 Z9 0]),2,24):=by kernel_rfl
def LiR (w:ZT) (q:Nat) (os:List Ob) (i:ZS) (wr:ZT):Prop:=∃ k:Nat,k<=os.length/\i=Z7 Z9 (k:Nat)/\∃ u,ZN wr q 76 u/\wr.ownsRow w.heap.size 80 2 u k (l9 (os.take k))/\aa (λj=>j=q) w wr
theorem Jr {q1 q2 v f:Nat} (O:ZN w q1 106 (Z6 (ZW ⟨ar,0,ZX⟩))) (P:ZN w q2 76 (Z5 ZX 0 0)) (R:bf w ar v D L G t f n pg ob ZU) (A:eN K w ob os) (hK:∀ k,K k->k≠q2) (ke:os.length<=10000) :
 ZR ZM 61 #[Z6 (ZW ⟨q1,0,ZX⟩),Z6 (ZW ⟨q2,0,ZX⟩)] w λe w'=>e=Z3 .nilIface/\∃ u,ZN w' q2 76 u/\w'.ownsRow w.heap.size 80 2 u os.length (l9 os)/\aa (λj=>j=q2) w w':=by
 obtain ⟨_,_,_,_,N⟩:=R.cells;have g1:=O.cell;obtain ⟨ie,k6,hf,hg,hh⟩:=Us Tryz.Tb;obtain ⟨oo,oc,rfl,hol,_⟩:=id A;obtain ⟨y,X⟩:=nM (os.length);rw [X] at N;have H:=aE P A X;have kb:y<=10000:=by omega
 clear O P R A hol;go_enter func61,ntmps61;go_wp2;go_loopw [10] (λi wr=>LiR w q2 os i wr) (λi _=>y-(intOf i).toNat)
 case atStart=>exact ⟨0,T5 _,rfl,_,H.o.1,UN _ _ _ _,aa.refl _ _⟩
 case round=>
  clear N g1;obtain ⟨k,hk,rfl,u,m,ho,a⟩:=hrel;by_cases V:k<os.length
  . have hs:eu K w wr:=⟨a.size,λj g k5=>a.block j g (λe=>hK j k5 e)⟩;obtain ⟨b,off,sv,rfl,hb,_,r1,r2,r3,Z⟩:=(H.o.2.1.keep hs).at' (k:=k) V;obtain ⟨sa,sc,rfl,_⟩:=id Z;obtain ⟨nm,C⟩:=nM (os[k].name);obtain ⟨c,F⟩:∃ c:Int,((os[k].size:Nat):Int)=c:=⟨_,rfl⟩;obtain ⟨sl,Y⟩:=nM (os[k].RL.length);have x:l9 (os.take (k+1))=l9 (os.take k)++[ZZ nm,Z7 Z9 c]:=(by rw [Jq os k V];unfold en2;rw [C,F]);rw [C] at r1;rw [F] at r2;rw [Y] at r3;have k9:(k:Int)<(y:Int):=(by omega);obtain ⟨w3,I⟩:=nM (wr.alloc (Z4 #[ZZ nm,Z7 Z9 c,.slice sa sl sc] 137));have B:an w3 wr.heap.size 137 [ZZ nm,Z7 Z9 c,.slice sa sl sc]:=(by rw [<- I];exact UE wr _);have r:bW wr w3:=(by rw [<- I];exact bA wr _);have ka:w3.heap.size=wr.heap.size+1:=(by rw [<- I];simp);have x0:=B.cell (j:=0) (u:=ZZ nm) rfl;have x1:=B.cell (j:=1) (u:=Z7 Z9 c) rfl;have hr:ZN w3 q2 76 u:=(r.block _ m.lt).trans m;have xq:=hr.cell;have U:an (w3.alloc (Z4 #[ZZ nm,Z7 Z9 c] 80)) w3.heap.size 80 [ZZ nm,Z7 Z9 c]:=UE w3 _;have h:bW wr (w3.alloc (Z4 #[ZZ nm,Z7 Z9 c] 80)):=r.alloc (by omega) _;have z:Src ZM 2 76 (Z5 (ZW ⟨w3.heap.size,0,ZX⟩) 1 1) 1 [ZZ nm,Z7 Z9 c] (w3.alloc (Z4 #[ZZ nm,Z7 Z9 c] 80)):=
     Vn _ underlying76 ⟨w3.heap.size,0,ZX⟩ 1 1 [ZZ nm,Z7 Z9 c] rfl (λj u g=>by rw [Vr,Ui];exact U.cell g) (λu T=>by
      simp only [Uw,W5,or_false] at T;rcases T with rfl|rfl<;>rfl)
    have E:(w3.alloc (Z4 #[ZZ nm,Z7 Z9 c] 80)).ownsRow w.heap.size 80 2 u k (l9 (os.take k)):=ay ho h;have d:=hide8 m ho a z E h x r;have kc:IntKind.i64.wrap ((k:Int)+1)=(k:Int)+1:=(by rw [UB];omega);clear m ho a z E h x r B U hr hs Z C F Y hb ka;go_wp2_with (at_builtin;refine ae _ rfl (Z0 14) (Z0 20) 76 76 rfl w.heap.size 80 ie _ 2 24 underlying76 k6 hf hg hh rfl u k (l9 (os.take k)) (by rfl) (by exact d.o.2.2.2.2.1) _ (by rfl) 1 [ZZ nm,Z7 Z9 c] (by exact d.o.2.2.2.1) (by unfold maxLen;omega) (by omega) (by exact TU d.o.2.2.1.size d.o.2.2.2.2.2.1.size) ?_;intro v7 s q l he;have p:ZN s q2 76 u:=(l.block _ (TZ d.o.1.lt d.o.2.2.2.2.2.1.size) (λe=>bF d.o.2.1 d.o.1 (by decide) e.symm)).trans ((d.o.2.2.2.2.2.1.block _ d.o.1.lt).trans d.o.1);have z0:=p.cell;have z1:=p.frozen;obtain ⟨J,M,rfl⟩:=bE q;have H7:=aE q l p;clear q l he p);obtain ⟨m,ho,a,z,E,h,x,r⟩:=d.o;obtain ⟨q,l,p⟩:=H7.o;have hn:ZN (s.setCell ⟨q2,0,ZX⟩ (.slice J (k+1) M)) q2 76 (.slice J (k+1) M):=p.set _;have Q:∀ j,j≠q2->(s.setCell ⟨q2,0,ZX⟩ (.slice J (k+1) M)).heap[j]?=s.heap[j]?:=λj g=>Ud _ _ _ _ g;have kg:=l.size;have kf:=h.size;refine ⟨⟨k+1,by omega,by go_num,_,hn,?_,?_⟩,?_⟩
    . rw [x];exact bV q (S:=λj=>j=q2) ⟨rfl,rfl,rfl,by simp [World.setCell],λj _ g=>Q j g⟩ λj g e=>bF q (e▸p:s.heap[j]?=_) (by decide) g
    . refine ⟨l.os.trans (h.os.trans a.os),l.tape.trans (h.tape.trans a.tape),l.output.trans (h.output.trans a.output),by have:=a.size;simp [World.setCell];omega,λj g W=>?_⟩;have k7:j<wr.heap.size:=TZ g a.size;exact (Q j W).trans ((l.block j (by omega) (λe=>by have:=eh ho e.symm;omega)).trans ((h.block j k7).trans (a.block j g W)))
    . simp only [intOf];omega
  . have k8:k=y:=(by have:=H.o.2.2;omega);subst k8;have HF:=aE m ho a;clear m ho a;go_wp2;go_ret;obtain ⟨m,ho,a⟩:=HF.o;refine ⟨rfl,u,m,?_,a⟩;rw [UI (by have:=H.o.2.2;omega),<- H.o.2.2] at ho;exact ho
def MU (w:ZT) (xs:aZ) (e:ZP) (w':ZT):Prop:=∃ u,e=Z3 (ZY #[u,.nilIface])/\bW w w'/\w'.ownsRow w.heap.size 80 2 u xs.os.length (l9 xs.os)
def Js {l:List ZS} (h:w.ownsRow base 80 2 u n l) (i:w.heap[b]?=ZW (Z4 #[.nilIface] 63 (0,0))) (k:∀ j,j≠b->w'.heap[j]?=w.heap[j]?):w'.ownsRow base 80 2 u n l:=by
 refine ⟨h.1,?_⟩;rcases h.2 with f|⟨g,cap,cur,c,d,a,m⟩
 . exact .inl f
 . exact .inr ⟨g,cap,cur,c,d,(k g (λe=>by subst e;rw [i] at a;cases a)).trans a,m⟩
theorem aaK {v:Nat} {ps:aN} {xs:aZ} (h:aT w ar v p ps D L G t pg ob P xs A F) :
 ZR ZM 45 #[Z6 (ZW ⟨ar,0,ZX⟩)] w (MU w xs):=by
 have hm:∀ (args:Array ZS) (w:ZT),(callFunc 61 args).run ZM w=.ok (.enter 61 args) w:=Ve func61 (by kernel_rfl) rfl;obtain ⟨w3,I⟩:=nM ((w.alloc (Z4 #[Z6 (ZW ⟨ar,0,ZX⟩)] 106)).alloc (Z4 #[Z5 ZX 0 0] 76));have x:ZN w3 w.heap.size 106 (Z6 (ZW ⟨ar,0,ZX⟩)):=by rw [<- I];exact (Ut w _ _).alloc _
 have y:ZN w3 (w.heap.size+1) 76 (Z5 ZX 0 0):=by
  have:=Ut (w.alloc (Z4 #[Z6 (ZW ⟨ar,0,ZX⟩)] 106)) 76 (Z5 ZX 0 0);rw [Uq] at this;rw [<- I];exact this
 have m:bW w w3:=by rw [<- I];exact (bA w _).alloc (by simp) _
 have Q:=h.below m;have hx:=y.lt;have R:=AE Q 61 #[] #[Z6 (ZW ⟨w.heap.size,0,ZX⟩),Z6 (ZW ⟨w.heap.size+1,0,ZX⟩)] hm
  (λr U xs' B q w2=>r=.nilIface/\xs'=xs/\(∀ j,j<w.heap.size->w2.heap[j]?=w.heap[j]?)/\∃ u,ZN w2 (w.heap.size+1) 76 u/\w2.ownsRow w.heap.size 80 2 u xs.os.length (l9 xs.os)) (λj=>j=w.heap.size+1) (λj e=>by omega)
  (λr U xs' B q w2 w' l=>by
   rintro ⟨X,Y,Z,u,z,ho⟩;exact ⟨X,Y,λj f=>(l.2.2 j (by omega)).trans (Z j f),u,(l.2.2 _ (λe=>by have K:=l.1;rw [<- e,z] at K;cases K)).trans z,Js ho l.1 l.2.2⟩)
  (λw1 E hv=>by
   have i:bW w w1:=m.trans (E.mono m.size);have hq:=h.below i;have hC:eN (λk=>k<w.heap.size) w1 ob xs.os:=h.cat.any.keep (eu.RM i);refine (Jr ((E.block _ x.lt).trans x) ((E.block _ y.lt).trans y) hq.arc hC (λk T=>by omega) (by have:=h.Si.1;omega)).mono ?_;rintro e w2 ⟨rfl,u,z,ho,N⟩;have O:bW w w2:=i.trans (N.below (B:=w.heap.size) λk T=>⟨TZ T i.size,by omega⟩);exact ⟨_,t,pg,ob,P,xs,A,ps,rfl,.inl rfl,h.below O,dZ.refl A,N.mono λj _ f=>.inr (.inr f),rfl,rfl,λj f=>O.block j f,u,z,cY ho i.size⟩)
 have c1:=x.cell;have H:=aE R m h;clear R m x y h Q;go_enter func45,ntmps45;go_wp2_with fail;refine H.o.1.mono ?_;rintro e J ⟨r,U,hd,hb,P',xs',B,q,rfl,hs,hr,hp,b,rfl,rfl,C,u,a,d⟩;have y0:=a.cell;have y1:=a.frozen;obtain ⟨ao,c,rfl⟩:=bE d;obtain ⟨n,g⟩:=nM (xs'.os.length);rw [g] at y0 a;have V:=a6 b d a C g;clear hr b d a C hs hp g;go_wp2;obtain ⟨b,d,a,C,g⟩:=V.o;have W:=(a.set (.slice ao n c)).cell;refine Ur (v:=ZY #[.slice ao n c,.nilIface]) (by simp [results,results45,go_sem,W]) rfl ?_;have M:bW J (J.setCell ⟨w.heap.size+1,0,ZX⟩ (.slice ao n c)):=⟨rfl,rfl,rfl,by simp [World.setCell],λj f=>by
  by_cases e:j=w.heap.size+1
  . subst e;exact (a.set (.slice ao n c)).trans a.symm
  . exact Ud _ _ _ _ e⟩
 rw [g] at d;have s:=H.o.2.1;have S:w.heap.size<=J.heap.size:=TU s.size b.size;exact ⟨_,rfl,(Below.mk (b.os.trans s.os) (b.tape.trans s.tape) (b.output.trans s.output) S C).trans (M.mono S),by rw [g];exact ay d M⟩
theorem aaL {sa v:Nat} {ps:aN} {xs:aZ} (hs:ZN w sa 108 (Z6 (ZW ⟨ar,0,ZX⟩))) (h:aT w ar v p ps D L G t pg ob P xs A F) :
 ZR ZM 30 #[Z6 (ZW ⟨sa,0,ZX⟩)] w (MU w xs):=by
 have cs:=hs.cell;have b:=aaK h;clear hs h;go_enter func30,ntmps30;go_wp2_with fail;refine b.mono ?_;rintro e d ⟨u,rfl,a⟩;have c:=ak a;clear a b;go_wp2;go_ret2;exact ⟨u,rfl,c.o⟩
