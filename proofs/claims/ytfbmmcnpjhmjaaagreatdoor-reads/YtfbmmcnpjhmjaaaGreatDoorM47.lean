import Derived.Test.YtfbmmcnpjhmjaaaGreatDoorM42
set_option maxRecDepth 100000
set_option maxHeartbeats 8000000
open Go.IntKind renaming i64 -> Z9
open Go.Value renaming int -> Z8, pointer -> Z7, slice -> Z6, string -> Z5
open Option renaming none -> Z4, some -> Z3
open Go renaming World -> Z2
open Go.Proofs.YtfbmmcnpjhmjaaaGreatDoor renaming pgs -> Tm
open List renaming length_take -> Tn, length_drop -> Ts, mem_of_mem_drop -> Tt, mem_of_mem_take -> Tu, getElem_mem -> Tv, getElem?_map -> TA, getElem?_eq_getElem -> TB, mem_flatMap -> TC, mem_append -> TD, mem_append_left -> TE, take_append_drop -> TF
open Nat renaming le_trans -> To, div_le_div_left -> Tp, succ_mul -> Tr, eq_zero_or_pos -> Tx, le_div_iff_mul_le -> Ty
open Option.some renaming injEq -> Tq
open Int renaming natCast_mul -> Tw
open Array renaming getElem?_eq_some_iff -> Tz
open Go.Proofs.Tryz renaming prog -> Z1
namespace Go.Proofs.YtfbmmcnpjhmjaaaGreatDoor
open Go.RowKit Go.Deep Gf
variable {A B:aB} {F:bx} {ps:dD} {P l:List Nat} {ar v p D L G t n m b k base g cap a c1:Nat} {K:Nat->Prop} {xs:bg} {pg ob:Value} {w:Z2}
def qQ (n:Int):Value:=.iface 66 (Z8 Z9 n)
def nC (w:Z2) (n:Int) (e:Ending) (w':Z2):Prop:=e=.returned (qQ n)/\Below w.heap.size w w'
theorem Bm (h:bf w ar v p ps D L G t pg ob P xs A F) (x:ByteArray) (j:Value) (g:bB x=false) :
 Calls Z1 70 #[Z7 (Z3 ⟨ar,0,Z4⟩),Z5 x,j] w (nC w 6):=by
 obtain ⟨_,_,_,_,f⟩:=h.arc.cells;have a:=h.find x;obtain ⟨k,d⟩:=nM (aF xs.names x);obtain ⟨i,c⟩:=nM (lO xs.os x);rw [d,c] at a;clear d c h;go_enter Tryz.func70,Tryz.ntmps70;go_wp2_with fail;refine a.mono ?_;rintro e w1 ⟨rfl,b⟩;have H:=hide b;clear b a f;go_wp2_with fail;refine (du x w1).mono ?_;rintro e w2 ⟨rfl,rfl⟩;rw [g];dsimp only;go_wp2;go_ret;exact ⟨rfl,H.out⟩
theorem Bn (h:bf w ar v p ps D L G t pg ob P xs A F) (x:ByteArray) (g:Option Addr) (n c:Nat) (l:bB x=true) (o:1500<n) :
 Calls Z1 70 #[Z7 (Z3 ⟨ar,0,Z4⟩),Z5 x,.slice g n c] w (nC w 7):=by
 obtain ⟨_,_,_,_,j⟩:=h.arc.cells;have a:=h.find x;obtain ⟨k,f⟩:=nM (aF xs.names x);obtain ⟨i,d⟩:=nM (lO xs.os x);rw [f,d] at a;have m:(1500:Int)<(n:Int):=by omega
 clear f d h;go_enter Tryz.func70,Tryz.ntmps70;go_wp2_with fail;refine a.mono ?_;rintro e w1 ⟨rfl,b⟩;have H:=hide b;clear b a j;go_wp2_with fail;refine (du x w1).mono ?_;rintro e w2 ⟨rfl,rfl⟩;rw [l];dsimp only;go_wp2;go_ret;exact ⟨rfl,H.out⟩
theorem uL (h:bf w ar v p ps D L G t pg ob P xs A F) (x:ByteArray) (g:Option Addr) (n c:Nat) (j:bB x=true) (m:n<=1500) (f:x∈xs.names) :
 Calls Z1 70 #[Z7 (Z3 ⟨ar,0,Z4⟩),Z5 x,.slice g n c] w (nC w 8):=by
 obtain ⟨_,_,_,_,i⟩:=h.arc.cells;have a:=h.find x;obtain ⟨k,d⟩:=nM (aF xs.names x);rw [d,h.there f] at a;have l:¬ (1500:Int)<(n:Int):=by omega
 clear d h f;go_enter Tryz.func70,Tryz.ntmps70;go_wp2_with fail;refine a.mono ?_;rintro e w1 ⟨rfl,b⟩;have H:=hide b;clear b a i;go_wp2_with fail;refine (du x w1).mono ?_;rintro e w2 ⟨rfl,rfl⟩;rw [j];dsimp only;go_wp2;go_ret;exact ⟨rfl,H.out⟩
def iM (D n:Nat):Nat:=max 1 ((n+D*44-1)/(D*44))
def pL (D m n:Nat):Nat:=Tm D (m+(19+4*iM D n))
theorem ru (g:1<=D) (d:n<=1500):iM D n<=36:=by
 unfold iM;have e:(n+D*44-1)/(D*44)<=n/(D*44)+1:=by
  have:=AX (D*44) n (by omega);exact To (Nat.le_max_right _ _) this
 have f:n/(D*44)<=1500/44:=by
  have a:=Nat.div_le_div_right (c:=D*44) d;have b:1500/(D*44)<=1500/44:=Tp (by omega) (by decide);omega
 omega
theorem yZ (e:1<=D) (f:m<=2000000):Tm D m<=1000000:=by
 unfold Tm;have:(m+(D*44-4)-1)/(D*44-4)<=(m+(D*44-4)-1)/40:=Tp (by omega) (by decide);have a:(m+(D*44-4)-1)/(D*44-4)<=m/40+1:=by
  refine To ((Nat.div_le_iff_le_mul_add_pred (by omega)).2 ?_) lR;have b:40*(m/40+1)<=(D*44-4)*(m/40+1):=Nat.mul_le_mul_right _ (by omega);have c:=Nat.div_add_mod m 40;have d:=Nat.mod_lt m (show 40>0 by decide);omega
 omega
theorem Bo (h:bf w ar v p ps D L G t pg ob P xs A F) (x:ByteArray) (Y:Option Addr) (n c:Nat) (hx:bB x=true) (hn:n<=1500) (U:x∉xs.names) (g:A.nb<(ai xs.os).length+iM D n+2*pL D (aC xs.os).length n+2) :
 Calls Z1 70 #[Z7 (Z3 ⟨ar,0,Z4⟩),Z5 x,.slice Y n c] w (nC w 10):=by
 obtain ⟨_,_,_,_,Z⟩:=h.arc.cells;have B:=h.find x;obtain ⟨k,T⟩:=nM (aF xs.names x);rw [T,h.notThere U] at B;have k6:¬ (1500:Int)<(n:Int):=by omega
 have z:=h.par.d1;have hz:=h.par.d;have k0:=h.packL_le;have hy:=ru z hn;have S:pL D (aC xs.os).length n<=1000000:=yZ z (by omega);have hv:=h.few.2.1;obtain ⟨len,r⟩:=nM ((aC xs.os).length);obtain ⟨cnt,o⟩:=nM (iM D n);obtain ⟨pgn,s⟩:=nM (pL D len n);rw [r] at S g k0;rw [s] at S g;rw [o] at hy g;have b:=hide5 h o s r g;clear T h U r o s g;go_enter Tryz.func70,Tryz.ntmps70;go_wp2_with fail;refine B.mono ?_;rintro e w1 ⟨rfl,N⟩;have H:=hide N;clear N B Z;go_wp2_with fail;refine (du x w1).mono ?_;rintro e w2 ⟨rfl,rfl⟩;rw [hx];dsimp only;have f:=b.out.1.below H.out;obtain ⟨d0,_,K,_,_⟩:=f.arc.cells;rw [b.out.2.2.2.1] at K;have I:=dr f.vol.vol (by omega);obtain ⟨q,J⟩:=nM (D*44);rw [J] at I;have E:=mR n q (by omega) ⟨by omega,by omega⟩ w2;have Q:max 1 ((n+q-1)/q)=cnt:=by rw [<- b.out.2.1,<- J];rfl
 rw [Q] at E;have C:=λW=>nu cnt (by omega) W;obtain ⟨pk,u⟩:=nM (19+4*cnt);have V:∀ W,W.heap=w2.heap->Calls Z1 83 #[Z7 (Z3 ⟨ar,0,Z4⟩),Z8 Z9 ((len:Int)+(pk:Int))] W λe w'=>e=.returned (Z8 Z9 (pgn:Nat))/\w'=W:=λW M=>by
  have:=iZ (w:=W) (f.arc.keep (by rw [M])) (f.vol.vol.keep (by rw [M])) z (by omega) (len+(19+4*cnt)) (by omega);have e:Tm D (len+(19+4*cnt))=pgn:=by rw [<- b.out.2.2.1,<- b.out.2.1];rfl
  rw [e,u,Int.natCast_add] at this;exact this
 rw [u] at C;have k5:pk<=200:=by omega
 have k7:IntKind.i64.wrap ((len:Int)+(pk:Int))=(len:Int)+(pk:Int):=by rw [IntKind.wrap_i64];omega
 have m:=hide3 f C V;clear f C V Q J u;go_wp2_with fail;refine I.mono ?_;rintro e w3 ⟨rfl,rfl⟩;clear I;go_wp2_with fail;refine E.mono ?_;rintro e j ⟨rfl,rfl⟩;clear E;go_wp2_with fail;go_quiet (first|(go_at_call 101;refine Calls.quiet_of_same (m.out.2.1 _))|(go_at_call 83;refine Calls.quiet_of_same (m.out.2.2 _ rfl)));have y:Below j.heap.size j (j.drewN nq):=⟨rfl,rfl,rfl,Nat.le_refl _,λ_ _=>rfl⟩;have a:=m.out.1.below y;have i:=qG a.arc a.vol.vol a.vol.arr a.fit a.n0 xs.os a.cat.any (by omega) cnt pgn (by omega) (by omega);have R:decide ((ai xs.os).length+cnt+2*pgn+2<=A.nb)=false:=decide_eq_false (by have:=b.out.2.2.2.2;omega);rw [R] at i;have l:=hide (H.out.trans (y.mono H.out.size));clear y a R d0 K;obtain ⟨w5,X⟩:=nM (j.drewN nq);rw [X] at i l ⊢;clear X;go_wp2_with fail;refine i.mono ?_;rintro e w6 ⟨rfl,O⟩;have hs:=hide (l.out.trans (O.mono l.out.size));clear O i;dsimp only;go_wp2;go_ret;exact ⟨rfl,hs.out⟩
theorem mv (h:A.fit) {D L G:Nat} (c:D<=12) (f:G<=4) (j:A.n=D+L+G) (S d:List Nat):∀ k,(A.objTo D L G S d k).fit
 | 0=>h
 | k+1=>(mv h c f j S d k).putAt _ _ _ λi g=>by
  rw [List.mem_range,j] at g;have a:i<(aK D L G (gG D d k)).length:=by rw [gv];exact g
  have e:(aK D L G (gG D d k)).getD i []=(aK D L G (gG D d k))[i]:=by simp [a]
  have b:(aW.shard ((aK D L G (gG D d k)).getD i [])).ok:=by rw [e];exact ja c f _ i a
  exact ⟨ez b,jg b⟩
theorem Oz {off c:Nat} {d:List Nat} (h:Bs w (Z6 (Z3 ⟨b,off,Z4⟩) n c) d) (B:n=d.length) {ks m a:Nat} (r:((d.drop ks).take m).length=a) (A:ks+a<=n):Bs w (Z6 (Z3 ⟨b,off+ks,Z4⟩) a (c-ks)) ((d.drop ks).take m):=by
 obtain ⟨t,v,e,y,z,l,o⟩:=h;simp only [Value.slice.injEq] at e;obtain ⟨rfl,_,rfl⟩:=e;refine ⟨_,_,by rw [r],by omega,by omega,λx s=>l x (Tt (Tu s)),λg=>⟨b,off+ks,rfl,λk j=>?_⟩⟩;obtain ⟨u,i,f,q⟩:=o (λe=>by rw [e] at g;simp at g);simp only [Tq,Addr.mk.injEq] at f;obtain ⟨rfl,rfl,_⟩:=f;have p:k<m:=by rw [Tn] at j;omega
 rw [Nat.add_assoc,q (ks+k) (by omega)];simp only [List.getD_eq_getElem?_getD,List.getElem?_take_of_lt p,List.getElem?_drop]
def OA (w:Z2) (p:Nat) (A:aB) (F:bx) (B:aB) (e:Ending) (w':Z2):Prop:=e=.returned .nilIface/\aq w' p B F/\aa (F.has p A.n) w w'
theorem qR {ps ho D' L' G' f nn:Nat} {ofb:Bool} (s:bJ w ar v D' L' G' t f nn pg ob ofb) (z:m6 w v p D L G ps ho A F) (hF:jI F p A.n v) (kf:¬ F.has p A.n ar) (hf:A.fit) (hn:A.n=D+L+G) (hr:cn D L G=true) (ka:1<=D) (hD:D<=12) (hL:1<=L) (kb:L<=4) (hG:G<=4) (hj:D%L=0) (k9:D+L+G<=16)
 (hw:A.wait<0) (hc:iH A D L G) (nm:ByteArray) (sv:Value) (S:List Nat) (E:bK (λk=>¬ F.has p A.n k) w sv S) (kc:∀ x∈S,x<A.nb) (b off c:Nat) (d:List Nat) (N:∀ w',aa (F.has p A.n) w w'->Bs w' (Z6 (Z3 ⟨b,off,Z4⟩) d.length c) d) (kj:d.length<=1500) (kh:d.length<c) (hs:∀ k,k<S.length->k*(D*44)<=d.length) :
 Calls Z1 104 #[Z7 (Z3 ⟨ar,0,Z4⟩),.agg #[Z5 nm,Z8 Z9 (d.length:Nat),sv],Z6 (Z3 ⟨b,off,Z4⟩) d.length c] w (OA w p A F (A.objTo D L G S d S.length)):=by
 obtain ⟨P,Q,rfl,hv,_⟩:=id E;obtain ⟨c0,_⟩:=s.cells;have k7:=λW (hW:Below w.heap.size w W)=>dr (z.vol.keep (hW.block _ z.vol.lt)) (by omega);obtain ⟨a,O⟩:=nM (D*44);have ky:44<=a/\a<=528:=by omega
 have o:Below w.heap.size w (w.alloc (.cells #[Z5 nm,Z8 Z9 (d.length:Nat),.slice P S.length Q] 123)):=bA w _;have m:aw (w.alloc (.cells #[Z5 nm,Z8 Z9 (d.length:Nat),.slice P S.length Q] 123)) w.heap.size 123 [Z5 nm,Z8 Z9 (d.length:Nat),.slice P S.length Q]:=heap_alloc_last w _;obtain ⟨n,q⟩:=nM (d.length);rw [q] at o m kh kj ⊢;have g2:=m.cell (j:=2) (u:=.slice P S.length Q) rfl;have J:=(o.cell (p:=⟨ar,0,Z4⟩) s.lt).trans c0;have U:=k7 _ o;obtain ⟨w1,kz⟩:=nM (w.alloc (.cells #[Z5 nm,Z8 Z9 (n:Nat),.slice P S.length Q] 123));rw [kz] at U g2 J o m;rw [O] at U hs;have T:=hide8 s z E N o m q O;clear s z E N k7 o m q c0;go_enter Tryz.func104,Tryz.ntmps104;go_wp2_with fail;refine U.mono ?_;rintro e R ⟨rfl,rfl⟩;clear U;go_wp2;go_loopw [19] (λi wr=>∃ k:Nat,i=Z8 Z9 (k:Nat)/\k<=S.length/\aq wr p (A.objTo D L G S d k) F/\aa (F.has p A.n) R wr) (λi _=>S.length-(intOf i).toNat)
 case atStart=>exact ⟨0,rfl,Nat.zero_le _,T.out.2.1.arr.below T.out.2.2.2.2.1 lR,aa.refl _ _⟩
 case round=>
  clear g2 J;obtain ⟨k,rfl,hk,V,C⟩:=hrel;by_cases B:k<S.length
  . obtain ⟨s,z,E,N,o,m,q,O⟩:=T.out;have M:aa (F.has p A.n) w wr:=(aa.of_all o _).trans C;obtain ⟨sb,so,hb,e1,hx⟩:=rj (E.keep (eM.of_outside M)) (λe=>by rw [e] at B;simp at B);simp only [Value.slice.injEq] at e1;obtain ⟨rfl,_,rfl⟩:=e1;have g1:=hx k B;obtain ⟨y,X⟩:=nM (S[k]);rw [X] at g1;have q0:y<A.nb:=(by rw [<- X];exact kc _ (Tv B));have hh:=s.keep (M.block _ s.lt kf);obtain ⟨ca,_⟩:=hh.cells;have kx:¬ F.has p A.n w.heap.size:=λh=>by have:=z.arr.has_lt h;omega
    have hi:aw wr w.heap.size 123 _:=m.keep (C.block _ m.lt kx);have cz:=hi.cell (j:=1) (u:=Z8 Z9 (n:Nat)) rfl;have k5:=hs k B;obtain ⟨l,k6⟩:=nM (k*a);obtain ⟨g,hm⟩:=nM ((k+1)*a);have Z:(k+1)*a=k*a+a:=Tr k a;have kp:(k:Int)*(a:Int)=((k*a:Nat):Int):=(by rw [Tw]);have kr:((k:Int)+1)*(a:Int)=(((k+1)*a:Nat):Int):=(by rw [Tw];rfl);rw [k6] at kp Z k5;rw [hm] at kr Z;rw [q] at k5;obtain ⟨bb,kg⟩:=nM (min g n);have q1:l<=bb:=(by omega);have q2:bb<=c:=(by omega);have k0:gG D d k=(d.drop l).take a:=(by unfold gG;rw [O,k6]);have Y:((d.drop l).take a).length=bb-l:=(by rw [Tn,Ts];omega);have kv:∀ I ty w,(Builtin.min_ I ty #[Z8 Z9 (g:Nat),Z8 Z9 (n:Nat)]).run Z1 w=.ok (Z8 Z9 (bb:Nat)) w:=λI ty w=>by
     rw [iR];by_cases K:((n:Nat):Int)<((g:Nat):Int)
     . rw [if_pos K,show bb=n by omega]
     . rw [if_neg K,show bb=g by omega]
    have r:=yP A D L G S d k;have k8:Calls Z1 141 #[Z7 (Z3 ⟨v,0,Z4⟩),Z8 Z9 y,Z6 (Z3 ⟨b,off+l,Z4⟩) (bb-l) (c-l)] wr.drew λe w'=>e=.returned .nilIface/\aq w' p (A.objTo D L G S d (k+1)) F/\aa (F.has p A.n) R w':=by
     have ke:m6 wr.drew v p D L G ps ho (A.objTo D L G S d k) F:=z.turn hF (M.trans (aa.drew _)) (V.keep λ_ _=>rfl);have hz:=N wr.drew (M.trans (aa.drew _));rw [q] at hz;refine (kW ke (by rw [r.1];exact hF) (mv hf hD hG hn S d k) (by rw [r.1];exact hn) hr ka hD hL kb hG hj k9 y (by rw [r.2.1];exact q0) (by rw [r.2.2.1];exact hw) (hc.congr r.1 r.2.2.2) _ _ (Oz hz q.symm Y (by omega)) (by rw [Y];omega)).mono ?_;rintro e w' ⟨rfl,K,h2⟩;rw [r.1] at K h2;refine ⟨rfl,?_,C.trans ((aa.drew _).trans h2)⟩;have:A.objTo D L G S d (k+1)=(A.objTo D L G S d k).putAt (List.range A.n) y (λi=>(aW.shard ((aK D L G ((d.drop l).take a)).getD i [])).blk):=by
      rw [aB.objTo,k0,fD B,X]
     rw [this];exact K
    have HW:=hide3 k8 hh hi;have q3:bb<=n:=(by omega);have ki:¬ c=l:=(by omega);have q4:IntKind.i64.wrap ((k:Int)+1)=(k:Int)+1:=(by rw [IntKind.wrap_i64];omega);have km:IntKind.i64.wrap (l:Int)=(l:Int):=(by rw [IntKind.wrap_i64];omega);have ko:IntKind.i64.wrap (g:Int)=(g:Int):=(by rw [IntKind.wrap_i64];omega);clear k8 hh hi C M V r k0 Y hx X s z E N o m q O kg Z;go_wp2;go_region_with (go_at_call 141;refine HW.out.1.mono ?_;rintro e w2 ⟨rfl,hp,hq⟩;have H:=hide2 hp hq;clear hp hq);all_goals (
     go_wp2;go_roundw
     case rel=>exact ⟨k+1,by go_num,by omega,H.out.1,H.out.2⟩
     case measure=>simp only [intOf];omega)
  . have kk:k=S.length:=(by omega);subst kk;have H:=hide2 V C;clear V C;go_wp2;go_ret;exact ⟨rfl,H.out.1,(aa.of_all T.out.2.2.2.2.1 _).trans H.out.2⟩
theorem wE {w':Z2} {vp vo:Value} {P':List Nat} {xs':bg} (h:bf w ar v p ps D L G t pg ob P xs A F) (m:bJ w' ar v D L G (t+1) (P'.getD 0 0) (aC xs'.os).length vp vo false) (i:aq w' p B F) (a:aa (λk=>k=ar\/F.has p A.n k) w w') (b:B.n=A.n) (d:B.nb=A.nb) (r:B.fit)
 (o:fT B D L G (t+1) P' xs') (l:bK (λk=>ar<k/\¬ F.has p A.n k/\¬ ps.bl k) w' vp P') (j:gz (λk=>ar<k/\¬ F.has p A.n k/\¬ ps.bl k) w' vo xs'.os) (u:t+1<=1000000):bf w' ar v p ps D L G (t+1) vp vo P' xs' B F:=by
 have hK:=h.arK;have x:=a.block _ h.vol.vol.lt (λe=>e.elim h.vne h.free.v);have k1:2<3:=by decide
 have k2:1<3:=by decide
 have s:=a.block _ h.vol.laid.lt (λe=>e.elim (λq=>by omega) h.free.g);have f:=a.block _ h.vol.tab.lt (λe=>e.elim (λq=>by omega) h.free.t);exact ⟨m,⟨h.vol.vol.keep x,i,h.vol.laid.keep s,h.vol.tab.keep f,To h.vol.room a.size⟩,by rw [b];exact h.free,by rw [b];exact h.nar,h.vlt,h.arK,r,h.par,o,by rw [b];exact l,by rw [b];exact j,by rw [d];exact h.nb,u,ps.keep _ _ h.kit λk c=>a.block k (ps.lt _ h.kit k c) (λq=>q.elim (h.apt k c).2.1 (h.apt k c).2.2.2),by rw [b];exact h.apt⟩
theorem tQ (h:B.fit) {D L G t f m:Nat} (a:yT D L G) (c:B.n=D+L+G) (p:t<=1000001) (j:f<B.nb) (o:m<=2000000) (P l:List Nat) (k:Nat):((B.pagesTo D L G P l k).putAt (List.range B.n) 0 (λ_=>(aW.root D L G t f m).blk)).fit:=by
 have e:=h.nb;have b:(aW.root D L G t f m).ok:=by
  have:=a.d;have:=a.l4;have:=a.g;exact ⟨by omega,by omega,by omega,by omega,by omega,by omega⟩
 exact (gw h a.d a.g c P l k).putAt _ _ _ λi _=>⟨ez b,jg b⟩
theorem Bp (c:1<=D) (h:k<Tm D m):k*(D*44-4)<=m:=by
 unfold Tm at h;rcases Tx k with rfl|d
 . simp
 . have a:k<(m+(D*44-4)-1)/(D*44-4):=(by omega);have b:(k+1)*(D*44-4)<=m+(D*44-4)-1:=(Ty (by omega)).1 a;rw [Tr] at b;omega
theorem Bq (c:1<=D) (h:k<iM D n):k*(D*44)<=n:=by
 unfold iM at h;rcases Tx k with rfl|d
 . simp
 . have a:k<(n+D*44-1)/(D*44):=(by omega);have b:(k+1)*(D*44)<=n+D*44-1:=(Ty (by omega)).1 a;rw [Tr] at b;omega
theorem wF (ho:w.ownsRow base 3 1 (Z6 (Z3 ⟨g,0,Z4⟩) (a+b) cap) (a+b) (zj l)) (s:l.length=a+b) (hK:K g) (q:a+b<=100000):bK K w (Z6 (Z3 ⟨g,0,Z4⟩) a c1) (l.take a):=by
 rcases ho.2 with ⟨e,_⟩|⟨j,c,cur,e,m,h,p,n,o,k⟩
 . cases e
 . simp only [Value.slice.injEq,Tq,Addr.mk.injEq] at e;obtain ⟨⟨rfl,_,_⟩,_,rfl⟩:=e;have f:(l.take a).length=a:=(by rw [Tn];omega);refine ⟨_,c1,by rw [f],by omega,λ_=>⟨g,0,rfl,hK,(Tz.1 h).1,λi r=>?_⟩⟩;have d:=ho.cells (g:=g) rfl i (Z8 Z9 ((l[i]'(by omega):Nat):Int)) (by unfold zj;rw [TA,TB (by omega)];rfl);rw [mw] at d;rw [Nat.zero_add,List.getElem_take];exact d
theorem GL (ho:w.ownsRow base 3 1 (Z6 (Z3 ⟨g,0,Z4⟩) (a+b) cap) (a+b) (zj l)) (s:l.length=a+b) (hK:K g) (q:a+b<=100000):bK K w (Z6 (Z3 ⟨g,a,Z4⟩) b c1) (l.drop a):=by
 rcases ho.2 with ⟨e,_⟩|⟨j,c,cur,e,m,h,p,n,o,k⟩
 . cases e
 . simp only [Value.slice.injEq,Tq,Addr.mk.injEq] at e;obtain ⟨⟨rfl,_,_⟩,_,rfl⟩:=e;have f:(l.drop a).length=b:=(by rw [Ts];omega);refine ⟨_,c1,by rw [f],by omega,λ_=>⟨g,a,rfl,hK,(Tz.1 h).1,λi r=>?_⟩⟩;have d:=ho.cells (g:=g) rfl (a+i) (Z8 Z9 ((l[a+i]'(by omega):Nat):Int)) (by unfold zj;rw [TA,TB (by omega)];rfl);rw [mw] at d;rw [List.getElem_drop];exact d
section
theorem Br (os:List Ob):∀ x∈aC os,x<256:=by
 intro x a;unfold aC at a;obtain ⟨o,_,a⟩:=TC.1 a;unfold iI at a;simp only [TD] at a;rcases a with ((h|h)|h)|h
 . exact rA _ _ x h
 . unfold gJ at h;rcases TD.1 h with h|h
   . obtain ⟨b,_,rfl⟩:=List.mem_map.1 h;exact b.toNat_lt
   . rw [List.eq_of_mem_replicate h];decide
 . exact rA _ _ x h
 . obtain ⟨s,_,h⟩:=TC.1 h;exact rA _ _ x h
def Kz (w:Z2) (ar v p:Nat) (ps:dD) (D L G t:Nat) (xs:bg) (A:aB) (F:bx) (x:ByteArray) (d:List Nat) (e:Ending) (w':Z2):Prop:=
 e=.returned .nilIface/\∃ pg ob P' B o,o.name=x/\bf w' ar v p ps D L G (t+1) pg ob P' (xs.ins (o,d)) B F/\B.n=A.n/\(B.nb=A.nb/\B.lost=A.lost)/\aa (λk=>k=ar\/F.has p A.n k) w w'
structure cU (w w1:Z2) (ar v p:Nat) (ps:dD) (D L G t:Nat) (pg ob:Value) (P:List Nat) (xs:bg) (A:aB) (F:bx) (x:ByteArray) (d fr:List Nat) (g cnt pgn c1:Nat):Prop where
 live:bf w ar v p ps D L G t pg ob P xs A F
 out:aa (F.has p A.n) w w1
 arr:aq w1 p (A.objTo D L G (fr.take cnt) d cnt) F
 nm:bB x=true
 no:x∉xs.names
 dl:d.length<=1500
 dx:∀ b∈d,b<256
 c:cnt=iM D d.length
 pn:pgn=pL D (aC xs.os).length d.length
 f:fr=(bh (tk A.nb (P++ai xs.os)).1 A.nb).take (cnt+pgn)
 fl:fr.length=cnt+pgn
 room:(ai xs.os).length+cnt+2*pgn+2<=A.nb
 s:bK (λk=>ar<k/\¬ F.has p A.n k/\¬ ps.bl k) w1 (Z6 (Z3 ⟨g,0,Z4⟩) cnt cnt) (fr.take cnt)
 q:bK (λk=>ar<k/\¬ F.has p A.n k/\¬ ps.bl k) w1 (Z6 (Z3 ⟨g,cnt,Z4⟩) pgn c1) (fr.drop cnt)
 tt:t+1<=1000000
section
variable {w w1:Z2} {ar v p D L G t:Nat} {ps:dD} {pg ob:Value} {P:List Nat} {xs:bg} {A:aB} {F:bx} {x:ByteArray} {d fr:List Nat} {g cnt pgn c1:Nat}
def iN (x:ByteArray) (d fr:List Nat) (cnt:Nat):Ob:=⟨x,d.length,fr.take cnt⟩
theorem cU.stl (h:cU w w1 ar v p ps D L G t pg ob P xs A F x d fr g cnt pgn c1):(fr.take cnt).length=cnt:=by rw [Tn,h.fl];omega
theorem cU.pgl (h:cU w w1 ar v p ps D L G t pg ob P xs A F x d fr g cnt pgn c1):(fr.drop cnt).length=pgn:=by rw [Ts,h.fl];omega
theorem cU.apart (h:cU w w1 ar v p ps D L G t pg ob P xs A F x d fr g cnt pgn c1):(fr++(P++ai xs.os)).Nodup/\∀ b∈fr++(P++ai xs.os),2<=b/\b<A.nb:=by
 rw [h.f];exact nz h.live.disk.nod h.live.disk.inb _
theorem cU.obFit (h:cU w w1 ar v p ps D L G t pg ob P xs A F x d fr g cnt pgn c1):kX D (iN x d fr cnt,d):=by
 have e:1<=x.size/\x.size<=16:=by have:=h.nm;unfold bB at this;exact of_decide_eq_true this
 refine ⟨⟨e,h.dl,λb a=>?_,?_⟩,?_,rfl,h.dx⟩
 . have:=(h.apart.2 b (TE _ (Tu a))).2;have:=h.live.nb;omega
 . show (fr.take cnt).length<=1000;rw [h.stl,h.c];have:=ru h.live.par.d1 h.dl;omega
 . show (fr.take cnt).length=_;rw [h.stl,h.c];rfl
theorem cU.packed (h:cU w w1 ar v p ps D L G t pg ob P xs A F x d fr g cnt pgn c1):(aC (xs.ins (iN x d fr cnt,d)).os).length=(aC xs.os).length+(19+4*cnt):=by
 rw [Gw];have e:(iI (iN x d fr cnt)).length=19+4*(fr.take cnt).length:=iJ h.obFit.fit;rw [h.stl] at e;exact congrArg _ e
theorem cU.kept (h:cU w w1 ar v p ps D L G t pg ob P xs A F x d fr g cnt pgn c1):eM (λk=>ar<k/\¬ F.has p A.n k/\¬ ps.bl k) w w1:=⟨h.out.size,λk a hK=>h.out.block k a hK.2.1⟩
theorem KA (h:cU w w1 ar v p ps D L G t pg ob P xs A F x d fr g cnt pgn c1) :
 Calls Z1 105 #[ob,Z8 Z9 (aF xs.names x:Nat),.agg #[Z5 x,Z8 Z9 (d.length:Nat),Z6 (Z3 ⟨g,0,Z4⟩) cnt cnt]] w1 (tA (λk=>ar<k/\¬ F.has p A.n k/\¬ ps.bl k) w1 (xs.ins (iN x d fr cnt,d)).os):=by
 have b:xs.os.length=xs.names.length:=by rw [<- eu,bP]
 have a:=A5 (h.live.cat.keep h.kept) (by have:=h.live.few.1;omega) (λk c=>⟨by have:=h.live.arc.lt;have:=h.out.size;omega,λe=>by have:=h.live.vol.arr.has_lt e;have:=h.out.size;omega,λe=>by have:=ps.lt _ h.live.kit _ e;have:=h.out.size;omega⟩) (i:=aF xs.names x) (by rw [b];exact vX _ _) (iN x d fr cnt) _ h.s;rw [Kb];exact a
theorem DK (h:cU w w1 ar v p ps D L G t pg ob P xs A F x d fr g cnt pgn c1) {w2:Z2} {u:Value} (H:gz (λk=>ar<k/\¬ F.has p A.n k/\¬ ps.bl k) w2 u (xs.ins (iN x d fr cnt,d)).os) (I:Below w1.heap.size w1 w2) :
 Calls Z1 85 #[Z7 (Z3 ⟨ar,0,Z4⟩),u,Z6 (Z3 ⟨g,cnt,Z4⟩) pgn c1] w2 (Kz w ar v p ps D L G t xs A F x d):=by
 obtain ⟨oo,oc,rfl,hol,_⟩:=id H;have i:=h.live.par;have R:=h.stl;have j:=h.pgl;have a:=yP A D L G (fr.take cnt) d cnt;have J:aa (F.has p A.n) w w2:=h.out.trans (aa.of_all I _);have l:=h.live.disk;have kb:1<=pgn:=by rw [h.pn];unfold pL pgs;omega
 have k6:fr.drop cnt≠[]:=λe=>by rw [e] at j;simp at j;omega
 have Q:∀ b∈fr.drop cnt,b<A.nb:=λb k9=>(h.apart.2 b (TE _ (Tt k9))).2;have V:=h.packed;have hn:(aC (xs.ins (iN x d fr cnt,d)).os).length<=1000000:=by
  have h1:=h.live.packL_le;have h2:=ru h.live.par.d1 h.dl;have h3:=je (xs:=xs) h.live.par.d1 l.fits;have h4:=h.live.few.1;have h5:xs.os.length=xs.length:=by simp [bg.os]
  have h6:1500/(D*44)<=34:=by
   have:=h.live.par.d1;have:1500/(D*44)<=1500/44:=Tp (by omega) (by decide);omega
  have h7:xs.length*(19+4*(1500/(D*44)+1))<=1000*(19+4*(34+1)):=Nat.mul_le_mul (by omega) (by omega);rw [V,h.c];omega
 have W:(fr.drop cnt).length=pgs D (aC (xs.ins (iN x d fr cnt,d)).os).length:=by rw [j,h.pn,V,h.c];rfl
 have hg:∀ y∈xs.ins (iN x d fr cnt,d),kX D y:=λy K=>by
  rcases List.mem_cons.1 ((jS xs (iN x d fr cnt,d)).mem_iff.1 K) with e|e
  . rw [e];exact h.obFit
  . exact l.fits y e
 have hf:∀ o∈(xs.ins (iN x d fr cnt,d)).os,o.fit:=λo ho=>by
  obtain ⟨y,K,rfl⟩:=List.mem_map.1 ho;exact (hg y K).fit
 have hp:(xs.ins (iN x d fr cnt,d)).os.length<=10000:=by
  have:=(jS xs (iN x d fr cnt,d)).length_eq;have e:(xs.ins (iN x d fr cnt,d)).os.length=(xs.ins (iN x d fr cnt,d)).length:=by simp [bg.os]
  have h4:=h.live.few.1;have h5:xs.os.length=xs.length:=by simp [bg.os]
  rw [e,this,List.length_cons];omega
 have k5:aq w2 p (A.objTo D L G (fr.take cnt) d cnt) F:=h.arr.below I lR;have k7:m6 w2 v p D L G ps.ps ps.ho (A.objTo D L G (fr.take cnt) d cnt) F:=h.live.vol.turn h.live.free J k5;have X:bK (λk=>ar<k/\¬ F.has p A.n k/\¬ ps.bl k) w2 (Z6 (Z3 ⟨g,cnt,Z4⟩) pgn c1) (fr.drop cnt):=h.q.keep (eM.of_below I);have O:=nt (w:=w2) (h.live.arc.keep (J.block _ h.live.arc.lt h.live.nar)) k7 (by rw [a.1];exact h.live.free) (by rw [a.1];exact h.live.nar) (mv h.live.fit i.d i.g l.n _ _ _) (by rw [a.1];exact l.n) i.r i.d1 i.d i.l1 i.l4 i.g i.div i.s (by rw [a.2.2.1];exact l.wait) (l.lost.congr a.1 a.2.2.2) (by have:=h.live.turn;omega)
  oo _ oc (aC (xs.ins (iN x d fr cnt,d)).os) (Br _) hn (sY H.any hf hp) g cnt c1 (fr.drop cnt) (by rw [j,a.1];exact X.widen λk C=>C.2.1) k6 (by rw [a.2.1];exact Q) (λk C=>Bp i.d1 (by rw [<- W];exact C))
 rw [j] at O;refine O.mono ?_;rintro e Y ⟨rfl,S,k8,E⟩;rw [a.1,j] at S;rw [a.1] at E;have M:aa (λk=>k=ar\/F.has p A.n k) w Y:=(J.mono λ_ _ e=>.inr e).trans E;have T:eM (λk=>ar<k/\¬ F.has p A.n k/\¬ ps.bl k) w2 Y:=⟨E.size,λk C hK=>E.block k C (λe=>e.elim (λq=>by have:=hK.1;omega) hK.2.1)⟩;have N:=Ke l (iN x d fr cnt,d) h.obFit h.no W (by
  show ((fr.take cnt++fr.drop cnt)++(P++ai xs.os)).Nodup;rw [TF];exact h.apart.1) (by
  show ∀ b∈(fr.take cnt++fr.drop cnt)++(P++ai xs.os),2<=b/\b<A.nb;rw [TF];exact h.apart.2) (by
  show (ai xs.os).length+(fr.take cnt).length+2*(fr.drop cnt).length+2<=A.nb;rw [R,j];exact h.room)
 have Z:(iN x d fr cnt,d).1.stripes.length=cnt:=R;rw [Z,j] at N;have ka:(fr.drop cnt).getD 0 0<A.nb:=by
  rw [fD (by rw [j];omega)];exact Q _ (Tv _)
 have U:=tQ (B:=A.objTo D L G (fr.take cnt) d cnt) (t:=t+1) (f:=(fr.drop cnt).getD 0 0) (m:=(aC (xs.ins (iN x d fr cnt,d)).os).length) (mv h.live.fit i.d i.g l.n _ _ _) i (by rw [a.1];exact l.n) (by have:=h.tt;omega) (by rw [a.2.1];exact ka) (by omega) (fr.drop cnt) (aC (xs.ins (iN x d fr cnt,d)).os) pgn;rw [a.1] at U;have z:=gX (A.objTo D L G (fr.take cnt) d cnt) D L G (fr.drop cnt) (aC (xs.ins (iN x d fr cnt,d)).os) pgn;refine ⟨rfl,_,_,fr.drop cnt,_,iN x d fr cnt,rfl,wE h.live k8 S M ?_ ?_ U N (X.keep T) (H.keep T) h.tt,?_,?_,M⟩
 . exact z.1.trans a.1
 . exact z.2.1.trans a.2.1
 . exact z.1.trans a.1
 . exact ⟨z.2.1.trans a.2.1,z.2.2.2.trans a.2.2.2⟩
end
end
end Go.Proofs.YtfbmmcnpjhmjaaaGreatDoor
