import Derived.Test.YtfbmmcnpjhmjaaaGreatDoorM10
import Derived.SizedLaws
set_option maxRecDepth 100000
set_option linter.defProp false
set_option maxHeartbeats 8000000
open Go.IntKind renaming i64 -> Z9
open Go.Value renaming int -> Z8, pointer -> Z7, slice -> Z6, bool -> Z3, string -> Z2, tuple -> Z1
open Go.Obj renaming cells -> Z5
open Go.Ending renaming returned -> Z4
open Option renaming none -> Z0, some -> ZZ
open Bool renaming true -> ZY, false -> ZX
open Go renaming World -> ZW, Value -> ZV, Calls -> ZU, Ending -> ZT, TypeId -> ZS, Boxed -> ZR
open Nat renaming le_trans -> XG, lt_of_lt_of_le -> XH, le_refl -> XJ, testBit_or -> XM, zero_le -> XO, or_comm -> X2, testBit_eq_decide_div_mod_eq -> X4, eq_of_testBit_eq -> X8, mul_le_mul_right -> Yh, zero_testBit -> Yq, exists_testBit_of_ne_zero -> Yr, pow_le_pow_right -> Ys, eq_zero_or_pos -> Yw
open List renaming mem_map -> XI, getElem_mem -> XL, range -> XN, length_cons -> XP, getElem?_eq_getElem -> XQ, mem_cons -> XR, mem_append -> XS, length_take -> XU, filter_cons_of_pos -> XV, mem_range -> XW, length_map -> XX, length_append -> XY, length_drop -> XZ, mem_cons_of_mem -> X0, mem_append_left -> X1, getD_eq_getElem?_getD -> X5, take_of_length_le -> X6, getElem?_append_right -> X7, filter_cons_of_neg -> X9, mem_append_right -> Yd, getElem?_eq_some_iff -> Yf, getElem?_map -> Yg, map_cons -> Yj, sum_cons -> Yk, getElem_of_mem -> Yl, getElem_map -> Ym, mem_cons_self -> Yo, sublist_cons_self -> Yp, mem_of_mem_take -> Yt
open Array renaming getElem?_eq_some_iff -> XK, getElem?_eq_getElem -> X3, length_toList -> Yn
open Option.some renaming injEq -> XT, inj -> Ye
open List.Sublist renaming length_le -> Ya
open Bool renaming or_eq_true -> Yb, or_eq_false_iff -> Yc
open ByteArray renaming empty -> Yi
open Classical renaming choose -> Yu
open Go.Proofs.Tryz renaming prog -> ZQ
open Go.Proofs.Tryz
namespace Go.Proofs.YtfbmmcnpjhmjaaaGreatDoor
open Go.RowKit Go.Deep Gf Go.Shelf
variable {A B A':ay} {x:ByteArray} {C:Ck} {e:ZT} {F:bh} {cache room room':Int} {Q:List (ByteArray×ZV)} {dl:List (List Nat)} {l P d:List Nat} {os:List Ob} {cs:List ZV} {v ar p D L G t n r b c q1 q2 sa f B' ho rb q t' m wb nb g k N gone sp l1 s b0 lost sb ho' T' wb' sb':Nat} {lo:Nat->Bool} {rs:Nat->Int} {pl:Nat->Nat} {ok:Nat->Prop} {f0:Nat->ZV} {xs xs':aS} {ao:Option Addr} {o:pJ} {H:Type} {T:ZS} {pg ob u rv out want:ZV} {w w' w1 a wx w0 wr w3 w2 w6 W:ZW}
def Iy {v:ZV} (h:Bs w v l):Src ZQ 1 34 v l.length (aH l) w:=by
 obtain ⟨ao,c,rfl,n,o,p,i⟩:=h;have k:∀ u∈aH l,u.oneCell'=ZY:=λu a=>by unfold aH at a;rw [XI] at a;obtain ⟨x,_,rfl⟩:=a;rfl
 by_cases f:l=[]
 . subst f;cases ao with
   | none=>exact Src.ofNil w underlying34 c
   | some g=>exact Src.ofSlice w underlying34 g 0 c [] rfl (λj u d=>by simp at d) (λu a=>by simp at a)
 . obtain ⟨b,off,rfl,m⟩:=i f;refine Src.ofSlice w underlying34 ⟨b,off,Z0⟩ l.length c (aH l) (by rw [bp,Nat.mul_one]) (λj u d=>?_) k;rw [Addr.add_mid];have e:j<l.length:=(by obtain ⟨q,_⟩:=Yf.1 d;rwa [bp] at q);rw [m j e,<- d];unfold aH;rw [Yg,XQ e,X5,XQ e];rfl
def FE (w:ZW) (n:Int) (e:ZT) (w':ZW):Prop:=e=Z4 (Z1 #[Z6 Z0 0 0,rQ n])/\bW w w'
theorem LP {ps:cA} (h:aW w ar v p ps D L G t pg ob P xs A F) (x:ByteArray) (g:bu x=ZX) :
 ZU ZQ 48 #[Z7 (ZZ ⟨ar,0,Z0⟩),Z2 x] w (FE w 6):=by
 obtain ⟨_,_,_,_,f⟩:=h.TR.cells;have a:=h.find x;obtain ⟨k,d⟩:=nM (aD xs.names x);obtain ⟨i,c⟩:=nM (lZ xs.os x);rw [d,c] at a;clear d c h;go_enter func48,ntmps48;go_wp2_with fail;refine a.mono ?_;rintro e w1 ⟨rfl,b⟩;have H:=hide b;clear b a f;go_wp2_with fail;refine (dB x w1).mono ?_;rintro e w2 ⟨rfl,rfl⟩;rw [g];dsimp only;go_wp2;go_ret2;exact ⟨rfl,H.out⟩
theorem Cu {ps:cA} (h:aW w ar v p ps D L G t pg ob P xs A F) (x:ByteArray) (g:bu x=ZY) (f:x∉xs.names) :
 ZU ZQ 48 #[Z7 (ZZ ⟨ar,0,Z0⟩),Z2 x] w (FE w 9):=by
 obtain ⟨_,_,_,_,d⟩:=h.TR.cells;have a:=h.find x;obtain ⟨k,c⟩:=nM (aD xs.names x);rw [c,h.T5 f] at a;clear c h;go_enter func48,ntmps48;go_wp2_with fail;refine a.mono ?_;rintro e w1 ⟨rfl,b⟩;have H:=hide b;clear b a d;go_wp2_with fail;refine (dB x w1).mono ?_;rintro e w2 ⟨rfl,rfl⟩;rw [g];dsimp only;go_wp2;go_ret2;exact ⟨rfl,H.out⟩
def NF (w:ZW) (v p D L G:Nat) (Kind:cA->Prop) (ps:cA) (A:ay) (ps':cA) (wr:ZW):Prop:=Kind ps'/\ps'.ps=ps.ps/\ps'.S wr/\bt wr v p D L G ps.ps ps'.ho/\(∀ i,ps'.ho.testBit i=ZY->i<A.n/\A.lost i=ZY)/\ps'.ho<65536/\∀ k,ps'.bl k->ps.bl k\/w.heap.size<=k
def NG (hD:1<=D):n<=fL D n*(D*44):=by
 unfold fL;obtain ⟨q,d⟩:=nM (D*44);rw [d];have a:0<q:=by omega
 have h:=Nat.lt_mul_div_succ (n+q-1) a;obtain ⟨c,b⟩:=nM ((n+q-1)/q);rw [b] at h ⊢;have e:q*(c+1)=c*q+q:=by rw [Nat.mul_add,Nat.mul_one,Nat.mul_comm]
 have f:c*q<=max 1 c*q:=Yh _ (Nat.le_max_right _ _);omega
def z7:¬ l9 5:=by unfold l9;decide
def Iz:¬ l9 123:=by unfold l9;decide
theorem aW.Wj {Kind:cA->Prop} {ps ps':cA} (h:aW w ar v p ps D L G t pg ob P xs A F) (a:aa (λj=>F.has p A.n j\/j=v\/ps.bl j) w w') (rs:Nat->Int) (y:aq w' p (A.rd rs) F) (hK:NF w v p D L G Kind ps A ps' w'):aW w' ar v p ps' D L G t pg ob P xs (A.rd rs) F:=by
 obtain ⟨k1,k2,k3,k4,B,C,r⟩:=hK;have s:2<3:=by decide
 have u:1<3:=by decide
 have z:=h.Vg;have d:∀ k,k<3->¬ F.has p A.n k->k<w.heap.size->w'.heap[k]?=w.heap[k]?:=λk f i l=>a.block k l (λq=>by
  rcases q with q|q|q
  . exact i q
  . omega
  . have:=(h.apt k q).1;omega)
 have m:eR (λk=>ar<k/\¬ F.has p A.n k/\¬ ps.bl k/\¬ ps'.bl k) w w':=⟨a.size,λk c b=>a.block k c (λq=>by
  rcases q with q|q|q
  . exact b.2.1 q
  . have:=b.1;omega
  . exact b.2.2.1 q)⟩
 have o:∀ k,(ar<k/\¬ F.has p A.n k/\¬ ps.bl k)->k<w.heap.size->(ar<k/\¬ F.has p A.n k/\¬ ps.bl k/\¬ ps'.bl k):=λk q f=>⟨q.1,q.2.1,q.2.2,λe=>(r k e).elim q.2.2 (by omega)⟩;have x:∀ k,ps'.bl k->3<=k/\k≠ar/\k≠v/\¬ F.has p A.n k:=λk c=>by
  rcases r k c with q|q
  . exact h.apt k q
  . have f:=h.TR.lt;have i:=h.vol.vol.lt;have l:=h.Vy;exact ⟨by omega,by omega,by omega,λe=>by have:=h.vol.arr.TH e;omega⟩
 exact ⟨h.TR.keep (a.block _ h.TR.lt λq=>by
  rcases q with q|q|q
  . exact h.UX q
  . omega
  . exact (h.apt _ q).2.1 rfl),⟨by rw [k2];exact k4,y,h.vol.laid.keep (d _ s h.free.g h.vol.laid.lt),h.vol.TQ.keep (d _ u h.free.t h.vol.TQ.lt),XG h.vol.room a.size⟩,h.free,h.UX,h.Vg,h.Vy,⟨h.fit.n,h.fit.nb,h.fit.len,h.fit.byt⟩,h.par,h.TM.congr rfl rfl rfl (λ_=>rfl) (λ_ _=>rfl) (λ_ _ _=>rfl),((h.pgs.wk o).keep m).wk λk q _=>⟨q.1,q.2.1,q.2.2.2⟩,((h.cat.wk o).keep m).wk λk q _=>⟨q.1,q.2.1,q.2.2.2⟩,h.nb,h.turn,k3,x⟩
def rR (xs:aS) (x:ByteArray) (base:Nat) (u r:ZV) (w:ZW):Prop:=
 (r=rQ 6/\u=Z6 Z0 0 0/\bu x=ZX)\/(r=rQ 9/\u=Z6 Z0 0 0/\bu x=ZY/\x∉xs.names) \/
 (r=.nilIface/\bu x=ZY/\∃ k0,∃ hk:k0<xs.length,xs[k0].1.name=x/\w.ownsRow base 5 1 u xs[k0].2.length (aH xs[k0].2))
def rR.noCut {base:Nat} {r:ZV} (h:rR xs x base u r w):noCut r:=by
 rcases h with ⟨rfl,_⟩|⟨rfl,_⟩|⟨rfl,_⟩
 . exact .inr ⟨6,by decide,rfl⟩
 . exact .inr ⟨9,by decide,rfl⟩
 . exact .inl rfl
def rR.isSlice {base:Nat} {r:ZV} (h:rR xs x base u r w):∃ ao n c,u=.slice ao n c:=by
 rcases h with ⟨_,rfl,_⟩|⟨_,rfl,_⟩|⟨_,_,b,a,_,ho⟩
 . exact ⟨_,_,_,rfl⟩
 . exact ⟨_,_,_,rfl⟩
 . obtain ⟨d,f,e⟩:=fu ho;exact ⟨_,_,_,e⟩
def rR.keep {base base':Nat} {r:ZV} (h:rR xs x base u r w) (l:base'<=base) (m:∀ (j:Nat) (cs:Array ZV),w.heap[j]?=ZZ (Z5 cs 5 (0,0))->w'.heap[j]?=w.heap[j]?):rR xs x base' u r w':=by
 rcases h with h|h|⟨e,f,n,k,i,ho⟩
 . exact .inl h
 . exact .inr (.inl h)
 . refine .inr (.inr ⟨e,f,n,k,i,ho.1,?_⟩);rcases ho.2 with d|⟨g,cap,cur,b,c,a,o⟩
   . exact .inl d
   . exact .inr ⟨g,cap,cur,b,XG l c,(m _ _ a).trans a,o⟩
def NH (w:ZW) (ar v p:Nat) (R:(Nat->Int)->cA->Prop) (ps:cA) (D L G t:Nat) (pg ob:ZV) (P:List Nat) (xs:aS) (A:ay) (F:bh) (rs:Nat->Int) (ps':cA) (w':ZW):Prop:=aW w' ar v p ps' D L G t pg ob P xs (A.rd rs) F/\R rs ps'/\ps'.ps=ps.ps/\(∀ k,ps'.bl k->ps.bl k\/w.heap.size<=k)
def Cv (d:ZR w b 34 (.slice ao n c)):uQ w b:=λoff u h=>by
 have a:w.heap[b]?=ZZ (Z5 #[.slice ao n c] 34 (0,0)):=d;cases off with
 | zero=>simp [World.cell?,a] at h;subst h;exact ⟨λ_=>nofun,λ_=>nofun⟩
 | succ n=>simp [World.cell?,a] at h
def P0 (w:ZW) (ar v p:Nat) (R:(Nat->Int)->cA->Prop) (ps:cA) (D L G t:Nat) (pg ob:ZV) (P:List Nat) (xs:aS) (A:ay) (F:bh) (x:ByteArray):Prop:=
 ZU ZQ 48 #[Z7 (ZZ ⟨ar,0,Z0⟩),Z2 x] w λe w'=>∃ u r rs ps',e=Z4 (Z1 #[u,r])/\NH w ar v p R ps D L G t pg ob P xs A F rs ps' w'/\aa (λj=>F.has p A.n j\/j=v\/ps.bl j) w w'/\rR xs x w.heap.size u r w'
def EH (w:ZW) (ar v p:Nat) (R:(Nat->Int)->cA->Prop) (ps:cA) (D L G t:Nat) (xs:aS) (A:ay) (F:bh) (x:ByteArray) (e:ZT) (w':ZW):Prop:=
 ∃ u r rs ps' pg ob P,e=Z4 (Z1 #[u,r])/\NH w ar v p R ps D L G t pg ob P xs A F rs ps' w'/\aa (λj=>j=ar\/F.has p A.n j\/j=v\/ps.bl j) w w'/\rR xs x w.heap.size u r w'
theorem LQ {q3:Nat} {R:(Nat->Int)->cA->Prop} {ps:cA} (h:aW w ar v p ps D L G t pg ob P xs A F) (x:ByteArray) (hG:∀ w1,bW w w1->P0 w1 ar v p R ps D L G t pg ob P xs A F x) (d:bW w w1) (z:ZR w1 q1 90 (Z7 (ZZ ⟨ar,0,Z0⟩))) (C:ZR w1 q2 9 (Z2 x)) (f:ZR w1 q3 34 (Z6 Z0 0 0)) (S:w.heap.size<=q3) :
 ZU ZQ 47 #[Z7 (ZZ ⟨q1,0,Z0⟩),Z7 (ZZ ⟨q2,0,Z0⟩),Z7 (ZZ ⟨q3,0,Z0⟩)] w1 λe w2=>∃ u r rs i,e=Z4 r/\NH w ar v p R ps D L G t pg ob P xs A F rs i w2/\aa (λj=>F.has p A.n j\/j=v\/ps.bl j\/j=q3) w1 w2/\rR xs x w.heap.size u r w2/\ZR w2 q3 34 u:=by
 have g1:=z.cell;have J:=C.cell;have s:=hG w1 d;have g:∀ j,F.has p A.n j->j<w.heap.size:=λj a=>h.vol.arr.TH a;have H:=hide4 h f g d;clear h z C f g d hG;unfold P0 at s;go_enter func47,ntmps47;go_wp2_with fail;refine s.mono ?_;rintro e w2 ⟨u,r,rs,i,rfl,hG,l,m⟩;obtain ⟨h,f,g,d⟩:=H.out;have b:ZR w2 q3 34 (Z6 Z0 0 0):=(l.block _ f.lt (λe=>by
  rcases e with e|e|e
  . have:=g _ e;omega
  . have:=h.vol.vol.lt;omega
  . have:=ps.lt _ h.kit _ e;omega)).trans f
 have T:=b.cell;have U:=b.frozen;obtain ⟨ao,n,c,rfl⟩:=m.isSlice;have I:=hide4 hG l m b;clear hG l m b s g1 J h f g d;go_wp2;go_ret;obtain ⟨⟨E,N,O,Q⟩,l,m,b⟩:=I.out;obtain ⟨h,f,g,d⟩:=H.out;have K:ZR (w2.setCell ⟨q3,0,Z0⟩ (.slice ao n c)) q3 34 (.slice ao n c):=b.set _;have o:∀ j,j≠q3->(w2.setCell ⟨q3,0,Z0⟩ (.slice ao n c)).heap[j]?=w2.heap[j]?:=λj a=>blk_setCell_other _ _ _ _ a;have M:uQ w2 q3:=Cv b;refine ⟨_,r,rs,i,rfl,⟨E.aside (B:=w.heap.size) M (eN E.kit b uK) (by simp [World.setCell]) (λk y _=>o k y) S (by exact g) h.vol.vol.lt h.TR.lt h.vol.room,N,O,λk y=>(Q k y).imp id λq=>XG d.size q⟩,?_,m.keep d.size (λj cs a=>o j (λe=>by subst e;rw [b] at a;cases a)),K⟩;exact (l.mono λj _ a=>by
  rcases a with q|q|q
  . exact .inl q
  . exact .inr (.inl q)
  . exact .inr (.inr (.inl q))).trans ⟨rfl,rfl,rfl,by simp [World.setCell],λj _ a=>o j (λe=>a (.inr (.inr (.inr e))))⟩
theorem Sg {R:(Nat->Int)->cA->Prop} {ps:cA} (h:aW w ar v p ps D L G t pg ob P xs A F) (x:ByteArray) (hG:∀ w1,bW w w1->P0 w1 ar v p R ps D L G t pg ob P xs A F x) :
 ZU ZQ 35 #[Z7 (ZZ ⟨ar,0,Z0⟩),Z2 x] w (EH w ar v p R ps D L G t xs A F x):=by
 have hr:∀ (fn:Fn) (first cap:Array ZV) (w:ZW),(Instr.makeFunc fn first cap).run ZQ w=.ok (.func fn first cap) w:=λ_ _ _ _=>rfl;have hn:∀ (args:Array ZV) (w:ZW),(callFunc 47 args).run ZQ w=.ok (.enter 47 args) w:=enters_of func47 (by kernel_rfl) rfl;obtain ⟨w3,I⟩:=nM (((w.alloc (Z5 #[Z7 (ZZ ⟨ar,0,Z0⟩)] 90)).alloc (Z5 #[Z2 x] 9)).alloc (Z5 #[Z6 Z0 0 0] 34));have g:ZR w3 w.heap.size 90 (Z7 (ZZ ⟨ar,0,Z0⟩)):=by rw [<- I];exact ((Boxed.new w _ _).alloc _).alloc _
 have i:ZR w3 (w.heap.size+1) 9 (Z2 x):=by
  have:=(Boxed.new (w.alloc (Z5 #[Z7 (ZZ ⟨ar,0,Z0⟩)] 90)) 9 (Z2 x)).alloc (Z5 #[Z6 Z0 0 0] 34);rw [World.size_alloc] at this;rw [<- I];exact this
 have m:ZR w3 (w.heap.size+2) 34 (Z6 Z0 0 0):=by
  have:=Boxed.new ((w.alloc (Z5 #[Z7 (ZZ ⟨ar,0,Z0⟩)] 90)).alloc (Z5 #[Z2 x] 9)) 34 (Z6 Z0 0 0);simp only [World.size_alloc] at this;rw [<- I];exact this
 have f:bW w w3:=by rw [<- I];exact ((bA w _).alloc (by simp) _).alloc (by simp;omega) _
 have S:=h.below f;have hv:=m.lt;have U:=ED S 47 #[] #[Z7 (ZZ ⟨w.heap.size,0,Z0⟩),Z7 (ZZ ⟨w.heap.size+1,0,Z0⟩),Z7 (ZZ ⟨w.heap.size+2,0,Z0⟩)] hn
  (λr t' xs' B a w2=>∃ u rs,rR xs x w.heap.size u r w2/\ZR w2 (w.heap.size+2) 34 u/\(R rs a/\a.ps=ps.ps/\∀ k,a.bl k->ps.bl k\/w.heap.size<=k)/\t'=t/\xs'=xs/\B=A.rd rs) (λj=>j=w.heap.size+2\/j=v\/ps.bl j) (λj e=>by
   rcases e with e|e|e
   . omega
   . have:=h.vol.vol.lt;have:=f.size;omega
   . have:=ps.lt _ h.kit _ e;have:=f.size;omega)
  (λr t' xs' B a w2 w' O=>by
   rintro ⟨u,rs,C,z,Y⟩;have T:∀ j,w2.heap[j]?≠ZZ (Obj.cells #[Value.nilIface] 63 (0,0))->w'.heap[j]?=w2.heap[j]?:=λj d=>O.2.2 j (λe=>by subst e;exact d O.1);refine ⟨u,rs,C.keep lR (λj cs d=>T j (by rw [d];simp)),(T _ (by rw [z];simp)).trans z,Y⟩)
  (λw1 y hs=>(LQ h x hG (f.trans (y.mono f.size)) ((y.block _ g.lt).trans g) ((y.block _ i.lt).trans i) ((y.block _ m.lt).trans m) (by omega)).mono (by
   rintro e w2 ⟨u,r,rs,a,rfl,⟨hl,hG⟩,Z,C,z⟩;exact ⟨r,t,pg,ob,P,xs,A.rd rs,a,rfl,C.noCut,hl,rfl,⟨rfl,rfl⟩,Z.mono λj _ d=>by
    rcases d with q|q|q|q
    . exact .inr (.inl q)
    . exact .inr (.inr (.inr (.inl q)))
    . exact .inr (.inr (.inr (.inr q)))
    . exact .inr (.inr (.inl q)),u,rs,C,z,hG,rfl,rfl,rfl⟩))
 have c1:=g.cell;have H:=hide3 U f h;clear U f g i m h S hG;go_enter func35,ntmps35;go_wp2_with fail;refine H.out.1.mono ?_;rintro e J ⟨r,t',N,M,W,xs',B,a,rfl,hq,E,hp,he,s,u,rs,l,Q,o,rfl,rfl,rfl⟩;have b:ZR J (w.heap.size+1+1) 34 u:=Q;have y0:=b.cell;have y1:=b.frozen;obtain ⟨ao,n,c,rfl⟩:=l.isSlice;have V:=hide5 s l b E o;clear o E s l Q b hq hp he;go_wp2;obtain ⟨s,l,b,E,o⟩:=V.out;have X:=(b.set (.slice ao n c)).cell;refine bodyPost_ret (v:=Z1 #[.slice ao n c,r]) (by simp [results,results35,go_sem,X]) rfl ?_;have K:bW J (J.setCell ⟨w.heap.size+1+1,0,Z0⟩ (.slice ao n c)):=⟨rfl,rfl,rfl,by simp [World.setCell],λj d=>by
  by_cases e:j=w.heap.size+1+1
  . subst e;exact (b.set (.slice ao n c)).trans b.symm
  . exact blk_setCell_other _ _ _ _ e⟩
 refine ⟨_,r,rs,a,N,M,W,rfl,⟨E.below K,o⟩,?_,l.keep lR (λj cs d=>K.block j (XK.1 d).1)⟩;have hm:aa (λj=>j=ar\/F.has p A.n j\/j=v\/ps.bl j) w J:=(aa.TG H.out.2.1 (λj=>j=ar\/F.has p A.n j\/j=v\/ps.bl j)).later s (λj g i=>by
  rcases i with q|q|q|q|q
  . exact .inl q
  . exact .inr (.inl q)
  . omega
  . exact .inr (.inr (.inl q))
  . exact .inr (.inr (.inr q)))
 exact hm.trans (aa.TG K _)
theorem Si {R:(Nat->Int)->cA->Prop} {ps:cA} (hs:ZR w sa 92 (Z7 (ZZ ⟨ar,0,Z0⟩))) (h:aW w ar v p ps D L G t pg ob P xs A F) (x:ByteArray) (hG:∀ w1,bW w w1->P0 w1 ar v p R ps D L G t pg ob P xs A F x) :
 ZU ZQ 17 #[Z7 (ZZ ⟨sa,0,Z0⟩),Z2 x] w (EH w ar v p R ps D L G t xs A F x):=by
 have cs:=hs.cell;have f:=Sg h x hG;clear hs h hG;go_enter func17,ntmps17;go_wp2_with fail;refine f.mono ?_;rintro e j ⟨u,r,rs,c,b,a,i,rfl,d⟩;have g:=hide d;clear d f;go_wp2;go_ret2;exact ⟨u,r,rs,c,b,a,i,rfl,g.out⟩
def Sj (o:Ob):List ZV:=[Z2 o.name,Z8 Z9 (o.size:Nat)]
def mb (os:List Ob):List ZV:=os.flatMap Sj
def IA (os:List Ob) (k:Nat) (a:k<os.length):mb (os.take (k+1))=mb (os.take k)++Sj os[k]:=by
 unfold mb;rw [List.take_add_one,XQ a,List.flatMap_append];simp
def Tryz.U2:(ZQ.info? 78).map (λi=>(i.zero,i.size,i.bytes))=ZZ (ZZ (.agg #[Z2 Yi,Z8 Z9 0]),2,24):=by kernel_rfl
def TB (w:ZW) (q:Nat) (os:List Ob) (i:ZV) (wr:ZW):Prop:=∃ k:Nat,k<=os.length/\i=Z8 Z9 (k:Nat)/\∃ u,ZR wr q 74 u/\wr.ownsRow w.heap.size 78 2 u k (mb (os.take k))/\aa (λj=>j=q) w wr
theorem IB {K:Nat->Prop} (O:ZR w q1 90 (Z7 (ZZ ⟨ar,0,Z0⟩))) (y:ZR w q2 74 (Z6 Z0 0 0)) (Q:bM w ar v D L G t f n pg ob ZX) (A:gE K w ob os) (hK:∀ k,K k->k≠q2) (kg:os.length<=10000) :
 ZU ZQ 55 #[Z7 (ZZ ⟨q1,0,Z0⟩),Z7 (ZZ ⟨q2,0,Z0⟩)] w λe w'=>e=Z4 .nilIface/\∃ u,ZR w' q2 74 u/\w'.ownsRow w.heap.size 78 2 u os.length (mb os)/\aa (λj=>j=q2) w w':=by
 obtain ⟨_,_,_,_,N⟩:=Q.cells;have g1:=O.cell;obtain ⟨ie,k6,hf,hg,hh⟩:=info_parts Tryz.U2;obtain ⟨oo,oc,rfl,hol,_⟩:=id A;obtain ⟨r,W⟩:=nM (os.length);rw [W] at N;have H:=hide3 y A W;have kb:=y.lt;have ke:r<=10000:=by omega
 clear O y Q A hol;go_enter func55,ntmps55;go_wp2;go_loopw [10] (λi wr=>TB w q2 os i wr) (λi _=>r-(intOf i).toNat)
 case atStart=>exact ⟨0,XO _,rfl,_,H.out.1,World.ownsRow_nil _ _ _ _,aa.refl _ _⟩
 case round=>
  clear N g1;obtain ⟨k,hk,rfl,u,m,ho,a⟩:=hrel;by_cases C:k<os.length
  . have T:eR K w wr:=⟨a.size,λj g k5=>a.block j g (λe=>hK j k5 e)⟩;obtain ⟨b,off,sv,rfl,hb,_,r1,r2,r3,Y⟩:=(H.out.2.1.keep T).at' (k:=k) C;obtain ⟨sa,Z,rfl,_⟩:=id Y;obtain ⟨nm,E⟩:=nM (os[k].name);obtain ⟨c,I⟩:∃ c:Int,((os[k].size:Nat):Int)=c:=⟨_,rfl⟩;obtain ⟨sl,X⟩:=nM (os[k].TE.length);have x:mb (os.take (k+1))=mb (os.take k)++[Z2 nm,Z8 Z9 c]:=(by rw [IA os k C];unfold Sj;rw [E,I]);rw [E] at r1;rw [I] at r2;rw [X] at r3;have k9:k<r:=(by rw [<- H.out.2.2];exact C);have ka:(k:Int)<(r:Int):=(by omega);obtain ⟨w3,hr⟩:=nM (wr.alloc (Z5 #[Z2 nm,Z8 Z9 c,.slice sa sl Z] 123));have B:aw w3 wr.heap.size 123 [Z2 nm,Z8 Z9 c,.slice sa sl Z]:=(by rw [<- hr];exact heap_alloc_last wr _);have q:bW wr w3:=(by rw [<- hr];exact bA wr _);have kc:w3.heap.size=wr.heap.size+1:=(by rw [<- hr];simp);have x0:=B.cell (j:=0) (u:=Z2 nm) rfl;have x1:=B.cell (j:=1) (u:=Z8 Z9 c) rfl;have hs:ZR w3 q2 74 u:=(q.block _ m.lt).trans m;have xq:=hs.cell;have U:aw (w3.alloc (Z5 #[Z2 nm,Z8 Z9 c] 78)) w3.heap.size 78 [Z2 nm,Z8 Z9 c]:=heap_alloc_last w3 _;have h:bW wr (w3.alloc (Z5 #[Z2 nm,Z8 Z9 c] 78)):=q.alloc (by omega) _;have z:Src ZQ 2 74 (Z6 (ZZ ⟨w3.heap.size,0,Z0⟩) 1 1) 1 [Z2 nm,Z8 Z9 c] (w3.alloc (Z5 #[Z2 nm,Z8 Z9 c] 78)):=
     Src.ofSlice _ underlying74 ⟨w3.heap.size,0,Z0⟩ 1 1 [Z2 nm,Z8 Z9 c] rfl (λj u g=>by rw [Addr.add_mid,Nat.zero_add];exact U.cell g) (λu R=>by
      simp only [XR,List.not_mem_nil,or_false] at R;rcases R with rfl|rfl<;>rfl)
    have F:(w3.alloc (Z5 #[Z2 nm,Z8 Z9 c] 78)).ownsRow w.heap.size 78 2 u k (mb (os.take k)):=aB ho h;have d:=hide8 m ho a z F h x q;have kf:IntKind.i64.wrap ((k:Int)+1)=(k:Int)+1:=(by rw [IntKind.wrap_i64];omega);clear m ho a z F h x q B U hs T Y E I X hb kc;go_wp2_with (at_builtin;refine af _ rfl (.tmp 14) (.tmp 20) 74 74 rfl w.heap.size 78 ie _ 2 24 underlying74 k6 hf hg hh rfl u k (mb (os.take k)) (by rfl) (by exact d.out.2.2.2.2.1) _ (by rfl) 1 [Z2 nm,Z8 Z9 c] (by exact d.out.2.2.2.1) (by unfold maxLen;omega) (by omega) (by exact XG d.out.2.2.1.size d.out.2.2.2.2.2.1.size) ?_;intro v7 s p l he;have o:ZR s q2 74 u:=(l.block _ (XH d.out.1.lt d.out.2.2.2.2.2.1.size) (λe=>dz d.out.2.1 d.out.1 (by decide) e.symm)).trans ((d.out.2.2.2.2.2.1.block _ d.out.1.lt).trans d.out.1);have z0:=o.cell;have z1:=o.frozen;obtain ⟨J,M,rfl⟩:=fu p;have H7:=hide3 p l o;clear p l he o);obtain ⟨m,ho,a,z,F,h,x,q⟩:=d.out;obtain ⟨p,l,o⟩:=H7.out;have hp:ZR (s.setCell ⟨q2,0,Z0⟩ (.slice J (k+1) M)) q2 74 (.slice J (k+1) M):=o.set _;have P:∀ j,j≠q2->(s.setCell ⟨q2,0,Z0⟩ (.slice J (k+1) M)).heap[j]?=s.heap[j]?:=λj g=>blk_setCell_other _ _ _ _ g;have ki:=l.size;have kh:=h.size;refine ⟨⟨k+1,by omega,by go_num,_,hp,?_,?_⟩,?_⟩
    . rw [x];exact dA p (S:=λj=>j=q2) ⟨rfl,rfl,rfl,by simp [World.setCell],λj _ g=>P j g⟩ λj g e=>dz p (e▸o:s.heap[j]?=_) (by decide) g
    . refine ⟨l.os.trans (h.os.trans a.os),l.tape.trans (h.tape.trans a.tape),l.output.trans (h.output.trans a.output),by have:=a.size;simp [World.setCell];omega,λj g V=>?_⟩;have k7:j<wr.heap.size:=XH g a.size;exact (P j V).trans ((l.block j (by omega) (λe=>by have:=gJ ho e.symm;omega)).trans ((h.block j k7).trans (a.block j g V)))
    . simp only [intOf];omega
  . have k8:k=r:=(by have:=H.out.2.2;omega);subst k8;have HF:=hide3 m ho a;clear m ho a;go_wp2;go_ret;obtain ⟨m,ho,a⟩:=HF.out;refine ⟨rfl,u,m,?_,a⟩;rw [X6 (by have:=H.out.2.2;omega),<- H.out.2.2] at ho;exact ho
def LR (w:ZW) (xs:aS) (e:ZT) (w':ZW):Prop:=∃ u,e=Z4 (Z1 #[u,.nilIface])/\bW w w'/\w'.ownsRow w.heap.size 78 2 u xs.os.length (mb xs.os)
def IC {base:Nat} {l:List ZV} (h:w.ownsRow base 78 2 u n l) (i:w.heap[b]?=ZZ (Z5 #[.nilIface] 63 (0,0))) (k:∀ j,j≠b->w'.heap[j]?=w.heap[j]?):w'.ownsRow base 78 2 u n l:=by
 refine ⟨h.1,?_⟩;rcases h.2 with f|⟨g,cap,cur,c,d,a,m⟩
 . exact .inl f
 . exact .inr ⟨g,cap,cur,c,d,(k g (λe=>by subst e;rw [i] at a;cases a)).trans a,m⟩
theorem Rh {ps:cA} (h:aW w ar v p ps D L G t pg ob P xs A F) :
 ZU ZQ 38 #[Z7 (ZZ ⟨ar,0,Z0⟩)] w (LR w xs):=by
 have hx:∀ (fn:Fn) (first cap:Array ZV) (w:ZW),(Instr.makeFunc fn first cap).run ZQ w=.ok (.func fn first cap) w:=λ_ _ _ _=>rfl;have hp:∀ (args:Array ZV) (w:ZW),(callFunc 55 args).run ZQ w=.ok (.enter 55 args) w:=enters_of func55 (by kernel_rfl) rfl;obtain ⟨w3,E⟩:=nM ((w.alloc (Z5 #[Z7 (ZZ ⟨ar,0,Z0⟩)] 90)).alloc (Z5 #[Z6 Z0 0 0] 74));have s:ZR w3 w.heap.size 90 (Z7 (ZZ ⟨ar,0,Z0⟩)):=by rw [<- E];exact (Boxed.new w _ _).alloc _
 have x:ZR w3 (w.heap.size+1) 74 (Z6 Z0 0 0):=by
  have:=Boxed.new (w.alloc (Z5 #[Z7 (ZZ ⟨ar,0,Z0⟩)] 90)) 74 (Z6 Z0 0 0);rw [World.size_alloc] at this;rw [<- E];exact this
 have m:bW w w3:=by rw [<- E];exact (bA w _).alloc (by simp) _
 have O:=h.below m;have hz:=x.lt;have Q:=ED O 55 #[] #[Z7 (ZZ ⟨w.heap.size,0,Z0⟩),Z7 (ZZ ⟨w.heap.size+1,0,Z0⟩)] hp
  (λr t' xs' B o w2=>r=.nilIface/\xs'=xs/\(∀ j,j<w.heap.size->w2.heap[j]?=w.heap[j]?)/\∃ u,ZR w2 (w.heap.size+1) 74 u/\w2.ownsRow w.heap.size 78 2 u xs.os.length (mb xs.os)) (λj=>j=w.heap.size+1) (λj e=>by omega)
  (λr t' xs' B o w2 w' l=>by
   rintro ⟨V,W,X,u,y,ho⟩;exact ⟨V,W,λj f=>(l.2.2 j (by omega)).trans (X j f),u,(l.2.2 _ (λe=>by have J:=l.1;rw [<- e,y] at J;cases J)).trans y,IC ho l.1 l.2.2⟩)
  (λw1 C hy=>by
   have i:bW w w1:=m.trans (C.mono m.size);have hq:=h.below i;have Y:gE (λk=>k<w.heap.size) w1 ob xs.os:=h.cat.any.keep (eR.TF i);refine (IB ((C.block _ s.lt).trans s) ((C.block _ x.lt).trans x) hq.TR Y (λk R=>by omega) (by have:=h.T9.1;omega)).mono ?_;rintro e w2 ⟨rfl,u,y,ho,M⟩;have N:bW w w2:=i.trans (M.below (B:=w.heap.size) λk R=>⟨XH R i.size,by omega⟩);exact ⟨_,t,pg,ob,P,xs,A,ps,rfl,.inl rfl,h.below N,rfl,⟨rfl,rfl⟩,M.mono λj _ f=>.inr (.inr f),rfl,rfl,λj f=>N.block j f,u,y,cW ho i.size⟩)
 have c1:=s.cell;have H:=hide3 Q m h;clear Q m s x h O;go_enter func38,ntmps38;go_wp2_with fail;refine H.out.1.mono ?_;rintro e I ⟨r,t',hd,hb,P',xs',B,o,rfl,hv,hr,hs,Z,b,rfl,rfl,z,u,a,d⟩;have y0:=a.cell;have y1:=a.frozen;obtain ⟨ao,c,rfl⟩:=fu d;obtain ⟨n,g⟩:=nM (xs'.os.length);rw [g] at y0 a;have T:=hide5 b d a z g;clear hr b d a z hv hs Z g;go_wp2;obtain ⟨b,d,a,z,g⟩:=T.out;have U:=(a.set (.slice ao n c)).cell;refine bodyPost_ret (v:=Z1 #[.slice ao n c,.nilIface]) (by simp [results,results38,go_sem,U]) rfl ?_;have K:bW I (I.setCell ⟨w.heap.size+1,0,Z0⟩ (.slice ao n c)):=⟨rfl,rfl,rfl,by simp [World.setCell],λj f=>by
  by_cases e:j=w.heap.size+1
  . subst e;exact (a.set (.slice ao n c)).trans a.symm
  . exact blk_setCell_other _ _ _ _ e⟩
 rw [g] at d;have q:=H.out.2.1;have S:w.heap.size<=I.heap.size:=XG q.size b.size;exact ⟨_,rfl,(Below.mk (b.os.trans q.os) (b.tape.trans q.tape) (b.output.trans q.output) S z).trans (K.mono S),by rw [g];exact aB d K⟩
theorem Ri {ps:cA} (hs:ZR w sa 92 (Z7 (ZZ ⟨ar,0,Z0⟩))) (h:aW w ar v p ps D L G t pg ob P xs A F) :
 ZU ZQ 25 #[Z7 (ZZ ⟨sa,0,Z0⟩)] w (LR w xs):=by
 have cs:=hs.cell;have b:=Rh h;clear hs h;go_enter func25,ntmps25;go_wp2_with fail;refine b.mono ?_;rintro e d ⟨u,rfl,a⟩;have c:=hide a;clear a b;go_wp2;go_ret2;exact ⟨u,rfl,c.out⟩
def Kd (B:Nat) (T:ZS) (w w':ZW):Prop:=∀ j cs,j<B->w.heap[j]?=ZZ (Z5 cs T (0,0))->w'.heap[j]?=w.heap[j]?
def Kd.below (h:bW w w') (B:Nat) (T:ZS):Kd B T w w':=λj _ _ a=>h.block j (XK.1 a).1
def Kd.trans {B:Nat} {b c:ZW} (h:Kd B T a b) (k:Kd B T b c):Kd B T a c:=λj cs d e=>(k j cs d ((h j cs d e).trans e)).trans (h j cs d e)
def Kd.mono {B:Nat} {b:ZW} (h:Kd B T a b) (c:B'<=B):Kd B' T a b:=λj cs d q=>h j cs (by omega) q
def SZ (T:ZS):Prop:=T=53\/T=80\/T=92\/T=5\/T=40
def ir (B:Nat) (w w':ZW):Prop:=∀ T,SZ T->Kd B T w w'
def ir.below (h:bW w w') (B:Nat):ir B w w':=λT _=>Kd.below h B T
def ir.trans {B:Nat} {b c:ZW} (h:ir B a b) (k:ir B b c):ir B a c:=λT d=>(h T d).trans (k T d)
def ir.mono {B:Nat} {b:ZW} (h:ir B a b) (c:B'<=B):ir B' a b:=λT d=>(h T d).mono c
theorem ir.live {B:Nat} {ps:cA} {off:Bool} (m:aq w p A F) (s:bM w ar v D L G t f n pg ob off) (x:bt w v p D L G ps.ps ho) (r:ps.S w) (o:aa (λj=>j=ar\/F.has p A.n j\/j=v\/ps.bl j) w w'):ir B w w':=λT i j cs _ b=>o.block j (XK.1 b).1 (λq=>by
 have a:T≠121/\T≠57/\T≠61/\T≠255/\T≠4:=by
  rcases i with rfl|rfl|rfl|rfl|rfl<;>exact ⟨by decide,by decide,by decide,by decide,by decide⟩
 have h:T≠130/\¬ l9 T:=by
  rcases i with rfl|rfl|rfl|rfl|rfl<;>exact ⟨by decide,by unfold l9;decide⟩
 rcases q with q|q|q|q
 . subst q;have g:w.heap[j]?=ZZ (Z5 (mR v D L G t f n pg ob off) 121 (0,0)):=s;rw [b] at g;simp only [XT,Obj.cells.injEq] at g;exact a.1 g.2.1
 . obtain ⟨l,T',e,u⟩:=m.kind q;rw [b] at e;simp only [XT,Obj.cells.injEq] at e;have c:=e.2.1;rcases u with k|k|k|k
   . exact a.2.1 (c.trans k)
   . exact a.2.2.1 (c.trans k)
   . exact a.2.2.2.1 (c.trans k)
   . exact a.2.2.2.2 (c.trans k)
 . subst q;have d:=x;unfold bt at d;rw [b] at d;simp only [XT,Obj.cells.injEq] at d;exact h.1 d.2.1
 . exact eN r b h.2 q)
def LS {B base size:Nat} {v:ZV} {xs:List ZV} (h:w.ownsRow base T size v n xs) (f:Kd B T w w') (e:w.heap.size<=B):w'.ownsRow base T size v n xs:=by
 refine ⟨h.1,?_⟩;rcases h.2 with d|⟨g,cap,cur,b,c,a,i⟩
 . exact .inl d
 . exact .inr ⟨g,cap,cur,b,c,(f _ _ (XH (XK.1 a).1 e) a).trans a,i⟩
def Ow (w:ZW) (v:ZV) (l:List Nat):Prop:=(∃ base,w.ownsRow base 5 1 v l.length (aH l))/\(∀ x∈l,x<256)/\l.length<=1500
def Ow.nil (w:ZW):Ow w (Z6 Z0 0 0) []:=⟨⟨0,World.ownsRow_nil _ _ _ _⟩,λx a=>(by cases a),by decide⟩
def Ow.keep {v:ZV} (h:Ow w v l) (d:Kd w.heap.size 5 w w'):Ow w' v l:=by
 obtain ⟨⟨base,a⟩,b,c⟩:=h;exact ⟨⟨base,LS a d lR⟩,b,c⟩
def Ow.bs {v:ZV} (h:Ow w v l):Bs w v l:=by
 obtain ⟨⟨base,ho⟩,e,o⟩:=h;rcases ho.2 with ⟨rfl,d⟩|⟨g,cap,cur,rfl,f,i,c,j,m,n⟩
 . have:l=[]:=List.eq_nil_of_length_eq_zero d;subst this;exact ⟨Z0,0,rfl,XJ _,by decide,λx h=>(by cases h),λh=>absurd rfl h⟩
 . refine ⟨_,cap,rfl,c,by omega,e,λ_=>⟨g,0,rfl,λk b=>?_⟩⟩;have a:=ho.cells (g:=g) rfl k (Z8 .u8 ((l.getD k 0:Nat):Int)) (by
    unfold aH;rw [Yg,XQ b,X5,XQ b];rfl)
   rw [mN] at a;rw [Nat.zero_add];exact a
def Ow.sl {v:ZV} (h:Ow w v l):ly v/\Ba v=l.length:=by
 obtain ⟨⟨base,ho⟩,_,a⟩:=h;obtain ⟨b,c,rfl⟩:=fu ho;exact ⟨⟨_,_,_,rfl,by omega⟩,rfl⟩
def jL (w:ZW):List (ByteArray×ZV)->aS->Prop
 | [],[]=>True
 | q::Q,x::xs=>(q.1=x.1.name/\Ow w q.2 x.2)/\jL w Q xs
 | _,_=>False
def jL.len:∀ {Q:List (ByteArray×ZV)} {xs:aS},jL w Q xs->Q.length=xs.length
 | [],[],_=>rfl
 | [],_::_,h=>h.elim
 | _::_,[],h=>h.elim
 | _::Q,_::xs,h=>by rw [XP,XP,jL.len h.2]
def jL.names:∀ {Q:List (ByteArray×ZV)} {xs:aS},jL w Q xs->cJ Q=xs.names
 | [],[],_=>rfl
 | [],_::_,h=>h.elim
 | _::_,[],h=>h.elim
 | q::Q,x::xs,h=>by
  have e:cJ (q::Q)=q.1::cJ Q:=rfl;have a:aS.names (x::xs)=x.1.name::aS.names xs:=rfl;rw [e,a,h.1.1,jL.names h.2]
def jL.keep (a:∀ v l,Ow w v l->Ow w' v l):∀ {Q:List (ByteArray×ZV)} {xs:aS},jL w Q xs->jL w' Q xs
 | [],[],_=>trivial
 | [],_::_,h=>h.elim
 | _::_,[],h=>h.elim
 | _::_,_::_,h=>⟨⟨h.1.1,a _ _ h.1.2⟩,jL.keep a h.2⟩
def jL.take:∀ {Q:List (ByteArray×ZV)} {xs:aS} (k:Nat),jL w Q xs->jL w (Q.take k) (xs.take k)
 | _,_,0,_=>by simp only [List.take_zero];exact trivial
 | [],[],_+1,_=>trivial
 | [],_::_,_+1,h=>h.elim
 | _::_,[],_+1,h=>h.elim
 | _::_,_::_,k+1,h=>⟨h.1,jL.take k h.2⟩
def jL.drop:∀ {Q:List (ByteArray×ZV)} {xs:aS} (k:Nat),jL w Q xs->jL w (Q.drop k) (xs.drop k)
 | _,_,0,h=>h
 | [],[],_+1,_=>trivial
 | [],_::_,_+1,h=>h.elim
 | _::_,[],_+1,h=>h.elim
 | _::_,_::_,k+1,h=>jL.drop k h.2
def jL.app:∀ {Q Q':List (ByteArray×ZV)} {xs xs':aS},jL w Q xs->jL w Q' xs'->jL w (Q++Q') (xs++xs')
 | [],_,[],_,_,a=>a
 | [],_,_::_,_,h,_=>h.elim
 | _::_,_,[],_,h,_=>h.elim
 | _::_,_,_::_,_,h,a=>⟨h.1,jL.app h.2 a⟩
def jL.at:∀ {Q:List (ByteArray×ZV)} {xs:aS},jL w Q xs->∀ k (a:k<Q.length) (b:k<xs.length),Q[k].1=xs[k].1.name/\Ow w Q[k].2 xs[k].2
 | [],_,_,_,a,_=>absurd a (by simp)
 | _::_,[],h,_,_,_=>h.elim
 | _::_,_::_,h,0,_,_=>h.1
 | _::Q,_::xs,h,k+1,a,b=>jL.at h.2 k (by simpa using a) (by simpa using b)
def jL.sl:∀ {Q:List (ByteArray×ZV)} {xs:aS},jL w Q xs->∀ o∈Q,ly o.2
 | [],_,_,_,h=>by cases h
 | _::_,[],h,_,_=>h.elim
 | q::Q,x::xs,h,o,ho=>by
  rcases XR.1 ho with rfl|ho
  . exact h.1.2.sl.1
  . exact jL.sl h.2 o ho
def jL.TE (D:Nat):∀ {Q:List (ByteArray×ZV)} {xs:aS},jL w Q xs->(Q.map λo=>Ba o.2/(D*44)+1).sum=rC D xs
 | [],[],_=>rfl
 | [],_::_,h=>h.elim
 | _::_,[],h=>h.elim
 | q::Q,x::xs,h=>by
  unfold rC;rw [Yj,Yj,Yk,Yk,h.1.2.sl.2,jL.TE D h.2];rfl
def nY (x:ByteArray):cw x↔bu x=ZY:=by unfold cw bu;simp
theorem nZ (h:jL w Q xs) (x:ByteArray):qB Q x↔x∉xs.names:=by
 rw [<- h.names];constructor
 . intro f a;obtain ⟨k,b,e⟩:=Yl a;have c:k<Q.length:=(by unfold cJ at b;rwa [XX] at b);refine f k c ?_;rw [<- e];simp [cJ]
 . intro a j d e;refine a ?_;rw [<- toList_inj e];exact XI.2 ⟨Q[j],XL d,rfl⟩
def lf (h:jL w Q xs) (d:Up xs.names) {x:ByteArray} {k:Nat} (f:MN Q x k):aD xs.names x=k/\k<Q.length/\x∈xs.names:=by
 obtain ⟨b,e,_⟩:=f;have c:k<(cJ Q).length:=by unfold cJ;rw [XX];exact b
 have a:(cJ Q)[k]=x:=by simp only [cJ,Ym];exact toList_inj e
 rw [<- h.names] at d ⊢;exact ⟨im d c a,b,a▸XL c⟩
section
structure uR where
 w:ZW
 z:ZW
 own:Nat->Prop
structure MB (w0:uR) (w:ZW) (wb D L G nb t:Nat) (xs:aS) (p r sa ar v:Nat) (sv:cA->ay->Prop) (ps:cA) (pg ob:ZV) (P:List Nat) (A:ay) (F:bh) (out want:ZV) (cache:Int):Prop where
 T7:nX w wb D L G (Z7 (ZZ ⟨p,0,Z0⟩)) (Z7 (ZZ ⟨sa,0,Z0⟩)) (Z7 (ZZ ⟨r,0,Z0⟩)) nb out want cache
 box:ZR w sa 92 (Z7 (ZZ ⟨ar,0,Z0⟩))
 live:aW w ar v p ps D L G t pg ob P xs A F
 nb:A.nb=nb
 base:Below w0.w.heap.size w0.w w
 Vd:cf w0.w
 hK:3<=w0.w.heap.size
 VG:w0.w.heap.size<=wb
 lt:wb<ar
 fB:∀ k,F.has p A.n k->w0.w.heap.size<=k
 vB:w0.w.heap.size<=v
 kB:∀ k,ps.bl k->w0.w.heap.size<=k
 shv:sv ps A
 V9:∀ ps A B,B.n=A.n->B.lost=A.lost->sv ps A->sv ps B
 Vq:¬ ps.bl wb
 fr:aa w0.own w0.z w
 Vw:∀ k,(k=wb\/k=ar\/F.has p A.n k\/k=v\/ps.bl k)->w0.own k\/w0.z.heap.size<=k
structure Dc (wz w:ZW) (r:Nat) (Q:List (ByteArray×ZV)) (xs:aS) (out want:ZV):Prop where
 op:Kd wz.heap.size 40 wz w
 ref:∃ rb rv,oU w r rb rv Q
 rel:jL w Q xs
 ow:∃ l,Ow w out l/\Ow w want l
def MS (sv:cA->ay->Prop) (X:aS->ay->Nat->Prop) (w0:uR) (w:ZW) (wb D L G nb T:Nat):Prop:=∃ t xs Q p r sa ar v ps pg ob P A F out want cache,MB w0 w wb D L G nb t xs p r sa ar v sv ps pg ob P A F out want cache/\Dc w0.z w r Q xs out want/\t<=T/\X xs A ps.ho
def ir.ref {B:Nat} (h:oU w r rb rv Q) (b:ir B w w') (a:w.heap.size<=B):oU w' r rb rv Q:=
 ⟨(b _ (.inl rfl) r _ (XH (XK.1 h.top).1 a) h.top).trans h.top,LS h.own (b _ (.inr (.inl rfl))) a⟩
def ir.box {B:Nat} (h:ZR w sa 92 u) (b:ir B w w') (a:w.heap.size<=B):ZR w' sa 92 u:=
 (b _ (.inr (.inr (.inl rfl))) sa _ (XH h.lt a) h).trans h
def ir.ow {B:Nat} (h:Ow w u l) (b:ir B w w') (a:w.heap.size<=B):Ow w' u l:=h.keep ((b _ (.inr (.inr (.inr (.inl rfl))))).mono a)
def Dc.keep {B:Nat} {wz:ZW} (h:Dc wz w r Q xs out want) (b:ir B w w') (a:w.heap.size<=B):Dc wz w' r Q xs out want:=by
 obtain ⟨rb,rv,hr⟩:=h.ref;obtain ⟨l,d,f⟩:=h.ow;exact ⟨λj cs c q=>by
  have e:=h.op j cs c q;exact (b _ (.inr (.inr (.inr (.inr rfl)))) j cs (XH (XK.1 (e.trans q)).1 a) (e.trans q)).trans e,⟨rb,rv,b.ref hr a⟩,h.rel.keep λ_ _ o=>b.ow o a,⟨l,b.ow d a,b.ow f a⟩⟩
def cf.below (h:cf w) (b:bW w w'):cf w':=by
 have a:w.cell? ⟨0,0,Z0⟩=_:=h;exact (b.cell (block_lt_of_cell a)).trans a
section
variable {w0:uR} {w w':ZW} {wb D L G nb t:Nat} {xs:aS} {p r sa ar v:Nat} {sv:cA->ay->Prop} {ps:cA} {pg ob:ZV} {P:List Nat} {A:ay} {F:bh} {out want:ZV} {cache:Int}
def MB.gl (h:MB w0 w wb D L G nb t xs p r sa ar v sv ps pg ob P A F out want cache):cf w:=h.Vd.below h.base
theorem MB.next (h:MB w0 w wb D L G nb t xs p r sa ar v sv ps pg ob P A F out want cache) (i:ir w.heap.size w w') (m:w'.heap[wb]?=w.heap[wb]?) (g:Below w0.w.heap.size w0.w w') {t':Nat} {xs':aS} {pg' a:ZV} {P':List Nat} {B:ay} {ps':cA} (j:aW w' ar v p ps' D L G t' pg' a P' xs' B F) (c:B.n=A.n) (f:B.nb=A.nb) (l:sv ps' B) (b:∀ k,ps'.bl k->ps.bl k\/w.heap.size<=k) (d:aa w0.own w0.z w') :
 MB w0 w' wb D L G nb t' xs' p r sa ar v sv ps' pg' a P' B F out want cache:=
 ⟨aw.keep h.T7 m,i.box h.box lR,j,f.trans h.nb,g,h.Vd,h.hK,h.VG,h.lt,by rw [c];exact h.fB,h.vB,λk q=>(b k q).elim (h.kB k) λe=>XG h.base.size e,l,h.V9,λq=>(b wb q).elim h.Vq λe=>absurd (aw.lt h.T7) (Nat.not_lt.2 e),d,λk q=>by
  rw [c] at q;rcases q with q|q|q|q|q
  . exact h.Vw k (.inl q)
  . exact h.Vw k (.inr (.inl q))
  . exact h.Vw k (.inr (.inr (.inl q)))
  . exact h.Vw k (.inr (.inr (.inr (.inl q))))
  . exact (b k q).elim (λe=>h.Vw k (.inr (.inr (.inr (.inr e))))) λe=>.inr (XG h.fr.size e)⟩
def MB.below (h:MB w0 w wb D L G nb t xs p r sa ar v sv ps pg ob P A F out want cache) (a:bW w w'):MB w0 w' wb D L G nb t xs p r sa ar v sv ps pg ob P A F out want cache:=
 h.next (ir.below a _) (a.block _ (aw.lt h.T7)) (h.base.trans (a.mono h.base.size)) (h.live.below a) rfl rfl h.shv (λ_ q=>.inl q) (h.fr.trans (aa.TG a _))
def MB.Wc (h:MB w0 w wb D L G nb t xs p r sa ar v sv ps pg ob P A F out want cache):¬ F.has p A.n wb/\wb≠v:=by
 have c:w.heap[wb]?=ZZ (Z5 _ 36 (0,0)):=h.T7;refine ⟨λq=>?_,λe=>?_⟩
 . obtain ⟨cs,T,b,f⟩:=h.live.vol.arr.kind q;rw [c] at b;simp only [XT,Obj.cells.injEq] at b;have d:=b.2.1;rcases f with k|k|k|k<;>exact absurd (d.trans k) (by decide)
 . have a:=h.live.vol.vol;unfold bt at a;rw [<- e,c] at a;cases a
theorem MB.Vn (h:MB w0 w wb D L G nb t xs p r sa ar v sv ps pg ob P A F out want cache) (c:aa (λj=>j=ar\/F.has p A.n j\/j=v\/ps.bl j) w w') {t':Nat} {xs':aS} {pg' b:ZV} {P':List Nat} {B:ay} {ps':cA} (f:aW w' ar v p ps' D L G t' pg' b P' xs' B F) (g:B.n=A.n) (e:B.nb=A.nb) (i:sv ps' B) (d:∀ k,ps'.bl k->ps.bl k\/w.heap.size<=k) :
 MB w0 w' wb D L G nb t' xs' p r sa ar v sv ps' pg' b P' B F out want cache/\ir w.heap.size w w':=by
 have a:=ir.live (B:=w.heap.size) h.live.vol.arr h.live.TR h.live.vol.vol h.live.kit c;refine ⟨h.next a (c.block _ (aw.lt h.T7) (λq=>?_)) (h.base.trans (c.below λk a=>⟨XH a h.base.size,λq=>?_⟩)) f g e i d (h.fr.later c λk a q=>(h.Vw k (.inr q)).resolve_right (by omega)),a⟩
 . rcases q with q|q|q|q
   . have:=h.lt;omega
   . exact h.Wc.1 q
   . exact h.Wc.2 q
   . exact h.Vq q
 . have:=h.VG;have:=h.lt;have:=h.vB;rcases q with q|q|q|q
   . omega
   . have:=h.fB k q;omega
   . omega
   . have:=h.kB k q;omega
def MB.call (h:MB w0 w wb D L G nb t xs p r sa ar v sv ps pg ob P A F out want cache) (d:aa (λj=>j=ar\/F.has p A.n j) w w') {t':Nat} {xs':aS} {pg' a:ZV} {P':List Nat} {B:ay} (f:aW w' ar v p ps D L G t' pg' a P' xs' B F) (c:B.n=A.n) (b:B.nb=A.nb/\B.lost=A.lost) :
 MB w0 w' wb D L G nb t' xs' p r sa ar v sv ps pg' a P' B F out want cache/\ir w.heap.size w w':=h.Vn (d.mono λ_ _ q=>q.elim .inl λe=>.inr (.inl e)) f c b.1 (h.V9 _ _ _ c b.2 h.shv) λ_ q=>.inl q
theorem MB.write (h:MB w0 w wb D L G nb t xs p r sa ar v sv ps pg ob P A F out want cache) (d:aa (λj=>j=wb) w w') {r':Nat} {out' a:ZV} {cache':Int}
 (n:nX w' wb D L G (Z7 (ZZ ⟨p,0,Z0⟩)) (Z7 (ZZ ⟨sa,0,Z0⟩)) (Z7 (ZZ ⟨r',0,Z0⟩)) nb out' a cache') :
 MB w0 w' wb D L G nb t xs p r' sa ar v sv ps pg ob P A F out' a cache'/\ir w.heap.size w w':=by
 obtain ⟨i,l⟩:=h.Wc;have g:∀ j,j≠wb->j<w.heap.size->w'.heap[j]?=w.heap[j]?:=λj b f=>d.block j f b;have o:w.heap[wb]?=ZZ (Z5 _ 36 (0,0)):=h.T7;have c:ir w.heap.size w w':=λT m j cs f b=>g j (λe=>by
  subst e;rw [o] at b;simp only [XT,Obj.cells.injEq] at b;have e:=b.2.1;rcases m with q|q|q|q|q<;>exact absurd (e.trans q) (by decide)) f
 exact ⟨⟨n,c.box h.box lR,h.live.other d.size g h.lt l i (by have:=h.hK;have:=h.VG;omega) h.Vq,h.nb,h.base.trans (d.below λk c=>⟨XH c h.base.size,λq=>by have:=h.VG;omega⟩),h.Vd,h.hK,h.VG,h.lt,h.fB,h.vB,h.kB,h.shv,h.V9,h.Vq,h.fr.later d λk c q=>(h.Vw k (.inl q)).resolve_right (by omega),h.Vw⟩,c⟩
end
end
def iu (w:ZW) (q:Nat) (o:pJ) (dv:ZV):Prop:=aw w q 40 [Z8 Z9 o.kind,Z8 Z9 o.a,Z2 o.s,dv]
def iu.cells {dv:ZV} (h:iu w q o dv):w.cell? ⟨q,0,Z0⟩=ZZ (Z8 Z9 o.kind)/\w.cell? ⟨q,1,Z0⟩=ZZ (Z8 Z9 o.a)/\w.cell? ⟨q,2,Z0⟩=ZZ (Z2 o.s)/\w.cell? ⟨q,3,Z0⟩=ZZ dv:=
 ⟨aw.cell h rfl,aw.cell h rfl,aw.cell h rfl,aw.cell h rfl⟩
def Ru (x:ZV) (n:Int):Prop:=x=rQ n\/(x=.nilIface/\n=0)
def uS {x:ZV} {n:Int} (b:Ru x n) {w:ZW} (a:cf w):ZU ZQ 18 #[x] w λe w'=>e=Z4 (Z8 Z9 n)/\bW w w':=by
 rcases b with rfl|⟨rfl,rfl⟩
 . exact Du n w a
 . exact sY w
def LU (n:Int) (D t:Nat) (xs:aS) (A:ay) (x:ByteArray) (d:List Nat) (t':Nat) (xs':aS):Prop:=
 (n=6/\t'=t/\xs'=xs/\¬ cw x)\/(n=7/\t'=t/\xs'=xs/\cw x/\1500<d.length)\/(n=8/\t'=t/\xs'=xs/\cw x/\d.length<=1500/\x∈xs.names) \/
 (n=10/\t'=t/\xs'=xs/\cw x/\d.length<=1500/\x∉xs.names/\A.nb<(ah xs.os).length+fL D d.length+2*mV D (az xs.os).length d.length+2) \/
 (n=0/\t'=t+1/\cw x/\d.length<=1500/\x∉xs.names/\(ah xs.os).length+fL D d.length+2*mV D (az xs.os).length d.length+2<=A.nb/\∃ o,o.name=x/\xs'=xs.ins (o,d))
def ID (D:Nat) (xs:aS) (A:ay) (ho:Nat) (x:ByteArray) (d:List Nat) (xs':aS) (A':ay) (ho':Nat):Prop:=ho'=ho/\A'.lost=A.lost/\A'.reads=A.reads/\∃ n t t',LU n D t xs A x d t' xs'
def NI {r:ZV} (h:EE D t xs A x d r t' xs' B w):∃ n,Ru r n/\LU n D t xs A x d t' xs':=by
 have i:=nY x;have k:bu x=ZX->¬ cw x:=λe q=>by rw [i,e] at q;cases q
 rcases h.2 with ⟨a,b,f,c⟩|⟨a,b,f,c,g⟩|⟨a,b,f,c,g,j⟩|⟨a,b,f,c,g⟩|⟨a,b,c,g⟩
 . exact ⟨6,.inl a,.inl ⟨rfl,b,f,k c⟩⟩
 . exact ⟨7,.inl a,.inr (.inl ⟨rfl,b,f,i.2 c,g⟩)⟩
 . exact ⟨8,.inl a,.inr (.inr (.inl ⟨rfl,b,f,i.2 c,g,j⟩))⟩
 . exact ⟨10,.inl a,.inr (.inr (.inr (.inl ⟨rfl,b,f,i.2 c,g⟩)))⟩
 . exact ⟨0,.inr ⟨a,rfl⟩,.inr (.inr (.inr (.inr ⟨rfl,b,i.2 c,g⟩)))⟩
def TC (w:ZW) (q:Nat) (Q:List (ByteArray×ZV)) (x:ByteArray) (d:List Nat) (n:Int) (e:ZT) (w':ZW):Prop:=
 (n≠0/\n≠10/\e=Z4 (Z8 Z9 n)/\w'=w)\/((n=0\/n=10)/\LG w q Q x d e w')
theorem NJ {n:Int} (hr:oU w q rb rv Q) (p:Q.length<=1000) (l:jL wx Q xs) (hs:∀ o∈Q,ly o.2) {ao:Option Addr} {c m:Nat} (j:d.length=m) (i:Bs w (.slice ao m c) d) (k:LU n D t xs A x d t' xs') :
 ZU ZQ 34 #[Z7 (ZZ ⟨q,0,Z0⟩),Z2 x,.slice ao m c] w (TC w q Q x d n):=by
 subst j;have g:=nZ l x;rcases k with ⟨rfl,_,_,a⟩|⟨rfl,_,_,a,b⟩|⟨rfl,_,_,a,b,f⟩|⟨rfl,_,_,a,b,f,_⟩|⟨rfl,_,a,b,f,_⟩
 . exact (Io q x ao _ c a w).mono λe w' h=>.inl ⟨by decide,by decide,h.1,h.2⟩
 . exact (Ip q x ao _ c a b w).mono λe w' h=>.inl ⟨by decide,by decide,h.1,h.2⟩
 . exact (Cr hr (by omega) x ao _ c a b (λh=>g.1 h f)).mono λe w' h=>.inl ⟨by decide,by decide,h.1,h.2⟩
 . exact (FD hr (by omega) hs x ao c d i b a (g.2 f)).mono λe w' h=>.inr ⟨.inr rfl,h⟩
 . exact (FD hr (by omega) hs x ao c d i b a (g.2 f)).mono λe w' h=>.inr ⟨.inl rfl,h⟩
def IE (h:aL w b l):uQ w b:=λoff u c=>by
 have f:=h.heap;simp only [World.cell?,f] at c;have:u∈(l.map (λx=>Value.int .u8 ((x:Nat):Int))):=by
  have a:=c;simp at a;obtain ⟨x,g,rfl⟩:=a;obtain ⟨d,e⟩:=Yf.1 g;exact XI.2 ⟨x,e▸XL d,rfl⟩
 obtain ⟨x,_,rfl⟩:=XI.1 this;exact ⟨λy e=>(by cases e),λs e=>(by cases e)⟩
def aL.bs (h:aL w b (l++[71,72])) (d:l.length=m) (f:l.length<=1000000) (e:∀ x∈l,x<256):Bs w (Z6 (ZZ ⟨b,0,Z0⟩) m (m+2)) l:=by
 subst d;have:=Bs.Uj (n:=l.length) h (by simp) (by omega) (by intro x c;rcases XS.1 c with q|q;exact e x q;simp at q;omega);have a:(l++[71,72]).length=l.length+2:=by simp
 rw [a,List.take_left'] at this;exact this;rfl
def LV (a:jL w Q xs) {D nb m t t':Nat} {xs':aS} {A:ay} {x:ByteArray} {d:List Nat} (o:A.nb=nb) (l:d.length=m) (hD:1<=D) (f:D<=6) (k:∀ x∈xs,iT D x) (h:LU 10 D t xs A x d t' xs'):(nb:Int)-8<(jD Q D (m:Int):Int):=by
 rcases h with ⟨e,_⟩|⟨e,_⟩|⟨e,_⟩|⟨_,_,_,_,i,_,j⟩|⟨e,_⟩
 . cases e
 . cases e
 . cases e
 . have g:=Es hD f k (n:=d.length) (nb:=A.nb) i rfl rfl j;have b:bQ Q (D*44) Q.length=rC D xs:=(by unfold bQ;rw [List.take_length];exact a.TE D);have c:jD Q D (m:Int)=rC D xs+(m/(D*44)+1)+2*((xs.length+1)*200/(D*44)+1):=by
    unfold jD;rw [if_pos (by omega),Int.toNat_natCast,b,a.len]
   rw [l] at g;rw [c];omega
 . cases e
theorem LW {w0:uR} {sv:cA->ay->Prop} {ps:cA} (h:MB w0 w wb D L G nb t xs p r sa ar v sv ps pg ob P A F out want cache) (hc:Dc w0.z w r Q xs out want) (o:pJ) (dv:ZV) (u:Bs w0.w dv o.d) (xd:o.d.length<=100000) (xh:t+1<=1000000) (x9:D<=6) :
 ZU ZQ 16 #[Z7 (ZZ ⟨wb,0,Z0⟩),.agg #[Z8 Z9 o.kind,Z8 Z9 o.a,Z2 o.s,dv]] w λe w'=>e=Z4 (Z3 ZY)/\MS sv (ID D xs A ps.ho o.s o.d) w0 w' wb D L G nb (t+1):=by
 obtain ⟨da,dc,xe,_⟩:=id u;subst xe;have y:=u.lt;obtain ⟨m,f⟩:=nM (o.d.length);rw [f] at u xd ⊢;obtain ⟨w1,qo⟩:=nM (w.alloc (Z5 #[Z8 Z9 o.kind,Z8 Z9 o.a,Z2 o.s,.slice da m dc] 40));have H:iu w1 w.heap.size o (.slice da m dc):=by rw [<- qo];exact heap_alloc_last w _
 have qd:bW w w1:=by rw [<- qo];exact bA w _
 have l:=h.below qd;have N:=hc.keep (ir.below qd _) lR;obtain ⟨S,ko⟩:=nM (w.heap.size);have R:S<w1.heap.size:=by rw [<- ko];exact aw.lt H
 have V:ar<S:=by rw [<- ko];exact h.live.TR.lt
 have E:∀ k,F.has p A.n k->k<S:=λk hk=>by rw [<- ko];exact h.live.vol.arr.TH hk
 have W:v<S:=by rw [<- ko];exact h.live.vol.vol.lt
 rw [ko] at H;have x3:=H.cells.2.2.2;have qm:=FU _ o.d w1 (u.mono l.base) (by omega);rw [f] at qm;have H1:=hide10 H l N u y f R V E W;have HQ:=hide ko;clear H l N u y f R V E W h hc qd;go_enter func16,ntmps16;go_wp2_with fail;clear ko;refine qm.mono ?_;rintro e w2 ⟨rb,rfl,ka,kc,ke⟩;clear qm qo x3;obtain ⟨H,l,N,u,y,f,R,V,E,W⟩:=H1.out;have ks:iu w2 S o (.slice da m dc):=aw.keep H (ke.block _ R);have h2:=l.below ke;have y2:=ks.cells.2.2.1;have s2:=h2.T7.cells.2.2.2.2.1;have ky:bW w2 w2.drew:=(Below.refl _ w2).drew;have qa:=h2.below ky;have km:=Sd qa.box qa.live o.s rb 0 (m+2) o.d (λw' hO=>by
  rw [f];have x8:aL w' rb (o.d++[71,72]):=World.rowIs.of_block kc (hO.block rb kc.lt (λe=>by have:=E _ e;omega));exact x8.bs f (by omega) y) (by omega) xh
 rw [f] at km;have H2:=hide6 ks h2 ke kc ka ky;clear H l N u y f R V E W ks h2 ke kc ka ky qa;go_upto_region 2 with fail;go_cut [6] from 12 to 82 (λv6 wx=>eQ w2.drew ar v p ps D L G A F (EE D t xs A o.s o.d) (Z4 v6) wx)
 case first=>
  go_region_with (go_at_call 32;refine km.mono ?_;rintro e w3 qi;obtain ⟨rr,_,_,_,_,_,_,rfl,_⟩:=id qi;have H3:=hide qi;clear qi);all_goals (go_wp2_with fail;go_meet;case rel=>exact H3.out)
 case rest=>
  obtain ⟨rr,t',xo,qr,P',xs',B,he,_,qy,kf,i,qq,qc⟩:=hcut;cases he;obtain ⟨n,hN,g⟩:=NI qc;obtain ⟨H,l,N,u,y,f,R,V,E,W⟩:=H1.out;obtain ⟨ks,h2,ke,kc,ka,ky⟩:=H2.out;have kr:=ke.size;have hs:aa (λj=>j=ar\/F.has p A.n j) w2 wc:=(aa.TG ky _).trans qq;obtain ⟨h3,qx⟩:=h2.call hs qy kf i;have kv:iu wc S o (.slice da m dc):=aw.keep ks (hs.block _ (by omega) (λe=>by
   rcases e with e|e
   . omega
   . have:=E _ e;omega))
  have kz:aL wc rb (o.d++[71,72]):=World.rowIs.of_block kc (hs.block rb kc.lt (λe=>by
   rcases e with e|e
   . omega
   . have:=E _ e;omega))
  have x2:=uS hN h3.gl;have x5:=hs.size;have k0:ir w1.heap.size w1 wc:=(ir.below ke _).trans (qx.mono kr);have H3:=hide10 kv h3 kz k0 g (XG kr x5) kf i.1 i.2 qc.1;clear hN g H l N u y f R V E W ks h2 ke kc ka ky kr hs h3 qx kv kz x5 k0 qy kf i qq qc km y2 s2;go_wp2_with fail;refine x2.mono ?_;rintro e w4 ⟨rfl,kx⟩;clear x2;obtain ⟨H,l,N,u,y,f,R,V,E,W⟩:=H1.out;obtain ⟨kv,h3,kz,k0,g,q7,kf,i⟩:=H3.out;have ka:=H2.out.2.2.2.2.1;have c:=h3.below kx;have ki:iu w4 S o (.slice da m dc):=aw.keep kv (kx.block _ (aw.lt kv));have kh:aL w4 rb (o.d++[71,72]):=kz.below kx;have qn:=FV rb _ o.d w4 kh (u.mono c.base) (by omega);rw [f] at qn;have x4:=ki.cells.2.2.2;have H4:=hide5 ki c kh (k0.trans (ir.below kx _)) (XG q7 kx.size);clear H l N u y f R V E W kv h3 kz k0 g q7 kf i ka ki kh c kx;go_wp2_with fail;refine qn.mono ?_;rintro e X ⟨rfl,Z,_⟩;clear qn x4;obtain ⟨H,l,N,u,y,f,R,V,E,W⟩:=H1.out;obtain ⟨ki,c,kh,q3,qp⟩:=H4.out;obtain ⟨_,_,_,_,g,_,kf,i⟩:=H3.out;have ka:=H2.out.2.2.2.2.1;have ha:∀ j,j≠rb->j<w4.heap.size->X.heap[j]?=w4.heap[j]?:=λj hj hl=>Z.block j hl (λe=>hj (by cases e;rfl));have kb:=Z.size;have qz:=c.live.aside (w':=X) (b:=rb) (B:=w1.heap.size) (IE kh) (by obtain ⟨cs,xc,_⟩:=kh;exact eN c.live.kit xc z7) kb ha ka (λk hk=>by rw [kf] at hk;have:=E k hk;omega) (by omega) (by omega) (by have:=l.live.vol.room;exact this);have q4:ir w1.heap.size w4 X:=λT _ j cs hj hq=>ha j (by omega) (by omega);have q1:Below w0.w.heap.size w0.w X:=c.base.trans ⟨Z.os,Z.tape,Z.output,kb,λj hj=>ha j (by have:=l.base.size;omega) (XH hj c.base.size)⟩;have q6:X.heap[wb]?=w4.heap[wb]?:=ha wb (by have:=l.lt;omega) (aw.lt c.T7);have K:MB w0 X wb D L G nb t' xs' p r sa ar v sv ps xo qr P' B F out want cache:=⟨aw.keep c.T7 q6,(ha sa (by have:=l.box.lt;omega) c.box.lt).trans c.box,qz,c.nb,q1,c.Vd,c.hK,c.VG,c.lt,c.fB,c.vB,c.kB,c.shv,c.V9,c.Vq,c.fr.later (T:=λj=>j=rb) ⟨Z.os,Z.tape,Z.output,kb,λj hj hq=>ha j hq hj⟩ (λk hk q=>by have:=l.fr.size;omega),c.Vw⟩;have hr:iu X S o (.slice da m dc):=aw.keep ki (ha S (by omega) (aw.lt ki));have C:=N.keep (q3.trans q4) lR;obtain ⟨y0,y3,x1⟩:=C.ref;have U:Q.length<=1000:=by
   rw [C.rel.len];have:=l.live.T9.1;simpa [aS.os] using this
  have qv:=xM x1 (by omega) C.rel.sl;have r5:=K.T7.cells.2.2.2.2.2.1;have H5:=hide4 hr K C U;clear H l N u y f R V E W ki c kh q3 qp g kf i ka ha kb qz q4 q1 q6 K hr C x1 U Z;go_wp2_with fail;refine qv.mono ?_;rintro e w6 ⟨rfl,⟨u6,kg⟩,M⟩;clear qv r5;obtain ⟨hr,K,C,U⟩:=H5.out;obtain ⟨_,_,_,u,y,f,_,_,_,_⟩:=H1.out;have g:=H3.out.2.2.2.2.1;have h6:=K.below M;have kj:iu w6 S o (.slice da m dc):=aw.keep hr (M.block _ (aw.lt hr));have qj:=NJ kg U C.rel C.rel.sl f (u.mono h6.base) g;obtain ⟨_,_,y6,x6⟩:=kj.cells;obtain ⟨q5,kp⟩:=nM (X.heap.size);rw [kp] at qj kg ⊢;have H6:=hide5 kj h6 kg M kp;clear hr K C U u y f g h6 kj kg M kp;go_wp2_with fail;refine qj.mono ?_;rintro e x xg;clear qj y6 x6;obtain ⟨kj,h6,kg,M,kp⟩:=H6.out;obtain ⟨hr,K,C,U⟩:=H5.out;have g:=H3.out.2.2.2.2.1;have i:=H3.out.2.2.2.2.2.2.2;rcases xg with ⟨n0,xx,rfl,rfl⟩|⟨hn,rfl,u7,xm,qk,qg,qb⟩
  . have hh:t'=t/\xs'=xs:=by
     rcases g with ⟨_,J,Y,_⟩|⟨_,J,Y,_⟩|⟨_,J,Y,_⟩|⟨_,J,Y,_⟩|⟨e,_⟩
     . exact ⟨J,Y⟩
     . exact ⟨J,Y⟩
     . exact ⟨J,Y⟩
     . exact ⟨J,Y⟩
     . exact absurd e n0
    obtain ⟨rfl,rfl⟩:=hh;have hh:MS sv (ID D xs' A ps.ho o.s o.d) w0 x wb D L G nb (t'+1):=⟨_,_,_,_,_,_,_,_,_,_,_,_,_,_,_,_,_,h6,C.keep (ir.below M _) lR,by omega,rfl,i.2.1,i.2.2,_,_,_,g⟩;have HF:=hide hh;clear hh kj h6 kg M kp hr K C U g i;go_wp2_with fail;refine (oI n x).mono ?_;rintro e w8 ⟨rfl,rfl⟩;go_wp2;go_ret;exact ⟨rfl,HF.out⟩
  . have kk:Below X.heap.size w6 x:=qb.below λk hk=>⟨XH hk M.size,by omega⟩;have hv:bW X x:=M.trans kk;have I:=K.below hv;have O:=C.keep (ir.below hv _) lR;rcases hn with rfl|rfl
    . have hb:t'=t+1/\∃ ob,ob.name=o.s/\xs'=xs.ins (ob,o.d)/\o.d.length<=1500:=by
       rcases g with ⟨e,_⟩|⟨e,_⟩|⟨e,_⟩|⟨e,_⟩|⟨_,J,_,e3,_,_,qr,e4,e5⟩
       . cases e
       . cases e
       . cases e
       . cases e
       . exact ⟨J,qr,e4,e5,e3⟩
      obtain ⟨rfl,xk,qh,rfl,qf⟩:=hb;have y:=H1.out.2.2.2.2.1;have q8:=I.T7;have r7:=q8.cells.2.2.2.2.2.1;have f7:=aw.TX q8 5;have hN:∀ w8,w8=x.setCell ⟨wb,5,Z0⟩ (Z7 (ZZ ⟨q5,0,Z0⟩))->MS sv (ID D xs A ps.ho o.s o.d) w0 w8 wb D L G nb (t+1):=by
       rintro w8 rfl;have xa:aa (λj=>j=wb) x (x.setCell ⟨wb,5,Z0⟩ (Z7 (ZZ ⟨q5,0,Z0⟩))):=aa.setCell _ _ _ rfl;have xb:nX (x.setCell ⟨wb,5,Z0⟩ (Z7 (ZZ ⟨q5,0,Z0⟩))) wb D L G (Z7 (ZZ ⟨p,0,Z0⟩)) (Z7 (ZZ ⟨sa,0,Z0⟩)) (Z7 (ZZ ⟨q5,0,Z0⟩)) nb out want cache:=aw.set q8 5 [Z7 (ZZ ⟨q5,0,Z0⟩)] (by simp [Rf]);obtain ⟨h8,xf⟩:=I.write xa xb;have hrel:jL x (Q.take (aD (cJ Q) o.s)++(o.s,xm)::Q.drop (aD (cJ Q) o.s)) (xs.ins (xk,o.d)):=by
        unfold aS.ins;rw [O.rel.names,qh];exact (O.rel.take _).app ⟨⟨qh.symm,⟨_,qg⟩,y,qf⟩,O.rel.drop _⟩
       have qe:Dc w0.z x q5 (Q.take (aD (cJ Q) o.s)++(o.s,xm)::Q.drop (aD (cJ Q) o.s)) (xs.ins (xk,o.d)) out want:=⟨O.op,⟨_,u7,qk⟩,hrel,O.ow⟩;exact ⟨_,_,_,_,_,_,_,_,_,_,_,_,_,_,_,_,_,h8,qe.keep xf lR,XJ _,rfl,i.2.1,i.2.2,_,_,_,g⟩
      have HN:=hide hN;clear hN kj h6 kg M kp hr K C U g i qk qg qb kk hv I O q8 y qh;go_wp2_with fail;refine (oI 0 _).mono ?_;rintro e w8 ⟨rfl,rfl⟩;go_wp2;go_ret;exact ⟨rfl,HN.out _ rfl⟩
    . have hb:t'=t/\xs'=xs:=by
       rcases g with ⟨e,_⟩|⟨e,_⟩|⟨e,_⟩|⟨_,J,Y,_⟩|⟨e,_⟩
       . cases e
       . cases e
       . cases e
       . exact ⟨J,Y⟩
       . cases e
      obtain ⟨rfl,rfl⟩:=hb;have f:=H1.out.2.2.2.2.2.1;have hh:MS sv (ID D xs' A ps.ho o.s o.d) w0 x wb D L G nb (t'+1):=⟨_,_,_,_,_,_,_,_,_,_,_,_,_,_,_,_,_,I,O,by omega,rfl,i.2.1,i.2.2,_,_,_,g⟩;have xi:=LV O.rel (A:=A) (i.1.symm.trans I.nb) f I.live.par.d1 x9 I.live.TM.fits g;obtain ⟨c0,_,_,_,_,c5,c6,_⟩:=I.T7.cells;have qs:iu x S o (.slice da m dc):=aw.keep hr (hv.block _ (aw.lt hr));have x7:=qs.cells.2.2.2;obtain ⟨y1,y4,q9⟩:=O.ref;have x0:∀ k,ZU ZQ 24 #[Z7 (ZZ ⟨r,0,Z0⟩),Z8 Z9 D,Z8 Z9 m] (x.drewN k) λe w'=>e=Z4 (Z8 Z9 (jD Q D (m:Int):Nat))/\w'=x.drewN k:=λk=>by
       have q2:bW x (x.drewN k):=⟨rfl,rfl,rfl,XJ _,λ_ _=>rfl⟩;exact (DN ⟨(q2.block _ (XK.1 q9.top).1).trans q9.top,aB q9.own q2⟩ U O.rel.sl D I.live.par.d1 (by omega) (m:Int) (by omega) (by omega)).mono λe w' q=>⟨q.2,q.1⟩
      generalize jD Q D (m:Int)=nn at *;have HF:=hide2 hh x0;have xj:IntKind.i64.wrap ((nb:Int)-8)=(nb:Int)-8:=(by rw [IntKind.wrap_i64];have:=I.nb;have:=I.live.nb;omega);clear hh x0 kj h6 kg M kp hr K C U g i qk qg qb kk hv I O f qs q9;go_upto_region 8 with fail;go_quiet ((go_at_call 24;refine Calls.quiet_of_same (HF.out.2 _)));go_wp2;go_ret;obtain ⟨t1,y7,Q1,p1,r1,y5,xv,v1,ps1,xz,xy,P1,A1,F1,xq,xp,xn,hM,hC,hT⟩:=HF.out.1;have q2:bW x (x.drewN nq):=⟨rfl,rfl,rfl,XJ _,λ_ _=>rfl⟩;exact ⟨rfl,_,_,_,_,_,_,_,_,_,_,_,_,_,_,_,_,_,hM.below q2,hC.keep (ir.below q2 _) lR,hT⟩
structure TD (w0:uR) (w w1:ZW) (wb D L G nb t:Nat) (xs:aS) (Q:List (ByteArray×ZV)) (p r sa ar v:Nat) (sv:cA->ay->Prop) (ps:cA) (pg ob:ZV) (P:List Nat) (A:ay) (F:bh) (out want:ZV) (cache:Int) (o:pJ) (dv:ZV):Prop where
 op:iu w1 w.heap.size o dv
 b:MB w0 w1 wb D L G nb t xs p r sa ar v sv ps pg ob P A F out want cache
 c:Dc w0.z w1 r Q xs out want
 ar:ar<w.heap.size
 f:∀ k,F.has p A.n k->k<w.heap.size
 lt:w.heap.size<w1.heap.size
def Rj {w0:uR} {sv:cA->ay->Prop} {ps:cA} (h:MB w0 w wb D L G nb t xs p r sa ar v sv ps pg ob P A F out want cache) (f:Dc w0.z w r Q xs out want) (o:pJ) (b:ZV) {w1:ZW} (e:w.alloc (Z5 #[Z8 Z9 o.kind,Z8 Z9 o.a,Z2 o.s,b] 40)=w1):TD w0 w w1 wb D L G nb t xs Q p r sa ar v sv ps pg ob P A F out want cache o b:=by
 have d:bW w w1:=by rw [<- e];exact bA w _
 have c:iu w1 w.heap.size o b:=by rw [<- e];exact heap_alloc_last w _
 exact ⟨c,h.below d,f.keep (ir.below d _) lR,h.live.TR.lt,λk g=>h.live.vol.arr.TH g,aw.lt c⟩
section
theorem P9 {base:Nat} {rr:ZV} (z:rR xs x base u rr wx) (hr:jL wx Q xs) (p:Up xs.names) (y:∀ x∈xs,iT D x) :
 ∃ n c l,Ru rr n/\(∀ e,QM Q x e->e=Z4 (Z1 #[c,Z8 Z9 n]))/\Ow wx u l/\Ow wx c l/\(n=0\/(n≠0/\u=Z6 Z0 0 0)):=by
 have j:=nY x;have A:=nZ hr x;rcases z with ⟨f,g,b⟩|⟨f,g,b,t⟩|⟨f,b,a,i,r,ho⟩
 . refine ⟨6,Z6 Z0 0 0,[],.inl f,λe h=>?_,g▸Ow.nil _,Ow.nil _,.inr ⟨by decide,g⟩⟩;rcases h with ⟨_,d⟩|⟨q,_⟩|⟨q,_⟩
   . exact d
   . rw [j,b] at q;cases q
   . rw [j,b] at q;cases q
 . refine ⟨9,Z6 Z0 0 0,[],.inl f,λe h=>?_,g▸Ow.nil _,Ow.nil _,.inr ⟨by decide,g⟩⟩;rcases h with ⟨q,_⟩|⟨_,_,d⟩|⟨_,k,q,_⟩
   . exact absurd (j.2 b) q
   . exact d
   . exact absurd (lf hr p q).2.2 t
 . have o:a<Q.length:=(by rw [hr.len];exact i);obtain ⟨q1,q2⟩:=hr.at a o i;have m:=y _ (XL i);have v:x∈xs.names:=(by rw [<- r];exact XI.2 ⟨xs[a].1,XI.2 ⟨xs[a],XL i,rfl⟩,rfl⟩);refine ⟨0,Q[a].2,xs[a].2,.inr ⟨f,rfl⟩,λe h=>?_,⟨⟨base,ho⟩,m.byt,by rw [m.len];exact m.fit.size⟩,q2,.inl rfl⟩;rcases h with ⟨q,_⟩|⟨_,q,_⟩|⟨_,k,q,d⟩
   . exact absurd (j.2 b) q
   . exact absurd v (A.1 q)
   . have C:=(lf hr p q).1;have B:a<xs.names.length:=(by rw [<- hr.names];unfold cJ;rw [XX];exact o);have w:=im p B (x:=x) (by simpa [aS.names,bg,aS.os] using r);have s:k=a:=C.symm.trans w;subst s;rw [d,X5,XQ o];rfl
def So (sv:cA->ay->Prop) (D L G:Nat) (Y:aS->ay->Nat->ByteArray->(Nat->Int)->Nat->Prop):Prop:=∀ (w:ZW) (ar v p t:Nat) (ps:cA) (pg ob:ZV) (P:List Nat) (xs:aS) (A:ay) (F:bh) (x:ByteArray),aW w ar v p ps D L G t pg ob P xs A F->sv ps A->P0 w ar v p (λrs ps'=>sv ps' (A.rd rs)/\Y xs A ps.ho x rs ps'.ho) ps D L G t pg ob P xs A F x
def GX (Y:aS->ay->Nat->ByteArray->(Nat->Int)->Nat->Prop) (xs:aS) (A:ay) (ho:Nat) (x:ByteArray) (xs':aS) (A':ay) (ho':Nat):Prop:=xs'=xs/\∃ rs,A'=A.rd rs/\Y xs A ho x rs ho'
def Oj:¬ l9 40:=by unfold l9;decide
section
variable {w0:uR} {w:ZW} {wb D L G nb t:Nat} {xs:aS} {Q:List (ByteArray×ZV)} {p r sa ar v:Nat} {sv:cA->ay->Prop} {ps:cA} {pg ob:ZV} {P:List Nat} {A:ay} {F:bh} {out want:ZV} {cache:Int}
theorem L5 (h:MB w0 w wb D L G nb t xs p r sa ar v sv ps pg ob P A F out want cache) (n:Dc w0.z w r Q xs out want) (o:pJ) (j:ZV) (g:Bs w0.w j o.d) (C:o.d.length<=100000) (H:t+1<=1000000) (B:D<=6) (I:o.kind=1) :
 ZU ZQ 11 #[Z7 (ZZ ⟨wb,0,Z0⟩),.agg #[Z8 Z9 o.kind,Z8 Z9 o.a,Z2 o.s,j]] w λe w'=>e=Z4 (Z3 ZY)/\MS sv (ID D xs A ps.ho o.s o.d) w0 w' wb D L G nb (t+1):=by
 obtain ⟨x,y,E,_⟩:=id g;subst E;obtain ⟨m,q⟩:=nM (o.d.length);rw [q] at g ⊢;obtain ⟨w1,l⟩:=nM (w.alloc (Z5 #[Z8 Z9 o.kind,Z8 Z9 o.a,Z2 o.s,.slice x m y] 40));have f:=Rj h n o _ l;have i:=LW f.b f.c o _ g C H B;obtain ⟨J,K,M,N⟩:=f.op.cells;clear f h n g q;rw [I] at J l i ⊢;go_enter func11,ntmps11;go_wp2_with fail;refine i.mono ?_;rintro e w2 ⟨rfl,k⟩;have u:=hide k;clear k i;go_wp2;go_ret;exact ⟨rfl,u.out⟩
theorem L6 (h:MB w0 w wb D L G nb t xs p r sa ar v sv ps pg ob P A F out want cache) (hc:Dc w0.z w r Q xs out want) (o:pJ) (dv:ZV) (ky:∃ W m X,dv=.slice W m X) (hk:o.kind=2) {Y:aS->ay->Nat->ByteArray->(Nat->Int)->Nat->Prop} (hG:So sv D L G Y) :
 ZU ZQ 11 #[Z7 (ZZ ⟨wb,0,Z0⟩),.agg #[Z8 Z9 o.kind,Z8 Z9 o.a,Z2 o.s,dv]] w λe w'=>e=Z4 (Z3 ZY)/\MS sv (GX Y xs A ps.ho o.s) w0 w' wb D L G nb (t+1):=by
 obtain ⟨W,m,X,rfl⟩:=ky;obtain ⟨w1,kb⟩:=nM (w.alloc (Z5 #[Z8 Z9 o.kind,Z8 Z9 o.a,Z2 o.s,.slice W m X] 40));have d:=Rj h hc o _ kb;have hq:bW w1 w1.drew:=(Below.refl _ w1).drew;have Z:=d.b.below hq;have hy:=Si Z.box Z.live o.s λwx ks=>hG wx _ _ _ _ _ _ _ _ _ _ _ _ (Z.live.below ks) Z.shv;obtain ⟨x0,x1,x2,x3⟩:=d.op.cells;have s1:=d.b.T7.cells.2.2.2.2.1;obtain ⟨q0,U⟩:=nM (w.heap.size);have HS:=hide2 d U;clear d h hc hq Z hG;rw [hk] at x0 kb ⊢;rw [U] at x0 x1 x2 x3;have HK:=hide hk;clear hk;go_enter func11,ntmps11;go_upto_region 5 with fail;clear U kb x0 x1 x3;go_cut [5,6] from 21 to 233 (λv5 v6 wx=>EH w1.drew ar v p (λrs J=>sv J (A.rd rs)/\Y xs A ps.ho o.s rs J.ho) ps D L G t xs A F o.s (Z4 (Z1 #[v5,v6])) wx)
 case first=>
  go_region_with (go_at_call 17;refine hy.mono ?_;rintro e w2 ka;obtain ⟨uu,rr,_,_,_,_,_,rfl,_⟩:=id ka;have V:=hide ka;clear ka);all_goals (go_wp2_with fail;go_meet;case rel=>exact V.out)
 case rest=>
  obtain ⟨u,rr,rs,J,q3,q2,P',he,⟨ki,⟨k8,k7⟩,_,hs⟩,kc,kg⟩:=hcut;cases he;obtain ⟨d,U⟩:=HS.out;have hq:bW w1 w1.drew:=(Below.refl _ w1).drew;have ha:aa (λj=>j=ar\/F.has p A.n j\/j=v\/ps.bl j) w1 wc:=(aa.TG hq _).trans kc;obtain ⟨g,kh⟩:=d.b.Vn ha ki rfl rfl k8 hs;have T:GX Y xs A ps.ho o.s xs (A.rd rs) J.ho:=⟨rfl,rs,rfl,k7⟩;have i:=d.c.keep kh lR;have B:iu wc q0 o (.slice W m X):=by
   rw [<- U];exact aw.keep d.op (ha.block _ d.lt (λe=>by
    rcases e with e|e|e|e
    . have:=d.ar;omega
    . have:=d.f _ e;omega
    . have:=d.ar;have:=d.b.live.Vg;omega
    . exact eN d.b.live.kit d.op Oj e))
  obtain ⟨n,cv,l,hN,I,y,x,K⟩:=P9 kg i.rel g.live.TM.up g.live.TM.fits;have km:=uS hN g.gl;obtain ⟨⟨C,H,E,hu,_⟩,_⟩:=y.sl;obtain ⟨⟨M,O,N,kx,_⟩,_⟩:=x.sl;subst hu kx;have V:=hide8 g i B I y x K T;clear T k8 k7 hs d U hq ha g kh i B hN I y x K ki kc kg hy x2 s1;go_wp2_with fail;refine km.mono ?_;rintro e w3 ⟨rfl,hj⟩;clear km;obtain ⟨g,i,B,I,y,x,K,T⟩:=V.out;have h3:=g.below hj;have k9:=i.keep (ir.below hj _) lR;have ke:iu w3 q0 o (.slice W m X):=aw.keep B (hj.block _ (aw.lt B));have y3:=ke.cells.2.2.1;have r3:=h3.T7.cells.2.2.2.2.2.1;have kf:Q.length<=1000000:=by
   rw [k9.rel.len];have:=h3.live.T9.1;have e:xs.os.length=xs.length:=(by simp [aS.os]);omega
  have kj:∀ k,ZU ZQ 12 #[Z7 (ZZ ⟨r,0,Z0⟩),Z2 o.s] (w3.drewN k) λe w'=>e=Z4 (Z1 #[.slice M O N,Z8 Z9 n])/\w'=w3.drewN k:=λk=>by
   have kr:bW w3 (w3.drewN k):=⟨rfl,rfl,rfl,XJ _,λ_ _=>rfl⟩;obtain ⟨rb,rv,hr⟩:=(k9.keep (ir.below kr _) lR).ref;exact (A9 hr kf o.s).mono λe w' q=>⟨I e q.2,q.1⟩
  have H3:=hide4 h3 k9 kj hj;clear g i B I y x K h3 k9 ke kf kj hj;go_upto_region 7 with fail;go_quiet ((go_at_call 12;refine Calls.quiet_of_same (H3.out.2.2.1 _)));clear y3 r3;have hm:bW wc (w3.drewN nq):=H3.out.2.2.2.trans ⟨rfl,rfl,rfl,XJ _,λ_ _=>rfl⟩;obtain ⟨w4,ko⟩:=nM (w3.drewN nq);rw [ko] at hm ⊢;clear ko;obtain ⟨g,i,B,I,y,x,K,T⟩:=V.out;have k5:=y.keep (Kd.below hm _ _);have hz:=x.keep (Kd.below hm _ _);have kk:=EU _ _ l w4 k5.bs hz.bs;have H4:=hide hm;clear hm g i B I y x K k5 hz;go_wp2_with fail;refine kk.mono ?_;rintro e R ⟨rfl,m5,kp⟩;have hp:bW wc R:=H4.out.trans (by rw [kp];exact ⟨rfl,rfl,rfl,XJ _,λ_ _=>rfl⟩);clear kp kk;obtain ⟨g,i,B,I,y,x,K,T⟩:=V.out;have h5:=g.below hp;have hv:=i.keep (ir.below hp _) lR;have k6:=y.keep (Kd.below hp _ _);have k0:=x.keep (Kd.below hp _ _);have hi:=h5.T7;obtain ⟨_,_,_,_,_,_,_,c7,c8,_⟩:=hi.cells;have f7:=aw.TX hi 7;have f8:=aw.TX hi 8;obtain ⟨lo,hb,hd⟩:=hv.ow;obtain ⟨oa,om,oc,rfl⟩:∃ oa om oc,out=.slice oa om oc:=by obtain ⟨⟨C,H,E,e,_⟩,_⟩:=hb.sl;exact ⟨C,H,E,e⟩
  obtain ⟨wa,wm,wd,rfl⟩:∃ wa wm wd,want=.slice wa wm wd:=by obtain ⟨⟨C,H,E,e,_⟩,_⟩:=hd.sl;exact ⟨C,H,E,e⟩
  have hx:MS sv (GX Y xs A ps.ho o.s) w0 ((R.setCell ⟨wb,7,Z0⟩ (.slice C H E)).setCell ⟨wb,8,Z0⟩ (.slice M O N)) wb D L G nb (t+1):=by
   have hO:aa (λj=>j=wb) R ((R.setCell ⟨wb,7,Z0⟩ (.slice C H E)).setCell ⟨wb,8,Z0⟩ (.slice M O N)):=(aa.setCell (S:=λj=>j=wb) R ⟨wb,7,Z0⟩ _ rfl).trans (aa.setCell (S:=λj=>j=wb) _ ⟨wb,8,Z0⟩ _ rfl);have hW:nX ((R.setCell ⟨wb,7,Z0⟩ (.slice C H E)).setCell ⟨wb,8,Z0⟩ (.slice M O N)) wb D L G (Z7 (ZZ ⟨p,0,Z0⟩)) (Z7 (ZZ ⟨sa,0,Z0⟩)) (Z7 (ZZ ⟨r,0,Z0⟩)) nb (.slice C H E) (.slice M O N) cache:=aw.set hi 7 [.slice C H E,.slice M O N] (by simp [Rf]);obtain ⟨h6,kz⟩:=h5.write hO hW;have kv:Dc w0.z R r Q xs (.slice C H E) (.slice M O N):=⟨hv.op,hv.ref,hv.rel,l,k6,k0⟩;exact ⟨_,_,_,_,_,_,_,_,_,_,_,_,_,_,_,_,_,h6,kv.keep kz lR,by omega,T⟩
  have HF:=hide hx;clear hx g i B I y x h5 hv k6 k0 hi hb hd hp;rcases K with rfl|⟨hn,hu⟩
  . go_wp2_with fail;refine (oI 0 _).mono ?_;rintro e w8 ⟨rfl,rfl⟩;go_wp2;go_ret;exact ⟨rfl,HF.out⟩
  . cases hu;have q1:=λwx=>Lib.run_eql_slice_nil (P:=ZQ) wx 34 5 Z0 0 0 0 0 underlying34;go_wp2_with fail;refine (oI n _).mono ?_;rintro e w8 ⟨rfl,rfl⟩;go_wp2;go_ret;exact ⟨rfl,HF.out⟩
end
end
section
def Oi (w:ZW) (g:Nat) (os:List Ob) (i:ZV) (wr:ZW):Prop:=
 ∃ k:Nat,k<=os.length/\i=Z8 Z9 (k:Nat)/\bW w wr/\∃ cur:List ZV,aw wr g 78 cur/\os.length*2<=cur.length/\∀ j (hj:j<os.length),k<=j->cur[j*2]?=ZZ (Z2 os[j].name)/\cur[j*2+1]?=ZZ (Z8 Z9 (os[j].size:Nat))
def Cy:∀ (os:List Ob) (j:Nat) (a:j<os.length),(mb os)[j*2]?=ZZ (Z2 os[j].name)/\(mb os)[j*2+1]?=ZZ (Z8 Z9 (os[j].size:Nat))
 | [],j,a=>absurd a (by simp)
 | o::os,0,_=>⟨rfl,rfl⟩
 | o::os,j+1,a=>by
  have e:mb (o::os)=[Z2 o.name,Z8 Z9 (o.size:Nat)]++mb os:=by unfold mb;rw [List.flatMap_cons];rfl
  obtain ⟨b,c⟩:=Cy os j (by simpa using a);rw [e];refine ⟨?_,?_⟩
  . rw [X7 (by simp;omega),show (j+1)*2-[Value.string o.name,Z8 Z9 (o.size:Nat)].length=j*2 by simp;omega];exact b
  . rw [X7 (by simp;omega),show (j+1)*2+1-[Value.string o.name,Z8 Z9 (o.size:Nat)].length=j*2+1 by simp;omega];exact c
def Oi.start {base:Nat} (h:wr.ownsRow base 78 2 u n (mb os)) (m:os.length=n) (q:0<n) (k:bW w wr) (r:w.heap.size<=base):∃ g cap,u=Z6 (ZZ ⟨g,0,Z0⟩) n cap/\w.heap.size<=g/\Oi w g os (Z8 Z9 0) wr:=by
 rcases h.2 with ⟨_,e⟩|⟨g,cap,cur,a,o,b,c,p,d,f⟩
 . omega
 . refine ⟨g,cap,a,by omega,0,XO _,rfl,k,cur.toList,?_,?_,λj l _=>?_⟩
   . unfold aw;rw [b,Array.toArray_toList]
   . have i:cur.toList.length=cap*2:=(by rw [Yn];exact d);rw [i,m];exact Yh 2 c
   . obtain ⟨q1,q2⟩:=Cy os j l;have s:j*2+1<n*2:=(by omega);rw [<- f] at q1 q2;rw [List.getElem?_take_of_lt (by omega)] at q1 q2;exact ⟨q1,q2⟩
theorem Oi.next {cur:List ZV} (x y:ZV) (o:k<os.length) (h:bW w wr) (a:w.heap.size<=g) (hr:aw wr g 78 cur) (q:os.length*2<=cur.length) (l:∀ j (b:j<os.length),k<=j->cur[j*2]?=ZZ (Z2 os[j].name)/\cur[j*2+1]?=ZZ (Z8 Z9 (os[j].size:Nat))):Oi w g os (Z8 Z9 ((k:Int)+1)) ((wr.setCell ⟨g,k*2,Z0⟩ x).setCell ⟨g,k*2+1,Z0⟩ y):=by
 have d:=aw.set hr (k*2) [x,y] (by simp;omega);have c:bW w ((wr.setCell ⟨g,k*2,Z0⟩ x).setCell ⟨g,k*2+1,Z0⟩ y):=(h.setCell (p:=⟨g,k*2,Z0⟩) a _).setCell (p:=⟨g,k*2+1,Z0⟩) a _;refine ⟨k+1,by omega,rfl,c,_,d,?_,λj b m=>?_⟩
 . simp only [XY,XU,XZ,XP,List.length_nil];omega
 . obtain ⟨q1,q2⟩:=l j b (by omega);have e:∀ i,k*2+2<=i->(cur.take (k*2)++[x,y]++cur.drop (k*2+[x,y].length))[i]?=cur[i]?:=λi n=>by
    have f:(cur.take (k*2)++[x,y]).length=k*2+2:=(by rw [XY,XU];simp;omega);rw [X7 (by omega),f,List.getElem?_drop];congr 1;simp;omega
   exact ⟨(e _ (by omega)).trans q1,(e _ (by omega)).trans q2⟩
section
variable {w0:uR} {w:ZW} {wb D L G nb t:Nat} {xs:aS} {Q:List (ByteArray×ZV)} {p r sa ar v:Nat} {sv:cA->ay->Prop} {ps:cA} {pg ob:ZV} {P:List Nat} {A:ay} {F:bh} {out want:ZV} {cache:Int}
theorem IJ (h:MB w0 w wb D L G nb t xs p r sa ar v sv ps pg ob P A F out want cache) (hc:Dc w0.z w r Q xs out want) (o:pJ) (dv:ZV) (kc:∃ V m W,dv=.slice V m W) (H:o.kind=4) {X:aS->ay->Nat->Prop} (hX:X xs A ps.ho) :
 ZU ZQ 11 #[Z7 (ZZ ⟨wb,0,Z0⟩),.agg #[Z8 Z9 o.kind,Z8 Z9 o.a,Z2 o.s,dv]] w λe w'=>e=Z4 (Z3 ZY)/\MS sv X w0 w' wb D L G nb (t+1):=by
 obtain ⟨V,m,W,rfl⟩:=kc;obtain ⟨w1,hz⟩:=nM (w.alloc (Z5 #[Z8 Z9 o.kind,Z8 Z9 o.a,Z2 o.s,.slice V m W] 40));have d:=Rj h hc o _ hz;have k8:=Ri d.b.box d.b.live;obtain ⟨x0,x1,x2,x3⟩:=d.op.cells;have s1:=d.b.T7.cells.2.2.2.2.1;have l:∀ w',bW w1 w'->MS sv X w0 w' wb D L G nb (t+1):=λw' hb=>⟨_,_,_,_,_,_,_,_,_,_,_,_,_,_,_,_,_,d.b.below hb,d.c.keep (ir.below hb _) lR,by omega,hX⟩;obtain ⟨rb,rv,hr⟩:=d.c.ref;obtain ⟨N,f⟩:=nM (xs.os.length);have j:Q.length=N:=by rw [d.c.rel.len,<- f];simp [aS.os]
 have kb:N<=1000:=by rw [<- f];exact d.b.live.T9.1
 have HS:=hide5 d l hr f j;clear d h hc l hr f j;rw [H] at x0 hz ⊢;have HK:=hide H;clear H;go_enter func11,ntmps11;go_wp2_with fail;clear hz x0 x1 x2 x3;refine k8.mono ?_;rintro e w2 ⟨u,rfl,q,E⟩;clear k8 s1;have H2:=hide2 q E;clear q E;go_wp2_with fail;refine (sY w2).mono ?_;rintro e w3 ⟨rfl,S⟩;obtain ⟨d,l,hr,f,j⟩:=HS.out;obtain ⟨q,E⟩:=H2.out;have B:bW w1 w3:=q.trans (S.mono q.size);have J:=aB E S;rw [f] at J;have hq:nX w3 wb D L G (Z7 (ZZ ⟨p,0,Z0⟩)) (Z7 (ZZ ⟨sa,0,Z0⟩)) (Z7 (ZZ ⟨r,0,Z0⟩)) nb out want cache:=aw.keep d.b.T7 (B.block _ (aw.lt d.b.T7));have r3:=hq.cells.2.2.2.2.2.1;have K:oU w3 r rb rv Q:=ir.ref hr (ir.below B _) lR;have t3:=K.cell.1;by_cases O:N=0
 . have hu:∃ T U,u=.slice T 0 U:=by
    obtain ⟨T,U,e⟩:=fu J;exact ⟨T,U,by rw [e,O]⟩
   have kf:∃ x I,rv=.slice x 0 I:=by
    obtain ⟨x,I,e⟩:=fu K.own;exact ⟨x,I,by rw [e,j,O]⟩
   obtain ⟨T,U,rfl⟩:=hu;obtain ⟨x,I,rfl⟩:=kf;have M:=hide (l _ B);clear d l hr f j q E S B J hq K O kb;go_wp2;refine wp_loop_rounds 1 ?_;rw [rounds_succ];go_wp2;go_ret;exact ⟨rfl,M.out⟩
 . obtain ⟨g,cap,rfl,hg,k0⟩:=Oi.start J f (by omega) B lR;obtain ⟨x,I,ka⟩:=fu K.own;rw [j] at ka;subst ka;have M:=hide2 k0 hg;clear k0 hg d l hr f j q E S B J hq K O;go_wp2_with fail;go_loopw [19] (λi wr=>Oi w1 g xs.os i wr) (λi _=>N-(intOf i).toNat)
   case atStart=>exact M.out.1
   case round=>
    clear r3 t3;obtain ⟨k,H,rfl,C,cur,n,Z,R⟩:=hrel;obtain ⟨d,l,hr,f,j⟩:=HS.out;rw [f] at H;by_cases ki:k<N
    . have kh:(k:Int)<(N:Int):=(by omega);have hx:k<xs.os.length:=(by omega);have Y:k<xs.length:=by
       have e:xs.os.length=xs.length:=(by simp [aS.os]);omega
      obtain ⟨q1,q2⟩:=R k hx lR;have e1:=aw.cell n q1;have e2:=aw.cell n q2;have g1:=aw.TX n (k*2);have g2:=aw.TX n (k*2+1);have k6:nX wr wb D L G (Z7 (ZZ ⟨p,0,Z0⟩)) (Z7 (ZZ ⟨sa,0,Z0⟩)) (Z7 (ZZ ⟨r,0,Z0⟩)) nb out want cache:=aw.keep d.b.T7 (C.block _ (aw.lt d.b.T7));have rr:=k6.cells.2.2.2.2.2.1;have hy:oU wr r rb (.slice x N I) Q:=ir.ref hr (ir.below C _) lR;have tr:=hy.cell.1;obtain ⟨qn,qo⟩:=d.c.rel.at k (by omega) Y;obtain ⟨⟨ba,bn,bc,hs,_⟩,hv⟩:=qo.sl;rw [hs] at hv;have k7:bn=xs.os[k].size:=by
       have h1:=(d.b.live.TM.fits _ (XL Y)).len;have h2:xs.os[k]=xs[k].1:=(by simp [aS.os]);rw [h2,<- h1];exact hv
      have k9:Q[k].1=xs.os[k].name:=(by rw [qn];simp [aS.os]);obtain ⟨y,kg,d1,d2⟩:∃ y,x=ZZ ⟨y,0,Z0⟩/\wr.cell? ⟨y,k*2,Z0⟩=ZZ (Z2 xs.os[k].name)/\wr.cell? ⟨y,k*2+1,Z0⟩=ZZ (.slice ba bn bc):=by
       rcases hy.shape with ⟨_,e⟩|⟨y,hd,e,_,_,hh⟩
       . rw [e] at j;simp at j;omega
       . simp only [Value.slice.injEq] at e;obtain ⟨c1,c2⟩:=hh k (by omega);rw [k9] at c1;rw [hs] at c2;exact ⟨y,e.1,c1,c2⟩
      subst kg;rw [k7] at d2;have k5:∀ m,Oi w1 g xs.os (Z8 Z9 ((k:Int)+1)) (((wr.drewN m).setCell ⟨g,k*2,Z0⟩ (.string ⟨#[109,105,110,101]⟩)).setCell ⟨g,k*2+1,Z0⟩ (Z8 Z9 0)):=λm=>Oi.next _ _ hx (C.trans ⟨rfl,rfl,rfl,XJ _,λ_ _=>rfl⟩) M.out.2 (aw.keep n rfl) Z R;obtain ⟨nm,hi⟩:=nM (xs.os[k].name);obtain ⟨sz,hn⟩:=nM (xs.os[k].size);rw [hi] at e1 d1;rw [hn] at e2 d2;have HN:=hide k5;clear k5 C n Z R q1 q2 d l hr f j k6 hy qn qo hs hv k7 k9 hi hn hx Y H;go_upto_region 30 with fail;go_quiet (fail);go_wp2;exact ⟨HN.out _,by simp [intOf];omega⟩
    . have ke:k=N:=(by omega);subst ke;have HB:=hide (l _ C);clear C n Z R d l hr f j;go_wp2;go_ret;exact ⟨rfl,HB.out⟩
end
end
section
section
variable {w0:uR} {w:ZW} {wb D L G nb t:Nat} {xs:aS} {Q:List (ByteArray×ZV)} {p r sa ar v:Nat} {sv:cA->ay->Prop} {ps:cA} {pg ob:ZV} {P:List Nat} {A:ay} {F:bh} {out want:ZV} {cache:Int}
theorem IK (h:MB w0 w wb D L G nb t xs p r sa ar v sv ps pg ob P A F out want cache) (l:Dc w0.z w r Q xs out want) (o:pJ) (i:ZV) (u:∃ f m g,i=.slice f m g) (n:o.kind<1) {X:aS->ay->Nat->Prop} (x:X xs A ps.ho) :
 ZU ZQ 11 #[Z7 (ZZ ⟨wb,0,Z0⟩),.agg #[Z8 Z9 o.kind,Z8 Z9 o.a,Z2 o.s,i]] w λe w'=>e=Z4 (Z3 ZY)/\MS sv X w0 w' wb D L G nb (t+1):=by
 obtain ⟨f,m,g,rfl⟩:=u;obtain ⟨kd,j⟩:=nM (o.kind);obtain ⟨w1,k⟩:=nM (w.alloc (Z5 #[Z8 Z9 o.kind,Z8 Z9 o.a,Z2 o.s,.slice f m g] 40));have d:=Rj h l o _ k;obtain ⟨y,K,M,N⟩:=d.op.cells;have q:=hide (show MS sv X w0 w1 wb D L G nb (t+1) from ⟨_,_,_,_,_,_,_,_,_,_,_,_,_,_,_,_,_,d.b,d.c,by omega,x⟩);clear d h l;rw [j] at y k n ⊢;have B:¬ kd=1:=by omega
 have C:¬ kd=2:=by omega
 have E:¬ kd=3:=by omega
 have H:¬ kd=4:=by omega
 have I:¬ kd=5:=by omega
 have J:¬ kd=6:=by omega
 clear n j;go_enter func11,ntmps11;go_wp2;go_ret;exact ⟨rfl,q.out⟩
end
end
def CE (T gone sp:Nat) (ds:List Nat):List Nat:=py ds (ab (IR (IR T gone) sp))
def qS (A:ay) (pl:Nat->Nat) (S sp:Nat):Nat->List Nat->Nat->List Nat×Nat
 | 0,ds,gone=>(ds,gone)
 | n+1,ds,gone=>
  let g1:=gone|||bH A (CE S gone sp ds)
  let d1:=ds++mT A (CE S gone sp ds)
  if S &&& (g1|||sp)=0 then (d1,g1)
  else
   let g2:=g1|||bH A (CE (pl (g1|||sp)) g1 sp d1)
   let d2:=d1++mT A (CE (pl (g1|||sp)) g1 sp d1)
   if g2|||sp=g1|||sp then (d2,g2) else qS A pl S sp n d2 g2
def LX (h:A.lost=B.lost) (l:List Nat):mT A l=mT B l:=by unfold mT;rw [h]
def IF (h:A.lost=B.lost) (l:List Nat):bH A l=bH B l:=X8 λi=>by
 rw [Bool.eq_iff_iff,j6,j6,h]
def qT (h:A.lost=B.lost) (pl:Nat->Nat) (S sp:Nat):∀ n ds gone,qS A pl S sp n ds gone=qS B pl S sp n ds gone
 | 0,_,_=>rfl
 | n+1,ds,gone=>by
  unfold qS;simp only [LX h,IF h,qT h pl S sp n]
def gC (A:ay) (N gone:Nat):Nat:=((XN N).filter λi=>A.lost i && !gone.testBit i).length
theorem xV {α:Type} {p q:α->Bool}:∀ {l:List α},(∀ x∈l,q x=ZY->p x=ZY)->(∃ x∈l,p x=ZY/\q x=ZX)->(l.filter q).length<(l.filter p).length
 | [],_,⟨_,h,_⟩=>by cases h
 | a::l,h,⟨x,d,f,g⟩=>by
  have hs:(l.filter q).length<=(l.filter p).length:=by
   clear d f g;have i:∀ y∈l,q y=ZY->p y=ZY:=λy c=>h y (X0 _ c);clear h;induction l with
   | nil=>exact XJ _
   | cons b l ih=>
    have j:=i b (Yo ..);have:=ih λy c=>i y (X0 _ c);cases e:q b
    . rw [X9 (by rw [e];decide)];exact XG this (Ya ((Yp b l).filter _))
    . rw [XV e,XV (j e),XP,XP];omega
  rcases XR.1 d with rfl|d
  . rw [X9 (by rw [g];decide),XV f,XP];omega
  . have ih:=xV (λy c=>h y (X0 _ c)) ⟨x,d,f,g⟩;cases e:q a
    . rw [X9 (by rw [e];decide)];exact XH ih (Ya ((Yp a l).filter _))
    . rw [XV e,XV (h a (Yo ..) e),XP,XP];omega
theorem NK (A:ay) (N gone x:Nat):gC A N (gone|||x)<=gC A N gone:=by
 unfold gC;refine Ya ?_;have:((XN N).filter λi=>A.lost i && !(gone|||x).testBit i)=((XN N).filter λi=>A.lost i && !gone.testBit i).filter λi=>!(gone|||x).testBit i:=by
  rw [List.filter_filter];refine List.filter_congr λi _=>?_;rw [XM];cases A.lost i<;>cases gone.testBit i<;>cases x.testBit i<;>rfl
 rw [this];exact List.filter_sublist
def NL {x i:Nat} (c:i<N) (b:A.lost i=ZY) (a:gone.testBit i=ZX) (d:x.testBit i=ZY):gC A N (gone|||x)<gC A N gone:=by
 unfold gC;refine xV (λj _ q=>?_) ⟨i,XW.2 c,?_,?_⟩
 . rw [XM] at q;revert q
   cases A.lost j<;>cases gone.testBit j<;>cases x.testBit j<;>decide
 . rw [b,a];rfl
 . rw [XM,b,a,d];rfl
def EJ {g1 x:Nat} (c:∀ i,x.testBit i=ZY->i<N/\A.lost i=ZY) (d:(g1|||x)|||sp≠g1|||sp):gC A N (g1|||x)<gC A N g1:=by
 obtain ⟨i,b⟩:∃ i,((g1|||x)|||sp).testBit i≠(g1|||sp).testBit i:=by
  rcases Classical.em (∃ i,((g1|||x)|||sp).testBit i≠(g1|||sp).testBit i) with h|h
  . exact h
  . exact absurd (X8 λi=>Classical.byContradiction λq=>h ⟨i,q⟩) d
 simp only [XM] at b;have a:x.testBit i=ZY/\g1.testBit i=ZX:=by
  revert b
  cases g1.testBit i<;>cases x.testBit i<;>cases sp.testBit i<;>decide
 exact NL (c i a.1).1 (c i a.1).2 a.2 a.1
def IG (A:ay) (N gone:Nat):gC A N gone<=N:=by
 have:=List.length_filter_le (λi=>A.lost i && !gone.testBit i) (XN N);rwa [List.length_range] at this
section
structure iw (D L G:Nat) (Kind:cA->Prop) (ok:Nat->Prop) (pl:Nat->Nat):Prop where
 ho:∀ ps x,Kind ps->Kind { ps with ho:=x }
 rd:∀ (ps:cA),Kind ps->∀ (w:ZW),ps.S w->aJ w->3<=w.heap.size->(∀ k,ps.bl k->3<=k)->∀ lost,ok lost ->
  ZU ZQ 144 #[Z7 (ZZ ⟨ps.ps,0,Z0⟩),.agg #[Z8 Z9 D,Z8 Z9 L,Z8 Z9 G],Z8 .u64 lost] w λe w'=>∃ (ps':cA) (s:Nat) (C:Ck) (ao:Option Addr) (m c:Nat),jK D L G s ao m c e/\CD D L G Kind ps ps' lost s C ao m c w.heap.size w'/\nD (bG D L G s C)=pl lost/\aa ps.bl w w'
structure NM (w:ZW) (r v b g N p D L G:Nat) (Kind:cA->Prop) (ps:cA) (A:ay) (F:bh) (R:Nat->List Nat) (M:List Nat) (res:List Nat×Nat) (w':ZW):Prop where
 rd:∃ gone sp,ew w' r v b g N gone sp
 row:∃ f,w'.rowIs g 34 N f/\∀ i∈M,∃ bl c,f i=Z6 (ZZ ⟨bl,0,Z0⟩) 44 c/\w.heap.size<=bl/\bl<w'.heap.size/\w'.rangeAt bl 0 (aH (R i))
 kit:∃ ps':cA,Kind ps'/\ps'.ps=ps.ps/\ps'.S w'/\bt w' v p D L G ps.ps ps'.ho/\ps'.ho=ps.ho|||res.2/\(∀ i,ps'.ho.testBit i=ZY->i<N/\A.lost i=ZY)/\ps'.ho<65536/\∀ k,ps'.bl k->ps.bl k\/w.heap.size<=k
 arr:aq w' p (A.TJ res.1) F
 out:aa (λk=>k=g\/k=r\/k=v\/F.has p A.n k\/ps.bl k) w w'
structure Cw (w:ZW) (r v b g N p D L G:Nat) (Kind:cA->Prop) (ok:Nat->Prop) (ps:cA) (A:ay) (F:bh) (dl:List (List Nat)):Prop where
 vol:nF w v p D L G ps.ps ps.ho A F
 free:jT F p A.n v
 fit:A.fit
 n:A.n=D+L+G
 nN:N=D+L+G
 blt:b<A.nb
 wait:A.wait≠0
 par:vL D L G
 ho:∀ i,ps.ho.testBit i=ZY->i<N/\A.lost i=ZY
 hol:ps.ho<65536
 bad:∀ i,i<N->A.bad i b=ZX
 len:dl.length=D
 byt:∀ l∈dl,∀ x∈l,x<256
 recs:∀ i,i<N->(aX.shard ((dF (aO D L G) dl 44).getD i [])).ok/\A.blk i b=(aX.shard ((dF (aO D L G) dl 44).getD i [])).blk
 kit:ps.S w
 kind:Kind ps
 apt:∀ k,ps.bl k->3<=k/\k≠v/\¬ F.has p A.n k
 dec:∀ l,l≠0->(∀ i,l.testBit i=ZY->i<N/\A.lost i=ZY)->ok l
 vr:v≠r
 vg:v≠g
 rg:r≠g
 gF:¬ F.has p A.n g
 rF:¬ F.has p A.n r
 rK:3<=r
 vK:3<=v
 gK:3<=g
structure Cx (w0:ZW) (r v b g N p D L G:Nat) (A:ay) (F:bh) (R:Nat->List Nat) (Kind:cA->Prop) (ps ps1:cA) (gone:Nat) (ds:List Nat) (f:Nat->ZV) (w:ZW):Prop where
 rd:ew w r v b g N gone ps.ho
 vol:nF w v p D L G ps.ps (ps.ho|||gone) (A.TJ ds) F
 row:w.rowIs g 34 N f
 kn:Kn w w0.heap.size BN f R ds
 kit:ps1.S w
 kind:Kind ps1
 Vp:ps1.ps=ps.ps
 bl:∀ k,ps1.bl k->ps.bl k\/w0.heap.size<=k
 out:aa (λk=>k=g\/k=r\/k=v\/F.has p A.n k\/ps.bl k) w0 w
def LY:¬ l9 217:=by unfold l9;decide
section
variable {w0 w w':ZW} {r v b g N p D L G:Nat} {Kind:cA->Prop} {ok:Nat->Prop} {ps ps1:cA} {A:ay} {F:bh} {dl:List (List Nat)} {R:Nat->List Nat} {gone:Nat} {ds:List Nat} {f:Nat->ZV}
def Cx.apart (h:Cx w0 r v b g N p D L G A F R Kind ps ps1 gone ds f w) (hs:Cw w0 r v b g N p D L G Kind ok ps A F dl) (hr:r<w0.heap.size) (i:g<w0.heap.size) (c:¬ ps.bl r) (a:¬ ps.bl g) (k:Nat) (d:ps1.bl k):3<=k/\k≠v/\k≠r/\k≠g/\¬ F.has p A.n k:=by
 rcases h.bl k d with q|q
 . exact ⟨(hs.apt k q).1,(hs.apt k q).2.1,λe=>c (e▸q),λe=>a (e▸q),(hs.apt k q).2.2⟩
 . have:=hs.vol.vol.lt;have:=hs.vol.room;exact ⟨by omega,by omega,by omega,by omega,λe=>by have:=hs.vol.arr.TH e;omega⟩
theorem Cx.Vm (h:Cx w0 r v b g N p D L G A F R Kind ps ps1 gone ds f w) (c:∀ k,ps1.bl k->3<=k/\k≠v/\k≠r/\k≠g/\¬ F.has p A.n k) {ps2:cA} (a:aa ps1.bl w w') (d:ps2.S w') (hK:Kind ps2) (s:ps2.ps=ps1.ps) (t:∀ k,ps2.bl k->ps1.bl k\/w.heap.size<=k):Cx w0 r v b g N p D L G A F R Kind ps ps2 gone ds f w':=by
 have y:2<3:=by decide
 have z:1<3:=by decide
 have x:=h.out.size;refine ⟨h.rd.keep (a.block _ h.rd.lt λq=>(c _ q).2.2.1 rfl),⟨h.vol.vol.keep (a.block _ h.vol.vol.lt λq=>(c _ q).2.1 rfl),h.vol.arr.keep (λk d=>a.block k (h.vol.arr.TH d) λq=>(c k q).2.2.2.2 d),h.vol.laid.keep (a.block _ h.vol.laid.lt λq=>by have:=(c _ q).1;omega),h.vol.TQ.keep (a.block _ h.vol.TQ.lt λq=>by have:=(c _ q).1;omega),XG h.vol.room a.size⟩,h.row.of_block (a.block _ h.row.lt λq=>(c _ q).2.2.2.1 rfl),⟨h.kn.1,λi u=>?_⟩,d,hK,s.trans h.Vp,λk q=>(t k q).elim (h.bl k) λe=>.inr (XG x e),h.out.later (a.mono λk _ q=>h.bl k q) ?_⟩
 . obtain ⟨bl,m,o,j,l⟩:=h.kn.2 i u;exact ⟨bl,m,o,XH j a.size,(a.block bl j (eN h.kit l LY)).trans l⟩
 . intro k d q;rcases q with q|q
   . exact .inr (.inr (.inr (.inr q)))
   . omega
theorem xW (h:Cx w0 r v b g N p D L G A F R Kind ps ps1 gone ds f w) (hs:Cw w0 r v b g N p D L G Kind ok ps A F dl) (hr:r<w0.heap.size) (z:g<w0.heap.size) (Q:¬ ps.bl r) (P:¬ ps.bl g) (s:∀ i,i<N->(aX.shard (R i)).ok/\A.blk i b=(aX.shard (R i)).blk) (T:Nat) (M:T<65536) (d:∀ i,i∈ab T->i<N) (x:gone<65536) :
 ZU ZQ 126 #[Z7 (ZZ ⟨r,0,Z0⟩),Z8 .u64 T] w λe w'=>e=Z4 (Z1 #[])/\∃ I,Cx w0 r v b g N p D L G A F R Kind ps ps1 (gone|||bH A (CE T gone ps.ho ds)) (ds++mT A (CE T gone ps.ho ds)) I w'/\aa (λk=>k=g\/k=r\/k=v\/F.has p A.n k) w w':=by
 have O:=h.apart hs hr z Q P;have U:2<3:=by decide
 have V:1<3:=by decide
 have W:=hs.n;have S:=hs.nN;refine (Ht (ds:=ds) h.vol (show jT F p (A.TJ ds).n v from hs.free) (hs.fit.TJ _) h.rd h.row R h.kn T M x hs.hol (λi a=>⟨d i a,by show i<A.n;have:=d i a;omega⟩) hs.blt hs.wait (Nt hs.hol x) hs.vr hs.rK hs.vK (λi a=>hs.bad i (d i a)) (λi a=>(s i (d i a)).1) (λi a=>(s i (d i a)).2) hs.gF hs.rF hs.rg hs.vg hs.gK h.out.size z hr hs.vol.vol.lt (λk j=>hs.vol.arr.TH j)).mono ?_;rintro e w' ⟨rfl,y,m,⟨J,K,o⟩,l,u⟩;rw [Cb] at y m;rw [Ex] at o l;rw [Ca _ _ _ (λi a=>(zO.1 (mJ.1 a).1).2)] at l;rw [Nat.or_assoc] at m;have c:aa (λk=>k=g\/k=r\/k=v\/F.has p A.n k) w w':=u;refine ⟨rfl,J,⟨y,⟨m,l,h.vol.laid.keep (c.block _ h.vol.laid.lt λq=>?_),h.vol.TQ.keep (c.block _ h.vol.TQ.lt λq=>?_),XG h.vol.room u.size⟩,K,o,ps1.keep _ _ h.kit λk j=>c.block k (ps1.lt _ h.kit k j) (λq=>?_),h.kind,h.Vp,h.bl,h.out.trans (c.mono λk _ q=>?_)⟩,c⟩
 . rcases q with q|q|q|q
   . have:=hs.gK;omega
   . have:=hs.rK;omega
   . have:=hs.vK;omega
   . exact hs.free.g q
 . rcases q with q|q|q|q
   . have:=hs.gK;omega
   . have:=hs.rK;omega
   . have:=hs.vK;omega
   . exact hs.free.t q
 . obtain ⟨_,B,C,E,H⟩:=O k j;rcases q with q|q|q|q
   . exact E q
   . exact C q
   . exact B q
   . exact H q
 . rcases q with q|q|q|q
   . exact .inl q
   . exact .inr (.inl q)
   . exact .inr (.inr (.inl q))
   . exact .inr (.inr (.inr (.inl q)))
def Oh {T:Nat} {ds:List Nat} (l:N<=16) (f:∀ i,i∈ab T->i<N) (h:gone<65536) (j:sp<65536):(∀ i,(bH A (CE T gone sp ds)).testBit i=ZY->i<N/\A.lost i=ZY/\gone.testBit i=ZX/\sp.testBit i=ZX)/\bH A (CE T gone sp ds)<65536:=by
 have e:∀ i∈CE T gone sp ds,i<N/\gone.testBit i=ZX/\sp.testBit i=ZX:=λi c=>by
  obtain ⟨a,b,g,_⟩:=(pE h j).1 c;exact ⟨f i a,b,g⟩
 exact ⟨λi c=>by
  obtain ⟨a,b⟩:=(j6 A _ i).1 c;exact ⟨(e i a).1,b,(e i a).2⟩,pq A _ λd k=>by have:=(e d k).1;omega⟩
def P2 (D L G:Nat) (Kind:cA->Prop) (ps:cA) (pl:Nat->Nat) (l1:Nat) (w1:ZW) (v6 v7:ZV) (wx:ZW):Prop:=v7=.nilIface/\∃ gb ps' s C ao m c,v6=Z7 (ZZ ⟨gb,0,Z0⟩)/\w1.heap.size<=gb/\wx.heap[gb]?=ZZ (Z5 #[Z8 Z9 (1+((ab (av (D+L+G) s)).length:Int)),.slice ao m c] 210 (0,0))/\CD D L G Kind ps ps' l1 s C ao m c w1.heap.size wx/\nD (bG D L G s C)=pl l1/\aa ps.bl w1 wx
def IH {ps':cA} (f:CD D L G Kind ps ps' l1 s C ao m c w1.heap.size w3) (e:nD (bG D L G s C)=pl l1) (d:bW w1 w') (b:aa ps.bl w' w3) :
 P2 D L G Kind ps pl l1 w1 (Z7 (ZZ ⟨w3.heap.size,0,Z0⟩)) .nilIface (w3.alloc (Z5 #[Z8 Z9 (1+((ab (av (D+L+G) s)).length:Int)),.slice ao m c] 210)):=by
 have a:bW w3 (w3.alloc (Z5 #[Z8 Z9 (1+((ab (av (D+L+G) s)).length:Int)),.slice ao m c] 210)):=bA _ _;exact ⟨rfl,_,ps',s,C,ao,m,c,rfl,XG d.size b.size,blk_alloc_new _ _,f.keep (T:=λ_=>False) (aa.TG a _) (λ_ q=>q.elim),e,(aa.after d b).trans (aa.TG a _)⟩
theorem EK {ps':cA} (p:CD D L G Kind ps ps' l1 s C ao m c (w1.heap.size+1) w3) (o:nD (bG D L G s C)=pl l1) (i:∀ k,ps.bl k->k<w1.heap.size) (u:w2.heap.size=w1.heap.size) (r:bW w1 w2) (g:aa ps.bl (w2.alloc (Z5 #[Z8 Z9 0,Z6 Z0 0 0] 210)) w3) :
 P2 D L G Kind ps pl l1 w1 (Z7 (ZZ ⟨w1.heap.size,0,Z0⟩)) .nilIface ((w3.setCell ⟨w1.heap.size,0,Z0⟩ (Z8 Z9 (1+((ab (av (D+L+G) s)).length:Int)))).setCell ⟨w1.heap.size,1,Z0⟩ (.slice ao m c)):=by
 have t:w3.heap[w1.heap.size]?=ZZ (Z5 #[Z8 Z9 0,Z6 Z0 0 0] 210 (0,0)):=(g.block w1.heap.size (by rw [World.size_alloc];omega) (λq=>by have:=i _ q;omega)).trans (by rw [<- u];exact blk_alloc_new _ _);have b:=ik w3 w1.heap.size 0 1 (Z8 Z9 (1+((ab (av (D+L+G) s)).length:Int))) (.slice ao m c);have l:CD D L G Kind ps ps' l1 s C ao m c w1.heap.size ((w3.setCell ⟨w1.heap.size,0,Z0⟩ (Z8 Z9 (1+((ab (av (D+L+G) s)).length:Int)))).setCell ⟨w1.heap.size,1,Z0⟩ (.slice ao m c)):=by
  have h:=p.keep b (λk (q:k=w1.heap.size)=>⟨by omega,λe=>by have:=i k e;omega⟩);exact ⟨h.kind,h.Vp,h.V7,h.kit,λk d=>(h.bl k d).imp id (by omega),λk d=>(h.ob k d).imp id (by omega),h.own,h.Va,h.told⟩
 have n:bW w1 (w2.alloc (Z5 #[Z8 Z9 0,Z6 Z0 0 0] 210)):=r.alloc (by omega) _;have a:=aa.after n g;exact ⟨rfl,_,ps',s,C,ao,m,c,rfl,XJ _,ll (lj t),l,o,b.os.trans a.os,b.tape.trans a.tape,b.output.trans a.output,XG a.size b.size,λk f j=>(b.block k (XH f a.size) (by omega)).trans (a.block k f j)⟩
def Sk (w0:ZW) (r v b g N p D L G:Nat) (A:ay) (F:bh) (R:Nat->List Nat) (Kind:cA->Prop) (ps:cA) (pl:Nat->Nat) (S:Nat) (res:List Nat×Nat) (wr:ZW):Prop:=
 ∃ n ds gone f ps1,gC A N gone<n/\qS A pl S ps.ho n ds gone=res/\Cx w0 r v b g N p D L G A F R Kind ps ps1 gone ds f wr/\(∀ i,gone.testBit i=ZY->i<N/\A.lost i=ZY)/\gone<65536/\∀ i∈ds,i<N
end
section
variable {w:ZW} {r v b g N p D L G:Nat} {Kind:cA->Prop} {ok:Nat->Prop} {pl:Nat->Nat} {ps:cA} {A:ay} {F:bh} {dl:List (List Nat)} (hs:Cw w r v b g N p D L G Kind ok ps A F dl) (hSh:iw D L G Kind ok pl)
include hs hSh
theorem LZ (hr:ew w r v b g N 0 ps.ho) (kx:w.rowIs g 34 N BN) (S:Nat) (hS:S<65536) (xk:∀ i,i∈ab S->i<D) :
 ZU ZQ 112 #[Z7 (ZZ ⟨r,0,Z0⟩),Z8 .u64 S] w λe w'=>e=Z4 .nilIface/\NM w r v b g N p D L G Kind ps A F (λi=>(dF (aO D L G) dl 44).getD i []) (ab S) (qS A pl S ps.ho (N+1) [] 0) w':=by
 obtain ⟨R,qx⟩:∃ R:Nat->List Nat,(λi=>(dF (aO D L G) dl 44).getD i [])=R:=⟨_,rfl⟩;have Q:∀ i,(dF (aO D L G) dl 44).getD i []=R i:=λi=>by rw [<- qx]
 rw [qx];have qc:N<=16:=by rw [hs.nN];exact hs.par.s
 have O:∀ i,i<N->(aX.shard (R i)).ok/\A.blk i b=(aX.shard (R i)).blk:=λi a=>by rw [<- Q];exact hs.recs i a
 have qs:∀ i,i∈ab S->i<N:=λi a=>by have:=xk i a;rw [hs.nN];omega
 have E:=eN hs.kit hr xO;have B:¬ ps.bl g:=by obtain ⟨cs,h1,_⟩:=kx;exact eN hs.kit h1 uK
 obtain ⟨res,q9⟩:=nM (qS A pl S ps.ho (N+1) [] 0);rw [q9];have h0:Sk w r v b g N p D L G A F R Kind ps pl S res w:=⟨N+1,[],0,BN,ps,by have:=IG A N 0;omega,q9,⟨hr,by rw [Nat.or_zero,uj];exact hs.vol,kx,Kn.nil _ _ _ _,hs.kit,hs.kind,rfl,λk q=>.inl q,aa.refl _ _⟩,λi q=>(by rw [Yq] at q;cases q),by decide,λi q=>(by cases q)⟩;have HS:=hide9 hs hSh O Q hr.lt kx.lt E B h0;clear hs hSh O Q qx hr kx E B h0 q9;go_enter func112,ntmps112;go_wp2_with fail;go_loopw [5] (λ_ wr=>Sk w r v b g N p D L G A F R Kind ps pl S res wr) (λ_ wr=>gC A N (intOf ((wr.cell? ⟨r,3,Z0⟩).getD undef)).toNat)
 case atStart=>exact HS.out.2.2.2.2.2.2.2.2
 case round=>
  obtain ⟨n,ds,gone,f0,ps1,hn,xv,hM,xp,kf,xn⟩:=hrel;obtain ⟨n',rfl⟩:∃ n',n=n'+1:=⟨n-1,by omega⟩;obtain ⟨hs,hSh,O,Q,H,I,E,B,_⟩:=HS.out;have x6:=xW hM hs H I E B O S hS qs kf;have qg:=Oh (A:=A) (ds:=ds) qc qs kf hs.hol;have qj:gC A N (intOf ((wr.cell? ⟨r,3,Z0⟩).getD undef)).toNat=gC A N gone:=by
   obtain ⟨_,_,_,d3,_⟩:=hM.rd.cells;rw [d3];simp [intOf]
  have HM:=hide4 hn xv qj xn;obtain ⟨nw,xd⟩:=nM (CE S gone ps.ho ds);rw [xd] at x6 qg;have HN:=hide xd;clear hn xv qj hM xd hs hSh O Q H I E B xn;go_wp2_with fail;refine x6.mono ?_;rintro e w1 ⟨rfl,f1,f,_⟩;clear x6;obtain ⟨d1,ki⟩:=nM (ds++mT A nw);obtain ⟨g1,Z⟩:=nM (gone|||bH A nw);rw [ki,Z] at f;obtain ⟨hs,hSh,O,Q,H,I,E,B,_⟩:=HS.out;have hf:∀ i,g1.testBit i=ZY->i<N/\A.lost i=ZY:=λi a=>by
   rw [<- Z,XM,Yb] at a;exact a.elim (xp i) λq=>⟨(qg.1 i q).1,(qg.1 i q).2.1⟩
  have kg:g1<65536:=by rw [<- Z];exact Nt kf qg.2
  have hv:∀ i∈d1,i<N:=λi a=>by
   rw [<- ki] at a;rcases XS.1 a with q|q
   . exact HM.out.2.2.2 i q
   . have q1:=(mJ.1 q).1;rw [<- HN.out] at q1;exact qs i ((pE kf hs.hol).1 q1).1
  have hc:∀ i,i∈ab S->(g1|||ps.ho).testBit i=ZX->i∈d1:=λi a hb=>by
   rw [XM,Yc,<- Z,XM,Yc] at hb;rw [<- ki];by_cases q:i∈ds
   . exact X1 _ q
   . refine Yd _ (mJ.2 ⟨by rw [<- HN.out];exact (pE kf hs.hol).2 ⟨a,hb.1.1,hb.2,q⟩,?_⟩);cases hq:A.lost i
     . rfl
     . rw [(j6 A nw i).2 ⟨by rw [<- HN.out];exact (pE kf hs.hol).2 ⟨a,hb.1.1,hb.2,q⟩,hq⟩] at hb;cases hb.1.2
  have yf:=Ra g1 ps.ho kg hs.hol;have q8:g1|||ps.ho<65536:=Nt kg hs.hol;have V:∀ i,(g1|||ps.ho).testBit i=ZY->i<N/\A.lost i=ZY:=λi a=>by
   rw [XM,Yb] at a;exact a.elim (hf i) (hs.ho i)
  have J:qS A pl S ps.ho (n'+1) ds gone=if S &&& (g1|||ps.ho)=0 then (d1,g1) else if (g1|||bH A (CE (pl (g1|||ps.ho)) g1 ps.ho d1))|||ps.ho=g1|||ps.ho then (d1++mT A (CE (pl (g1|||ps.ho)) g1 ps.ho d1),g1|||bH A (CE (pl (g1|||ps.ho)) g1 ps.ho d1)) else qS A pl S ps.ho n' (d1++mT A (CE (pl (g1|||ps.ho)) g1 ps.ho d1)) (g1|||bH A (CE (pl (g1|||ps.ho)) g1 ps.ho d1)):=by
   rw [<- ki,<- Z,<- HN.out];rfl
  rw [HM.out.2.1] at J;obtain ⟨e0,_,_,e3,e4⟩:=f.rd.cells;obtain ⟨l1,U⟩:=nM (g1|||ps.ho);rw [U] at yf q8 V hc J;have x8:ps.ho<65536:=hs.hol;have qz:=gj S l1 (by omega) (by omega);have H1:=hide9 f J hf hv hc V U ki Z;clear f J hf hv hc V U ki Z hs hSh O Q H I E B qg xp;by_cases hz:S &&& l1=0
  . have y0:bits .and .u64 (S:Int) (l1:Int)=0:=(by rw [qz,hz];rfl);go_wp2_with fail;go_region;go_wp2;go_ret;obtain ⟨f,J,hf,hv,hc,V,U,_⟩:=H1.out;rw [if_pos hz] at J;subst J;refine ⟨rfl,⟨_,_,f.rd⟩,⟨f1,f.row,λi a=>?_⟩,⟨{ ps1 with ho:=ps.ho|||g1 },HS.out.2.1.ho ps1 _ f.kind,f.Vp,ps1.keep _ _ f.kit (λ_ _=>rfl),f.vol.vol,rfl,?_,?_,f.bl⟩,f.vol.arr.keep λ_ _=>rfl,f.out.trans (aa.drew _)⟩
    . obtain ⟨bl,q1,q2,q3,q4⟩:=f.kn.2 i (hc i a (Ig hz (bX.1 a).2));exact ⟨bl,44,q1,q2,q3,rE q4⟩
    . show ∀ i,(ps.ho|||g1).testBit i=ZY->_;rw [X2,U];exact V
    . show ps.ho|||g1<65536;rw [X2,U];exact q8
  . have y0:(bits .and .u64 (S:Int) (l1:Int)==0)=ZX:=by
     rw [qz];generalize S &&& l1=q at hz;simp;omega
    have xx:l1≠0:=λe=>hz (by rw [e,Nat.and_zero]);have xz:∀ w',bW w1 w'->ZU ZQ 144 #[Z7 (ZZ ⟨ps.ps,0,Z0⟩),.agg #[Z8 Z9 D,Z8 Z9 L,Z8 Z9 G],Z8 .u64 l1] w' λe z0=>∃ ys s C ao m c,jK D L G s ao m c e/\CD D L G Kind ps1 ys l1 s C ao m c w'.heap.size z0/\nD (bG D L G s C)=pl l1/\aa ps1.bl w' z0:=λw' hb=>by
     obtain ⟨f,_,_,_,_,V,_⟩:=H1.out;obtain ⟨hs,hSh,_,_,H,I,E,B,_⟩:=HS.out;have h:=hSh.rd ps1 f.kind w' (ps1.keep _ _ f.kit λk X=>hb.block k (ps1.lt _ f.kit k X)) (f.vol.TQ.keep (hb.block _ f.vol.TQ.lt)) (XG f.vol.room hb.size) (λk X=>(f.apart hs H I E B k X).1) l1 (hs.dec l1 xx V);rw [f.Vp] at h;exact h
    have HB:=hide2 xz (λk (X:ps1.bl k)=>ps1.lt _ H1.out.1.kit k X);obtain ⟨_,y1,y2,y3,y4,_⟩:=H1.out.1.vol.vol.cells;have x5:bW w1 (w1.alloc (Z5 #[Z8 Z9 0,Z6 Z0 0 0] 210)):=bA w1 _;obtain ⟨_,x1,x2,x3,x4,_⟩:=(H1.out.1.vol.vol.keep (x5.block _ H1.out.1.vol.vol.lt)).cells;obtain ⟨x0,_,_,_,_⟩:=(H1.out.1.rd.keep (x5.block _ H1.out.1.rd.lt)).cells;clear x5 xz;have HY:Hid (∀ (w' w3:ZW),bW w1 w'->aa ps1.bl w' w3->C5 r v ps.ps D L G w3/\(∀ o:Obj,C5 r v ps.ps D L G (w3.alloc o))/\(∀ k x y,w1.heap.size<=k->C5 r v ps.ps D L G ((w3.setCell ⟨k,0,Z0⟩ x).setCell ⟨k,1,Z0⟩ y))):=hide λw' w3 hb hO=>by
     have xj:=aa.after hb hO;have hM:=H1.out.1;obtain ⟨hs,_,_,_,H,I,E,B,_⟩:=HS.out;have ha:=hM.apart hs H I E B;have qm:=hM.rd.keep (xj.block _ hM.rd.lt λq=>(ha _ q).2.2.1 rfl);have hv3:=hM.vol.vol.keep (xj.block _ hM.vol.vol.lt λq=>(ha _ q).2.1 rfl);have H:=hM.rd.lt;have ym:=hM.vol.vol.lt;exact ⟨Lz qm hv3,λo=>Lz (qm.keep (blk_alloc_lt _ _ _ qm.lt)) (hv3.keep (blk_alloc_lt _ _ _ hv3.lt)),λk x y X=>Lz (qm.keep ((ik w3 k 0 1 x y).block _ qm.lt (by omega))) (hv3.keep ((ik w3 k 0 1 x y).block _ hv3.lt (by omega)))⟩
    go_wp2_with fail;go_region;go_upto_region 5 with fail;have y5:(((S &&& l1:Nat):Int)==0)=ZX:=by
     rw [<- qz];exact y0
    simp only [y5];clear y5;go_cut [6,7] from 24 to 42 (λv6 v7 wx=>P2 D L G Kind ps1 pl l1 w1 v6 v7 wx)
    case first=>
     go_region_held3 (λw'=>w'.cell? ⟨r,0,Z0⟩=ZZ (Z7 (ZZ ⟨v,0,Z0⟩))/\w'.cell? ⟨v,1,Z0⟩=ZZ (Z8 Z9 (D:Int))/\w'.cell? ⟨v,2,Z0⟩=ZZ (Z8 Z9 (L:Int))/\w'.cell? ⟨v,3,Z0⟩=ZZ (Z8 Z9 (G:Int))/\w'.cell? ⟨v,4,Z0⟩=ZZ (Z7 (ZZ ⟨ps.ps,0,Z0⟩))) (first|exact ⟨e0,y1,y2,y3,y4⟩|exact ⟨x0,x1,x2,x3,x4⟩|exact Y0.out|exact Y1.out _|exact Y2.out _ _ _ lR|go_keep)
      (first|(go_at_call 144;refine (HB.out.1 _ ?_).mono ?_;(first|exact ((Below.refl _ _).drew).drew|exact (((Below.refl _ _).drew).drew).alloc lR _);rintro e w3 ⟨ys,s,C,ao,m,c,he,P,hj,Y⟩;(unfold jK at he;obtain ⟨z,hz⟩:∃ z:Int,1+((ab (av (D+L+G) s)).length:Int)=z:=⟨_,rfl⟩;rw [hz] at he;subst he;have HZ:=hide hz;clear hz);(try (have q3:w3.heap[w1.heap.size]?=ZZ (Z5 #[Z8 Z9 0,Z6 Z0 0 0] 210 (0,0)):=(Y.block w1.heap.size (by simp) (λq=>by have:=HB.out.2 _ q;omega)).trans (blk_alloc_new w1.drew.drew _);obtain ⟨r0,r1,g1,g0⟩:=aG q3;clear q3));have H3:=hide3 P hj Y;obtain ⟨Y0,Y1,Y2⟩:Hid (C5 r v ps.ps D L G w3)/\Hid (∀ o:Obj,C5 r v ps.ps D L G (w3.alloc o))/\Hid (∀ k x y,w1.heap.size<=k->C5 r v ps.ps D L G ((w3.setCell ⟨k,0,Z0⟩ x).setCell ⟨k,1,Z0⟩ y)):=HY.out _ w3 (by first|exact ((Below.refl _ w1).drew).drew|exact (((Below.refl _ w1).drew).drew).alloc lR _) Y;clear P hj Y))
     all_goals (go_wp2_with fail;go_meet;case rel=>have hz:=HZ.out;subst hz;first
      | (refine IH (w':=w1.drew.drew) (CD.mono H3.out.1 ?_) H3.out.2.1 ?_ ?_;exact XJ _;exact ((Below.refl _ _).drew).drew;exact H3.out.2.2)
      | (refine EK (w2:=w1.drew.drew) (CD.mono H3.out.1 ?_) H3.out.2.1 ?_ rfl ?_ ?_;exact Nat.le_of_eq (World.size_alloc _ _).symm;exact HB.out.2;exact ((Below.refl _ _).drew).drew;exact H3.out.2.2))
    case rest=>
     clear e0 e3 e4 y1 y2 y3 y4 x0 x1 x2 x3 x4 HY HB;rename ZW=>w3;obtain ⟨rfl,gb,K,s,C,ao,m,c,rfl,k6,kj,P,hj,Y⟩:=hcut;obtain ⟨f,J,hf,hv,hc,V,U,ki,Z⟩:=H1.out;obtain ⟨hs,hSh,O,Q,H,I,E,B,_⟩:=HS.out;have kh:=f.Vm (f.apart hs H I E B) Y P.kit P.kind P.Vp P.bl;have kk:=hs.par;have hh:=Pn kk.d kk.l4 kk.g kk.s P.told;have k5:=KM kk.d kk.g kk.s P.told;have hg:(bG D L G s C).length<=2000:=hh.1.2.2;have ks:∀ t∈bG D L G s C,t.k=0->0<=t.b/\t.b<16:=λt ht h0=>by
      obtain ⟨i,q1,q2,_⟩:=lU kk.s ht h0;have:=kk.s;omega
     have xa:=Gp (1+((ab (av (D+L+G) s)).length:Int)) (FB P.own (by omega)) ks (by omega);obtain ⟨z,ky⟩:∃ z:Int,1+((ab (av (D+L+G) s)).length:Int)=z:=⟨_,rfl⟩;rw [ky] at kj hh xa;obtain ⟨k0,k1,_,_⟩:=aG kj;have H3:=hide12 kh P hj kj hh k5 hg ks xa ky Y k6;clear kh P hj kj hh k5 hg ks xa ky Y k6 kk f J hf hv hc V U ki Z hs hSh O Q H I E B;go_wp2_with fail;refine H3.out.2.2.2.2.2.2.2.2.1.mono ?_;rintro e w4 ⟨rfl,km⟩;clear k0 k1;obtain ⟨kh,P,hj,kj,hh,k5,hg,ks,_,ky,Y,k6⟩:=H3.out;obtain ⟨hs,hSh,O,Q,H,I,E,B,_⟩:=HS.out;have xh:=kh.Vm (kh.apart hs H I E B) (aa.TG km _) (K.keep _ _ kh.kit λk X=>km.block k (K.lt _ kh.kit k X)) kh.kind rfl (λk q=>.inl q);obtain ⟨T,hT⟩:=nM (nD (bG D L G s C));have qd:T<65536:=by rw [<- hT];exact JM λt ht h0=>by have:=ks t ht h0;omega
     have xm:∀ i,T.testBit i=ZY->i<N/\s.testBit i=ZX:=λi a=>by
      rw [<- hT] at a;obtain ⟨t,ht,h0,yi⟩:=(rX _ _).1 a;obtain ⟨j,q1,q2,q3⟩:=lU hs.par.s ht h0;have:j=i:=by rw [<- yi,q1];rfl
      subst this;exact ⟨by rw [hs.nN];exact q2,q3⟩
     have kp:∀ i,i∈ab T->i<N/\s.testBit i=ZX:=λi a=>xm i (bX.1 a).2;have qf:=xW xh hs H I E B O T qd (λi a=>(kp i a).1) kg;have h7:=Oh (A:=A) (ds:=d1) qc (λi a=>(kp i a).1) kg x8;have qa:=(km.block gb (XK.1 kj).1).trans kj;have H4:=hide5 h7 kp hT qa km;clear h7 kp xh qa km kh P hj kj hh k5 hg ks ky Y k6 hs hSh O Q H I E B xm;rw [hT];clear hT;go_wp2_with fail;refine qf.mono ?_;rintro e w5 ⟨rfl,f5,u,qq⟩;clear qf;obtain ⟨h7,kp,hT,qa,km⟩:=H4.out;obtain ⟨kh,P,hj,kj,hh,k5,hg,ks,_,ky,Y,k6⟩:=H3.out;obtain ⟨f,J,hf,hv,hc,V,U,ki,Z⟩:=H1.out;obtain ⟨hs,hSh,O,Q,H,I,E,B,_⟩:=HS.out;rw [if_neg hz,show pl l1=T from hj.symm.trans hT] at J;obtain ⟨qr,kv⟩:=nM (CE T g1 ps.ho d1);rw [kv] at u h7 J;have kb:∀ i,i∈qr↔i∈ab T/\g1.testBit i=ZX/\ps.ho.testBit i=ZX/\i∉d1:=λi=>by rw [<- kv];exact pE kg x8
     obtain ⟨d2,kz⟩:=nM (d1++mT A qr);obtain ⟨W,q0⟩:=nM (g1|||bH A qr);rw [kz,q0] at u J;have qi:W<65536:=(by rw [<- q0];exact Nt kg h7.2);have yg:=Ra W ps.ho qi x8;have qp:=Y.size;have xg:=km.size;have qo:=f.out.size;have xf:=(qq.block gb (XH (XK.1 kj).1 xg) (λq=>by
      rcases q with q|q|q|q
      . omega
      . omega
      . have:=hs.vol.vol.lt;omega
      . have:=hs.vol.arr.TH q;omega)).trans qa
     obtain ⟨_,_,_,e3,e4⟩:=u.rd.cells;obtain ⟨k0,k1,_,_⟩:=aG xf;have xb:gC A N (intOf ((w5.drew.cell? ⟨r,3,Z0⟩).getD undef)).toNat=gC A N W:=by
      rw [show w5.drew.cell? ⟨r,3,Z0⟩=w5.cell? ⟨r,3,Z0⟩ from rfl,e3];simp [intOf]
     have kr:∀ i∈d2,i<N:=λi a=>by
      rw [<- kz] at a;rcases XS.1 a with q|q
      . exact hv i q
      . exact (kp i ((kb i).1 (mJ.1 q).1).1).1
     by_cases ke:W|||ps.ho=l1
     . have qk:∀ i∈qr,A.lost i=ZX:=λi a=>by
        cases hq:A.lost i
        . rfl
        . have q:=(j6 A qr i).2 ⟨a,hq⟩;have q2:(W|||ps.ho).testBit i=ZY:=(by rw [XM,<- q0,XM,q,Bool.or_true,Bool.true_or]);rw [ke,<- U,XM,(h7.1 i q).2.2.1,(h7.1 i q).2.2.2] at q2;cases q2
       have qe:=f.apart hs H I E B;have ko:CD D L G Kind ps1 K l1 s C ao m c w1.heap.size w5:=(P.keep (T:=λ_=>False) (aa.TG km _) (λ_ q=>q.elim)).keep qq (λk q=>by
        rcases q with q|q|q|q
        . subst q;exact ⟨by omega,λe=>(qe _ e).2.2.2.1 rfl⟩
        . subst q;exact ⟨by omega,λe=>(qe _ e).2.2.1 rfl⟩
        . subst q;exact ⟨by have:=hs.vol.vol.lt;omega,λe=>(qe _ e).2.1 rfl⟩
        . exact ⟨by have:=hs.vol.arr.TH q;omega,λe=>(qe _ e).2.2.2.2 q⟩)
       obtain ⟨i0,qv⟩:∃ i,l1.testBit i=ZY:=Yr xx;have q7:=(V i0 qv).1;have qy:∀ i∈d2,(R i).length=44/\∀ x∈R i,x<256:=λi a=>(O i (kr i a)).1;have x7:=Nm (x:=Ns N d2) (Dl:=zW N d2 R) hs.par.d1 hs.par.d hs.par.g hs.par.div hs.par.s ko.told (by rw [<- hs.nN];exact q7) (ko.Va.sub i0 qv) hs.len hs.byt (λi a=>by
        rw [hT] at a;have x9:i<16:=by
         by_cases q:i<16
         . exact q
         . rw [Nat.testBit_lt_two_pow (XH qd (Ys (n:=2) (i:=16) (by decide) (by omega)))] at a;cases a
        have xq:i∈ab T:=bX.2 ⟨x9,a⟩;obtain ⟨q1,q2⟩:=kp i xq;have yp:i∈d2:=by
         rw [<- kz];by_cases q:i∈d1
         . exact X1 _ q
         . have xc:l1.testBit i=ZX:=Ey λe=>by rw [ko.Va.sub i e] at q2;cases q2
           rw [<- U,XM,Yc] at xc;have q3:=(kb i).2 ⟨xq,xc.1,xc.2,q⟩;exact Yd _ (mJ.2 ⟨q3,qk i q3⟩)
        rw [Cd q1,if_pos yp,Q];exact ⟨rfl,Ey λe=>((uI N d2 i).1 e).2 yp⟩)
       have xi:(ab (av (D+L+G) s)).length<=16:=(by have:=wY (D+L+G) s hs.par.s;have:=hs.par.s;omega);have qb:ab (av (D+L+G) s)≠[]:=λq=>by
        have:i0∈ab (av (D+L+G) s):=(cM hs.par.s).2 ⟨by rw [<- hs.nN];exact q7,ko.Va.sub i0 qv⟩;rw [q] at this;cases this
       have y6:z.toNat=1+(ab (av (D+L+G) s)).length:=(by rw [<- ky];omega);have xo:=Lw (w:=w5.drew) (M:=ab (av (D+L+G) s)) (R:=R) (show ew w5.drew r v b g N W ps.ho from u.rd) (show w5.drew.rowIs g 34 N f5 from u.row) hs.rg ((FB ko.own (by omega)).mono (Below.refl _ w5).drew) k5 ((Q9 u.row qy u.kn).mono (Below.refl _ w5).drew) (Cc N d2 R) (Ie qy) (by omega) (by rw [<- hs.nN] at hh;exact hh) x7.1 (by rw [y6,x7.2];exact List.map_congr_left λd _=>by rw [Q]) qb (λd hd=>by rw [hs.nN];exact ((cM hs.par.s).1 hd).1) xi;rw [if_pos ke] at J;have H5:=hide5 xo u ko J kz;clear xo ko qy x7 xi qb y6 xb xf u qq J kr h7 kp hT qa km kh P hj kj hh k5 hg ks ky Y k6 f hf hv hc V U ki Z hs hSh O Q H I E B kv kb kz q0 qp xg qo qv q7 qk qe;go_wp2_with fail;go_region;go_wp2_with fail;refine H5.out.1.mono ?_;rintro e w6 ⟨rfl,hF⟩;clear e3 e4 k0 k1;have H6:=hide hF;clear hF;go_wp2;go_ret;obtain ⟨yh,⟨f6,qn,yb,yc⟩,y8⟩:=H6.out;obtain ⟨_,u,ko,J,kz⟩:=H5.out;obtain ⟨hs,hSh,O,Q,H,I,E,B,_⟩:=HS.out;obtain ⟨f,_,hf,hv,hc,V,U,ki,Z⟩:=H1.out;subst J;have kc:aa (λk=>k=g) w5 w6:=(aa.drew w5).trans y8;have y9:=u.apart hs H I E B;have yn:=u.out.size;refine ⟨rfl,⟨_,_,yh⟩,⟨f6,qn,λi a=>?_⟩,⟨{ K with ho:=ps.ho|||W },hSh.ho K _ u.kind,u.Vp,K.keep _ _ u.kit (λk X=>kc.block k (K.lt _ u.kit k X) (λq=>(y9 k X).2.2.2.1 q)),u.vol.vol.keep (kc.block _ u.vol.vol.lt hs.vg),rfl,?_,?_,u.bl⟩,u.vol.arr.keep (λk X=>kc.block k (u.vol.arr.TH X) λq=>hs.gF (q▸X)),u.out.trans (kc.mono λk _ q=>.inl q)⟩
       . have yj:=xk i a;by_cases xe:s.testBit i=ZY
         . obtain ⟨bl,mm,l,q1,q2,q3,q4,q5,q6⟩:=yc i ((cM hs.par.s).2 ⟨by have:=hs.nN;omega,xe⟩);obtain ⟨h1,h2⟩:=If q4 q3 q5;have y7:=(O i (qs i a)).1.1;rw [y7] at h2;subst h2;have yo:w5.drew.heap.size=w5.heap.size:=rfl;exact ⟨bl,l.length,q1,by omega,aL.lt q4,h1⟩
         . have ye:i∉ab (av (D+L+G) s):=λq=>xe ((cM hs.par.s).1 q).2;have yp:i∈d2:=by
            rw [<- kz];exact X1 _ (hc i a (Ey λe=>xe (ko.Va.sub i e)))
           obtain ⟨bl,q1,q2,q3,q4⟩:=u.kn.2 i yp;have ya:bl≠g:=(by omega);exact ⟨bl,44,by rw [yb i ye];exact q1,q2,XH q3 kc.size,rE ((kc.block bl q3 ya).trans q4)⟩
       . show ∀ i,(ps.ho|||W).testBit i=ZY->_;rw [X2,ke];exact V
       . show ps.ho|||W<65536;rw [X2,ke];exact q8
     . have qh:∀ i,W.testBit i=ZY->i<N/\A.lost i=ZY:=λi a=>by
        rw [<- q0,XM,Yb] at a;exact a.elim (hf i) λq=>⟨(h7.1 i q).1,(h7.1 i q).2.1⟩
       have xy:gC A N W<gC A N gone:=by
        have q1:=EJ (A:=A) (N:=N) (g1:=g1) (sp:=ps.ho) (x:=bH A qr) (λi q=>⟨(h7.1 i q).1,(h7.1 i q).2.1⟩) (by rw [q0,U];exact ke);have q2:=NK A N gone (bH A nw);rw [q0] at q1;rw [Z] at q2;omega
       rw [if_neg ke] at J;have hR:Sk w r v b g N p D L G A F R Kind ps pl S res w5.drew:=⟨n',d2,W,f5,K,by have:=HM.out.1;omega,J.symm,u.Vm (u.apart hs H I E B) (aa.drew _) (K.keep _ _ u.kit λ_ _=>rfl) u.kind rfl (λk q=>.inl q),qh,qi,kr⟩;have yk:((W|||ps.ho:Nat):Int)≠(l1:Int):=(by omega);have yd:((((W|||ps.ho:Nat):Int))==(l1:Int))=ZX:=(by simp;omega);have H5:=hide4 hR xy xb HM.out.2.2.1;clear hR xy xb xf u qq J qh kr h7 kp hT qa km kh P hj kj hh k5 hg ks ky Y k6 f hf hv hc V U ki Z hs hSh O Q H I E B kv kb kz q0 qp xg qo;go_wp2_with fail;go_region;go_wp2;go_roundw
       case rel=>exact H5.out.1
       case measure=>
        rw [H5.out.2.2.1,H5.out.2.2.2];exact H5.out.2.1
end
end
structure FF (w:ZW) (r v b g N p D L G:Nat) (Kind:cA->Prop) (ps:cA) (A:ay) (F:bh) (res:List Nat×Nat) (l:List Nat) (u:ZV) (w':ZW):Prop where
 rd:∃ gone sp,ew w' r v b g N gone sp
 row:∃ f,w'.rowIs g 34 N f
 kit:∃ ps':cA,Kind ps'/\ps'.ps=ps.ps/\ps'.S w'/\bt w' v p D L G ps.ps ps'.ho/\ps'.ho=ps.ho|||res.2/\(∀ i,ps'.ho.testBit i=ZY->i<N/\A.lost i=ZY)/\ps'.ho<65536/\∀ k,ps'.bl k->ps.bl k\/w.heap.size<=k
 arr:aq w' p (A.TJ res.1) F
 out:aa (λk=>k=g\/k=r\/k=v\/F.has p A.n k\/ps.bl k) w w'
 bytes:Bs w' u l
 fresh:∀ k,u.ownBlock=ZZ k->w.heap.size<=k
 cap:∃ ao n,u=.slice ao n n
def Cw.turn {Kind:cA->Prop} {ps:cA} (h:Cw w r v b g N p D L G Kind ok ps A F dl) (hr:¬ ps.bl r) (d:¬ ps.bl g) (c:aa (λk=>k=r\/k=g) w w'):Cw w' r v b g N p D L G Kind ok ps A F dl:=by
 have f:2<3:=by decide
 have i:1<3:=by decide
 have l:=h.rK;have j:=h.gK;exact { h with
  vol:=⟨h.vol.vol.keep (c.block _ h.vol.vol.lt (λq=>q.elim h.vr h.vg)),h.vol.arr.keep (λk a=>c.block k (h.vol.arr.TH a) (λq=>q.elim (λe=>h.rF (e▸a)) (λe=>h.gF (e▸a)))),h.vol.laid.keep (c.block _ h.vol.laid.lt (λq=>by omega)),h.vol.TQ.keep (c.block _ h.vol.TQ.lt (λq=>by omega)),XG h.vol.room c.size⟩
  kit:=ps.keep _ _ h.kit λk a=>c.block k (ps.lt _ h.kit k a) (λq=>q.elim (λe=>hr (e▸a)) (λe=>d (e▸a))) }
theorem L0 {Kind:cA->Prop} {ps:cA} (hs:Cw w r v b g N p D L G Kind ok ps A F dl) (ke:iw D L G Kind ok pl) (hr:ew w r v b0 g N gone sp) (U:w.rowIs g 34 N f0) (size:Nat) (m:Nat) (hm:m=(size+43)/44) (kv:m<=D) :
 ZU ZQ 76 #[Z7 (ZZ ⟨r,0,Z0⟩),Z8 Z9 b,Z8 Z9 size] w λe w'=>∃ u,e=Z4 (Z1 #[u,.nilIface])/\FF w r v b g N p D L G Kind ps A F (qS A pl (2^m-1) ps.ho (N+1) [] 0) (((XN m).map λi=>(dF (aO D L G) dl 44).getD i []).flatten.take size) u w':=by
 obtain ⟨R,W⟩:∃ R:Nat->List Nat,(λi=>(dF (aO D L G) dl 44).getD i [])=R:=⟨_,rfl⟩;rw [W];have kk:N<=16:=by rw [hs.nN];exact hs.par.s
 have kz:D<=N:=by rw [hs.nN];omega
 have T:m<=16:=by omega
 have q5:size<=704:=by omega
 have J:ab (2^m-1)=XN m:=Ez T;have Q:2^m-1<65536:=by
  have:2^m<=2^16:=Ys (by decide) T;omega
 obtain ⟨S,X⟩:=nM (2^m-1);rw [X] at J Q ⊢;have kj:=MJ hr hs.vol.vol U (by have:=hs.par.d1;omega) (λe=>hs.rg e.symm) hs.vg b;have kb:=eN hs.kit hr xO;have ka:¬ ps.bl g:=by obtain ⟨cs,h1,_⟩:=U;exact eN hs.kit h1 uK
 have j:∀ i,i<m->(R i).length=44/\∀ x∈R i,x<256:=λi d=>by rw [<- W];exact (hs.recs i (by omega)).1
 have y:=hide5 hs ke kb ka j;have e1:((size:Nat):Int)+44-1=((size+43:Nat):Int):=by omega
 have e2:((size+43:Nat):Int)/44=(m:Int):=by omega
 have q2:=hs.rg;clear hr U hs ke kb ka j;go_enter func76,ntmps76;go_wp2_with fail;refine kj.mono ?_;rintro e w1 ⟨rfl,kh,ha,V⟩;have ki:=y.out.1.turn y.out.2.2.1 y.out.2.2.2.1 V;have k8:=LZ ki y.out.2.1 kh ha S Q (λi d=>by rw [J,XW] at d;omega);rw [W] at k8;have H:=hide2 k8 V;clear kj kh ha V ki k8;go_wp2_with fail;rw [show ((size:Int)+43)/44=(m:Int) by omega];refine (mu m T w1).mono ?_;rw [X];rintro e w2 ⟨rfl,rfl⟩;clear e1 e2;go_wp2_with fail;refine H.out.1.mono ?_;rintro e w3 ⟨rfl,⟨P,hb,z⟩,⟨f,o,Z⟩,h9,h8,kc⟩;rw [J] at Z;obtain ⟨_,_,d2,_,_⟩:=z.cells;have j:=y.out.2.2.2.2;have C:((XN m).map R).length=m:=by simp
 have hj:Mc w3 0 g ((XN m).map R):=by
  refine ⟨XO _,o.lt,λi d=>?_⟩;rw [C] at d;obtain ⟨bl,c,q1,_,q3,q4⟩:=Z i (XW.2 d);have cg:=o.cell (i:=i) (by omega);rw [q1] at cg;have e:((XN m).map R)[i]'(by rw [C];exact d)=R i:=by simp
  rw [e];exact ⟨bl,0,c,cg,XO _,q3,q4,(j i d).1,(j i d).2⟩
 have Y:=GE (c:=N) hj (by rw [C];omega);rw [C] at Y;have O:=H.out.2.size;have E:aa (λk=>k=g\/k=r\/k=v\/F.has p A.n k\/ps.bl k) w w3:=(H.out.2.mono λ_ _ q=>q.elim (λe=>.inr (.inl e)) .inl).trans kc;have H3:=hide7 z o h9 h8 E Y O;clear z o Z h9 h8 kc Y E hj C O;go_wp2_with fail;rw [show (size+43)/44=m from hm.symm];refine H3.out.2.2.2.2.2.1.mono ?_;rintro e w4 ⟨u,rfl,hh,h⟩;have kf:((XN m).map R).flatten.length=44*m:=Ce R m (λi d=>(j i d).1);have kg:∀ x∈((XN m).map R).flatten,x<256:=λx hx=>by
  obtain ⟨l,kr,ks⟩:=List.mem_flatten.1 hx;obtain ⟨i,kp,rfl⟩:=XI.1 kr;exact (j i (XW.1 kp)).2 x ks
 have k9:size<=44*m:=by omega
 obtain ⟨ao,cp,rfl,hg,km,ko,I,K⟩:=PS hh kf kg k9 (by omega);have H4:=hide3 h K I;obtain ⟨M,hM⟩:=nM (44*m);rw [hM] at k9 hg ⊢;have ky:size<=cp:=XG k9 hg;have q0:M<=704:=by omega
 clear h K I hh kf kg hM hm d2 y j J X Q H kv;go_wp2;go_ret2;obtain ⟨z,o,⟨t,k1,k2,k3,k4,kx,k5,k6,k7⟩,a3,E,_,O⟩:=H3.out;obtain ⟨h,K,I⟩:=H4.out;refine ⟨_,rfl,⟨_,_,z.keep (h.block _ z.lt)⟩,⟨_,o.of_block (h.block _ o.lt)⟩,⟨t,k1,k2,t.keep _ _ k3 (λk B=>h.block k (t.lt _ k3 k B)),k4.keep (h.block _ k4.lt),kx,k5,k6,λk B=>(k7 k B).imp id λq=>XG O q⟩,a3.below h lR,E.trans (aa.TG h _),K,λk B=>?_,⟨_,_,rfl⟩⟩;cases ao with
 | none=>simp [Value.ownBlock] at B
 | some a=>
  simp [Value.ownBlock] at B;have h1:=I a rfl;have h2:=E.size;omega
def FG (sz n k:Nat):Nat:=(min (n-k*sz) sz+43)/44
def me (A:ay) (pl:Nat->Nat) (sz n ho:Nat):Nat->(Nat->Int)×Nat
 | 0=>(A.reads,ho)
 | k+1=>(((A.rd (me A pl sz n ho k).1).TJ (qS A pl (2^FG sz n k-1) (me A pl sz n ho k).2 (A.n+1) [] 0).1).reads,(me A pl sz n ho k).2|||(qS A pl (2^FG sz n k-1) (me A pl sz n ho k).2 (A.n+1) [] 0).2)
structure vP (D L G:Nat) (Kind:cA->Prop) (ok:Nat->Prop) (pl:Nat->Nat) (ps:cA) (A:ay):Prop where
 sh:iw D L G Kind ok pl
 kind:Kind ps
 ho:∀ i,ps.ho.testBit i=ZY->i<A.n/\A.lost i=ZY
 hol:ps.ho<65536
 dec:∀ l,l≠0->(∀ i,l.testBit i=ZY->i<A.n/\A.lost i=ZY)->ok l
structure NO (w:ZW) (q v p r g N sz n D L G:Nat) (Kind:cA->Prop) (pl:Nat->Nat) (ps:cA) (A:ay) (F:bh) (d:List Nat) (cs:List ZV) (k:Nat) (u:ZV) (wr:ZW):Prop where
 pk:wr.ownsRow w.heap.size 5 1 u (min (k*sz) n) (aH (d.take (k*sz)))
 rd:∃ b gone sp,ew wr r v b g N gone sp
 row:∃ f,wr.rowIs g 34 N f
 kit:∃ ps',NF w v p D L G Kind ps A ps' wr/\ps'.ho=(me A pl sz n ps.ho k).2
 arr:aq wr p (A.rd (me A pl sz n ps.ho k).1) F
 out:aa (λj=>F.has p A.n j\/j=v\/ps.bl j) w wr
 box:aw wr q 123 cs
def Sl (w:ZW) (q v p r g N sz n D L G:Nat) (Kind:cA->Prop) (pl:Nat->Nat) (ps:cA) (A:ay) (F:bh) (d:List Nat) (cs:List ZV) (K:Nat) (u i:ZV) (wr:ZW):Prop:=∃ k:Nat,k<=K/\i=Z8 Z9 (k:Nat)/\NO w q v p r g N sz n D L G Kind pl ps A F d cs k u wr
def NP {ks base:Nat} {ps:cA} (a:w.ownsRow base 5 1 u ks (aH l)) (f:ew w r v b0 g N gone sp) (c:w.rowIs g 34 N f0) (o:bt w v p D L G ps.ps ps.ho) (j:ps.S w) (i:aa (λk=>k=g\/k=r\/k=v\/F.has p A.n k\/ps.bl k) w w6) (d:∀ k,F.has p A.n k->k<base):w6.ownsRow base 5 1 u ks (aH l):=dA a i λq b h=>by
 rcases h with h|h|h|h|h
 . subst h;obtain ⟨cs,e,_⟩:=c;exact dz a e (by decide) b
 . subst h;exact dz a f (by decide) b
 . subst h;exact dz a o (by decide) b
 . have s:=d q h;have t:=gJ a b;omega
 . obtain ⟨cur,m⟩:=iS a b;exact eN j m z7 h
theorem L1 {w7:ZW} {sz y:Nat} {Kind:cA->Prop} {ps ps':cA} {u2 v7:ZV} (i:NO w q v p r g N sz n D L G Kind pl ps A F d cs k u wr) (hK:NF w v p D L G Kind ps A ps' wr) (J:N=A.n) (O:ps'.ho=(me A pl sz n ps.ho k).2) (S:(me A pl sz n ps.ho k).1=rs) (hD:FF wr.drew r v y g N p D L G Kind ps' (A.rd rs) F (qS (A.rd rs) pl (2^FG sz n k-1) ps'.ho (N+1) [] 0) ((d.drop (k*sz)).take sz) u2 w6)
 (P:w7.ownsRow w.heap.size 5 1 v7 (k*sz+((d.drop (k*sz)).take sz).length) (aH (d.take (k*sz))++aH ((d.drop (k*sz)).take sz))) (b:w6.grownBy w7 u.ownBlock) (t:w6.ownsRow w.heap.size 5 1 u (k*sz) (aH (d.take (k*sz)))) (E:∀ k,F.has p A.n k->k<w.heap.size) (hs:v<w.heap.size) (hn:k*sz<=n) (Z:d.length=n) (hq:w.heap.size<=q) (R:q≠r) (Q:q≠g) (hr:w.heap.size<=r) (Y:w.heap.size<=g):NO w q v p r g N sz n D L G Kind pl ps A F d cs (k+1) v7 w7:=by
 subst J;have U:=hD.out.size;have o:∀ {j:Nat} {cs:Array ZV} {T:ZS},w6.heap[j]?=ZZ (Z5 cs T (0,0))->5≠T->w7.heap[j]?=w6.heap[j]?:=by
  intro j cs T a m;exact b.block j (XK.1 a).1 (λe=>dz t a m e.symm)
 have hx:w.heap.size<=wr.heap.size:=i.out.size;have hv:wr.drew.heap.size=wr.heap.size:=rfl;have hy:w.heap.size<=w6.heap.size:=XG i.out.size U;have z:∀ j,j<w.heap.size->w7.heap[j]?=w6.heap[j]?:=λj a=>b.block j (by omega) (λe=>by have:=gJ t e.symm;omega);have K:aa (λj=>F.has p A.n j\/j=v\/ps.bl j) w w6:=(i.out.trans (aa.drew _)).later hD.out λj a h=>by
  rcases h with h|h|h|h|h
  . omega
  . omega
  . exact .inr (.inl h)
  . exact .inl h
  . rcases hK.2.2.2.2.2.2 j h with q|q
    . exact .inr (.inr q)
    . omega
 have I:(k+1)*sz=k*sz+sz:=Nat.succ_mul k sz;have x:aw w6 q 123 cs:=i.box.keep (hD.out.block _ i.box.lt (λh=>by
  rcases h with h|h|h|h|h
  . exact Q h
  . exact R h
  . omega
  . have l:=E _ h;omega
  . exact eN hK.2.2.1 i.box Iz h))
 obtain ⟨gone,sp,C⟩:=hD.rd;obtain ⟨c,k1,k2,k3,k4,H,V,W,X⟩:=hD.kit;have s:=hD.arr;rw [qT (A:=A.rd rs) (B:=A) rfl,O] at H s;refine ⟨?_,⟨y,gone,sp,C.keep (o C (by decide))⟩,?_,⟨c,⟨k1,k2.trans hK.2.1,c.keep _ _ k3 (λj a=>b.block j (c.lt _ k3 j a) (λe=>by obtain ⟨cur,M⟩:=iS t e.symm;exact eN k3 M z7 a)),by rw [<- hK.2.1];exact k4.keep (o k4 (by decide)),V,W,λj a=>?_⟩,H⟩,?_,?_,x.keep (o x (by decide))⟩
 . rw [I,List.take_add,cd,show min (k*sz+sz) n=k*sz+((d.drop (k*sz)).take sz).length by rw [XU,XZ];omega];exact P
 . obtain ⟨f,cs,l,m⟩:=hD.row;exact ⟨f,cs,(o l (by decide)).trans l,m⟩
 . rcases X j a with q|q
   . exact hK.2.2.2.2.2.2 j q
   . exact .inr (by omega)
 . rw [<- S] at s;exact s.keep λj a=>z j (E j a)
 . exact K.later (T:=λj=>w.heap.size<=j) ⟨b.os,b.tape,b.output,b.size,λj _ hp=>z j (by omega)⟩ (λj l m=>by omega)
def NQ (w:ZW) (ar v p:Nat) (Kind:cA->Prop) (ok:Nat->Prop) (pl:Nat->Nat) (ps:cA) (D L G t:Nat) (pg ob:ZV) (P:List Nat) (xs:aS) (A:ay) (F:bh) (d:List Nat) (e:ZT) (w':ZW):Prop:=
 ∃ u ps',e=Z4 (Z1 #[u,.nilIface])/\w'.ownsRow w.heap.size 5 1 u d.length (aH d)/\aW w' ar v p ps' D L G t pg ob P xs (A.rd (me A pl (D*44) d.length ps.ho (fL D d.length)).1) F/\vP D L G Kind ok pl ps' A/\ps'.ho=(me A pl (D*44) d.length ps.ho (fL D d.length)).2/\ps'.ps=ps.ps/\(∀ k,ps'.bl k->ps.bl k\/w.heap.size<=k)/\aa (λj=>F.has p A.n j\/j=v\/ps.bl j) w w'
theorem NR {Kind:cA->Prop} {ps:cA} (h:aW w ar v p ps D L G t pg ob P xs A F) (hv:vP D L G Kind ok pl ps A) (x:ByteArray) (hx:bu x=ZY) (o:Nat) (x5:o<xs.length) (hm:xs[o].1.name=x) :
 ZU ZQ 48 #[Z7 (ZZ ⟨ar,0,Z0⟩),Z2 x] w (NQ w ar v p Kind ok pl ps D L G t pg ob P xs A F xs[o].2):=by
 obtain ⟨_,_,_,_,c8⟩:=h.TR.cells;have q6:=h.find x;have xk:xs.names.length=xs.length:=by rw [<- eF,bS];simp [aS.os]
 have qm:xs.names[o]'(by omega)=x:=by simp [aS.names,hm,bg,aS.os]
 have q2:x∈xs.names:=by rw [<- qm];exact XL _
 have xa:aD xs.names x=o:=im h.TM.up (by omega) qm;rw [xa,h.there q2] at q6;have ke:=h.TM.fits _ (XL x5);have hk:=h.TM.held _ (XL x5);obtain ⟨oo,oc,rfl,hol,_⟩:=id h.cat;have qn:xs.os.length=xs.length:=by simp [aS.os]
 have kh:∀ hh:o<xs.os.length,xs.os[o]=xs[o].1:=λhh=>by simp [aS.os]
 obtain ⟨X,hX⟩:=nM (xs[o]);rw [hX] at ke hk hm kh ⊢;obtain ⟨nn,x7⟩:=nM (xs.os.length);have qy:X∈xs:=by rw [<- hX];exact XL _
 have s:=hide6 h ke hk kh x7 qy;have U:=hide hv;have qi:o<nn:=by omega
 have xe:(o:Int)<(nn:Int):=by omega
 rw [x7] at q6 c8;clear h hv xk qm q2 xa ke hk kh qn hol hX qy;go_enter func48,ntmps48;go_wp2_with fail;refine q6.mono ?_;rintro e w1 ⟨rfl,hb⟩;have H:=hide hb;clear hb q6 c8;go_wp2_with fail;refine (dB x w1).mono ?_;rintro e w2 ⟨rfl,rfl⟩;rw [hx];dsimp only;have f:=s.out.1.below H.out;obtain ⟨d0,_,_,_,d8⟩:=f.TR.cells;rw [s.out.2.2.2.2.1] at d8;obtain ⟨ob0,off,sv,rfl,xm,xn,r1,r2,r3,r4⟩:=f.cat.at' (k:=o) (by rw [s.out.2.2.2.2.1];exact qi);rw [s.out.2.2.2.1 _] at r1 r2 r4;rw [hm] at r1;obtain ⟨n,hn⟩:=nM (X.1.size);rw [hn] at r2;obtain ⟨sa,T,rfl,xd,_⟩:=id r4;obtain ⟨S,hS⟩:=nM (X.1.TE);rw [hS] at r3 r4 xd;have K:=hide4 f r4 hn hS;clear f r4 hn hS;have qg:bW w2 (w2.alloc (Z5 #[Z2 x,Z8 Z9 (n:Nat),.slice sa S.length T] 123)):=bA w2 _;have q4:aw (w2.alloc (Z5 #[Z2 x,Z8 Z9 (n:Nat),.slice sa S.length T] 123)) w2.heap.size 123 [Z2 x,Z8 Z9 (n:Nat),.slice sa S.length T]:=heap_alloc_last w2 _;have qq:(w2.alloc (Z5 #[Z2 x,Z8 Z9 (n:Nat),.slice sa S.length T] 123)).heap.size=w2.heap.size+1:=by simp
 have xi:n<=1500:=by rw [<- K.out.2.2.1];exact s.out.2.1.fit.size
 obtain ⟨w3,xq⟩:=nM (w2.alloc (Z5 #[Z2 x,Z8 Z9 (n:Nat),.slice sa S.length T] 123));rw [xq] at qg q4 qq;have y1:=q4.cell (j:=1) (u:=Z8 Z9 (n:Nat)) rfl;obtain ⟨ib,x4,kz,q0,q1⟩:=info_parts Tryz.Ul;have H3:=hide3 qg q4 qq;clear qg q4 qq;go_wp2_with (at_make;refine wpList_make_own w3 rfl (.const (Z8 Z9 0)) (.tmp 41) 34 rfl w2.heap.size 5 ib (Z8 .u8 0) 1 underlying34 x4 kz q0 .i64 .i64 _ n (by rfl) (by rfl) rfl (by rw [q1];omega) (by unfold maxLen;omega) (by exact H3.out.1.size) ?_;intro w4 x8 qh;have qf:bW w2 w4:=H3.out.1.grown qh H3.out.1.size (λk e=>by cases e);have e0:=(qf.cell (p:=⟨ar,0,Z0⟩) K.out.1.TR.lt).trans d0;have H4:=hide3 x8 qh qf;clear x8 qh qf);have Y:=K.out.1.below H4.out.2.2;have R:=Ih Y.vol.vol Y.par.d Y.par.l4 Y.par.g Y.TM.n;have q8:=hide Y;clear Y d8 r1 r2 r3 y1;refine R.mono ?_;rintro e w5 ⟨rfl,qc,hs,kr⟩;have q7:=q8.out.below kr;have qb:aw w4 w2.heap.size 123 _:=H3.out.2.1.keep (H4.out.2.1.block _ H3.out.2.1.lt (by simp));have hf:aw w5 w2.heap.size 123 _:=qb.keep (kr.block _ qb.lt);have x2:=hf.cell (j:=2) (u:=.slice sa S.length T) rfl;have kp:bW w2 w5:=H4.out.2.2.trans (kr.mono H4.out.2.2.size);obtain ⟨d,E⟩:=nM (X.2);obtain ⟨a,B⟩:=nM (D*44);have Q:d.length=n:=by rw [<- E,s.out.2.1.len,K.out.2.2.1]
 have O:S.length=fL D n:=by rw [<- K.out.2.2.2,s.out.2.1.st,K.out.2.2.1];rfl
 obtain ⟨r,hr⟩:=nM (w4.heap.size+2);obtain ⟨g,hg⟩:=nM (w4.heap.size+1);have y4:=H4.out.2.2.size;rw [hr,hg] at qc;rw [hg] at hs;have xb:NO w2 w2.heap.size v p r g A.n a n D L G Kind pl ps A F d [Z2 x,Z8 Z9 (n:Nat),.slice sa S.length T] 0 (Z6 (ZZ ⟨w3.heap.size,0,Z0⟩) 0 n) w5:=
  ⟨by rw [Nat.zero_mul,Nat.zero_min];exact aB H4.out.1 kr,⟨_,_,_,qc⟩,⟨_,hs⟩,⟨ps,⟨U.out.kind,rfl,q7.kit,q7.vol.vol,U.out.ho,U.out.hol,λ_ q=>.inl q⟩,rfl⟩,q7.vol.arr,aa.TG kp _,hf⟩
 have H5:=hide5 xb E B Q O;have xo:r≠g:=by omega
 have xy:w2.heap.size<g:=by omega
 have y3:w2.heap.size<r:=by omega
 rw [hr];clear xb E B Q O qc hs hf qb q7 kp R kr hr hg;have xp:44<=a/\a<=528:=by rw [<- H5.out.2.2.1];have:=q8.out.par.d1;have:=q8.out.par.d;omega
 go_wp2_with fail;go_loopw [9,51] (λu i wr=>Sl w2 w2.heap.size v p r g A.n a n D L G Kind pl ps A F d [Z2 x,Z8 Z9 (n:Nat),.slice sa S.length T] S.length u i wr) (λ_ i _=>S.length-(intOf i).toNat)
 case atStart=>exact ⟨0,XO _,rfl,H5.out.1⟩
 case round=>
  clear x2 e0;obtain ⟨k,xz,rfl,hI⟩:=hrel;by_cases kk:k<S.length
  . obtain ⟨m,⟨b0,gone,sp,R⟩,⟨f0,hp⟩,⟨l,c,kj⟩,V,M,kv⟩:=id hI;obtain ⟨rs,km⟩:=nM ((me A pl a n ps.ho k).1);rw [km] at V;obtain ⟨_,E,B,Q,O⟩:=H5.out;obtain ⟨f,qx,xj,q5⟩:=K.out;have hr:=f.par;have qj:k*a<=n:=(by rw [<- B];exact Co hr.d1 (by omega));have N:∀ j,F.has p A.n j->j<w2.heap.size:=λj J=>f.vol.arr.TH J;rw [Nat.min_eq_left qj] at m;obtain ⟨pa,pc,rfl⟩:=fu m;obtain ⟨b,I⟩:=nM (k*a);have qp:=f.Vg;have qv:eR (λk=>ar<k/\¬ F.has p A.n k/\¬ ps.bl k) w2 wr:=⟨M.size,λj J hK=>M.block j J (λq=>by rcases q with q|q|q;exact hK.2.1 q;omega;exact hK.2.2 q)⟩;obtain ⟨sb,so,y5,e1,qz⟩:=sn (qx.keep qv) (λe=>by rw [e] at kk;simp at kk);simp only [Value.slice.injEq] at e1;obtain ⟨rfl,_,rfl⟩:=e1;have g1:=qz k kk;obtain ⟨y,hy⟩:=nM (S[k]);rw [hy] at g1;have xv:y<A.nb:=by
     refine (f.TM.VH y (Yd _ ?_)).2;unfold ah;refine List.mem_flatMap.2 ⟨X.1,List.mem_map_of_mem s.out.2.2.2.2.2,?_⟩;rw [q5,<- hy];exact XL kk
    have Z:=f.Wj M rs V c;have qd:nF wr.drew v p D L G l.ps l.ho (A.rd rs) F:=Z.vol.below ((Below.refl _ wr).drew) lR;obtain ⟨ca,_⟩:=Z.TR.cells;have cz:=kv.cell (j:=1) (u:=Z8 Z9 (n:Nat)) rfl;have qo:=dw qd.vol (by have:=hr.d;omega);rw [B] at qo;obtain ⟨C,x6⟩:=nM (min (n-b) a);have xh:∀ qr ty w,(Builtin.min_ qr ty #[Z8 Z9 ((n:Int)-(b:Int)),Z8 Z9 (a:Nat)]).run ZQ w=.ok (Z8 Z9 (C:Nat)) w:=λqr ty w=>by
     rw [jb];by_cases h1:((a:Nat):Int)<(n:Int)-(b:Int)
     . rw [if_pos h1,show C=a by omega]
     . rw [if_neg h1,show (C:Int)=(n:Int)-(b:Int) by omega]
    have x0:gO D d k=(d.drop b).take a:=(by unfold gO;rw [B,I]);have W:((d.drop b).take a).length=C:=(by rw [XU,XZ];omega);have kc:∀ z∈(d.drop b).take a,z<256:=λz hz=>s.out.2.1.byt z (by rw [E];exact List.mem_of_mem_drop (Yt hz));have ko:=f.TM.n;have qk:(C+43)/44<=D:=(by omega);have xc:=hr.d;have hq:∀ i,i<A.n->(aX.shard ((aK D L G ((d.drop b).take a)).getD i [])).ok/\A.blk i y=(aX.shard ((aK D L G ((d.drop b).take a)).getD i [])).blk:=λi hi=>by
     constructor
     . have x3:i<(aK D L G ((d.drop b).take a)).length:=(by rw [gz];omega);have e:(aK D L G ((d.drop b).take a)).getD i []=(aK D L G ((d.drop b).take a))[i]:=(by simp [x3]);rw [e];exact jl hr.d hr.g _ i x3
     . have hh:=s.out.2.2.1 k (by rw [q5];exact kk) i hi;rw [q5,E,fK kk,hy,x0] at hh;exact hh
    have xx:=M.size;have ki:=Lc (D:=D) kc;have q3:Cw wr.drew r v y g A.n p D L G Kind ok l (A.rd rs) F (dq D ((d.drop b).take a)):=
     { vol:=qd,free:=f.free,fit:=Z.fit,n:=ko,nN:=ko,blt:=xv,wait:=by have:=f.TM.wait;show A.wait≠0;omega,par:=hr,ho:=c.2.2.2.2.1,hol:=c.2.2.2.2.2.1,bad:=λi _=>f.TM.bad i y,len:=ki.1,byt:=ki.2,recs:=hq,kit:=l.keep _ _ c.2.2.1 (λ_ _=>rfl),kind:=c.1,apt:=λj J=>⟨(Z.apt j J).1,(Z.apt j J).2.2.1,(Z.apt j J).2.2.2⟩,dec:=U.out.dec,vr:=λe=>by have:=f.vol.vol.lt;omega,vg:=λe=>by have:=f.vol.vol.lt;omega,rg:=xo,gF:=λe=>by have:=N _ e;omega,rF:=λe=>by have:=N _ e;omega,rK:=by have:=f.vol.room;omega,vK:=f.Vg.1,gK:=by have:=f.vol.room;omega }
    have kx:=L0 q3 U.out.sh (R.keep rfl) (hp.of_block rfl) C ((C+43)/44) rfl qk;rw [show dF (aO D L G) (dq D ((d.drop b).take a)) 44=aK D L G ((d.drop b).take a) from rfl] at kx;rw [Hr rfl qk (by rw [W];omega) kc (by rw [W];exact XJ _),X6 (by rw [W];exact XJ _)] at kx;rw [show (C+43)/44=FG a n k by rw [<- x6,<- I];rfl] at kx;have HR:=hide13 hI R hp m kx qo N W I c (And.intro kj km) ko f.vol.vol.lt;rw [I] at qj m ⊢;have xg:C<=528:=(by omega);have y0:IntKind.i64.wrap ((k:Int)+1)=(k:Int)+1:=(by rw [IntKind.wrap_i64];omega);have y2:IntKind.i64.wrap ((n:Int)-(b:Int))=(n:Int)-(b:Int):=(by rw [IntKind.wrap_i64];omega);clear hI c kj km Z hq q3 ki xx qp R hp m kx qo N W I x0 kc qd qv qz hy M kv V E B Q O f qx xj q5 hr x6 qk ko;go_wp2;go_region_with (first
     | (go_at_call 77;refine HR.out.2.2.2.2.2.1.mono ?_;rintro e wq ⟨rfl,rfl⟩)
     | (go_at_call 76;refine HR.out.2.2.2.2.1.mono ?_;rintro e w6 ⟨u2,rfl,qs⟩;have H6:=hide qs;clear qs))
    all_goals (
     have k9:w6.ownsRow w2.heap.size 5 1 (.slice pa b pc) b (aH (d.take b)):=by
      obtain ⟨_,R,hp,m,_,_,N,_,I,c,_⟩:=HR.out;rw [I] at m;exact NP (A:=A) (aB m ((Below.refl _ wr).drew)) (R.keep rfl) (hp.of_block rfl) (by rw [c.2.1];exact c.2.2.2.1) (l.keep _ _ c.2.2.1 (λ_ _=>rfl)) H6.out.out N
     have kb:Src ZQ 1 34 u2 C (aH ((d.drop b).take a)) w6:=by
      have:=Iy H6.out.bytes;rwa [HR.out.2.2.2.2.2.2.2.1] at this
     have HO:=hide3 k9 kb (XG HR.out.1.out.size H6.out.out.size);clear k9 kb;go_wp2_with (at_builtin;refine af _ rfl (.tmp 75) (.tmp 76) 34 34 rfl w2.heap.size 5 ib (Z8 .u8 0) 1 1 underlying34 x4 kz q0 q1 rfl (.slice pa b pc) b (aH (d.take b)) (by rfl) (by exact HO.out.1) _ (by rfl) C (aH ((d.drop b).take a)) (by exact HO.out.2.1) (by unfold maxLen;omega) (by omega) (by exact HO.out.2.2) ?_;intro v7 w7 x9 x1 qe;have H7:=hide2 x9 x1;clear x9 x1 qe);go_roundw
     case rel=>
      obtain ⟨hI,_,_,_,_,_,N,W,I,c,km,ko,qp⟩:=HR.out;subst I;refine ⟨k+1,by omega,by go_num,L1 hI c rfl km.1 km.2 H6.out ?_ H7.out.2 HO.out.1 N qp qj H5.out.2.2.2.1 lR (by omega) (by omega) (by omega) (by omega)⟩;rw [W];exact H7.out.1
     case measure=>simp only [intOf];omega)
  . have xf:k=S.length:=(by omega);subst xf;obtain ⟨m,_,_,⟨l,c,kj⟩,V,M,_⟩:=hI;obtain ⟨_,E,B,Q,O⟩:=H5.out;have ky:n<=S.length*a:=(by rw [O,<- B];exact NG K.out.1.par.d1);rw [Nat.min_eq_right ky,X6 (by omega)] at m;have qa:aa (λj=>F.has p A.n j\/j=v\/ps.bl j) w wr:=(aa.TG H.out _).trans M;have q9:NF w v p D L G Kind ps A l wr:=⟨c.1,c.2.1,c.2.2.1,c.2.2.2.1,c.2.2.2.2.1,c.2.2.2.2.2.1,λj J=>(c.2.2.2.2.2.2 j J).imp id λq=>XG H.out.size q⟩;rw [O,<- B,<- Q] at kj V;have HF:=hide6 (And.intro (cW m H.out.size) qa) (s.out.1.Wj qa _ V q9) E Q q9 kj;clear m V M E B Q O ky qa c q9 kj;go_wp2;go_ret2;obtain ⟨⟨h1,h2⟩,h3,h4,h5,h6,h7⟩:=HF.out;refine ⟨_,l,rfl,?_,?_,⟨U.out.sh,h6.1,h6.2.2.2.2.1,h6.2.2.2.2.2.1,U.out.dec⟩,?_,h6.2.1,h6.2.2.2.2.2.2,h2⟩
    . rw [h4,h5];exact h1
    . rw [h4];exact h3
    . rw [h4];exact h7
def vQ (xs:aS):List (ByteArray×Nat):=xs.map λo=>(o.1.name,o.2.length)
def IT (A:ay) (pl:Nat->Nat) (D ho:Nat) (sh:List (ByteArray×Nat)) (x:ByteArray):(Nat->Int)×Nat:=match sh.find? (λo=>decide (o.1=x)) with
 | some o=>me A pl (D*44) o.2 ho (fL D o.2)
 | none=>(A.reads,ho)
def L2 (h:x∉xs.names):IT A pl D ho (vQ xs) x=(A.reads,ho):=by
 have e:(vQ xs).find? (λo=>decide (o.1=x))=Z0:=List.find?_eq_none.2 λo ho q=>h (by
  obtain ⟨y,a,rfl⟩:=XI.1 ho;have b:y.1.name=x:=of_decide_eq_true q;rw [<- b];exact XI.2 ⟨y.1,XI.2 ⟨y,a,rfl⟩,rfl⟩)
 unfold IT;rw [e]
theorem P6 (h:Up xs.names) {k0:Nat} (d:k0<xs.length):IT A pl D ho (vQ xs) xs[k0].1.name=me A pl (D*44) xs[k0].2.length ho (fL D xs[k0].2.length):=by
 have i:xs.names.length=xs.length:=by rw [<- eF,bS];simp [aS.os]
 have e:(vQ xs).find? (λo=>decide (o.1=xs[k0].1.name))=ZZ (xs[k0].1.name,xs[k0].2.length):=by
  rw [List.find?_eq_some_iff_getElem];refine ⟨decide_eq_true rfl,k0,by simpa [vQ] using d,by simp [vQ],λj g=>?_⟩;have a:=List.pairwise_iff_getElem.1 h j k0 (by omega) (by omega) g;have f:xs[j].1.name≠xs[k0].1.name:=λq=>by
   have b:xs.names[j]'(by omega)=xs[j].1.name:=(by simp [aS.names,bg,aS.os]);have c:xs.names[k0]'(by omega)=xs[k0].1.name:=(by simp [aS.names,bg,aS.os]);rw [b,c,q,kU] at a;cases a
  simp [vQ,f]
 unfold IT;rw [e]
def xY (b:A.lost=B.lost) (c:A.n=B.n) (d:A.reads=B.reads) (pl:Nat->Nat) (a n ho:Nat):∀ k,me A pl a n ho k=me B pl a n ho k
 | 0=>by unfold me;rw [d]
 | k+1=>by
  unfold me;rw [xY b c d pl a n ho k,c,qT b];rfl
theorem L3 (b:A.lost=B.lost) (c:A.n=B.n) (a:A.reads=B.reads) (pl:Nat->Nat) (D ho:Nat) (sh:List (ByteArray×Nat)) (x:ByteArray):IT A pl D ho sh x=IT B pl D ho sh x:=by
 unfold IT;split
 . exact xY b c a _ _ _ _ _
 . rw [a]
def vP.rd {Kind:cA->Prop} {ps:cA} (h:vP D L G Kind ok pl ps A) (b:B.n=A.n) (a:B.lost=A.lost):vP D L G Kind ok pl ps B:=by
 refine ⟨h.sh,h.kind,?_,h.hol,?_⟩
 . rw [b,a];exact h.ho
 . rw [b,a];exact h.dec
theorem NS {Kind:cA->Prop} {ps:cA} (h:aW w ar v p ps D L G t pg ob P xs A F) (l:vP D L G Kind ok pl ps A) (x:ByteArray) :
 P0 w ar v p (λrs a=>vP D L G Kind ok pl a (A.rd rs)/\(rs,a.ho)=IT A pl D ps.ho (vQ xs) x) ps D L G t pg ob P xs A F x:=by
 unfold P0;by_cases g:x∈xs.names
 . obtain ⟨f,d,i⟩:∃ f,∃ d:f<xs.length,xs[f].1.name=x:=by
    obtain ⟨k,z,e⟩:=Yl g;have j:xs.names.length=xs.length:=(by rw [<- eF,bS];simp [aS.os]);refine ⟨k,by omega,?_⟩;simpa [aS.names,bg,aS.os] using e
   have c:bu x=ZY:=by
    have:=(h.TM.fits _ (XL d)).fit.name;rw [i] at this;unfold bu;exact decide_eq_true this
   refine (NR h l x c f d i).mono ?_;rintro e w' ⟨u,a,rfl,ho,j,s,o,r,n,y⟩;refine ⟨u,_,_,a,rfl,⟨j,⟨s.rd rfl rfl,?_⟩,r,n⟩,y,.inr (.inr ⟨rfl,c,f,d,i,ho⟩)⟩;rw [<- i,P6 h.TM.up d,o]
 . have m:∀ w':ZW,bW w w'->NH w ar v p (λrs a=>vP D L G Kind ok pl a (A.rd rs)/\(rs,a.ho)=IT A pl D ps.ho (vQ xs) x) ps D L G t pg ob P xs A F A.reads ps w':=λw' b=>⟨h.below b,⟨l,(L2 g).symm⟩,rfl,λ_ q=>.inl q⟩;cases c:bu x with
   | false=>
    refine (LP h x c).mono ?_;rintro e w' ⟨rfl,b⟩;exact ⟨_,_,_,ps,rfl,m w' b,aa.TG b _,.inl ⟨rfl,rfl,c⟩⟩
   | true=>
    refine (Cu h x c g).mono ?_;rintro e w' ⟨rfl,b⟩;exact ⟨_,_,_,ps,rfl,m w' b,aa.TG b _,.inr (.inl ⟨rfl,rfl,c,g⟩)⟩
section
def NT (n:Int) (t:Nat) (xs:aS) (x:ByteArray) (t':Nat) (xs':aS):Prop:=
 (n=6/\t'=t/\xs'=xs/\¬ cw x)\/(n=9/\t'=t/\xs'=xs/\cw x/\x∉xs.names)\/(n=0/\t'=t+1/\cw x/\x∈xs.names/\xs'=xs.del (aD xs.names x))
def P7 (xs:aS) (A:ay) (ho:Nat) (x:ByteArray) (xs':aS) (A':ay) (ho':Nat):Prop:=ho'=ho/\A'.lost=A.lost/\A'.reads=A.reads/\∃ n t t',NT n t xs x t' xs'
def NU {r:ZV} (h:EF t xs A x r t' xs' B w):∃ n,Ru r n/\NT n t xs x t' xs':=by
 have f:=nY x;rcases h.2 with ⟨a,b,d,c⟩|⟨a,b,d,c,e⟩|⟨a,b,c,e⟩
 . exact ⟨6,.inl a,.inl ⟨rfl,b,d,λq=>by rw [f,c] at q;cases q⟩⟩
 . exact ⟨9,.inl a,.inr (.inl ⟨rfl,b,d,f.2 c,e⟩)⟩
 . exact ⟨0,.inr ⟨a,rfl⟩,.inr (.inr ⟨rfl,b,f.2 c,e⟩)⟩
theorem P8 {n0:Nat} {n:Int} (g:oU w q rb rv Q) (h:Q8 w q Q x e w') (p:NT n t xs x t' xs') (hr:jL wx Q xs) (i:Up xs.names) (r:n0<=q) (v:n0<=w.heap.size) :
 e=Z4 (Z8 Z9 n)/\Below n0 w w'/\n≠10/\∃ f,(∃ rb rv,oU w' q rb rv f)/\∀ d,jL d Q xs->jL d f xs':=by
 have o:=nZ hr x;rcases p with ⟨rfl,_,rfl,a⟩|⟨rfl,_,rfl,a,c⟩|⟨rfl,_,a,c,rfl⟩
 . rcases h with ⟨_,b,rfl⟩|⟨q,_⟩|⟨q,_⟩
   . exact ⟨b,Below.refl _ _,by decide,Q,⟨_,_,g⟩,λ_ z=>z⟩
   . exact absurd q a
   . exact absurd q a
 . rcases h with ⟨q,_⟩|⟨_,_,b,rfl⟩|⟨_,k,q,_⟩
   . exact absurd a q
   . exact ⟨b,Below.refl _ _,by decide,Q,⟨_,_,g⟩,λ_ z=>z⟩
   . exact absurd (lf hr i q).2.2 c
 . rcases h with ⟨q,_⟩|⟨_,q,_⟩|⟨_,k,q,b,⟨u,m⟩,l⟩
   . exact absurd a q
   . exact absurd c (o.1 q)
   . refine ⟨b,l.below λj s=>⟨by omega,by omega⟩,by decide,_,⟨_,u,m⟩,λd z=>?_⟩;rw [(lf hr i q).1];exact (z.take k).app (z.drop (k+1))
section
variable {w0:uR} {w:ZW} {wb D L G nb t:Nat} {xs:aS} {Q:List (ByteArray×ZV)} {p r sa ar v:Nat} {sv:cA->ay->Prop} {ps:cA} {pg ob:ZV} {P:List Nat} {A:ay} {F:bh} {out want:ZV} {cache:Int}
theorem L4 (h:MB w0 w wb D L G nb t xs p r sa ar v sv ps pg ob P A F out want cache) (hc:Dc w0.z w r Q xs out want) (o:pJ) (dv:ZV) (km:∃ x m y,dv=.slice x m y) (ks:t+1<=1000000) (Z:o.kind=3) :
 ZU ZQ 11 #[Z7 (ZZ ⟨wb,0,Z0⟩),.agg #[Z8 Z9 o.kind,Z8 Z9 o.a,Z2 o.s,dv]] w λe w'=>e=Z4 (Z3 ZY)/\MS sv (P7 xs A ps.ho o.s) w0 w' wb D L G nb (t+1):=by
 obtain ⟨x,m,y,rfl⟩:=km;obtain ⟨w1,k7⟩:=nM (w.alloc (Z5 #[Z8 Z9 o.kind,Z8 Z9 o.a,Z2 o.s,.slice x m y] 40));have d:=Rj h hc o _ k7;have M:bW w1 w1.drew:=(Below.refl _ w1).drew;have hz:=d.b.below M;have hp:=NC hz.box hz.live o.s ks;obtain ⟨x0,x1,x2,x3⟩:=d.op.cells;have s1:=d.b.T7.cells.2.2.2.2.1;obtain ⟨q0,I⟩:=nM (w.heap.size);have HS:=hide2 d I;clear d h hc M hz;rw [Z] at x0 k7 ⊢;rw [I] at x0 x1 x2 x3;have HK:=hide Z;clear Z;go_enter func11,ntmps11;go_upto_region 13 with fail;clear I k7 x0 x1 x3;go_cut [11] from 21 to 233 (λv11 wx=>eQ w1.drew ar v p ps D L G A F (EF t xs A o.s) (Z4 v11) wx)
 case first=>
  go_region_with (go_at_call 21;refine hp.mono ?_;rintro e w2 k5;obtain ⟨rr,_,_,_,_,_,_,rfl,_⟩:=id k5;have i:=hide k5;clear k5);all_goals (go_wp2_with fail;go_meet;case rel=>exact i.out)
 case rest=>
  obtain ⟨rr,t',hd,hb,P',xs',B,he,_,kg,kh,Y,k8,k0⟩:=hcut;cases he;obtain ⟨n,hN,hr⟩:=NU k0;obtain ⟨d,I⟩:=HS.out;have M:bW w1 w1.drew:=(Below.refl _ w1).drew;have W:aa (λj=>j=ar\/F.has p A.n j) w1 wc:=(aa.TG M _).trans k8;obtain ⟨C,kf⟩:=d.b.call W kg kh Y;have H:=d.c.keep kf lR;have T:=d.b.live.TM.up;have K:Q.length<=1000000:=by
   rw [H.rel.len];have:=d.b.live.T9.1;have e:xs.os.length=xs.length:=(by simp [aS.os]);omega
  have E:iu wc q0 o (.slice x m y):=by
   rw [<- I];exact aw.keep d.op (W.block _ d.lt (λe=>by
    rcases e with e|e
    . have:=d.ar;omega
    . have:=d.f _ e;omega))
  have kj:=uS hN C.gl;have i:=hide8 C H E hr T K Y.2 k0.1;clear d I M W C kf H E hN hr T K kg kh Y k8 k0 hp x2 s1;go_wp2_with fail;refine kj.mono ?_;rintro e w3 ⟨rfl,O⟩;clear kj;obtain ⟨C,H,E,hr,T,K,_⟩:=i.out;have l:=C.below O;have g:=H.keep (ir.below O _) lR;have k:iu w3 q0 o (.slice x m y):=aw.keep E (O.block _ (aw.lt E));obtain ⟨kv,kx,ki⟩:=g.ref;have kc:=xM ki K g.rel.sl;have r3:=l.T7.cells.2.2.2.2.2.1;have H3:=hide3 l g k;clear C H E hr T K l g k ki O;go_wp2_with fail;refine kc.mono ?_;rintro e w4 ⟨rfl,⟨u4,u⟩,q⟩;clear kc r3;obtain ⟨l,g,k⟩:=H3.out;have k6:=BX u i.out.2.2.2.2.2.1 g.rel.sl o.s;have k9:iu w4 q0 o (.slice x m y):=aw.keep k (q.block _ (aw.lt k));have y4:=k9.cells.2.2.1;obtain ⟨N,J⟩:=nM (w3.heap.size);rw [J] at k6 u ⊢;have H4:=hide3 u q J;clear l g k k9 u q J;go_wp2_with fail;refine k6.mono ?_;rintro e U ke;clear k6 y4;obtain ⟨u,q,J⟩:=H4.out;obtain ⟨l,g,k⟩:=H3.out;obtain ⟨ko,kb,kr,Q',ka,h4⟩:=P8 u ke i.out.2.2.2.1 g.rel i.out.2.2.2.2.1 (Nat.le_of_eq J) q.size;subst ko;have X:bW w3 U:=q.trans kb;have V:=l.below X;have R:=g.keep (ir.below X _) lR;have hs:=V.T7;have r5:=hs.cells.2.2.2.2.2.1;have f5:=aw.TX hs 5;have hq:MS sv (P7 xs A ps.ho o.s) w0 (U.setCell ⟨wb,5,Z0⟩ (Z7 (ZZ ⟨N,0,Z0⟩))) wb D L G nb (t+1):=by
   have hW:nX (U.setCell ⟨wb,5,Z0⟩ (Z7 (ZZ ⟨N,0,Z0⟩))) wb D L G (Z7 (ZZ ⟨p,0,Z0⟩)) (Z7 (ZZ ⟨sa,0,Z0⟩)) (Z7 (ZZ ⟨N,0,Z0⟩)) nb out want cache:=aw.set hs 5 [Z7 (ZZ ⟨N,0,Z0⟩)] (by simp [Rf]);obtain ⟨h6,kp⟩:=V.write (aa.setCell (S:=λj=>j=wb) _ ⟨wb,5,Z0⟩ _ rfl) hW;have kk:Dc w0.z U N Q' xs' out want:=⟨R.op,ka,h4 _ R.rel,R.ow⟩;have ht:t'<=t+1:=by rcases i.out.2.2.2.1 with ⟨_,e,_⟩|⟨_,e,_⟩|⟨_,e,_⟩<;>omega
   exact ⟨_,_,_,_,_,_,_,_,_,_,_,_,_,_,_,_,_,h6,kk.keep kp lR,ht,rfl,i.out.2.2.2.2.2.2.1,i.out.2.2.2.2.2.2.2,_,_,_,i.out.2.2.2.1⟩
  have HF:=hide hq;clear hq u q J l g k kb ka h4 X V R hs ke;go_wp2_with fail;refine (oI n _).mono ?_;rintro e w8 ⟨rfl,rfl⟩;go_wp2;go_ret;exact ⟨rfl,HF.out⟩
end
end
section
section
variable (D L G:Nat) (hr:bU D L G=ZY) (hD1:1<=D) (hD:D<=12) (hL:1<=L) (hL4:L<=4) (hG:G<=4) (hdiv:D%L=0) (h16:D+L+G<=16) {pl:Nat->Nat} (hok:∀ lost s C,D5 D L G lost s->tells (fw D L G) (ab (av (D+L+G) s))=ZZ C->nD (bG D L G s C)=pl lost)
include hr hD1 hD hL hL4 hG hdiv h16 hok
theorem II (I:lost<2^(D+L+G)) (H:∃ C,tells (fw D L G) (ab lost)=ZZ C) {w:ZW} {sb:Nat} {room:Int} {ps:cA} (hK:xQ sb room D L G pl ps) (B:ps.S w) (E:aJ w) (b:3<=w.heap.size):ZU ZQ 151 #[Z7 (ZZ ⟨ps.ps,0,Z0⟩),bP D L G lost ZY] w λe w'=>∃ (n:cA) (s:Nat) (C:Ck) (ao:Option Addr) (m c:Nat),jK D L G s ao m c e/\CD D L G (xQ sb room D L G pl) ps n lost s C ao m c w.heap.size w'/\nD (bG D L G s C)=pl lost/\aa ps.bl w w':=by
 obtain ⟨g,K,ho,rfl⟩:=hK;have v:gh w sb room D L G pl g K:=B;by_cases y:lost∈cV g
 . obtain ⟨q,a,j,x,r,F⟩:=LO v y;refine F.mono ?_;rintro e w' ⟨l,b,h⟩;have i:=(r q).2 j;exact ⟨Cg sb room D L G pl g a ho,q.s,q.C,q.ao,q.m,q.c,l,⟨⟨g,a,ho,rfl⟩,rfl,rfl,b,λk d=>.inl (Ct r d),λk d=>.inl (.inr (.inr ⟨q,j,d⟩)),b.own q i,x▸b.Va q i,b.told q i⟩,x▸b.ld q i,h.mono λk _ e=>Cf e⟩
 . refine (Ix D L G lost hr hD1 hD hL hL4 hG hdiv h16 I H v y (hok lost) E b).mono ?_;rintro e w' ⟨s,C,ao,m,c,f,a,l,b,h,t,z,u,A⟩;refine ⟨Cg sb room D L G pl f a ho,s,C,ao,m,c,l,⟨⟨f,a,ho,rfl⟩,rfl,rfl,z,λk d=>?_,λk d=>.inr (gJ t d),fZ t (XO _),b,h⟩,hok lost s C b h,A.mono λk _ e=>?_⟩
   . rcases d with q|q|⟨q,j,q1⟩
     . exact .inl (.inl q)
     . obtain ⟨p,J,o⟩:=XI.1 q;rcases u p J with q2|q2
       . exact .inl (.inr (.inl (XI.2 ⟨p,q2,o⟩)))
       . exact .inr (o▸q2.1)
     . rcases u q j with q2|q2
       . exact .inl (.inr (.inr ⟨q,q2,q1⟩))
       . exact .inr (q2.2 k q1)
   . rcases e with e|e
     . exact Cf e
     . exact .inl (by omega)
theorem EN:iw D L G (xQ sb room D L G pl) (λl=>l<2^(D+L+G)/\∃ C,tells (fw D L G) (ab l)=ZZ C) pl:=by
 refine ⟨λps x hK=>?_,λps hK w E M f hs l J=>?_⟩
 . obtain ⟨U,Z,ho,rfl⟩:=hK;exact ⟨U,Z,x,rfl⟩
 have a:=CI.new w D L G;have r:((w.alloc (Z5 #[Z8 Z9 (D:Int),Z8 Z9 (L:Int),Z8 Z9 (G:Int)] 25)).alloc (Z5 #[Z8 Z9 0,Z6 Z0 0 0] 210)).heap.size=w.heap.size+2:=by simp
 obtain ⟨w2,P⟩:=nM ((w.alloc (Z5 #[Z8 Z9 (D:Int),Z8 Z9 (L:Int),Z8 Z9 (G:Int)] 25)).alloc (Z5 #[Z8 Z9 0,Z6 Z0 0 0] 210));rw [P] at a r;obtain ⟨S,c1,T⟩:=ft a.par;have K:=II D L G hr hD1 hD hL hL4 hG hdiv h16 hok J.1 J.2 hK (ps.keep _ _ E λk b=>a.below.block k (ps.lt _ E k b)) (M.mono (by omega) a.below) (XG f a.below.size);unfold bP at K;have H:=hide4 a r K (ps.lt _ E);clear a r K E M J hok;go_enter func144,ntmps144;go_wp2_with fail;refine H.out.2.2.1.mono ?_;rintro e w3 ⟨d,s,C,ao,m,c,N,⟨t,f,u,h,i,j,y,A,B⟩,O,n⟩;have W:=hide O;clear O;unfold jK at N;subst N;obtain ⟨z,p⟩:∃ z:Int,1+((ab (av (D+L+G) s)).length:Int)=z:=⟨_,rfl⟩;rw [p];obtain ⟨a,r,_,F⟩:=H.out;have o:=(n.block (w.heap.size+1) (by omega) (λq=>by have:=F _ q;omega)).trans a.res;obtain ⟨r0,r1,g1,g0⟩:=aG o;have R:=hide12 t f u h i j y A B n o p;clear t f u h i j y A B n o S c1 T P p a;go_wp2;obtain ⟨t,f,u,h,i,j,y,A,B,n,o,p⟩:=R.out;obtain ⟨a,r,_,F⟩:=H.out;obtain ⟨n0,Y,_⟩:=aG (ll (y':=.slice ao m c) (lj (x':=Z8 Z9 z) o));have I:aa (λk=>k=w.heap.size+1) w3 ((w3.setCell ⟨w.heap.size+1,0,Z0⟩ (Z8 Z9 z)).setCell ⟨w.heap.size+1,1,Z0⟩ (.slice ao m c)):=ik w3 (w.heap.size+1) 0 1 _ _;have X:∀ k,d.bl k->k≠w.heap.size+1:=λk b=>by rcases i k b with q|q;have:=F k q;omega;omega
 refine bodyPost_ret (v:=Z1 #[.agg #[Z8 Z9 z,.slice ao m c],.nilIface]) (by simp [results,results144,go_sem,n0,Y]) rfl ?_;have g:=(n.mono λ_ _ q=>(.inl q:_\/_)).trans (I.mono λk _ q=>(.inr q:ps.bl k\/_));refine ⟨d,s,C,ao,m,c,by unfold jK;rw [p],⟨t,f,u,d.keep _ _ h λk b=>I.block k (d.lt _ h k b) (X k b),λk b=>?_,λk b=>?_,dA y I λk b q=>?_,A,B⟩,W.out,⟨g.os.trans a.below.os,g.tape.trans a.below.tape,g.output.trans a.below.output,XG a.below.size g.size,λk b V=>(g.block k (by have:=a.below.size;omega) (λq=>q.elim V (by omega))).trans (a.below.block k b)⟩⟩
 . rcases i k b with q|q
   . exact .inl q
   . exact .inr (by omega)
 . rcases j k b with q|q
   . exact .inl q
   . exact .inr (by omega)
 . rcases j k b with Q|Q
   . have:=F k Q;omega
   . omega
end
end
section
open Classical in
noncomputable def IS (D L G lost:Nat):Nat:=if h:∃ x:Nat×Ck,D5 D L G lost x.1/\tells (fw D L G) (ab (av (D+L+G) x.1))=ZZ x.2 then nD (bG D L G (Yu h).1 (Yu h).2) else 0
def P4 (lost s:Nat) (C:Ck) (a:D5 D L G lost s) (b:tells (fw D L G) (ab (av (D+L+G) s))=ZZ C):nD (bG D L G s C)=IS D L G lost:=by
 have h:∃ x:Nat×Ck,D5 D L G lost x.1/\tells (fw D L G) (ab (av (D+L+G) x.1))=ZZ x.2:=⟨(s,C),a,b⟩;unfold IS;rw [dif_pos h];obtain ⟨q1,q2⟩:=Classical.choose_spec h;have e:=a.same q1;rw [<- e] at q2 ⊢;rw [b] at q2;rw [<- Ye q2]
def P5 (h:jA w sb room) (D L G:Nat) (pl:Nat->Nat):gh w sb room D L G pl [] []:=by
 obtain ⟨d,⟨n,f⟩,g,_⟩:=h.parts;refine ⟨d,h.TV,⟨n,f⟩,⟨λ_=>⟨0,0,0,0,ZX,0,Z6 Z0 0 0⟩,λ_=>sb,λ_=>sb,λa c=>?_,⟨rfl,rfl⟩,λq b=>by cases b⟩,by simp [j7],by simp [cV],λe i=>(by cases i),λq b=>(by cases b),rfl,λq b=>(by cases b),λq b=>(by cases b),λq b=>(by cases b),λq b=>(by cases b),λq b=>(by cases b)⟩;rcases c with rfl|c
 . exact g
 . cases c
end
section
def xZ (xs:aS):(vQ xs).map (·.1)=xs.names:=by simp [vQ,aS.names,bg,aS.os]
def S0 (D:Nat) (sh:List (ByteArray×Nat)):Nat:=(sh.map λo=>fL D o.2).sum
def S3 (D:Nat) (sh:List (ByteArray×Nat)):Nat:=(sh.map λo=>19+4*fL D o.2).sum
def L7:∀ {xs:aS},(∀ x∈xs,iT D x)->(ah xs.os).length=S0 D (vQ xs)
 | [],_=>rfl
 | x::xs,h=>by
  have ih:=L7 (xs:=xs) λy b=>h y (by simp [b]);have a:=h x (by simp);have e:ah (aS.os (x::xs))=x.1.TE++ah (aS.os xs):=by simp [ah,aS.os]
  rw [e,XY,ih,a.st,<- a.len];rfl
def L8:∀ {xs:aS},(∀ x∈xs,iT D x)->(az xs.os).length=S3 D (vQ xs)
 | [],_=>rfl
 | x::xs,h=>by
  have ih:=L8 (xs:=xs) λy b=>h y (by simp [b]);have a:=h x (by simp);have e:az (aS.os (x::xs))=gN x.1++az (aS.os xs):=by simp [az,aS.os]
  rw [e,XY,ih,gd a.fit,a.st,<- a.len];rfl
open Classical in
noncomputable def Qa (D nb:Nat) (sh:List (ByteArray×Nat)) (x:ByteArray) (n:Nat):List (ByteArray×Nat):=
 if cw x/\n<=1500/\x∉sh.map (·.1)/\S0 D sh+fL D n+2*mV D (S3 D sh) n+2<=nb then sh.take (aD (sh.map (·.1)) x)++(x,n)::sh.drop (aD (sh.map (·.1)) x) else sh
open Classical in
noncomputable def Qb (sh:List (ByteArray×Nat)) (x:ByteArray):List (ByteArray×Nat):=
 if cw x/\x∈sh.map (·.1) then sh.take (aD (sh.map (·.1)) x)++sh.drop (aD (sh.map (·.1)) x+1) else sh
def NV {n:Int} (h:LU n D t xs A x d t' xs') (f:∀ x∈xs,iT D x):vQ xs'=Qa D A.nb (vQ xs) x d.length:=by
 unfold Qa;rw [xZ,<- L7 f,<- L8 f];rcases h with ⟨_,_,rfl,a⟩|⟨_,_,rfl,a,b⟩|⟨_,_,rfl,a,b,c⟩|⟨_,_,rfl,a,b,c,e⟩|⟨_,_,a,b,c,e,o,rfl,rfl⟩
 . rw [if_neg λq=>a q.1]
 . rw [if_neg λq=>by omega]
 . rw [if_neg λq=>q.2.2.1 c]
 . rw [if_neg λq=>by omega]
 . rw [if_pos ⟨a,b,c,e⟩];simp [vQ,aS.ins]
def NW {n:Int} (h:NT n t xs x t' xs'):vQ xs'=Qb (vQ xs) x:=by
 unfold Qb;rw [xZ];rcases h with ⟨_,_,rfl,a⟩|⟨_,_,rfl,a,b⟩|⟨_,_,a,b,rfl⟩
 . rw [if_neg λq=>a q.1]
 . rw [if_neg λq=>b q.2]
 . rw [if_pos ⟨a,b⟩];simp [vQ,aS.del]
structure Sm where
 sh:List (ByteArray×Nat)
 rs:Nat->Int
 ho:Nat
def Sm.arr (s:Sm) (n:Nat) (lo:Nat->Bool):ay:=⟨n,0,0,lo,λ_ _=>ZX,λ_ _=>[],s.rs⟩
noncomputable def Sm.go (s:Sm) (D L G nb:Nat) (lo:Nat->Bool) (o:pJ):Sm:=
 if o.kind=1 then ⟨Qa D nb s.sh o.s o.d.length,s.rs,s.ho⟩
 else if o.kind=2 then ⟨s.sh,(IT (s.arr (D+L+G) lo) (IS D L G) D s.ho s.sh o.s).1,(IT (s.arr (D+L+G) lo) (IS D L G) D s.ho s.sh o.s).2⟩
 else if o.kind=3 then ⟨Qb s.sh o.s,s.rs,s.ho⟩
 else s
def CX (s:Sm) (lo:Nat->Bool) (xs:aS) (A:ay) (ho:Nat):Prop:=vQ xs=s.sh/\A.lost=lo/\A.reads=s.rs/\ho=s.ho
def CX.put {s:Sm} {h0:Nat} (h:CX s lo xs A ho) (j:o.kind=1) (i:∀ x∈xs,iT D x) (g:ID D xs A ho o.s o.d xs' A' h0):CX (s.go D L G A.nb lo o) lo xs' A' h0:=by
 obtain ⟨a,b,c,e⟩:=h;obtain ⟨q1,q2,k,n,t,t',f⟩:=g;unfold Sm.go;rw [if_pos j];refine ⟨?_,q2.trans b,k.trans c,q1.trans e⟩;rw [NV f i,a]
def CX.del {s:Sm} {h0:Nat} (h:CX s lo xs A ho) (g:o.kind=3) (f:P7 xs A ho o.s xs' A' h0):CX (s.go D L G nb lo o) lo xs' A' h0:=by
 obtain ⟨a,b,c,d⟩:=h;obtain ⟨q1,q2,i,n,t,t',e⟩:=f;unfold Sm.go;rw [if_neg (by omega),if_neg (by omega),if_pos g];refine ⟨?_,q2.trans b,i.trans c,q1.trans d⟩;rw [NW e,a]
def Sp (D L G:Nat) (xs:aS) (A:ay) (ho:Nat) (x:ByteArray) (rs:Nat->Int) (ho':Nat):Prop:=(rs,ho')=IT A (IS D L G) D ho (vQ xs) x
def CX.get {s:Sm} {h0:Nat} (h:CX s lo xs A ho) (f:o.kind=2) (g:A.n=D+L+G) (a:Sp D L G xs A ho o.s rs h0):CX (s.go D L G nb lo o) lo xs (A.rd rs) h0:=by
 obtain ⟨b,c,d,e⟩:=h;unfold Sp at a;rw [L3 (A:=A) (B:=s.arr (D+L+G) lo) c g d,b,e] at a;unfold Sm.go;rw [if_neg (by omega),if_pos f,<- a];exact ⟨b,c,rfl,rfl⟩
def Sm.Uf {s:Sm} (a:o.kind<1\/o.kind=4):s.go D L G nb lo o=s:=by
 unfold Sm.go;rw [if_neg (by omega),if_neg (by omega),if_neg (by omega)]
end
def iX (c:ZW) (M:Nat->Prop):Prop:=∀ k,M k->∃ o,c.heap[k]?=ZZ o/\∀ cs T z,o=Z5 cs T z->l9 T
def iX.keep {c c':ZW} {M:Nat->Prop} (h:iX c M) (b:∀ k,M k->c'.heap[k]?=c.heap[k]?):iX c' M:=λk q=>by
 obtain ⟨o,ho,a⟩:=h k q;exact ⟨o,(b k q).trans ho,a⟩
def cA.ext (ps:cA) (M:Nat->Prop) (c:ZW) (hM:iX c M):cA where
 ps:=ps.ps
 ho:=ps.ho
 bl:=λk=>ps.bl k\/M k
 S:=λw=>ps.S w/\∀ k,M k->w.heap[k]?=c.heap[k]?
 keep:=λ_ _ h hk=>⟨ps.keep _ _ h.1 λk q=>hk k (.inl q),λk q=>(hk k (.inr q)).trans (h.2 k q)⟩
 kd:=λw h k hk cs T z e=>hk.elim (λq=>ps.kd w h.1 k q cs T z e) λq=>by
  obtain ⟨o,ho,hT⟩:=hM k q
  rw [h.2 k q,ho] at e
  exact hT _ _ _ (Ye e)
 lt:=λw h k hk=>hk.elim (ps.lt w h.1 k) λq=>by
  obtain ⟨o,ho,_⟩:=hM k q
  exact (XK.1 ((h.2 k q).trans ho)).1
def Qc (Kind:cA->Prop) (M:Nat->Prop) (c:ZW) (hM:iX c M) (ps:cA):Prop:=∃ ps0:cA,Kind ps0/\ps=ps0.ext M c hM/\∀ k,ps0.bl k->¬ M k
theorem iw.ext {Kind:cA->Prop} (h:iw D L G Kind ok pl) (M:Nat->Prop) (c:ZW) (f:iX c M):iw D L G (Qc Kind M c f) ok pl:=by
 refine ⟨λps x hK=>?_,λps hK w g v r u l y=>?_⟩
 . obtain ⟨b,k1,rfl,k2⟩:=hK;exact ⟨_,h.ho b x k1,rfl,k2⟩
 . obtain ⟨b,k1,rfl,k2⟩:=hK;refine (h.rd b k1 w g.1 v r (λk q=>u k (.inl q)) l y).mono ?_;rintro e w' ⟨d,s,C,ao,m,o,p,a,t,j⟩;have i:∀ k,M k->k<w.heap.size:=λk q=>(b.ext M c f).lt w g k (.inr q);refine ⟨d.ext M c f,s,C,ao,m,o,p,⟨⟨d,a.kind,rfl,λk q n=>?_⟩,a.Vp,a.V7,⟨a.kit,λk q=>(j.block k (i k q) λz=>k2 k z q).trans (g.2 k q)⟩,λk q=>?_,λk q=>(a.ob k q).imp .inl id,a.own,a.Va,a.told⟩,t,j.mono λk _ q=>.inl q⟩
   . rcases a.bl k q with e|e
     . exact k2 k e n
     . have:=i k n;omega
   . rcases q with q|q
     . exact (a.bl k q).imp .inl id
     . exact .inl (.inr q)
theorem aW.Vh {ps ps':cA} (h:aW w ar v p ps D L G t pg ob P xs A F) (a:aa ps.bl w w') (x:ps'.ps=ps.ps) (u:ps'.ho=ps.ho) (s:ps'.S w') (d:∀ k,ps'.bl k->ps.bl k\/w.heap.size<=k\/(k<ar/\3<=k/\k≠v/\¬ F.has p A.n k)):aW w' ar v p ps' D L G t pg ob P xs A F:=by
 have k1:2<3:=by decide
 have k2:1<3:=by decide
 have m:=h.vol.room;have o:=h.TR.lt;have r:=h.vol.vol.lt;have hK:∀ k,(ar<k/\¬ F.has p A.n k/\¬ ps.bl k)->k<w.heap.size->(ar<k/\¬ F.has p A.n k/\¬ ps.bl k)/\¬ ps'.bl k:=λk q g=>⟨q,λe=>by
  rcases d k e with e|e|e
  . exact q.2.2 e
  . omega
  . have:=q.1;omega⟩
 have c:eR (λk=>(ar<k/\¬ F.has p A.n k/\¬ ps.bl k)/\¬ ps'.bl k) w w':=⟨a.size,λk g q=>a.block k g q.1.2.2⟩;refine ⟨h.TR.keep (a.block _ o λq=>(h.apt _ q).2.1 rfl),⟨?_,h.vol.arr.keep λj f=>a.block j (h.vol.arr.TH f) λq=>(h.apt j q).2.2.2 f,h.vol.laid.keep (a.block _ h.vol.laid.lt λq=>by have:=(h.apt _ q).1;omega),h.vol.TQ.keep (a.block _ h.vol.TQ.lt λq=>by have:=(h.apt _ q).1;omega),XG m a.size⟩,h.free,h.UX,h.Vg,h.Vy,h.fit,h.par,h.TM,((h.pgs.wk hK).keep c).wk λk q _=>⟨q.1.1,q.1.2.1,q.2⟩,((h.cat.wk hK).keep c).wk λk q _=>⟨q.1.1,q.1.2.1,q.2⟩,h.nb,h.turn,s,λk q=>?_⟩
 . rw [x,u];exact h.vol.vol.keep (a.block _ r λq=>(h.apt _ q).2.2.1 rfl)
 . rcases d k q with e|e|⟨y,b,i,l⟩
   . exact h.apt k e
   . exact ⟨by omega,by omega,by omega,λb=>by have:=h.vol.arr.TH b;omega⟩
   . exact ⟨b,by omega,i,l⟩
section
def yq {a b c d e n:Prop}:(a\/b\/c\/d\/e)\/n↔a\/b\/c\/d\/e\/n:=by simp only [or_assoc]
def Sq {a b c d e n:Prop} (q:a\/b\/c\/d\/e\/n):(a\/b\/c\/d\/e)\/n:=yq.2 q
def Sr (D L G l:Nat):Prop:=l<2^(D+L+G)/\∃ C,tells (fw D L G) (ab l)=ZZ C
def IU (D L G sb:Nat) (room:Int) (N:Nat->Prop) (c:ZW) (hN:iX c N) (ps:cA) (A:ay):Prop:=vP D L G (Qc (xQ sb room D L G (IS D L G)) N c hN) (Sr D L G) (IS D L G) ps A
def pK {N:Nat->Prop} {c:ZW} {hN:iX c N} (ps:cA) (A B:ay) (b:B.n=A.n) (a:B.lost=A.lost) (h:IU D L G sb room N c hN ps A):IU D L G sb room N c hN ps B:=vP.rd h b a
def EO (hr:vL D L G) (N:Nat->Prop) (c:ZW) (a:iX c N):iw D L G (Qc (xQ sb room D L G (IS D L G)) N c a) (Sr D L G) (IS D L G):=iw.ext (EN D L G hr.r hr.d1 hr.d hr.l1 hr.l4 hr.g hr.div hr.s P4) N c a
def mh (w0 w:ZW) (wb D L G nb T sb:Nat) (room:Int) (M N:Nat->Prop) (X:aS->ay->Nat->Prop):Prop:=
 ∃ hN:iX w N,∃ t xs Q p r sa ar v K pg ob P A F out want cache,MB ⟨w0,w,λk=>M k\/N k⟩ w wb D L G nb t xs p r sa ar v (IU D L G sb room N w hN) (cA.ext K N w hN) pg ob P A F out want cache/\Dc w w r Q xs out want/\t<=T/\X xs A K.ho/\xQ sb room D L G (IS D L G) K/\(∀ k,K.bl k->¬ N k)/\∀ k,M k↔k=wb\/k=ar\/F.has p A.n k\/k=v\/K.bl k
section
variable {w0 w w':ZW} {wb D L G nb T sb:Nat} {room:Int} {M M' N:Nat->Prop} {X Y:aS->ay->Nat->Prop}
theorem FH {hN:iX w N} (h:MS (IU D L G sb room N w hN) X ⟨w0,w,λk=>M k\/N k⟩ w' wb D L G nb T):∃ M',mh w0 w' wb D L G nb T sb room M' N X/\aa M w w'/\(∀ k,M' k->M k\/w.heap.size<=k)/\iX w' M':=by
 obtain ⟨t,xs,Q,p,r,sa,ar,v,ps,pg,ob,P,A,F,out,want,cache,a,j,E,y⟩:=h;obtain ⟨K,m,rfl,g⟩:=a.shv.kind;have c:=a.live.kit;have i:iX w' N:=hN.keep c.2;obtain ⟨M',d⟩:∃ M':Nat->Prop,∀ k,M' k↔k=wb\/k=ar\/F.has p A.n k\/k=v\/K.bl k:=⟨_,λ_=>Iff.rfl⟩;have x:∀ k,M' k->¬ N k:=λk q b=>by
  rcases (d k).1 q with rfl|rfl|q|rfl|q
  . exact a.Vq (.inr b)
  . exact (a.live.apt _ (.inr b)).2.1 rfl
  . exact (a.live.apt _ (.inr b)).2.2.2 q
  . exact (a.live.apt _ (.inr b)).2.2.1 rfl
  . exact g k q b
 have C:aW w' ar v p (K.ext N w' i) D L G t pg ob P xs A F:=a.live.Vh (aa.refl _ _) rfl rfl ⟨c.1,λ_ _=>rfl⟩ λk q=>.inl q;refine ⟨M',⟨i,t,xs,Q,p,r,sa,ar,v,K,pg,ob,P,A,F,out,want,cache,⟨a.T7,a.box,C,a.nb,a.base,a.Vd,a.hK,a.VG,a.lt,a.fB,a.vB,a.kB,⟨EO a.live.par N w' i,⟨K,m,rfl,g⟩,a.shv.ho,a.shv.hol,a.shv.dec⟩,pK,a.Vq,aa.refl _ _,λk q=>.inl ?_⟩,⟨λ_ _ _ _=>rfl,j.ref,j.rel,j.ow⟩,E,y,m,g,d⟩,⟨a.fr.os,a.fr.tape,a.fr.output,a.fr.size,λk B q=>?_⟩,λk q=>?_,λk q=>?_⟩
 . exact (Sq q).imp (d k).2 id
 . by_cases b:N k
   . exact c.2 k b
   . exact a.fr.block k B λe=>e.elim q b
 . refine (a.Vw k ?_).imp (λe=>e.resolve_right (x k q)) id;exact (yq (n:=N k)).1 (.inl ((d k).1 q))
 . have f:∀ {T:ZS} {cs:Array ZV},w'.heap[k]?=ZZ (Z5 cs T (0,0))->l9 T->∃ o,w'.heap[k]?=ZZ o/\∀ cs T z,o=Z5 cs T z->l9 T:=λ{T} {cs} e l=>⟨_,e,λs T' z u=>by injection u with _ e2;exact e2▸l⟩;rcases (d k).1 q with rfl|rfl|q|rfl|q
   . exact f a.T7 (by unfold l9;decide)
   . exact f a.live.TR (by unfold l9;decide)
   . obtain ⟨cs,T,e,l⟩:=a.live.vol.arr.kind q;exact f e (by rcases l with rfl|rfl|rfl|rfl<;>(unfold l9;decide))
   . exact f a.live.vol.vol (by unfold l9;decide)
   . exact ⟨_,X3 (K.lt _ c.1 k q),λcs T z e=>K.kd _ c.1 k q cs T z (by rw [<- e];exact X3 (K.lt _ c.1 k q))⟩
def Qd (h:SZ T):¬ l9 T:=by
 rcases h with rfl|rfl|rfl|rfl|rfl<;>(unfold l9;decide)
theorem mh.other (h:mh w0 w wb D L G nb T sb room N M X) (b:aa M w w') (d:∀ k,M' k->M k\/w.heap.size<=k) (g:iX w' M'):mh w0 w' wb D L G nb T sb room N M' X:=by
 obtain ⟨H,t,xs,Q,p,r,sa,ar,v,K,pg,ob,P,A,F,out,want,cache,a,y,E,B,m,n,o⟩:=h;have c:=a.live.kit;have u:K.S w':=K.keep _ _ c.1 λk q=>b.block k (K.lt _ c.1 k q) (n k q);have l:∀ k,K.bl k->¬ M' k:=λk q e=>(d k e).elim (n k q) λe=>by have:=K.lt _ c.1 k q;omega
 have C:aW w' ar v p (K.ext M' w' g) D L G t pg ob P xs A F:=a.live.Vh (b.mono λk _ q=>.inr q) rfl rfl ⟨u,λ_ _=>rfl⟩ λk q=>q.elim (λe=>.inl (.inl e)) λe=>(d k e).elim (λe=>.inl (.inr e)) λe=>.inr (.inl e);have f:ir w.heap.size w w':=λT z j cs _ s=>b.block j (XK.1 s).1 λq=>eN c s (Qd z) (.inr q);have x:=aw.lt a.T7;have i:=y.keep f lR;refine ⟨g,t,xs,Q,p,r,sa,ar,v,K,pg,ob,P,A,F,out,want,cache,⟨aw.keep a.T7 (b.block _ x λq=>a.Vq (.inr q)),f.box a.box lR,C,a.nb,a.base.trans (b.below λk f=>⟨XH f a.base.size,λq=>by have:=a.kB k (.inr q);omega⟩),a.Vd,a.hK,a.VG,a.lt,a.fB,a.vB,λk q=>?_,⟨EO a.live.par M' w' g,⟨K,m,rfl,l⟩,a.shv.ho,a.shv.hol,a.shv.dec⟩,pK,λq=>?_,aa.refl _ _,λk q=>.inl ?_⟩,⟨λ_ _ _ _=>rfl,i.ref,i.rel,i.ow⟩,E,B,m,l,o⟩
 . rcases q with q|q
   . exact a.kB k (.inl q)
   . exact (d k q).elim (λe=>a.kB k (.inr e)) λe=>XG a.base.size e
 . rcases q with q|q
   . exact a.Vq (.inl q)
   . exact (d _ q).elim (λe=>a.Vq (.inr e)) λe=>by omega
 . exact (Sq q).imp (o k).2 id
end
def lA (w0 w:ZW) (D L G nb T wb sb:Nat) (room:Int) (wb' sb':Nat) (room':Int) (X X':aS->ay->Nat->Prop):Prop:=∃ M N,mh w0 w wb D L G nb T sb room M N X/\mh w0 w wb' D L G nb T sb' room' N M X'
section
variable {w0 w w':ZW} {wb D L G nb T T' sb wb' sb':Nat} {room room':Int} {M N:Nat->Prop} {X X' Y:aS->ay->Nat->Prop}
def mh.mono (h:mh w0 w wb D L G nb T sb room M N X) (d:T<=T'):mh w0 w wb D L G nb T' sb room M N X:=by
 obtain ⟨c,t,xs,Q,p,r,sa,ar,v,K,pg,ob,P,A,F,out,want,cache,a,b,e,hr⟩:=h;exact ⟨c,t,xs,Q,p,r,sa,ar,v,K,pg,ob,P,A,F,out,want,cache,a,b,XG e d,hr⟩
def lA.swap (h:lA w0 w D L G nb T wb sb room wb' sb' room' X X'):lA w0 w D L G nb T wb' sb' room' wb sb room X' X:=by
 obtain ⟨M,N,a,b⟩:=h;exact ⟨N,M,b,a⟩
def yr {hN:iX w N} (h:MS (IU D L G sb room N w hN) X ⟨w0,w,λk=>M k\/N k⟩ w' wb D L G nb T) (c:mh w0 w wb' D L G nb T sb' room' N M X'):lA w0 w' D L G nb T wb sb room wb' sb' room' X X':=by
 obtain ⟨M',b,e,a,d⟩:=FH h;exact ⟨M',N,b,c.other e a d⟩
def mh.ms (h:mh w0 w wb D L G nb T sb room M N X):∃ a:iX w N,MS (IU D L G sb room N w a) X ⟨w0,w,λk=>M k\/N k⟩ w wb D L G nb T:=by
 obtain ⟨a,t,xs,Q,p,r,sa,ar,v,K,pg,ob,P,A,F,out,want,cache,b,c,e,d,_⟩:=h;exact ⟨a,t,xs,Q,p,r,sa,ar,v,_,pg,ob,P,A,F,out,want,cache,b,c,e,d⟩
def MS.below {sv:cA->ay->Prop} {b:uR} (h:MS sv X b w wb D L G nb T) (a:bW w w'):MS sv X b w' wb D L G nb T:=by
 obtain ⟨t,xs,Q,p,r,sa,ar,v,ps,pg,ob,P,A,F,out,want,cache,d,c,e⟩:=h;exact ⟨t,xs,Q,p,r,sa,ar,v,ps,pg,ob,P,A,F,out,want,cache,d.below a,c.keep (ir.below a _) lR,e⟩
def lA.below (h:lA w0 w D L G nb T wb sb room wb' sb' room' X X') (d:bW w w'):lA w0 w' D L G nb T wb sb room wb' sb' room' X X':=by
 obtain ⟨M,N,b,c⟩:=h;obtain ⟨e,a⟩:=b.ms;exact yr (a.below d) c
end
end
section
def Cz {l:Nat} (b:qt D L G lost) (hs:∀ i,l.testBit i=ZY->lost.testBit i=ZY):qt D L G l:=Gw _ lost l _ D (λi _ c=>by
 have a:=hs i;rw [X4,X4,decide_eq_true_eq,decide_eq_true_eq] at a;have:=Nat.mod_two_eq_zero_or_one (l/2^i);omega) b
def Qe {l:Nat} (hr:vL D L G) (c:qt D L G lost) (hs:∀ i,l.testBit i=ZY->i<D+L+G/\lost.testBit i=ZY):Sr D L G l:=by
 have b:l<2^(D+L+G):=Nat.lt_pow_two_of_testBit _ λi f=>by
  cases e:l.testBit i
  . rfl
  . have:=(hs i e).1;omega
 refine ⟨b,?_⟩;obtain ⟨C,a⟩:=(tF hr.d hr.g hr.s).1 (Cz c λi q=>(hs i q).2);have e:av (D+L+G) l=l:=X8 λi=>by
  rw [jZ];cases e:l.testBit i
  . rfl
  . rw [decide_eq_true (hs i e).1];rfl
 rw [e] at a;exact ⟨C,a⟩
def aW.array {ps:cA} (h:aW w ar v p ps D L G t pg ob P xs A F) (a:aa (F.has p A.n) w w') (f:aq w' p B F) (b:B.n=A.n) (e:B.nb=A.nb) (i:B.fit) (g:eE B D L G t P xs):aW w' ar v p ps D L G t pg ob P xs B F:=by
 have hK:eR (λk=>ar<k/\¬ F.has p A.n k/\¬ ps.bl k) w w':=⟨a.size,λk c d=>a.block k c d.2.1⟩;refine ⟨h.TR.keep (a.block _ h.TR.lt h.UX),h.vol.turn h.free a f,by rw [b];exact h.free,by rw [b];exact h.UX,h.Vg,h.Vy,i,h.par,g,by rw [b];exact h.pgs.keep hK,by rw [b];exact h.cat.keep hK,by rw [e];exact h.nb,h.turn,ps.keep _ _ h.kit λk c=>a.block k (ps.lt _ h.kit k c) (h.apt k c).2.2.2,by rw [b];exact h.apt⟩
def eE.VF (h:eE A D L G t P xs) (i:gT B D L G) (e:B={ A with lost:=B.lost,reads:=B.reads }):eE B D L G t P xs:=by
 obtain ⟨j,k,_,l,m,n,o,p,q,a,b,c,d,f,g⟩:=h;rw [e] at i ⊢;exact ⟨j,k,i,l,m,n,o,p,q,a,b,c,d,f,g⟩
def ay.fit.VF (h:A.fit) (e:B={ A with lost:=B.lost,reads:=B.reads }):B.fit:=by
 rw [e];exact ⟨h.n,h.nb,h.len,h.byt⟩
section
variable {w0 w:ZW} {wb D L G nb T sb:Nat} {room:Int} {M N:Nat->Prop} {s:Sm} {lo:Nat->Bool}
def MS.V5 {sv:cA->ay->Prop} {X Y:aS->ay->Nat->Prop} {b:uR} (h:MS sv X b w wb D L G nb T) (g:T<=T') (e:∀ xs A ho,X xs A ho->Y xs A ho):MS sv Y b w wb D L G nb T':=by
 obtain ⟨t,xs,Q,p,r,sa,ar,v,ps,pg,ob,P,A,F,out,want,cache,a,c,f,d⟩:=h;exact ⟨t,xs,Q,p,r,sa,ar,v,ps,pg,ob,P,A,F,out,want,cache,a,c,by omega,e _ _ _ d⟩
theorem IL (h:mh w0 w wb D L G nb T sb room M N (CX s lo)) (o:pJ) (b:ZV) (C:Bs w0 b o.d) (H:o.d.length<=100000) (O:T+1<=1000000) (E:D<=6) (R:o.kind<=4):∃ j:iX w N,
 ZU ZQ 11 #[Z7 (ZZ ⟨wb,0,Z0⟩),.agg #[Z8 Z9 o.kind,Z8 Z9 o.a,Z2 o.s,b]] w λe w'=>e=Z4 (Z3 ZY)/\MS (IU D L G sb room N w j) (CX (s.go D L G nb lo o) lo) ⟨w0,w,λk=>M k\/N k⟩ w' wb D L G nb (T+1):=by
 obtain ⟨j,t,xs,Q,p,r,sa,ar,v,K,pg,ob,P,A,F,out,want,cache,c,i,S,f,_⟩:=h;refine ⟨j,?_⟩;have l:∃ u m y,b=.slice u m y:=by obtain ⟨u,y,e,_⟩:=C;exact ⟨u,_,y,e⟩
 have g:∀ (X:aS->ay->Nat->Prop),(∀ xs A h,X xs A h->CX (s.go D L G nb lo o) lo xs A h)->∀ (e:ZT) (w':ZW),e=Z4 (Z3 ZY)/\MS (IU D L G sb room N w j) X ⟨w0,w,λk=>M k\/N k⟩ w' wb D L G nb (t+1)->e=Z4 (Z3 ZY)/\MS (IU D L G sb room N w j) (CX (s.go D L G nb lo o) lo) ⟨w0,w,λk=>M k\/N k⟩ w' wb D L G nb (T+1):=λX f e w' q=>⟨q.1,q.2.V5 (by omega) f⟩;by_cases z:o.kind<1
 . rw [Sm.Uf (.inl z)];rw [Sm.Uf (.inl z)] at g;exact (IK c i o b l z (X:=CX s lo) f).mono (g _ λ_ _ _ q=>q)
 by_cases k1:o.kind=1
 . exact (L5 c i o b C H (by omega) E k1).mono (g _ λxs' A' B q=>by rw [<- c.nb];exact f.put k1 c.live.TM.fits q)
 by_cases k2:o.kind=2
 . exact (L6 c i o b l k2 (Y:=Sp D L G) λw ar v p t ps pg ob P xs A F x I hs=>NS I hs x).mono (g _ λxs' A' B q=>by
    obtain ⟨rfl,rs,rfl,J⟩:=q;exact f.get k2 c.live.TM.n J)
 by_cases k3:o.kind=3
 . exact (L4 c i o b l (by omega) k3).mono (g _ λxs' A' B q=>f.del k3 q)
 . rw [Sm.Uf (.inr (by omega))];rw [Sm.Uf (.inr (by omega))] at g;exact (IJ c i o b l (by omega) (X:=CX s lo) f).mono (g _ λ_ _ _ q=>q)
def IM {base:Nat} {v:ZV} (h:w.ownsRow base 3 1 v n (uF A n)) (e:0<n):∃ g cap,v=Z6 (ZZ ⟨g,0,Z0⟩) n cap/\(∃ cs,w.heap[g]?=ZZ (Z5 cs 3 (0,0)))/\∀ j,j<n->w.cell? ⟨g,j,Z0⟩=ZZ (Z8 Z9 (A.reads j)):=by
 rcases h.2 with ⟨_,d⟩|⟨g,cap,cur,rfl,_,a,_⟩
 . omega
 . refine ⟨g,cap,rfl,⟨_,a⟩,λj c=>?_⟩;have b:=h.cells (g:=g) rfl j (Z8 Z9 (A.reads j)) (by simp [uF,c]);rwa [mN] at b
def MB.array {b:uR} {sv:cA->ay->Prop} {ps:cA} (h:MB b w wb D L G nb t xs p r sa ar v sv ps pg ob P A F out want cache) (a:aa (F.has p A.n) w w') (c:aq w' p B F) (e:B={ A with lost:=B.lost,reads:=B.reads }) (hl:gT B D L G) (hs:sv ps B) :
 MB b w' wb D L G nb t xs p r sa ar v sv ps pg ob P B F out want cache/\ir w.heap.size w w':=
 h.Vn (a.mono λ_ _ q=>.inr (.inl q)) (h.live.array a c (by rw [e]) (by rw [e]) (h.live.fit.VF e) (h.live.TM.VF hl e)) (by rw [e]) (by rw [e]) hs λ_ q=>.inl q
theorem EP (h:mh w0 w wb D L G nb T sb room M N (CX s lo)):∃ b:iX w N,∃ p,w.cell? ⟨wb,3,Z0⟩=ZZ (Z7 (ZZ ⟨p,0,Z0⟩)) /\
 ZU ZQ 10 #[Z7 (ZZ ⟨p,0,Z0⟩)] w λe w'=>∃ g cap,e=Z4 (Z6 (ZZ ⟨g,0,Z0⟩) (D+L+G) cap)/\(∃ cs,w'.heap[g]?=ZZ (Z5 cs 3 (0,0)))/\(∀ j,j<D+L+G->w'.cell? ⟨g,j,Z0⟩=ZZ (Z8 Z9 (s.rs j)))/\MS (IU D L G sb room N w b) (CX ⟨s.sh,λ_=>0,s.ho⟩ lo) ⟨w0,w,λk=>M k\/N k⟩ w' wb D L G nb T:=by
 obtain ⟨b,t,xs,Q,p,r,sa,ar,v,K,pg,ob,P,A,F,out,want,cache,a,m,x,⟨y,z,B,C⟩,_⟩:=h;have c:=a.live.TM.n;have E:A.n<=16:=by rw [c];exact a.live.par.s
 refine ⟨b,p,a.T7.cells.2.2.2.1,(Ev a.live.vol.arr (by omega)).mono ?_⟩;rintro e w' ⟨u,rfl,ho,l,o⟩;obtain ⟨f,i⟩:=a.array o l rfl (a.live.TM.lost.congr rfl rfl) (pK _ A _ rfl rfl a.shv);obtain ⟨g,cap,rfl,q,d⟩:=IM ho (by have:=a.live.par.d1;omega);rw [c,B] at d;exact ⟨g,cap,by rw [c],q,d,t,xs,Q,p,r,sa,ar,v,_,pg,ob,P,_,F,out,want,cache,f,m.keep i lR,x,y,z,rfl,C⟩
theorem IN {d:Nat} (h:mh w0 w wb D L G nb T sb room M N (CX s lo)) (f:qt D L G lost) (u:∀ i,lo i=ZY->lost.testBit i=ZY) (O:d<D+L+G) (C:lost.testBit d=ZY):∃ b:iX w N,∃ p,w.cell? ⟨wb,3,Z0⟩=ZZ (Z7 (ZZ ⟨p,0,Z0⟩)) /\
 ZU ZQ 8 #[Z7 (ZZ ⟨p,0,Z0⟩),Z8 Z9 (d:Nat)] w λe w'=>e=Z4 (Z1 #[])/\MS (IU D L G sb room N w b) (CX s λi=>if i=d then ZY else lo i) ⟨w0,w,λk=>M k\/N k⟩ w' wb D L G nb T:=by
 obtain ⟨b,t,xs,Q,p,r,sa,ar,v,K,pg,ob,P,A,F,out,want,cache,a,z,E,⟨H,j,I,J⟩,_⟩:=h;have R:=a.live.TM.n;have hr:=a.live.par;refine ⟨b,p,a.T7.cells.2.2.2.1,(J4 a.live.vol.arr a.live.fit d (by omega)).mono ?_⟩;rintro e w' ⟨rfl,y,B⟩;have c:∀ i,(A.TP d ZY).lost i=ZY->lost.testBit i=ZY:=λi (q:(if i=d then ZY else A.lost i)=ZY)=>by
  by_cases e:i=d
  . rw [e];exact C
  . rw [if_neg e,j] at q;exact u i q
 have x:∀ i,A.lost i=ZY->(A.TP d ZY).lost i=ZY:=λi q=>by
  show (if i=d then ZY else A.lost i)=ZY;split
  . rfl
  . exact q
 obtain ⟨m,o⟩:=a.array B y rfl (λ_=>Cz f λi q=>c i ((j6 _ _ i).1 q).2) ⟨a.shv.sh,a.shv.kind,λi q=>⟨(a.shv.ho i q).1,x i (a.shv.ho i q).2⟩,a.shv.hol,λl _ g=>Qe hr f λi q=>⟨by have:=(g i q).1;have e:(A.TP d ZY).n=A.n:=rfl;omega,c i (g i q).2⟩⟩;exact ⟨rfl,t,xs,Q,p,r,sa,ar,v,_,pg,ob,P,_,F,out,want,cache,m,z.keep o lR,E,H,by rw [<- j];rfl,I,J⟩
end
theorem CA {c0:Nat} (h:z6 w D L G nb c0 e w1) (Q:bW w0 w) (hg:cf w0) (hK:3<=w0.heap.size) :
 ∃ wb sb,e=Z4 (Z1 #[Z7 (ZZ ⟨wb,0,Z0⟩),Z3 ZY])/\bW w w1/\∀ w2,bW w1 w2->∃ M,iX w2 M/\(∀ k,M k->w.heap.size<=k/\k<w1.heap.size)/\∀ N,iX w2 N->(∀ k,N k->w0.heap.size<=k/\(k<w.heap.size\/w1.heap.size<=k))->mh w0 w2 wb D L G nb 1 sb c0 M N (CX ⟨[],((jz (D+L+G) nb).TL (D+L+G)).reads,0⟩ λ_=>ZX):=by
 obtain ⟨wb,p,r,sa,ar,v,sb,cache,F,pg,A,rfl,P,hR,O,d,hv,y,k5,h1,h2,E,X,k6,k7,hy⟩:=h;have hz:=Q.size;have hr:=d.TR.lt;have Y:=aw.lt P;have k0:=d.vol.vol.lt;refine ⟨wb,sb,rfl,E,λw2 f=>?_⟩;have hx:∀ W,jA W sb (c0:Int)->gh W sb (c0:Int) D L G (IS D L G) [] []:=λW q=>P5 q _ _ _ _;obtain ⟨K,c⟩:=nM (Cg sb (c0:Int) D L G (IS D L G) [] [] 0);have m:∀ k,K.bl k->sb<=k/\k<=sb+1+1+1:=λk q=>by
  rw [<- c] at q;rcases q with q|q|⟨_,q,_⟩
  . exact q
  . cases q
  . cases q
 have j:∀ W,(uJ sb (c0:Int) 0).S W->K.S W:=λW q=>by rw [<- c];exact hx W q
 have U:∀ k,K.bl k->(uJ sb (c0:Int) 0).bl k:=m;have u:=d.below f;have s:=u.kit;have J:∀ k,k=wb\/k=ar\/F.has p A.n k\/k=v\/K.bl k->w.heap.size<=k/\k<w1.heap.size:=λk q=>by
  rcases q with rfl|rfl|q|rfl|q
  . exact ⟨k5,Y⟩
  . exact ⟨by omega,hr⟩
  . exact ⟨y k q,d.vol.arr.TH q⟩
  . exact ⟨by omega,k0⟩
  . exact ⟨by have:=m k q;omega,(uJ sb (c0:Int) 0).lt _ d.kit k (U k q)⟩
 have V:=aw.keep P (f.block _ Y);refine ⟨λk=>k=wb\/k=ar\/F.has p A.n k\/k=v\/K.bl k,λk q=>?_,J,λN B g=>?_⟩
 . have t:∀ {T:ZS} {cs:Array ZV},w2.heap[k]?=ZZ (Z5 cs T (0,0))->l9 T->∃ o,w2.heap[k]?=ZZ o/\∀ cs T z,o=Z5 cs T z->l9 T:=λ{T} {cs} e C=>⟨_,e,λZ T' z e'=>by injection e' with _ x;exact x▸C⟩;rcases q with rfl|rfl|q|rfl|q
   . exact t V (by unfold l9;decide)
   . exact t u.TR (by unfold l9;decide)
   . obtain ⟨cs,T,e,C⟩:=u.vol.arr.kind q;exact t e (by rcases C with rfl|rfl|rfl|rfl<;>(unfold l9;decide))
   . exact t u.vol.vol (by unfold l9;decide)
   . exact ⟨_,X3 (K.lt _ (j _ s) k q),λcs T z e=>K.kd _ (j _ s) k q cs T z (by rw [<- e];exact X3 (K.lt _ (j _ s) k q))⟩
 . have R:∀ k,K.bl k->¬ N k:=λk q qN=>by
    have a:=J k (.inr (.inr (.inr (.inr q))));have b:=(g k qN).2;omega
   have h7:aW w2 ar v p (K.ext N w2 B) D L G 1 pg (Z6 Z0 0 0) [2] [] A F:=d.Vh (aa.TG f _) (by rw [<- c];rfl) (by rw [<- c];rfl) ⟨j _ s,λ_ _=>rfl⟩ λk q=>by
    rcases q with q|q
    . exact .inl (U k q)
    . rcases (g k q).2 with e|e
      . refine .inr (.inr ⟨by omega,by have:=(g k q).1;omega,by omega,λx=>by have:=y k x;omega⟩)
      . exact .inr (.inl e)
   have H:K.ho=0:=(by rw [<- c];rfl);refine ⟨B,1,[],[],p,r,sa,ar,v,K,pg,_,[2],A,F,_,_,cache,⟨V,(f.block _ O.lt).trans O,h7,hv,Q.trans ((E.trans (f.mono E.size)).mono hz),hg,hK,by show w0.heap.size<=wb;omega,h1,λk hk=>by show w0.heap.size<=k;have:=y k hk;omega,by show w0.heap.size<=v;omega,λk q=>?_,⟨EO d.par N w2 B,⟨K,⟨[],[],0,c.symm⟩,rfl,R⟩,λi I=>?_,?_,λl h0 hs=>?_⟩,pK,λq=>?_,aa.refl _ _,λk q=>.inl ?_⟩,⟨λ_ _ _ _=>rfl,⟨_,_,ir.ref hR (ir.below f _) lR⟩,trivial,[],Ow.nil _,Ow.nil _⟩,XJ _,⟨rfl,funext X,hy,H⟩,⟨[],[],0,c.symm⟩,R,λ_=>Iff.rfl⟩
   . show w0.heap.size<=k;rcases q with q|q
     . have:=m k q;omega
     . exact (g k q).1
   . have q:K.ho.testBit i=ZY:=I;rw [H,Yq] at q;cases q
   . show K.ho<65536;rw [H];decide
   . obtain ⟨i,I⟩:=Yr h0;have q:=(hs i I).2;rw [X i] at q;cases q
   . rcases q with q|q
     . have:=m _ q;omega
     . have:=(g _ q).2;omega
   . exact Sq q
end
section
def Kp (w w':ZW):Prop:=∀ (j:Nat) (cs:Array ZV) (T:ZS) (z:Nat×Nat),w.heap[j]?=ZZ (Z5 cs T z)->¬ l9 T->w'.heap[j]?=w.heap[j]?
def Kp.below (h:bW w w'):Kp w w':=λj _ _ _ e _=>h.block j (XK.1 e).1
def Kp.op (h:Kp w w') {b:Nat} {o:pJ} {dv:ZV} (a:iu w b o dv):iu w' b o dv:=aw.keep a (h _ _ _ _ a Oj)
section
variable {w0 w w':ZW} {wb D L G nb T sb wb' sb':Nat} {room room':Int} {M N:Nat->Prop} {X X':aS->ay->Nat->Prop} {s:Sm} {lo:Nat->Bool}
def z8 {hN:iX w N} (h:MS (IU D L G sb room N w hN) X ⟨w0,w,λk=>M k\/N k⟩ w' wb D L G nb T) (a:mh w0 w wb' D L G nb T sb' room' N M X'):lA w0 w' D L G nb T wb sb room wb' sb' room' X X'/\Kp w w':=by
 refine ⟨yr h a,λj cs T z e d=>?_⟩;obtain ⟨_,_,c,_⟩:=FH h;obtain ⟨b,_⟩:=a;refine c.block j (XK.1 e).1 λq=>?_;obtain ⟨o,ho,f⟩:=b j q;rw [e] at ho;exact d (f _ _ _ (Ye ho).symm)
def CB (h:lA w0 w D L G nb T wb sb room wb' sb' room' (CX s lo) X') (o:pJ) (b:ZV) (l:Bs w0 b o.d) (i:o.d.length<=100000) (j:T+1<=1000000) (c:D<=6) (m:o.kind<=4) :
 ZU ZQ 11 #[Z7 (ZZ ⟨wb,0,Z0⟩),.agg #[Z8 Z9 o.kind,Z8 Z9 o.a,Z2 o.s,b]] w λe w'=>e=Z4 (Z3 ZY)/\lA w0 w' D L G nb (T+1) wb sb room wb' sb' room' (CX (s.go D L G nb lo o) lo) X'/\Kp w w':=by
 obtain ⟨M,N,f,g⟩:=h;obtain ⟨n,k⟩:=IL f o b l i j c m;exact k.mono λe w' q=>⟨q.1,z8 q.2 (g.mono (by omega))⟩
def uU (h:lA w0 w D L G nb T wb sb room wb' sb' room' (CX s lo) X'):∃ p,w.cell? ⟨wb,3,Z0⟩=ZZ (Z7 (ZZ ⟨p,0,Z0⟩)) /\
 ZU ZQ 10 #[Z7 (ZZ ⟨p,0,Z0⟩)] w λe w'=>∃ g cap,e=Z4 (Z6 (ZZ ⟨g,0,Z0⟩) (D+L+G) cap)/\(∃ cs,w'.heap[g]?=ZZ (Z5 cs 3 (0,0)))/\(∀ j,j<D+L+G->w'.cell? ⟨g,j,Z0⟩=ZZ (Z8 Z9 (s.rs j)))/\lA w0 w' D L G nb T wb sb room wb' sb' room' (CX ⟨s.sh,λ_=>0,s.ho⟩ lo) X'/\Kp w w':=by
 obtain ⟨M,N,c,d⟩:=h;obtain ⟨l,p,a,i⟩:=EP c;refine ⟨p,a,i.mono ?_⟩;rintro e w' ⟨g,cap,rfl,k,b,f⟩;exact ⟨g,cap,rfl,k,b,z8 f d⟩
def yt {d:Nat} (h:lA w0 w D L G nb T wb sb room wb' sb' room' (CX s lo) X') (g:qt D L G lost) (b:∀ i,lo i=ZY->lost.testBit i=ZY) (l:d<D+L+G) (j:lost.testBit d=ZY):∃ p,w.cell? ⟨wb,3,Z0⟩=ZZ (Z7 (ZZ ⟨p,0,Z0⟩)) /\
 ZU ZQ 8 #[Z7 (ZZ ⟨p,0,Z0⟩),Z8 Z9 (d:Nat)] w λe w'=>e=Z4 (Z1 #[])/\lA w0 w' D L G nb T wb sb room wb' sb' room' (CX s λi=>if i=d then ZY else lo i) X'/\Kp w w':=by
 obtain ⟨M,N,c,f⟩:=h;obtain ⟨m,p,a,k⟩:=IN c g b l j;exact ⟨p,a,k.mono λe w' q=>⟨q.1,z8 q.2 f⟩⟩
def lA.base (h:lA w0 w D L G nb T wb sb room wb' sb' room' X X'):bW w0 w:=by
 obtain ⟨M,N,⟨_,t,xs,Q,p,r,sa,ar,v,K,pg,ob,P,A,F,out,want,cache,a,_⟩,_⟩:=h;exact a.base
end
theorem L9 {w1':ZW} {c':Nat} {e':ZT} (h:z6 w D L G nb c e w1) (g:z6 w1' D L G nb c' e' w2) (b:bW w0 w) (a:bW w1 w1') (f:cf w0) (hK:3<=w0.heap.size) :
 ∃ wb sb wb' sb' s,e=Z4 (Z1 #[Z7 (ZZ ⟨wb,0,Z0⟩),Z3 ZY])/\e'=Z4 (Z1 #[Z7 (ZZ ⟨wb',0,Z0⟩),Z3 ZY])/\lA w0 w2 D L G nb 1 wb sb c wb' sb' c' (CX s λ_=>ZX) (CX s λ_=>ZX):=by
 obtain ⟨wb,sb,rfl,k1,q1⟩:=CA h b f hK;have d:bW w0 w1':=b.trans ((k1.trans (a.mono k1.size)).mono b.size);obtain ⟨wb',sb',rfl,k2,q2⟩:=CA g d f hK;obtain ⟨M,i,j,l⟩:=q1 w2 (a.trans (k2.mono a.size));obtain ⟨N,m,n,o⟩:=q2 w2 (Below.refl _ _);have p:=a.size;have r:=d.size;have t:=b.size;exact ⟨wb,sb,wb',sb',_,rfl,rfl,M,N,l N m (λk q=>by have:=n k q;omega),o M i (λk q=>by have:=j k q;omega)⟩
end
def PP (w0 w:ZW) (wb sb wb' sb' D L G nb T:Nat) (room room':Int) (lost:Nat):Prop:=∃ s lo,lA w0 w D L G nb T wb sb room wb' sb' room' (CX s lo) (CX s lo)/\∀ i,lo i=ZY->lost.testBit i=ZY
def Qf (w0:ZW) (wb sb wb' sb' D L G nb:Nat) (room room':Int) (lost:Nat) (l:List pJ) (i:ZV) (wr:ZW):Prop:=∃ k:Nat,k<=l.length/\i=Z8 Z9 (k:Nat)/\PP w0 wr wb sb wb' sb' D L G nb (1+2*k) room room' lost
def Ss (w0:ZW) (wb sb wb' sb' D L G nb T:Nat) (room room':Int) (lost b n:Nat) (o:pJ) (dv:ZV) (i:ZV) (wr:ZW):Prop:=∃ k:Nat,k<=n/\i=Z8 Z9 (k:Nat)/\PP w0 wr wb sb wb' sb' D L G nb T room room' lost/\iu wr b o dv
def PP.below {T:Nat} (h:PP w0 w wb sb wb' sb' D L G nb T room room' lost) (c:bW w w'):PP w0 w' wb sb wb' sb' D L G nb T room room' lost:=by
 obtain ⟨s,lo,a,b⟩:=h;exact ⟨s,lo,a.below c,b⟩
def PP.mono {T:Nat} (h:PP w0 w wb sb wb' sb' D L G nb T room room' lost) (a:T<=T'):PP w0 w wb sb wb' sb' D L G nb T' room room' lost:=by
 obtain ⟨s,lo,⟨M,N,b,c⟩,d⟩:=h;exact ⟨s,lo,⟨M,N,b.mono a,c.mono a⟩,d⟩
def Qg (w:ZW) (e:ZT) (w':ZW):Prop:=e=Z4 (Z3 ZY)/\bW w w'
theorem ER (hr:vL D L G) (c:lost<18446744073709551616) (w:ZW) :
 ZU ZQ 13 #[.agg #[Z8 Z9 (D:Int),Z8 Z9 (L:Int),Z8 Z9 (G:Int)],Z8 .u64 lost] w (Kg D L G lost w):=by
 go_enter func13,ntmps13;go_wp2_with fail;refine (gI D L G lost hr.r hr.d hr.l1 hr.l4 hr.g hr.div c _).mono ?_;rintro e w1 ⟨b,rfl,h,a⟩;have H:=hide h;clear h;try change Below _ _ _ at a
 rw [nblk_alloc] at a;go_wp2;go_ret;exact ⟨b,rfl,H.out,(bA _ _).trans (a.mono (by omega))⟩
theorem ES {sv:ZV} {l:List pJ} (h:Se w sv l) (hs:∀ x∈l,x.s.size<=140737488355328/\x.d.length<=140737488355328) (a b c blocks:Int) (lost:Nat) (hn:lost<18446744073709551616) (x y:Int) (hg:cf w) (hv:bk w) (ht:aJ w) (hK:3<=w.heap.size) :
 ZU ZQ 4 #[sv,Z8 Z9 a,Z8 Z9 b,Z8 Z9 c,Z8 Z9 blocks,Z8 .u64 lost,Z8 Z9 x,Z8 Z9 y] w (Qg w):=by
 obtain ⟨r,xb,hb⟩:=pI blocks 400 (by decide) (by decide);have xf:wrap64 ((IntKind.u64.wrap blocks).tmod 400)=(r:Int):=by simpa using hb
 clear hb;have x1:=Iv h hs;obtain ⟨ao,cp,rfl,hi⟩:=h;have H:=hide4 hi hg hv ht;clear hi hg hv ht hs;go_enter func4,ntmps4;go_wp2_with fail;refine x1.mono ?_;rintro e w1 ⟨bb,rfl,V,ki⟩;clear x1;cases bb with
 | false=>
  have H1:=hide ki;clear ki V;go_wp2;go_ret;exact ⟨rfl,H1.out⟩
 | true=>
  obtain ⟨qp,x9⟩:=V rfl;have H1:=hide ki;clear ki V;go_wp2_with fail;refine (ND a b c w1).mono ?_;rintro e w2 ⟨D,L,G,rfl,hP,qb,qf⟩;have J:=hide2 hP (H1.out.trans (qf.mono H1.out.size));clear hP qf;go_wp2_with fail;obtain ⟨w3,kr⟩:=nM (w2.alloc (Z5 #[Z8 Z9 (D:Nat),Z8 Z9 (L:Nat),Z8 Z9 (G:Nat)] 25));have qg:bW w w3:=by rw [<- kr];exact J.out.2.alloc J.out.2.size _
  have qs:aw w3 w2.heap.size 25 [Z8 Z9 (D:Nat),Z8 Z9 (L:Nat),Z8 Z9 (G:Nat)]:=by rw [<- kr];exact heap_alloc_last w2 _
  rw [kr];have f:=hide2 qg qs;clear qg kr qs;refine (ER J.out.1 hn w3).mono ?_;rintro e w4 ⟨can,rfl,k9,U⟩;have km:=aw.keep f.out.2 (U.block _ (aw.lt f.out.2));have p0:=aw.cell km (j:=0) rfl;have Y:=aw.cell km (j:=1) rfl;have Z:=aw.cell km (j:=2) rfl;obtain ⟨pb,qx⟩:=nM (w2.heap.size);rw [qx] at p0 Y Z f ⊢;have P:=xU (nb:=8+r) (w:=w4) J.out.1 (by omega) (by omega) x (H.out.2.2.1.below (f.out.1.trans (U.mono f.out.1.size)) H.out.2.2.1.lt) (H.out.2.2.2.keep ((f.out.1.trans (U.mono f.out.1.size)).block _ H.out.2.2.2.lt)) (XG hK (f.out.1.trans (U.mono f.out.1.size)).size);rw [show ((8+r:Nat):Int)=8+(r:Int) by omega] at P;have H4:=hide3 U k9 P;clear U k9 P km qx;go_wp2_with fail;refine H4.out.2.2.mono ?_;rintro e w5 ⟨c1,_,_,ko⟩;have q0:∃ u,e=Z4 (Z1 #[Z7 (ZZ ⟨u,0,Z0⟩),Z3 ZY]):=by obtain ⟨wb,_,_,_,_,_,_,_,_,_,_,q,_⟩:=id ko;exact ⟨wb,q⟩
  have k8:bW w4 w5:=by obtain ⟨_,_,_,_,_,_,_,_,_,_,_,_,_,_,_,_,_,_,_,_,_,q,_⟩:=id ko;exact q
  obtain ⟨u1,rfl⟩:=q0;have ha:bW w3 w5:=H4.out.1.trans (k8.mono H4.out.1.size);have hh:=aw.keep f.out.2 (ha.block _ (aw.lt f.out.2));have p0:=aw.cell hh (j:=0) rfl;have Y:=aw.cell hh (j:=1) rfl;have Z:=aw.cell hh (j:=2) rfl;have P:=xU (nb:=8+r) (w:=w5) J.out.1 (by omega) (by omega) y (H.out.2.2.1.below (f.out.1.trans (ha.mono f.out.1.size)) H.out.2.2.1.lt) (H.out.2.2.2.keep ((f.out.1.trans (ha.mono f.out.1.size)).block _ H.out.2.2.2.lt)) (XG hK (f.out.1.trans (ha.mono f.out.1.size)).size);rw [show ((8+r:Nat):Int)=8+(r:Int) by omega] at P;have H5:=hide2 ko P;clear ko P k8 ha hh;go_wp2_with fail;refine H5.out.2.mono ?_;rintro e w6 ⟨B,_,_,qv⟩;obtain ⟨wb,sb,wb',sb',s0,q6,rfl,v⟩:=L9 H5.out.1 qv (w0:=w3) H4.out.1 (Below.refl _ _) (H.out.2.1.below f.out.1) (XG hK f.out.1.size);simp only [Ending.returned.injEq,Value.tuple.injEq] at q6;have xa:u1=wb:=by simpa using q6
  subst xa;have qc:PP w3 w6 u1 sb wb' sb' D L G (8+r) 1 c1 B lost:=⟨s0,_,v,λi q=>by cases q⟩;have H6:=hide qc;clear qc v q6 qv p0 Y Z;go_wp2_with fail;go_loopw [25] (λi wr=>Qf w3 u1 sb wb' sb' D L G (8+r) c1 B lost l i wr) (λi _=>l.length-(intOf i).toNat)
  case atStart=>exact ⟨0,XO _,rfl,H6.out⟩
  case round=>
   obtain ⟨k,hk,rfl,kh⟩:=hrel;have kz:bW w3 wr:=(by obtain ⟨_,_,q,_⟩:=id kh;exact q.base);have hr:bW w wr:=f.out.1.trans (kz.mono f.out.1.size);by_cases kk:k<l.length
   . obtain ⟨E,off,rfl,kj,qe⟩:=H.out.1 (λe=>by rw [e] at kk;simp at kk);obtain ⟨dv,r1,r2,r3,r4,r5⟩:=qe k kk;have q5:l[k].d.length<=100000:=by
      have h1:=rG l k kk;have h2:=Cs l (k+1);omega
     obtain ⟨o,ho⟩:=nM (l[k]);rw [ho] at r1 r2 r3 r5 q5;have q1:=(hr.cell (p:=⟨E,off+k*4,Z0⟩) kj).trans r1;have q2:=(hr.cell (p:=⟨E,off+k*4+1,Z0⟩) kj).trans r2;have q3:=(hr.cell (p:=⟨E,off+k*4+2,Z0⟩) kj).trans r3;have q4:=(hr.cell (p:=⟨E,off+k*4+3,Z0⟩) kj).trans r4;obtain ⟨M,O,x5,_⟩:=id r5;subst x5;have Q:=r5.mono f.out.1;obtain ⟨m,hm⟩:=nM (o.d.length);rw [hm] at q4 Q;have x8:(k:Int)<(l.length:Int):=(by omega);obtain ⟨w7,q9⟩:=nM (wr.alloc (Z5 #[Z8 Z9 o.kind,Z8 Z9 o.a,Z2 o.s,.slice M m O] 40));have qh:bW wr w7:=(by rw [<- q9];exact bA wr _);have k6:=kh.below qh;have hy:iu w7 wr.heap.size o (.slice M m O):=(by rw [<- q9];exact heap_alloc_last wr _);obtain ⟨ob,qq⟩:=nM (wr.heap.size);rw [qq] at hy;have F:=hide5 k6 hy Q q5 qq;clear k6 hy Q q5 kh kz hr r1 r2 r3 r4 r5 qe hm ho qh;go_upto_region 15 with fail;clear q1 q2 q3 q4 q9;go_cut [84] from 77 to 83 (λxd wx=>∃ bb,xd=Z3 bb/\(bb=ZY->can=ZY)/\wx=w7)
     case first=>
      cases h2:((k:Int)==(l.length:Int)/2) with
      | true=>
       cases can with
       | false=>
        go_wp2_with fail;go_meet
        case rel=>exact ⟨_,rfl,λe=>e,rfl⟩
       | true=>
        go_wp2_with fail;go_meet
        case rel=>exact ⟨_,rfl,λ_=>trivial,rfl⟩
      | false=>
       go_wp2_with fail;go_meet
       case rel=>exact ⟨ZX,rfl,λe=>(by cases e),rfl⟩
     case rest=>
      obtain ⟨bb,rfl,V,qa⟩:=hcut;have qa:=qa.symm;subst qa;go_upto_if 84 with fail;go_cut [27] from 85 to 107 (λ_ wx=>PP w3 wx u1 sb wb' sb' D L G (8+r) (1+2*k) c1 B lost/\iu wx ob o (.slice M m O))
      case first=>
       cases bb with
       | false=>
        go_wp2_with fail;go_meet
        case rel=>exact ⟨F.out.1,F.out.2.1⟩
       | true=>
        obtain ⟨N,t⟩:∃ N,N=D+L+G:=⟨_,rfl⟩;have k7:=J.out.1;have kv:N<=16:=(by rw [t];exact k7.s);have x0:∀ W,ZU ZQ 9 #[.agg #[Z8 Z9 (D:Int),Z8 Z9 (L:Int),Z8 Z9 (G:Int)]] W λe W'=>e=Z4 (Z8 Z9 (N:Int))/\bW W W':=λW=>by
         have:=k7.d;have:=k7.l4;have:=k7.g;rw [show (N:Int)=(D:Int)+L+G by omega];exact ep (D:Int) (L:Int) (G:Int) W ⟨by omega,by omega⟩ ⟨by omega,by omega⟩ ⟨by omega,by omega⟩
        have HC:=hide3 x0 t (H4.out.2.1.1 (V rfl));clear x0 k7 V t;go_wp2_with fail;go_loopw [27] (λi wr=>Ss w3 u1 sb wb' sb' D L G (8+r) (1+2*k) c1 B lost ob N o (.slice M m O) i wr) (λi _=>N-(intOf i).toNat)
        case atStart=>exact ⟨0,XO _,rfl,F.out.1,F.out.2.1⟩
        case round=>
         obtain ⟨j,hj,rfl,⟨s,lo,v,n⟩,hc⟩:=hrel;have kp:=aw.keep f.out.2 (v.base.block _ (aw.lt f.out.2));have p0:=aw.cell kp (j:=0) rfl;have Y:=aw.cell kp (j:=1) rfl;have Z:=aw.cell kp (j:=2) rfl;have HR:=hide3 v n hc;clear v n hc kp;go_wp2_with fail;refine (HC.out.1 _).mono ?_;rintro e w8 ⟨rfl,ky⟩;clear p0 Y Z;obtain ⟨v,n,hc⟩:=HR.out;obtain ⟨_,t,I⟩:=HC.out;have C:=v.below ky;have A:=(Kp.below ky).op hc;clear v hc ky;by_cases ka:j<N
         . have x6:(j:Int)<(N:Int):=(by omega);have qi:=Fb lost j hn;by_cases z:lost.testBit j=ZY
           . rw [show lost/2^j%2=1 by rwa [X4,decide_eq_true_eq] at z] at qi;obtain ⟨Y,qr,qj⟩:=yt C I n (t▸ka) z;have H8:=hide6 qj n A z I t;clear qj n A z I t C;go_wp2_with fail;refine H8.out.1.mono ?_;rintro e w9 ⟨rfl,T,qo⟩;obtain ⟨_,n,A,z,I,t⟩:=H8.out;obtain ⟨Z,xc,qk⟩:=yt T.swap I n (t▸ka) z;have H9:=hide2 qk (qo.op A);clear qk T qo n A z I t qr;go_wp2_with fail;refine H9.out.1.mono ?_;rintro e R ⟨rfl,h7,he⟩;obtain ⟨_,n,_,z,_⟩:=H8.out;have K:=hide (show PP w3 R u1 sb wb' sb' D L G (8+r) (1+2*k) c1 B lost/\iu R ob o (.slice M m O) from ⟨⟨s,_,h7.swap,λi q=>by
              by_cases e:i=j
              . rw [e];exact z
              . rw [if_neg e] at q;exact n i q⟩,he.op H9.out.2⟩)
             clear h7 he n z xc;go_wp2;go_roundw
             case rel=>exact ⟨j+1,by omega,by go_num,K.out⟩
             case measure=>simp [intOf];omega
           . rw [show lost/2^j%2=0 by
              rw [X4,decide_eq_true_eq] at z;omega] at qi
             have K:=hide (show PP w3 w8 u1 sb wb' sb' D L G (8+r) (1+2*k) c1 B lost/\iu w8 ob o (.slice M m O) from ⟨⟨s,lo,C,n⟩,A⟩);clear C n A I t z;go_wp2;go_roundw
             case rel=>exact ⟨j+1,by omega,by go_num,K.out⟩
             case measure=>simp [intOf];omega
         . have q8:j=N:=(by omega);subst q8;have K:=hide (show PP w3 w8 u1 sb wb' sb' D L G (8+r) (1+2*k) c1 B lost/\iu w8 ob o (.slice M m O) from ⟨⟨s,lo,C,n⟩,A⟩);clear C n A I t;go_wp2_with fail;go_meet
           case rel=>exact K.out
      case rest=>
       obtain ⟨kx,hf⟩:=hcut;rename ZW=>wx;obtain ⟨y0,y1,y2,y3⟩:=hf.cells;obtain ⟨s,lo,v,n⟩:=kx;by_cases h4:o.kind<=4
       . have x3:¬ (4:Int)<o.kind:=(by omega);have x2:=CB v o _ F.out.2.2.1 F.out.2.2.2.1 (by omega) qb h4;have HP:=hide2 hf n;clear hf n v;go_wp2_with fail;refine x2.mono ?_;rintro e w8 ⟨rfl,C,qn⟩;have A:=qn.op HP.out.1;obtain ⟨y0,y1,y2,y3⟩:=A.cells;have kf:=CB C.swap o _ F.out.2.2.1 F.out.2.2.2.1 (by omega) qb h4;clear x2 qn C A;go_wp2_with fail;refine kf.mono ?_;rintro e w9 ⟨rfl,T,_⟩;obtain ⟨s9,qz⟩:=nM (s.go D L G (8+r) lo o);rw [qz] at T;obtain ⟨p9,c9,qy⟩:=uU T.swap;clear kf y0 y1 y2 y3 T qz;go_wp2_with fail;refine qy.mono ?_;rintro e R ⟨g,cap,rfl,⟨cs,qm⟩,hg,h7,he⟩;obtain ⟨xg,hd,ke⟩:=uU h7.swap;have kg:=hide3 ke qm hg;clear qy c9 qm hg h7 he ke;go_wp2_with fail;refine kg.out.1.mono ?_;rintro e S ⟨g',xe,rfl,_,q7,hp,kc⟩;have hx:∀ j,j<D+L+G->S.cell? ⟨g,j,Z0⟩=ZZ (Z8 Z9 (s9.rs j)):=λj hj=>(World.cell?_of_block (kc g cs _ _ kg.out.2.1 (by unfold l9;decide))).trans (kg.out.2.2 j hj);obtain ⟨N,t⟩:∃ N,N=D+L+G:=⟨_,rfl⟩;have qd:∀ wx,bW S wx->Qf w3 u1 sb wb' sb' D L G (8+r) c1 B lost l (Z8 Z9 ((k:Int)+1)) wx:=λwx x4=>⟨k+1,by omega,rfl,PP.mono ⟨_,lo,(hp.swap).below x4,HP.out.2⟩ (by omega)⟩;have kv:N<=16:=(by rw [t];exact J.out.1.s);rw [<- t] at hx q7 ⊢;have ks:=hide3 qd hx q7;clear qd hx q7 hp kc hd t kg;go_wp2_with fail;go_loopw [30] (λi wr=>∃ j:Nat,j<=N/\i=Z8 Z9 (j:Nat)/\bW S wr) (λi _=>N-(intOf i).toNat)
         case atStart=>exact ⟨0,XO _,rfl,Below.refl _ _⟩
         case round=>
          obtain ⟨j,hj,rfl,X⟩:=hrel;by_cases ka:j<N
          . have e1:=ks.out.2.1 j ka;have e2:=ks.out.2.2 j ka;have e1:=(X.cell (block_lt_of_cell e1)).trans e1;have e2:=(X.cell (block_lt_of_cell e2)).trans e2;have x6:(j:Int)<(N:Int):=(by omega);have HB:=hide X;clear X;generalize s9.rs j=x at *;go_upto_region 32 with fail;go_quiet (fail);go_wp2;go_roundw
            case rel=>exact ⟨j+1,by omega,by go_num,HB.out.trans ⟨rfl,rfl,rfl,XJ _,λ_ _=>rfl⟩⟩
            case measure=>simp [intOf];omega
          . have q8:j=N:=(by omega);subst q8;have HB:=hide X;clear X;go_wp2;go_roundw
            case rel=>exact ks.out.1 _ HB.out
            case measure=>simp [intOf];omega
       . have x3:(4:Int)<o.kind:=(by omega);have K:=hide (show Qf w3 u1 sb wb' sb' D L G (8+r) c1 B lost l (Z8 Z9 ((k:Int)+1)) wx from ⟨k+1,by omega,rfl,PP.mono ⟨s,lo,v,n⟩ (by omega)⟩);clear h4 v n hf;go_wp2;exact ⟨K.out,by simp [intOf];omega⟩
   . have x7:k=l.length:=(by omega);subst x7;have HB:=hide hr;clear kh hr kz;go_wp2;go_ret;exact ⟨rfl,HB.out⟩
section
open Go.ChangeShapes Go.WideShapes Go.Joins
def Tryz.Vl:laidOutB ZQ=ZY:=by kernel_rfl
def Tryz.UO:ZQ.cellsOf 40=4:=by kernel_rfl
def Tryz.UY:ZQ.cellsOf 3=1:=by kernel_rfl
def Tryz.UT:ZQ.cellsOf 9=1:=by kernel_rfl
def Tryz.Uz:ZQ.cellsOf 34=1:=by kernel_rfl
def Tryz.UJ:ZQ.cellsOf 5=1:=by kernel_rfl
def Tryz.UD:ZQ.bytesOf 5=1:=by kernel_rfl
instance:Inhabited pJ:=⟨⟨0,0,Yi,[]⟩⟩
def xX:reachBytes=140737488351232:=rfl
def P3 {l:List ZV} (h:l.length=4):∃ a b c d,l=[a,b,c,d]:=by
 match l,h with
 | [a,b,c,d],_=>exact ⟨a,b,c,d,rfl⟩
def lx {P:Program} {e:ZS}:∀ {ds:List (DataW H)} {d:DataW H},d∈ds->∀ n∈d.weights P e,n∈DataW.weightsAll P e ds
 | c::ds,d,a,n,b=>by
  simp only [DataW.weightsAll,XS];rcases XR.1 a with rfl|a
  . exact .inl b
  . exact .inr (lx a n b)
theorem EL {enc:ZS×ZV->H} {v:ZV} {x:DataW H×List MemPlace} (h:DataW.trod enc ZQ W 0 (λ_=>ZY) ZY n 34 [v]=ZZ x) (u:∀ k∈x.1.weights ZQ 34,k<=reachBytes):∃ l:List Nat,Bs W v l:=by
 rcases open_ints underlying34 underlying5 Tryz.UJ h with ⟨c,_⟩|⟨a,len,cap,f,c,_,B,I,E,C,i,p⟩
 . simp at c;exact ⟨[],Z0,0,c,by simp,by simp,by simp,λh=>absurd rfl h⟩
 . simp at c;simp only [if_true] at E;subst C;have w:=u (f.length*1) (by
    simp only [DataW.weights,underlying34,lits,Tryz.UD];refine XR.2 (.inl ?_);simp only [XX,XU,XZ];omega)
   rw [xX] at w;have d:((f.take len).map Int.toNat).length=len:=(by simp;omega);refine ⟨(f.take len).map Int.toNat,ZZ a,cap,by rw [d];exact c,by rw [d];exact B,by rw [d];omega,λy D=>?_,λs=>?_⟩
   . obtain ⟨z,A,rfl⟩:=XI.1 D;have:=bounds_u8 (p z (Yt A));omega
   . have F:0<len:=by
      rcases Yw len with e|e
      . subst e;exact absurd rfl s
      . exact e
     obtain ⟨b,o,sp⟩:=a;have q:=i 0 (by omega);have t:sp=Z0:=(by simpa [Addr.add] using World.cell?_spot q);subst t;refine ⟨b,o,rfl,λk m=>?_⟩;have r:k<len:=(by rw [d] at m;exact m);have g:k<f.length:=(by omega);have j:=i k g;rw [add_plain] at j;rw [j];have G:=bounds_u8 (p _ (XL g));simp [g,r];omega
theorem EM {enc:ZS×ZV->H} {x:DataW H×List MemPlace} (h:DataW.trod enc ZQ W 0 (λ_=>ZY) ZY n 40 cs=ZZ x) (i:∀ k∈x.1.weights ZQ 40,k<=reachBytes) :
 ∃ o:pJ×ZV,cs=[Z8 Z9 o.1.kind,Z8 Z9 o.1.a,Z2 o.1.s,o.2]/\Bs W o.2 o.1.d/\o.1.s.size<=140737488355328:=by
 obtain ⟨p,q,r,t,m,rfl,l,u,w,y,j⟩:=trod_struct4 underlying40 h;rw [Tryz.UO] at l;obtain ⟨a,b,c,d,rfl⟩:=P3 l;obtain ⟨C,e,_,w0⟩:=DataW.trod_int underlying3 u;obtain ⟨D,f,_,w1⟩:=DataW.trod_int underlying3 w;obtain ⟨s,g,z,_⟩:=DataW.trod_string underlying9 y;rw [show ZQ.cellsOf 3=1 from Tryz.UY] at e f;rw [show ZQ.cellsOf 9=1 from Tryz.UT] at g;rw [show ZQ.cellsOf 34=1 from Tryz.Uz] at j;simp at e f g;subst e f g;simp only [DataW.weights,underlying40] at i;obtain ⟨dl,A⟩:=EL (v:=d) (by simpa using j) (λk B=>i k (by
  show k∈p.1.weights ZQ _++(q.1.weights ZQ _++(r.1.weights ZQ _++(t.1.weights ZQ 34++[])));simp only [XS];exact .inr (.inr (.inr (.inl B)))))
 refine ⟨(⟨C,D,s,dl⟩,d),rfl,A,?_⟩;have:=i s.size (by
  show s.size∈p.1.weights ZQ _++(q.1.weights ZQ _++(r.1.weights ZQ 9++(t.1.weights ZQ _++[])));simp only [XS];refine .inr (.inr (.inl ?_));rw [z];simp only [DataW.weights,XR];exact .inl (show s.data.size=s.data.toList.length from Yn.symm))
 rw [xX] at this;show s.size<=_;omega
theorem uT {enc:ZS×ZV->H} {len0 cap0:Nat} {d:DataW H} {ps:List MemPlace} (h:DataW.Trod enc ZQ W 0 (λ_=>ZY) ZY 22 (.slice ao len0 cap0) d ps) (A:∀ n∈d.weights ZQ 22,n<=reachBytes) :
 ∃ l:List pJ,Se W (.slice ao len0 cap0) l/\∀ x∈l,x.s.size<=140737488355328/\x.d.length<=140737488355328:=by
 obtain ⟨fuel,g⟩:=h;rcases open_slice underlying22 g with ⟨r,_⟩|⟨a,len,cap,m,S,D,P,r,_,Q,R,z,q,y⟩
 . simp [Value.cells] at r;obtain ⟨rfl,rfl,rfl⟩:=r;exact ⟨[],⟨Z0,0,rfl,λh=>absurd rfl h⟩,λx q=>(by cases q)⟩
 . simp [Value.cells] at r;obtain ⟨rfl,rfl,rfl⟩:=r;simp only [Prod.mk.injEq] at q;obtain ⟨rfl,_⟩:=q;simp only [DataW.weights,underlying22] at A;simp only [if_true] at z;have I:=z.symm;subst I;rw [Tryz.UO] at y;obtain ⟨f,g⟩:=choose_lt (α:=pJ×ZV) (n:=len0) (p:=λi s=>(∀ j,j<4->W.cell? ((a.add (i*4)).add j)=([Z8 Z9 s.1.kind,Z8 Z9 s.1.a,Z2 s.1.s,s.2]:List ZV)[j]?)/\Bs W s.2 s.1.d/\s.1.s.size<=140737488355328) (λi t=>by
    obtain ⟨E,F,G⟩:=y i (by omega);obtain ⟨s,rfl,hs⟩:=EM G (λk O=>A k (X0 _ (X1 _ (lx (d:=D i) (XI.2 ⟨i,XW.2 t,rfl⟩) k O))));obtain ⟨_,_,c⟩:=World.cells?_some F;exact ⟨s,c,hs⟩)
   obtain ⟨b,o,sp⟩:=a;refine ⟨(XN len0).map λi=>(f i).1,⟨ZZ ⟨b,o,sp⟩,cap0,by simp,λM=>?_⟩,λx q=>?_⟩
   . have v:0<len0:=by
      rcases Yw len0 with e|e
      . subst e;exact absurd rfl M
      . exact e
     have J:=(g 0 v).1 0 (by decide);have N:sp=Z0:=by
      have:W.cell? (((⟨b,o,sp⟩:Addr).add (0*4)).add 0)=ZZ (Z8 Z9 (f 0).1.kind):=J;simpa [Addr.add] using World.cell?_spot this
     subst N;have w:=(g 0 v).1 0 (by decide);rw [add_plain,add_plain] at w;refine ⟨b,o,rfl,block_lt_of_cell (show W.cell? _=ZZ _ from w),λi t=>?_⟩;have K:i<len0:=(by simpa using t);obtain ⟨c,u,_⟩:=g i K;have B:=c 0 (by decide);have q1:=c 1 (by decide);have q2:=c 2 (by decide);have C:=c 3 (by decide);rw [add_plain,add_plain] at B q1 q2 C;simp only [Ym,List.getElem_range];exact ⟨(f i).2,B,q1,q2,C,u⟩
   . obtain ⟨i,t,rfl⟩:=XI.1 q;obtain ⟨_,u,hs⟩:=g i (by simpa using t);obtain ⟨_,_,_,_,L,_⟩:=u;exact ⟨hs,L⟩
end
