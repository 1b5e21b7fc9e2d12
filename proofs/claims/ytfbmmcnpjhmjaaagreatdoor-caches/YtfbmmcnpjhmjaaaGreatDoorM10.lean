import Derived.Test.YtfbmmcnpjhmjaaaGreatDoorM09
set_option maxRecDepth 100000
set_option linter.defProp false
set_option maxHeartbeats 8000000
open Go.IntKind renaming i64 -> Z9
open Go.Value renaming int -> Z8, pointer -> Z7, slice -> Z6, bool -> Z3, string -> Z1, tuple -> Z0
open Go.Obj renaming cells -> Z5
open Go.Ending renaming returned -> Z4
open Go.Operand renaming tmp -> Z2
open Option renaming none -> ZZ, some -> ZY
open Bool renaming true -> ZX, false -> ZW
open Go renaming World -> ZV, Value -> ZU, Calls -> ZT, Boxed -> ZS
open Nat renaming le_trans -> XG, le_refl -> XL, lt_of_lt_of_le -> XO, testBit_two_pow_sub_one -> XR, eq_of_testBit_eq -> XZ, two_pow_pos -> X0
open List renaming mem_cons -> XH, nodup_cons -> XI, mem_cons_of_mem -> XJ, mem_map -> XK, mem_cons_self -> XN, mem_append_left -> XP, mem_append -> XQ, map_append -> XS, getElem_mem -> XT, length_take -> XU, getElem_of_mem -> XV, nodup_append -> XW, mem_singleton -> XY, getElem?_eq_getElem -> X3, sum_append -> X4, length_pos_iff -> X5, mem_of_mem_take -> X7, length_append -> X8, mem_append_right -> Ya, pairwise_iff_getElem -> Yb, mem_eraseIdx_iff_getElem -> Yc
open Array renaming getElem?_eq_some_iff -> XM
open List.Nodup renaming sublist -> XX
open Int renaming tmod_eq_emod_of_nonneg -> X1, natCast_emod -> X2, natCast_add -> X6
open Option.some renaming injEq -> X9
open Go.Proofs.YtfbmmcnpjhmjaaaGreatDoor renaming pgs -> Yd
open Go.Proofs.Tryz renaming prog -> ZR
open Go.Proofs.Tryz
namespace Go.Proofs.YtfbmmcnpjhmjaaaGreatDoor
open Go.RowKit Go.Deep Go.Shelf Gf
variable {A:ay} {C:Ck} {F:bh} {room cache:Int} {ps ps':cA} {Kind:cA->Prop} {es:List (Nat×Nat×Nat)} {l P:List Nat} {D L G lost sb ar v p ho q wb s blocks t b B sa m k:Nat} {pl:Nat->Nat} {R:Nat->Option aX} {K:Nat->Prop} {xs:aS} {ao:Option Addr} {a u r out want pg ob c a' b' c':ZU} {w w2 w3 w' w7 w8 wx:ZV}
section
structure vM (w w2:ZV) (D L G lost:Int):Prop where
 par:w2.heap[w.heap.size]?=ZY (Z5 #[Z8 Z9 D,Z8 Z9 L,Z8 Z9 G,Z8 .u64 lost,Z3 ZX] 228 (0,0))
 res:w2.heap[w.heap.size+1]?=ZY (Z5 #[Z8 Z9 0,Z6 ZZ 0 0] 210 (0,0))
 below:bW w w2
 size:w.heap.size+2<=w2.heap.size
def vM.new (w:ZV) (D L G lost:Int):vM w ((w.alloc (Z5 #[Z8 Z9 D,Z8 Z9 L,Z8 Z9 G,Z8 .u64 lost,Z3 ZX] 228)).alloc (Z5 #[Z8 Z9 0,Z6 ZZ 0 0] 210)) D L G lost:=by
 refine ⟨(blk_alloc_lt _ _ _ (by simp)).trans (blk_alloc_new _ _),?_,(bA w _).alloc (by simp) _,by simp⟩;have:=blk_alloc_new (w.alloc (Z5 #[Z8 Z9 D,Z8 Z9 L,Z8 Z9 G,Z8 .u64 lost,Z3 ZX] 228)) (Z5 #[Z8 Z9 0,Z6 ZZ 0 0] 210);rwa [World.size_alloc] at this
def vM.mono {D L G lost:Int} (h:vM w w2 D L G lost) (a:bW w2 w3):vM w w3 D L G lost:=by
 have:=h.size;exact ⟨(a.block _ (by omega)).trans h.par,(a.block _ (by omega)).trans h.res,h.below.trans (a.mono h.below.size),XG h.size a.size⟩
def vM.cells {D L G lost:Int} (h:vM w w2 D L G lost):w2.cell? ⟨w.heap.size,0,ZZ⟩=ZY (Z8 Z9 D)/\w2.cell? ⟨w.heap.size,1,ZZ⟩=ZY (Z8 Z9 L)/\w2.cell? ⟨w.heap.size,2,ZZ⟩=ZY (Z8 Z9 G)/\w2.cell? ⟨w.heap.size,3,ZZ⟩=ZY (Z8 .u64 lost)/\w2.cell? ⟨w.heap.size,4,ZZ⟩=ZY (Z3 ZX):=by
 have a:=h.par;simp [World.cell?,a]
def aa.after {T:Nat->Prop} (a:bW w w2) (b:aa T w2 w3):aa T w w3:=⟨b.os.trans a.os,b.tape.trans a.tape,b.output.trans a.output,XG a.size b.size,λk c d=>(b.block k (XO c a.size) d).trans (a.block k c)⟩
section
variable (D L G lost:Nat) (hr:bU D L G=ZX) (hD1:1<=D) (hD:D<=12) (hL:1<=L) (hL4:L<=4) (hG:G<=4) (hdiv:D%L=0) (h16:D+L+G<=16) (hl:lost<2^(D+L+G)) (hT0:∃ C,tells (fw D L G) (ab lost)=ZY C)
include hr hD1 hD hL hL4 hG hdiv h16 hl hT0
theorem Ly (w:ZV) (r:aJ w) (F:3<=w.heap.size):ZT ZR 168 #[bP D L G lost ZX] w (Eg D L G lost w (λ_=>False)):=by
 have a:=vM.new w D L G lost;obtain ⟨w2,o⟩:=nM ((w.alloc (Z5 #[Z8 Z9 (D:Int),Z8 Z9 (L:Int),Z8 Z9 (G:Int),Z8 .u64 (lost:Int),Z3 ZX] 228)).alloc (Z5 #[Z8 Z9 0,Z6 ZZ 0 0] 210));rw [o] at a;obtain ⟨y,c1,A,B,E⟩:=a.cells;have n:=Ei D L G lost hr hD1 hD hL hL4 hG hdiv h16 hl hT0 w2 (r.mono (by omega) a.below) (XG F a.below.size);have H:=hide2 a n;clear a n r;unfold bP;go_enter func168,ntmps168;go_wp2_with fail;refine H.out.2.mono ?_;rintro e w3 ⟨s,C,h,i,ao,m,c,rfl,d,g⟩;obtain ⟨z,j⟩:∃ z:Int,1+((ab (av (D+L+G) s)).length:Int)=z:=⟨_,rfl⟩;have x:=hide j;rw [j];have a:=H.out.1;have t:=a.size;have f:=(g.block (w.heap.size+1) (by omega) (λq=>q)).trans a.res;obtain ⟨O,P,g1,N⟩:=aG f;have u:=hide6 d g f t h i;clear d g f y c1 A B E o a h i j;go_wp2;obtain ⟨d,g,f,t,h,i⟩:=u.out;obtain ⟨n0,M,_⟩:=aG (ll (y':=.slice ao m c) (lj (x':=Z8 Z9 z) f));have l:(Value.slice ao m c).ownBlock≠ZY (w.heap.size+1):=λe=>by have:=jY d e;omega
 have I:=(d.kept (dm w3 (w.heap.size+1) 0 (Z8 Z9 z)) (.inr l)).kept (dm _ (w.heap.size+1) 1 (.slice ao m c)) (.inr l);refine bodyPost_ret (v:=Z0 #[.agg #[Z8 Z9 z,.slice ao m c],.nilIface]) (by simp [results,results168,go_sem,n0,M]) rfl ?_;have b:aa (λ_=>False) w w3:=aa.after H.out.1.below g;have J:bW w w3:=⟨b.os,b.tape,b.output,b.size,λk K=>b.block k K (λq=>q)⟩;exact ⟨s,C,h,i,ao,m,c,by rw [x.out],fZ I (by omega),aa.TG ((J.setCell (p:=⟨w.heap.size+1,0,ZZ⟩) (by show w.heap.size<=w.heap.size+1;omega) _).setCell (p:=⟨w.heap.size+1,1,ZZ⟩) (by show w.heap.size<=w.heap.size+1;omega) _) _⟩
end
def uJ (sb:Nat) (room:Int) (ho:Nat):cA where
 ps:=sb+1+1+1
 ho:=ho
 bl:=λk=>sb<=k/\k<=sb+1+1+1
 S:=λw=>jA w sb room
 keep:=λw w' h hk=>h.keep λk h1 h2=>hk k ⟨h1,h2⟩
 kd:=λw h k hk cs T z e=>by
  obtain ⟨h1,h2⟩:=hk
  have hx:k=sb\/k=sb+1\/k=sb+1+1\/k=sb+1+1+1:=by omega
  rcases hx with rfl|rfl|rfl|rfl
  . rw [h.ends] at e;injection e with e;injection e with _ e;exact .inr (.inr (.inl e.symm))
  . obtain ⟨n,q⟩:=h.map;rw [q] at e;injection e with e;cases e
  . rw [h.list] at e;injection e with e;injection e with _ e;exact .inr (.inl e.symm)
  . rw [h.TV] at e;injection e with e;injection e with _ e;exact .inl e.symm
 lt:=λw h k hk=>by have:=h.lt;omega
def jK (D L G s:Nat) (ao:Option Addr) (m c:Nat) (e:Ending):Prop:=e=Z4 (Z0 #[.agg #[Z8 Z9 (1+((ab (av (D+L+G) s)).length:Int)),.slice ao m c],.nilIface])
def jA.parts (h:jA w sb room):fG w sb room/\(∃ n,w.heap[sb+1]?=ZY (.map #[] n))/\QT w sb sb/\w.cell? ⟨sb+1+1+1,0,ZZ⟩=ZY (Z7 (ZY ⟨sb+1+1,0,ZZ⟩)):=by
 refine ⟨h.list,h.map,h.ends,?_⟩;have a:=h.TV;simp [World.cell?,a]
section
variable (D L G lost:Nat) (hr:bU D L G=ZX) (hD1:1<=D) (hD:D<=12) (hL:1<=L) (hL4:L<=4) (hG:G<=4) (hdiv:D%L=0) (h16:D+L+G<=16) (hl:lost<2^(D+L+G)) (hT0:∃ C,tells (fw D L G) (ab lost)=ZY C)
include hr hD1 hD hL hL4 hG hdiv h16 hl hT0
omit hr hD1 hD hL hL4 hG hdiv h16 hl hT0 in
end
end
def pG:∀ k,(∀ i,i<k->R i=ZY .blank)->cy R k=⟨0,0,0,0,0,0⟩
 | 0,_=>rfl
 | k+1,h=>by
  show ud (cy R k) (R k)=_;rw [h k (by omega),pG k λi a=>h i (by omega)];rfl
def or_pow (k:Nat):(2^k-1)|||2^k=2^(k+1)-1:=by
 refine XZ λi=>?_;rw [Nat.testBit_or,XR,XR,Nat.testBit_two_pow];by_cases h:k=i
 . subst h;simp
 . by_cases a:i<k
   . simp [a];omega
   . simp [h,a];omega
def ni:∀ k,(∀ i,i<k->R i=ZY .blank)->fI R k=2^k-1
 | 0,_=>rfl
 | k+1,h=>by
  show K8 (fI R k) k (R k)=_;rw [h k (by omega),ni k λi a=>h i (by omega)];exact or_pow k
def Ii (hD:D<=12) (hG:G<=4) (h:∀ i,i<D+L+G->lost/2^i%2=0):qt D L G lost:=by
 have a:∀ k,k<=D+L+G->cnt lost k=0:=by
  intro k b;induction k with
  | zero=>rfl
  | succ k ih=>rw [JW,ih (by omega),h k (by omega)];rfl
 exact JZ D L G lost hD hG (og (λl hl=>oR D L G hD hG l (tg _ _ _ (by rw [dj];omega) l hl)) 0) (by rw [a _ lR];omega)
def Ij {n i:Nat} (c:n<=60) (b:i<n):(18446744073709551615-(2^n-1))/2^i%2=0:=by
 have a:18446744073709551615-(2^n-1)=2^(i+1)*(2^(63-i)-2^(n-i-1)):=by
  rw [Nat.mul_sub,<- Nat.pow_add,<- Nat.pow_add,show i+1+(63-i)=64 by omega,show i+1+(n-i-1)=n by omega];have:0<2^n:=X0 n;omega
 rw [a,Nat.pow_succ,Nat.mul_assoc,Nat.mul_div_cancel_left _ (X0 i),Nat.mul_mod_right]
def Nv (x:Nat) (h:x<2^64):(2^64-1)^^^x=2^64-1-x:=by
 refine XZ λi=>?_;rw [Nat.testBit_xor,XR,show 2^64-1-x=2^64-(x+1) by omega,Nat.testBit_two_pow_sub_succ h];by_cases a:i<64
 . simp [a]
 . have:x.testBit i=ZW:=Nat.testBit_lt_two_pow (XO h (Nat.pow_le_pow_right (by decide) (by omega)));simp [a,this]
def Nw (x:Nat) (h:x<18446744073709551616):bits .xor .u64 IntKind.u64.max (x:Int)=((18446744073709551615-x:Nat):Int):=by
 have:=bits_xor_u64_nat 18446744073709551615 x (by decide) h;rw [show (18446744073709551615:Nat)=2^64-1 by decide,Nv x (by omega)] at this;exact this
theorem LB {ps:Nat} (T:bM w ar v 0 0 0 0 0 0 (Z6 ZZ 0 0) (Z6 ZZ 0 0) ZW) (hV:nF w v p D L G ps ho A F) (S:jT F p A.n v) (kj:¬ F.has p A.n ar) (hf:A.fit) (B:A.n=D+L+G) (hr:bU D L G=ZX) (kx:1<=D) (hD:D<=12) (hL:1<=L) (U:L<=4) (hG:G<=4) (hs:D%L=0) (kv:D+L+G<=16)
 (kz:3<=A.nb) (hw:A.wait<0) (h6:∀ i,A.lost i=ZW) (k6:∀ d,A.bad d 0=ZW) (hz:∀ i,i<A.n->A.blk i 0=zb) :
 ZT ZR 68 #[Z7 (ZY ⟨ar,0,ZZ⟩)] w λe w'=>e=Z4 .nilIface/\aq w' p (fj (A.TL A.n) D L G) F/\(∃ u,bM w' ar v D L G 1 2 0 u (Z6 ZZ 0 0) ZW/\bN (λk=>w.heap.size<=k) w' u [2])/\aa (λk=>k=ar\/F.has p A.n k) w w':=by
 obtain ⟨c0,_⟩:=T.cells;have kr:=vq hV S hf 0 B hD U hG (by omega) (by omega) h6 k6 (λ_=>.blank) (λ_=>trivial) (λ_=>An) hz;go_enter func68,ntmps68;go_wp2_with fail;refine kr.mono ?_;rintro e w1 ⟨g,rfl,hg,j,ka,l⟩;have y:=T.keep (l.block _ T.lt kj);have J:=hV.turn S l ka;have hy:A.n<=16:=by omega
 obtain ⟨N,h⟩:=nM (A.n);have Y:=zL (N:=A.n) (λ_=>ZY .blank) (by omega) (w:=w1) j;rw [pG _ (λ_ _=>rfl),show Hl ⟨0,0,0,0,0,0⟩=aQ 0 0 0 0 0 0 from rfl,h] at Y;have H1:=hide7 y J l j Y h B;rw [h] at hy;clear y J l j Y ka kr B;rw [h];clear h;go_wp2_with fail;refine H1.out.2.2.2.2.1.mono ?_;rintro e w2 ⟨rfl,V⟩;have q2:=xw;obtain ⟨y,J,l,j,_,h,B⟩:=H1.out;have z:bW w1 (fJ w2 0 0 0 0 0 0):=V.trans ((eW w2 0 0 0 0 0 0).mono V.size);have b:=y.keep (z.block _ y.lt);have x:=J.below z lR;have o:=j.of_block (z.block g j.lt);have Z:=ug w2 0 0 0 0 0 0;obtain ⟨w3,k9⟩:=nM (fJ w2 0 0 0 0 0 0);rw [k9] at z b x o Z;have c5:w3.cell? ⟨w2.heap.size,3,ZZ⟩=ZY (Z8 .u64 0):=by simp [World.cell?,Z,aQ]
 obtain ⟨d0,_⟩:=b.cells;have I:aa (F.has p A.n) w w3:=l.trans (aa.TG z _);have H3:=hide5 b x o I k9;clear y J l j V z b x o Z I k9 c0;go_wp2_with (show wpList _ _ _ ({ dst:=ZZ,op:=Op.store 117 (Z2 4) (Z2 11),type:=_,pos:=_,after:=_,guard:=_ }::_) _ _;refine nU (w:=w2) (D:=0) (L:=0) (G:=0) (t:=0) (f:=0) (n:=0) rfl (Z2 4) (Z2 11) rfl (by rfl) (by rfl) ?_;rw [H3.out.2.2.2.2]);go_quiet (fail);have s:bW w3 (w3.drewN nq):=⟨rfl,rfl,rfl,XL _,λ_ _=>rfl⟩;have E:(w3.drewN nq).cell? ⟨w2.heap.size,3,ZZ⟩=ZY (Z8 .u64 0):=c5;have H:(w3.drewN nq).cell? ⟨ar,0,ZZ⟩=ZY (Z7 (ZY ⟨v,0,ZZ⟩)):=d0;obtain ⟨w4,ks⟩:=nM (w3.drewN nq);rw [ks] at s E H ⊢;obtain ⟨b,x,o,I,_⟩:=H3.out;have c:=b.keep (s.block _ b.lt);have r:=x.below s lR;have a:=o.of_block (s.block g o.lt);have m:aa (F.has p A.n) w w4:=I.trans (aa.TG s _);have P:=hide4 c r a m;clear b x o I c r a m s c5 d0 ks;go_wp2_with fail;refine (vw P.out.2.1.vol).mono ?_;rintro e w5 ⟨rfl,W⟩;obtain ⟨c,r,a,m⟩:=P.out;have kf:=a.of_block (W.block g a.lt);have O:=Ee (N:=A.n) (λ_=>ZY .blank) (by omega) (w:=w5) kf;rw [ni _ (λ_ _=>rfl),h] at O;obtain ⟨X,M⟩:=nM (2^N-1);have ky:X<18446744073709551616:=by rw [<- M];have:=JK (k:=N) (by omega);omega
 have key:=Nw X ky;rw [M] at O;have hT:qt D L G (18446744073709551615-X):=Ii hD hG λi hi=>by rw [<- M];exact Ij (by omega) (by omega)
 have C:=hide4 W O hT B;clear c r a m W kf O M hT B h;go_wp2_with fail;refine C.out.2.1.mono ?_;rintro e w6 ⟨rfl,kk⟩;have hq:bW w4 w6:=C.out.1.trans (kk.mono C.out.1.size);have H6:=hide hq;clear hq kk;go_wp2_with fail;refine (gI D L G (18446744073709551615-X) hr hD hL U hG hs (by omega) w6).mono ?_;rintro e w7 ⟨bb,rfl,ko,km⟩;rw [ko.2 C.out.2.2.1];obtain ⟨c,r,a,m⟩:=P.out;have K:bW w4 w7:=H6.out.trans (km.mono H6.out.size);have kh:=c.keep (K.block _ c.lt);have kg:=r.below K lR;have kp:=Hg kh kg S kj (hf.TL _) C.out.2.2.2 hr kx hD hL U hG hs kv kz hw h6;have kc:aa (F.has p A.n) w w7:=m.trans (aa.TG K _);have Q:=hide2 kp kc;clear c r a m K kh kg kp kc ko km E H key;go_wp2_with fail;refine Q.out.1.mono ?_;rintro e w8 ⟨rfl,kb,ki,ke⟩;have R:=hide3 kb ki ke;clear kb ki ke;go_wp2;go_ret;obtain ⟨u,q0,q1⟩:=R.out.2.1;exact ⟨rfl,R.out.1,⟨u,q0,q1.weaken λk hk=>XG Q.out.2.size hk⟩,(Q.out.2.mono λ_ _ q=>.inr q).trans R.out.2.2⟩
noncomputable def SX:Array Oper:=((Tryz.f44.body.bind (mW · 6))).getD #[]
def Sa:List (Op×Option Nat×List Nat):=[(Op.move (Z2 0),ZY 24,[]),
 (Op.call { callee:=Callee.value (Operand.func 66),args:=#[Z2 24],argTypes:=#[31] },ZY 25,[0]),
 (Op.load 25 (Z2 4),ZY 26,[]),
 (Op.call { callee:=Callee.value (Operand.func 9),args:=#[Z2 26],argTypes:=#[25] },ZY 27,[2,1]),
 (Op.binOp BinOp.neq 3 (Z2 25) (Z2 27) 3,ZY 28,[1,3]),
 (Op.assign (Z2 28),ZY 21,[4,3])]
def Ik:aN SX 21 29 Sa:=bx (by kernel_rfl) (by kernel_rfl)
def Sb (p n:Nat) (D L G:Nat):List ZU:=[Z7 (ZY ⟨p,0,ZZ⟩),Z8 Z9 n,.agg #[Z8 Z9 D,Z8 Z9 L,Z8 Z9 G],Z8 Z9 ((D+L+G:Nat):Int),Z3 (!decide (n=D+L+G)),Z3 (!decide (n=D+L+G))]
theorem Ci {ops:Array Oper} {Q:Exit->Act->ZV->Prop} {a:Act} (C:SX=ops) (h:aq w p A F) (N:A.fit) (y:w.heap[q]?=ZY (Z5 #[Z8 Z9 (D:Int),Z8 Z9 (L:Int),Z8 Z9 (G:Int)] 25 (0,0))) (hD:D<=12) (hL:L<=4) (hG:G<=4) (S:a.tmps.size=48)
 (z:a.eval (Z2 0)=Z7 (ZY ⟨p,0,ZZ⟩)) (B:a.eval (Z2 4)=Z7 (ZY ⟨q,0,ZZ⟩))
 (K:∀ (w':ZV),bW w w'->Q .normal (Act.putFrom a 21 [Z3 (!decide (A.n=D+L+G)),a.eval (Z2 22),a.eval (Z2 23),Z7 (ZY ⟨p,0,ZZ⟩),Z8 Z9 A.n,.agg #[Z8 Z9 D,Z8 Z9 L,Z8 Z9 G],Z8 Z9 ((D+L+G:Nat):Int),Z3 (!decide (A.n=D+L+G))]) w'):(Code.region 6 ops ZX).wp ZR Q a w:=by
 subst C;have J:q<w.heap.size:=(XM.1 y).1;have R:=N.n;refine cU (by kernel_rfl) Ik a w (by omega) (λi u _=>u=(Sb p A.n D L G).getD i undef) (λ_ w'=>bW w w') ((Below.refl _ w).drew) ?_ ?_
 . intro i s;match i,s with
   | 0,_=>exact λo a' w' k r ho d j l m g c b=>ae (ag ho ((j.slot 0 (by omega)).trans z) w') d ⟨c,rfl,kq⟩
   | 1,_=>
    intro o a' w' k r ho d j l m g c b;have u0:a'.eval (Z2 24)=Z7 (ZY ⟨p,0,ZZ⟩):=b 0 (g 0 (by decide));refine dD (f:=66) (args:=#[Z7 (ZY ⟨p,0,ZZ⟩)]) (w1:=w') (by simp only [execOp,show o.op=Op.call { callee:=Callee.value (Operand.func 66),args:=#[Z2 24],argTypes:=#[31] } from ho];go_simp;simpa [Act.eval] using u0) d (DE (h.below c lR)) ?_;rintro e t ⟨rfl,rfl⟩;exact ⟨_,rfl,c,rfl,kq⟩
   | 2,_=>
    intro o a' w' k r ho d j l m g c b;have u0:a'.eval (Z2 4)=Z7 (ZY ⟨q,0,ZZ⟩):=(j.slot 4 (by omega)).trans B;have I:w'.heap[q]?=_:=(c.block q J).trans y;have H:(Instr.loadAt 25 (Z7 (ZY ⟨q,0,ZZ⟩))).run ZR w'=.ok (.agg #[Z8 Z9 (D:Int),Z8 Z9 (L:Int),Z8 Z9 (G:Int)]) w':=by
     simp only [Instr.loadAt,Instr.sureAddr,Sem.run_bind,Sem.run_pure,Result.andThen_ok,run_loadVar_row w' q 25 25 #[Z8 Z9 (D:Int),Z8 Z9 (L:Int),Z8 Z9 (G:Int)] (0,0) _ I underlying25 rfl (by kernel_rfl)]
    exact ae (v:=.agg #[Z8 Z9 D,Z8 Z9 L,Z8 Z9 G]) (by simp [execOp,show o.op=Op.load 25 (Z2 4) from ho,u0,H]) d ⟨c,rfl,kq⟩
   | 3,_=>
    intro o a' w' k r ho d j l m g c b;have u0:a'.eval (Z2 26)=.agg #[Z8 Z9 D,Z8 Z9 L,Z8 Z9 G]:=b 2 (g 2 (by decide));refine dD (f:=9) (args:=#[.agg #[Z8 Z9 D,Z8 Z9 L,Z8 Z9 G]]) (w1:=w') (by simp only [execOp,show o.op=Op.call { callee:=Callee.value (Operand.func 9),args:=#[Z2 26],argTypes:=#[25] } from ho];go_simp;simpa [Act.eval] using u0) d (ep (D:Int) (L:Int) (G:Int) w' ⟨by omega,by omega⟩ ⟨by omega,by omega⟩ ⟨by omega,by omega⟩) ?_;rintro e t ⟨rfl,M⟩;exact ⟨_,rfl,c.trans (M.mono c.size),by show Value.int .i64 ((D:Int)+L+G)=Z8 Z9 ((D+L+G:Nat):Int);congr 1,kq⟩
   | 4,_=>
    intro o a' w' k r ho d j l m g c b;have u0:a'.eval (Z2 25)=Z8 Z9 (A.n:Nat):=b 1 (g 1 (by decide));have u1:a'.eval (Z2 27)=Z8 Z9 ((D+L+G:Nat):Int):=b 3 (g 3 (by decide));refine ae (v:=Z3 (!decide (A.n=D+L+G))) ?_ d ⟨c,rfl,kq⟩;simp only [execOp,show o.op=Op.binOp BinOp.neq 3 (Z2 25) (Z2 27) 3 from ho,u0,u1];by_cases e:A.n=D+L+G
    . rw [e];go_simp
    . have O:¬ ((A.n:Nat):Int)=((D+L+G:Nat):Int):=(by omega);rw [decide_eq_false e];generalize ((D+L+G:Nat):Int)=q at *;go_simp
   | 5,_=>
    intro o a' w' k r ho d j l m g c b;have u0:a'.eval (Z2 28)=Z3 (!decide (A.n=D+L+G)):=b 4 (g 4 (by decide));exact ae (v:=Z3 (!decide (A.n=D+L+G))) (by simp [execOp,show o.op=Op.assign (Z2 28) from ho,u0]) d ⟨c,rfl,kq⟩
   | n+6,hn=>exact absurd hn (by show ¬ n+6<6;omega)
 . rintro a' w' E x ⟨k,P,c⟩ b;have e:a'=Act.putFrom a 21 [Z3 (!decide (A.n=D+L+G)),a.eval (Z2 22),a.eval (Z2 23),Z7 (ZY ⟨p,0,ZZ⟩),Z8 Z9 A.n,.agg #[Z8 Z9 D,Z8 Z9 L,Z8 Z9 G],Z8 Z9 ((D+L+G:Nat):Int),Z3 (!decide (A.n=D+L+G))]:=E.out _ rfl (by omega) (λi s=>?_)
   . rw [e];exact K w' c
   . match i,s with
     | 0,_=>exact b 5 (by decide)
     | 1,_=>exact x 22 (by decide)
     | 2,_=>exact x 23 (by decide)
     | 3,_=>exact b 0 (by decide)
     | 4,_=>exact b 1 (by decide)
     | 5,_=>exact b 2 (by decide)
     | 6,_=>exact b 3 (by decide)
     | 7,_=>exact b 4 (by decide)
     | n+8,hn=>exact absurd hn (by simp)
structure zY (w w':ZV) (p D L G ar v ps:Nat) (u:ZU) (A:ay) (F:bh) (cache:Int):Prop where
 VU:w.heap.size<=ar
 Wi:w.heap.size<=v
 TR:bM w' ar v D L G 1 2 0 u (Z6 ZZ 0 0) ZW
 pg:bN (λk=>w.heap.size<=k/\ar<k) w' u [2]
 vol:nF w' v p D L G ps 0 (fj (A.TL A.n) D L G) F
 out:aa (F.has p A.n) w w'
 sh:∃ sb,ps=sb+1+1+1/\w.heap.size<=sb/\ps<v/\v<ar/\jA w' sb cache
theorem LC (h:aq w p A F) (hf:A.fit) (hn:A.n=D+L+G) (hr:bU D L G=ZX) (qb:1<=D) (hD:D<=12) (hL:1<=L) (q4:L<=4) (hG:G<=4) (kj:D%L=0) (qa:D+L+G<=16) (qm:0<=cache) (qn:cache<=64)
 (qp:8<=A.nb) (hw:A.wait<0) (k9:∀ i,A.lost i=ZW) (ki:∀ d,A.bad d 0=ZW) (hz:∀ i,i<A.n->A.blk i 0=zb) (X:bk w) (W:aJ w) (hK:3<=w.heap.size) (kx:¬ F.has p A.n 2) (ky:¬ F.has p A.n 1) :
 ZT ZR 44 #[Z7 (ZY ⟨p,0,ZZ⟩),.agg #[Z8 Z9 D,Z8 Z9 L,Z8 Z9 G],.agg #[Z8 Z9 cache]] w λe w'=>∃ ar v ps u,e=Z4 (Z0 #[Z7 (ZY ⟨ar,0,ZZ⟩),.nilIface])/\zY w w' p D L G ar v ps u A F cache:=by
 have qo:∀ (fn:Fn) (first cap:Array ZU) (w:ZV),(Instr.makeFunc fn first cap).run ZR w=.ok (.func fn first cap) w:=λ_ _ _ _=>rfl;have qc:∀ (args:Array ZU) (w:ZV),(callFunc 68 args).run ZR w=.ok (.enter 68 args) w:=enters_of func68 (by kernel_rfl) rfl;have l:((w.alloc (Z5 #[Z8 Z9 (D:Int),Z8 Z9 (L:Int),Z8 Z9 (G:Int)] 25)).alloc (Z5 #[Z8 Z9 cache] 86)).heap[w.heap.size]?=ZY (Z5 #[Z8 Z9 (D:Int),Z8 Z9 (L:Int),Z8 Z9 (G:Int)] 25 (0,0)):=(blk_alloc_lt _ _ _ (by simp)).trans (blk_alloc_new _ _);have ho:((w.alloc (Z5 #[Z8 Z9 (D:Int),Z8 Z9 (L:Int),Z8 Z9 (G:Int)] 25)).alloc (Z5 #[Z8 Z9 cache] 86)).heap[w.heap.size+1]?=ZY (Z5 #[Z8 Z9 cache] 86 (0,0)):=by
  have:=blk_alloc_new (w.alloc (Z5 #[Z8 Z9 (D:Int),Z8 Z9 (L:Int),Z8 Z9 (G:Int)] 25)) (Z5 #[Z8 Z9 cache] 86);rwa [World.size_alloc] at this
 have s:bW w ((w.alloc (Z5 #[Z8 Z9 (D:Int),Z8 Z9 (L:Int),Z8 Z9 (G:Int)] 25)).alloc (Z5 #[Z8 Z9 cache] 86)):=(bA w _).alloc (by simp) _;have S:((w.alloc (Z5 #[Z8 Z9 (D:Int),Z8 Z9 (L:Int),Z8 Z9 (G:Int)] 25)).alloc (Z5 #[Z8 Z9 cache] 86)).heap.size=w.heap.size+2:=by simp
 obtain ⟨w2,qg⟩:=nM ((w.alloc (Z5 #[Z8 Z9 (D:Int),Z8 Z9 (L:Int),Z8 Z9 (G:Int)] 25)).alloc (Z5 #[Z8 Z9 cache] 86));rw [qg] at l ho s S;have p0:w2.cell? ⟨w.heap.size,0,ZZ⟩=ZY (Z8 Z9 D):=by simp [World.cell?,l]
 have p1:w2.cell? ⟨w.heap.size,1,ZZ⟩=ZY (Z8 Z9 L):=by simp [World.cell?,l]
 have p2:w2.cell? ⟨w.heap.size,2,ZZ⟩=ZY (Z8 Z9 G):=by simp [World.cell?,l]
 have H2:=hide4 l ho s S;clear l ho s S;go_enter func44,ntmps44;go_wp2_with fail;refine (pQ D L G _).mono ?_;rw [hr];rintro e w3 ⟨rfl,O⟩;obtain ⟨l,ho,s,S⟩:=H2.out;have R:=(O.block _ (by omega)).trans l;have H:=(O.block _ (by omega)).trans ho;have z:bW w w3:=s.trans (O.mono s.size);have ks:=O.size;have o0:w3.cell? ⟨w.heap.size+1,0,ZZ⟩=ZY (Z8 Z9 cache):=by simp [World.cell?,H]
 have H3:=hide4 R H z (show w.heap.size+2<=w3.heap.size by omega);clear l ho s S R H z O ks p0 p1 p2;go_wp2_with fail;refine Ci (by kernel_rfl) (h.below H3.out.2.2.1 lR) hf H3.out.1 hD q4 hG rfl rfl rfl ?_;intro J P;rw [decide_eq_true hn];obtain ⟨R,H,z,ks⟩:=H3.out;have Y:=(P.block _ (by omega)).trans R;have q6:=(P.block _ (by omega)).trans H;have he:bW w J:=z.trans (P.mono z.size);have qj:=P.size;have q5:=ti (h.below he lR) (by omega);have kk:¬ ((A.nb:Nat):Int)<8:=by omega
 have q0:J.cell? ⟨w.heap.size,0,ZZ⟩=ZY (Z8 Z9 D):=by simp [World.cell?,Y]
 have q1:J.cell? ⟨w.heap.size,1,ZZ⟩=ZY (Z8 Z9 L):=by simp [World.cell?,Y]
 have q2:J.cell? ⟨w.heap.size,2,ZZ⟩=ZY (Z8 Z9 G):=by simp [World.cell?,Y]
 have o4:J.cell? ⟨w.heap.size+1,0,ZZ⟩=ZY (Z8 Z9 cache):=by simp [World.cell?,q6]
 have H4:=hide3 he q5 (show w.heap.size+2<=J.heap.size by omega);clear R H z ks Y q6 he qj q5 P o0;rename_i kz
 refine kz _ _ ?_;clear kz;simp only [Act.putFrom,Act.put,List.setIfInBounds_toArray,List.set_cons_succ,List.set_cons_zero];obtain ⟨NB,kg⟩:=nM (A.nb);rw [kg] at H4 kk;have qk:=hide kg;clear kg;go_wp2_with fail;refine H4.out.2.1.mono ?_;rintro e w5 ⟨rfl,qh⟩;subst qh;go_wp2_with fail;refine (Dz p D L G cache w5).mono ?_;rintro e a ⟨v,sb,rfl,qe,N,V,kh⟩;obtain ⟨ps,q7⟩:=nM (sb+1+1+1);rw [q7] at N V;obtain ⟨U,_,qq⟩:=H4.out;have hg:bW w a:=U.trans (kh.mono U.size);have qs:=kh.size;have Q:bW a (a.alloc (Z5 (mR v 0 0 0 0 0 0 (Z6 ZZ 0 0) (Z6 ZZ 0 0) ZW) 121)):=bA a _;have E:bM (a.alloc (Z5 (mR v 0 0 0 0 0 0 (Z6 ZZ 0 0) (Z6 ZZ 0 0) ZW) 121)) a.heap.size v 0 0 0 0 0 0 (Z6 ZZ 0 0) (Z6 ZZ 0 0) ZW:=blk_alloc_new _ _;obtain ⟨w7,ko⟩:=nM (a.alloc (Z5 (mR v 0 0 0 0 0 0 (Z6 ZZ 0 0) (Z6 ZZ 0 0) ZW) 121));rw [ko] at Q E;have f:bW w w7:=hg.trans (Q.mono hg.size);have o:nF w7 v p D L G ps 0 A F:=⟨N.keep (Q.block _ N.lt),h.below f lR,X.below f X.lt,W.keep (f.block _ W.lt),XG hK f.size⟩;have m:∀ k,F.has p A.n k->k<w.heap.size:=λk B=>h.TH B;have M:jT F p A.n v:=⟨λq=>by have:=m v q;omega,kx,ky⟩;have k5:¬ F.has p A.n a.heap.size:=λq=>by have:=m _ q;omega
 have q9:a.heap.size<w7.heap.size:=E.lt;have qf:v<a.heap.size:=N.lt;have q8:=vv 68 #[Z7 (ZY ⟨a.heap.size,0,ZZ⟩)] #[] qc w7 a.heap.size _ E rfl
  (λw1 x w2=>x=.nilIface/\aq w2 p (fj (A.TL A.n) D L G) F/\(∃ u,bM w2 a.heap.size v D L G 1 2 0 u (Z6 ZZ 0 0) ZW/\bN (λk=>w1.heap.size<=k) w2 u [2])/\aa (λk=>k=a.heap.size\/F.has p A.n k) w1 w2)
  (λw1 g Z=>(LB (E.keep (g.block _ E.lt)) (o.below g lR) M k5 hf hn hr qb hD hL q4 hG kj qa (by omega) hw k9 ki hz).mono (by
   rintro e w2 ⟨rfl,C,⟨u,t,I⟩,c⟩;exact ⟨_,rfl,.inl rfl,⟨rfl,C,⟨u,t,I⟩,c⟩,c.block _ (by omega) (λq=>q.elim (λe=>by omega) (λq=>by have:=m _ q;omega)),_,t,rfl⟩))
 have kr:=U.size;have kb:w.heap.size<=sb/\ps<v/\v<a.heap.size/\jA w7 sb cache:=⟨by omega,V.2.1,qf,V.2.2.below Q⟩;have H7:=hide6 f o m q8 M q9;have HS:=hide kb;clear V kb kr U hg Q E f o q8 N kh M k5 q0 q1 q2 o4;have kp:a.alloc (Z5 #[Z7 (ZY ⟨v,0,ZZ⟩),Z8 Z9 0,Z8 Z9 0,Z8 Z9 0,Z8 .u64 0,Z8 Z9 0,Z8 Z9 0,Z6 ZZ 0 0,Z6 ZZ 0 0,Z3 ZW] 121)=w7:=ko;clear ko;go_wp2_with fail;clear kp;refine H7.out.2.2.2.1.mono ?_;rintro e w8 ⟨x,w1,y,rfl,_,g,Z,⟨rfl,C,⟨u,t,I⟩,c⟩,rfl⟩;have H8:=hide6 g Z C t I c;clear g Z C t I c;go_wp2;go_ret2;obtain ⟨f,o,m,_,M,q9⟩:=H7.out;obtain ⟨g,Z,C,t,I,c⟩:=H8.out;have r:bW w w1:=f.trans (g.mono f.size);have qi:=f.size;have K:∀ k,k≠w7.heap.size->k≠a.heap.size->((y.setCell ⟨w7.heap.size,0,ZZ⟩ .nilIface).setCell ⟨a.heap.size,9,ZZ⟩ (Z3 ZW)).heap[k]?=y.heap[k]?:=λk T h2=>(blk_setCell_other _ _ _ _ h2).trans (blk_setCell_other _ _ _ _ T);have kv:((y.setCell ⟨w7.heap.size,0,ZZ⟩ .nilIface).setCell ⟨a.heap.size,9,ZZ⟩ (Z3 ZW)).heap.size=y.heap.size:=by simp [World.setCell]
 have hO:aa (F.has p A.n) w ((y.setCell ⟨w7.heap.size,0,ZZ⟩ .nilIface).setCell ⟨a.heap.size,9,ZZ⟩ (Z3 ZW)):=
  ⟨c.os.trans r.os,c.tape.trans r.tape,c.output.trans r.output,by rw [kv];exact XG r.size c.size,λk B qd=>(K k (by omega) (by omega)).trans ((c.block k (by have:=r.size;omega) (λq=>q.elim (λe=>by omega) qd)).trans (r.block k B))⟩
 obtain ⟨s1,s2,s3,s4⟩:=HS.out;have s5:=s4.lt;refine ⟨a.heap.size,v,ps,u,rfl,by omega,by omega,?_,?_,?_,hO,sb,q7.symm,s1,s2,s3,s4.keep λk T h2=>(K k (by omega) (by omega)).trans ((c.block k (by omega) (λq=>q.elim (λe=>by omega) (λq=>by have:=m _ q;omega))).trans (g.block k (by omega)))⟩
 . have km:y.heap[a.heap.size]?=ZY (Z5 (mR v D L G 1 2 0 u (Z6 ZZ 0 0) ZW) 121 (0,0)):=t;have T:(y.setCell ⟨w7.heap.size,0,ZZ⟩ .nilIface).heap[a.heap.size]?=ZY (Z5 (mR v D L G 1 2 0 u (Z6 ZZ 0 0) ZW) 121 (0,0)):=(blk_setCell_other _ _ _ _ (by show a.heap.size≠w7.heap.size;omega)).trans km;exact aj (j:=9) T (Z3 ZW)
 . obtain ⟨ao,cc,q1,q2,q3⟩:=I;refine ⟨ao,cc,q1,q2,λhl=>?_⟩;obtain ⟨b,bo,r1,r2,r3,r4⟩:=q3 hl;exact ⟨b,bo,r1,⟨by omega,by omega⟩,by rw [kv];exact r3,λi hi=>(World.cell?_of_block (K b (by omega) (by omega))).trans (r4 i hi)⟩
 . refine ⟨?_,C.keep λk B=>K k (by have:=m k B;omega) (by have:=m k B;omega),?_,?_,?_⟩
   . exact o.vol.keep ((K v (by have:=o.vol.lt;omega) (by omega)).trans ((c.block v (by have:=o.vol.lt;omega) (λq=>q.elim (λe=>by omega) M.v)).trans (g.block v o.vol.lt)))
   . exact X.keep (hO.block _ X.lt kx)
   . exact W.keep (hO.block _ W.lt ky)
   . rw [kv];exact XG (XG hK r.size) c.size
structure PV (w w2:ZV) (D L G cache:Int):Prop where
 par:w2.heap[w.heap.size]?=ZY (Z5 #[Z8 Z9 D,Z8 Z9 L,Z8 Z9 G] 25 (0,0))
 opt:w2.heap[w.heap.size+1]?=ZY (Z5 #[Z8 Z9 cache] 86 (0,0))
 below:bW w w2
 size:w2.heap.size=w.heap.size+2
def PW (w:ZV) (D L G cache:Int):PV w ((w.alloc (Z5 #[Z8 Z9 D,Z8 Z9 L,Z8 Z9 G] 25)).alloc (Z5 #[Z8 Z9 cache] 86)) D L G cache:=by
 refine ⟨(blk_alloc_lt _ _ _ (by simp)).trans (blk_alloc_new _ _),?_,(bA w _).alloc (by simp) _,by simp⟩;have:=blk_alloc_new (w.alloc (Z5 #[Z8 Z9 D,Z8 Z9 L,Z8 Z9 G] 25)) (Z5 #[Z8 Z9 cache] 86);rwa [World.size_alloc] at this
theorem Il (h:aq w p A F) (I:A.fit) (N:A.n=D+L+G) (hr:bU D L G=ZX) (y:1<=D) (hD:D<=12) (hL:1<=L) (C:L<=4) (hG:G<=4) (t:D%L=0) (x:D+L+G<=16) (E:0<=cache) (J:cache<=64)
 (K:8<=A.nb) (O:A.wait<0) (r:∀ i,A.lost i=ZW) (s:∀ d,A.bad d 0=ZW) (P:∀ i,i<A.n->A.blk i 0=zb) (o:bk w) (m:aJ w) (hK:3<=w.heap.size) (z:¬ F.has p A.n 2) (B:¬ F.has p A.n 1) :
 ZT ZR 30 #[Z7 (ZY ⟨p,0,ZZ⟩),.agg #[Z8 Z9 D,Z8 Z9 L,Z8 Z9 G],.agg #[Z8 Z9 cache]] w λe w'=>∃ sa ar v ps u,e=Z4 (Z0 #[Z7 (ZY ⟨sa,0,ZZ⟩),.nilIface])/\w.heap.size<=sa/\ZS w' sa 92 (Z7 (ZY ⟨ar,0,ZZ⟩))/\zY w w' p D L G ar v ps u A F cache:=by
 have b:=PW w D L G cache;obtain ⟨w2,M⟩:=nM ((w.alloc (Z5 #[Z8 Z9 (D:Int),Z8 Z9 (L:Int),Z8 Z9 (G:Int)] 25)).alloc (Z5 #[Z8 Z9 cache] 86));rw [M] at b;have W:w2.cell? ⟨w.heap.size,0,ZZ⟩=ZY (Z8 Z9 D):=by simp [World.cell?,b.par]
 have X:w2.cell? ⟨w.heap.size,1,ZZ⟩=ZY (Z8 Z9 L):=by simp [World.cell?,b.par]
 have Y:w2.cell? ⟨w.heap.size,2,ZZ⟩=ZY (Z8 Z9 G):=by simp [World.cell?,b.par]
 have V:w2.cell? ⟨w.heap.size+1,0,ZZ⟩=ZY (Z8 Z9 cache):=by simp [World.cell?,b.opt]
 have c:=b.below;have j:=LC (h.below c lR) I N hr y hD hL C hG t x E J K O r s P (o.below c o.lt) (m.keep (c.block _ m.lt)) (XG hK c.size) z B;have H:=hide2 b j;clear b j c;go_enter func30,ntmps30;go_wp2_with fail;refine H.out.2.mono ?_;rintro e w3 ⟨ar,v,ps,u,rfl,a⟩;have q:=hide a;clear a;go_wp2;go_ret2;have a:=q.out;have c:=H.out.1.below;have U:=H.out.1.size;have g:aa (F.has p A.n) w w3:=(aa.TG c _).trans a.out;have f:bW w3 (w3.alloc (Z5 #[Z7 (ZY ⟨ar,0,ZZ⟩)] 92)):=bA w3 _;refine ⟨w3.heap.size,ar,v,ps,u,rfl,g.size,Boxed.new w3 _ _,?_,?_,a.TR.keep (f.block _ a.TR.lt),?_,a.vol.below f lR,g.trans (aa.TG f _),?_⟩
 . have:=a.VU;omega
 . have:=a.Wi;omega
 . exact (a.pg.weaken (λk l=>⟨by have:=l.1;omega,l.2⟩)).keep (eR.TF f)
 . obtain ⟨sb,Q,Z,R,S,T⟩:=a.sh;exact ⟨sb,Q,by omega,R,S,T.below f⟩
theorem pI (d:Int) (m:Nat) (f:0<m) (e:m<=1000):∃ n:Nat,n<m/\wrap64 ((IntKind.u64.wrap d).tmod m)=(n:Int):=by
 have a:0<=IntKind.u64.wrap d:=by rw [IntKind.wrap_u64];omega
 rw [X1 a];have b:=Int.emod_nonneg (IntKind.u64.wrap d) (show (m:Int)≠0 by omega);have c:=Int.emod_lt_of_pos (IntKind.u64.wrap d) (show (0:Int)<m by omega);refine ⟨(IntKind.u64.wrap d%m).toNat,by omega,?_⟩;rw [show ((IntKind.u64.wrap d%(m:Int)).toNat:Int)=IntKind.u64.wrap d%m by omega];generalize IntKind.u64.wrap d%(m:Int)=z at b c;unfold wrap64;omega
def EG (h:A.fit) {D L G:Nat} (hD:D<=12) (hL:L<=4) (hG:G<=4) (b:A.n=D+L+G):(fj A D L G).fit:=by
 have a:(aX.filled).ok:=trivial;have hr:(aX.root D L G 1 2 0).ok:=⟨by omega,by omega,by omega,by decide,by decide,by decide⟩;exact (gA (h.putAt _ _ _ λ_ _=>⟨eJ a,jv a⟩) hD hG b [2] [] 1).putAt _ _ _ λ_ _=>⟨eJ hr,jv hr⟩
structure Rc (B:ay) (D L G:Nat):Prop where
 bad:∀ i m,B.bad i m=ZW
 lost:∀ i,B.lost i=ZW
 wait:B.wait<0
 root:∀ i,i<B.n->B.blk i 0=(aX.root D L G 1 2 0).blk
 fill:∀ i,i<B.n->B.blk i 1=aX.filled.blk
 V8:∀ i,i<B.n->B.blk i 2=(aX.shard ((aK D L G (fH D [2] [] 0)).getD i [])).blk
def Re (D L G:Nat) (c:∀ i m,A.bad i m=ZW) (hl:∀ i,A.lost i=ZW) (d:A.wait<0):Rc (fj A D L G) D L G:=by
 refine ⟨λi m=>?_,hl,d,λi b=>?_,λi b=>?_,λi b=>?_⟩
 . simp [fj,ay.pagesTo,ay.putAt,c]
 . have a:i<A.n:=b;simp [fj,ay.pagesTo,ay.putAt,a]
 . have a:i<A.n:=b;simp [fj,ay.pagesTo,ay.putAt,a]
 . have a:i<A.n:=b;simp [fj,ay.pagesTo,ay.putAt,a]
theorem LN {ps:Nat} (h:zY w w' p D L G ar v ps u A F cache) (y:aq w p A F) (M:A.n=D+L+G) (hr:vL D L G) (Q:8<=A.nb) (o:A.nb<=1000) (N:A.wait<0) (g:∀ i,A.lost i=ZW) (l:∀ i m,A.bad i m=ZW) (hK:3<=w.heap.size) (r:¬ F.has p A.n 2) (s:¬ F.has p A.n 1) (t:(fj (A.TL A.n) D L G).fit) :
 ∃ sb,aW w' ar v p (uJ sb cache 0) D L G 1 u (Z6 ZZ 0 0) [2] [] (fj (A.TL A.n) D L G) F/\w.heap.size<=sb:=by
 have c:∀ j,F.has p A.n j->j<w.heap.size:=λj K=>y.TH K;have P:(fj (A.TL A.n) D L G).n=A.n:=rfl;have f:(fj (A.TL A.n) D L G).nb=A.nb:=rfl;have ho:=Re (A:=A.TL A.n) D L G l g N;have B:pgs D 0=1:=by
  unfold pgs;have:=hr.d1;rw [Nat.zero_add,Nat.div_eq_of_lt (by omega)];rfl
 have O:=h.VU;have S:=h.Wi;obtain ⟨sb,C,H,R,I,E⟩:=h.sh;have d:=h.vol;rw [C] at d;refine ⟨sb,⟨h.TR,d,⟨λe=>by have:=c _ e;omega,r,s⟩,λe=>by have:=c _ e;omega,⟨by omega,I⟩,by omega,t,hr,?_,?_,gE.nil _ _,by rw [f];exact o,by decide,E,λk a=>?_⟩,H⟩
 . refine ⟨M,ho.wait,gT.here ho.lost _ _ _,ho.bad,by decide,ho.root,ho.fill,?_,?_,by decide,?_,(λx b=>by cases b),List.Pairwise.nil,(λx b=>by cases b),?_⟩
   . show 1=pgs D 0;exact B.symm
   . intro k a i J;have z:k=0:=(by have:k<1:=a;omega);subst z;exact ho.V8 i J
   . intro x b;have:x=2:=by simpa [ah,aS.os] using b
     rw [this,f];omega
   . show 0+2*1+2<=A.nb;omega
 . exact h.pg.UR λk a=>⟨a.2,λe=>by have:=c _ e;have:=a.1;omega,λe=>by have q:sb<=k/\k<=sb+1+1+1:=e;have:=a.2;omega⟩
 . have q:sb<=k/\k<=sb+1+1+1:=a;exact ⟨by omega,by omega,by omega,λe=>by have:=c _ e;omega⟩
theorem ND (a b c:Int) (w:ZV):ZT ZR 6 #[Z8 Z9 a,Z8 Z9 b,Z8 Z9 c] w λe w'=>∃ D L G:Nat,e=Z4 (.agg #[Z8 Z9 D,Z8 Z9 L,Z8 Z9 G])/\vL D L G/\D<=6/\bW w w':=by
 obtain ⟨p,B,g⟩:=pI a 6 (by decide) (by decide);obtain ⟨q,C,i⟩:=pI b 3 (by decide) (by decide);obtain ⟨d,P,k⟩:=pI c 4 (by decide) (by decide);have r:wrap64 ((IntKind.u64.wrap a).tmod 6)=(p:Int):=by simpa using g
 have s:wrap64 ((IntKind.u64.wrap b).tmod 3)=(q:Int):=by simpa using i
 have t:wrap64 ((IntKind.u64.wrap c).tmod 4)=(d:Int):=by simpa using k
 obtain ⟨D,hD⟩:=nM (p+1);obtain ⟨n,E⟩:=nM (q+1);have M:wrap64 (1+(p:Int))=(D:Int):=by unfold wrap64;omega
 have z:wrap64 (1+(q:Int))=(n:Int):=by unfold wrap64;omega
 clear g i k;have O:1<=D/\D<=6:=by omega
 have x:1<=n/\n<=3:=by omega
 clear hD E B C;go_enter func6,ntmps6;go_wp2;go_loopw [8] (λv wr=>∃ l:Nat,1<=l/\l<=3/\v=Z8 Z9 (l:Nat)/\wr=w.alloc (Z5 #[Z8 Z9 0,Z8 Z9 0,Z8 Z9 0] 25)) (λv _=>(intOf v).toNat)
 case atStart=>exact ⟨n,x.1,x.2,by rw [z],rfl⟩
 case round=>
  obtain ⟨l,F,N,rfl,rfl⟩:=hrel;have S:¬ (l:Int)=0:=by omega
  have H:Int.tmod (D:Int) (l:Int)=((D%l:Nat):Int):=by rw [X1 (by omega),X2]
  obtain ⟨m,f⟩:=nM (D%l);rw [f] at H;by_cases A:m=0
  . subst A;have y:Hid (vL D l d):=hide ⟨by unfold bU;apply decide_eq_true;refine ⟨by omega,by omega,by omega,by omega,by omega,by omega,?_,by omega⟩;rw [<- X2,f];rfl,by omega,by omega,F,by omega,by omega,f,by omega⟩;clear f;go_wp2;have o:aw (w.alloc (Z5 #[Z8 Z9 (D:Nat),Z8 Z9 (l:Nat),Z8 Z9 (d:Nat)] 25)) w.heap.size 25 [Z8 Z9 (D:Nat),Z8 Z9 (l:Nat),Z8 Z9 (d:Nat)]:=heap_alloc_last w _;have I:=o.cell (j:=0) (u:=Z8 Z9 (D:Nat)) rfl;have J:=o.cell (j:=1) (u:=Z8 Z9 (l:Nat)) rfl;have K:=o.cell (j:=2) (u:=Z8 Z9 (d:Nat)) rfl;refine bodyPost_ret (v:=.agg #[Z8 Z9 (D:Nat),Z8 Z9 (l:Nat),Z8 Z9 (d:Nat)]) (by simp [results,results6,go_sem,I,J,K]) rfl ?_;exact ⟨D,l,d,rfl,y.out,by omega,bA w _⟩
  . have Q:2<=l:=by
     rcases Nat.lt_or_ge l 2 with h|h
     . have:l=1:=by omega
       subst this;rw [Nat.mod_one] at f;omega
     . exact h
    have R:¬ (m:Int)=0:=(by omega);have T:IntKind.i64.wrap ((l:Int)-1)=(l:Int)-1:=(by rw [IntKind.wrap_i64];omega);clear f;go_wp2;refine ⟨⟨l-1,by omega,by omega,by rw [show ((l-1:Nat):Int)=(l:Int)-1 by omega],trivial⟩,?_⟩;show ((l:Int)-1).toNat<((l:Int)).toNat;omega
structure pJ where
 kind:Int
 a:Int
 s:ByteArray
 d:List Nat
def Se (w:ZV) (v:ZU) (l:List pJ):Prop:=
 ∃ ao c,v=.slice ao l.length c/\(l≠[]->∃ b off,ao=ZY ⟨b,off,ZZ⟩/\b<w.heap.size/\∀ i (hi:i<l.length),∃ dv,w.cell? ⟨b,off+i*4,ZZ⟩=ZY (Z8 Z9 l[i].kind)/\w.cell? ⟨b,off+i*4+1,ZZ⟩=ZY (Z8 Z9 l[i].a)/\w.cell? ⟨b,off+i*4+2,ZZ⟩=ZY (Z1 l[i].s)/\w.cell? ⟨b,off+i*4+3,ZZ⟩=ZY dv/\Bs w dv l[i].d)
def gP (l:List pJ):Nat:=(l.map λx=>x.s.size+x.d.length).sum
def rG (l:List pJ) (k:Nat) (a:k<l.length):gP (l.take (k+1))=gP (l.take k)+(l[k].s.size+l[k].d.length):=by
 have e:l.take (k+1)=l.take k++[l[k]]:=by rw [List.take_add_one,X3 a];rfl
 rw [e];unfold gP;rw [XS,X4];simp only [List.map_cons,List.map_nil,List.sum_cons,List.sum_nil,Nat.add_zero]
def Cs (l:List pJ) (k:Nat):gP (l.take k)<=gP l:=by
 unfold gP;have h:l.map (λx=>x.s.size+x.d.length)=(l.take k).map (λx=>x.s.size+x.d.length)++(l.drop k).map (λx=>x.s.size+x.d.length):=by rw [<- XS,List.take_append_drop]
 rw [h,X4];omega
def Sf (w:ZV) (l:List pJ) (vn vi:ZU) (wr:ZV):Prop:=∃ k:Nat,k<=l.length/\vi=Z8 Z9 (k:Nat)/\vn=Z8 Z9 (gP (l.take k):Nat)/\gP (l.take k)<=100000/\bW w wr
def PZ (w:ZV) (l:List pJ) (e:Ending) (w':ZV):Prop:=∃ bb,e=Z4 (Z3 bb)/\(bb=ZX->l.length<=200/\gP l<=100000)/\bW w w'
theorem Iv {v:ZU} {l:List pJ} (h:Se w v l) (J:∀ x∈l,x.s.size<=140737488355328/\x.d.length<=140737488355328) :
 ZT ZR 5 #[v] w (PZ w l):=by
 obtain ⟨ao,c,rfl,t⟩:=h;by_cases Q:200<l.length
 . have I:(200:Int)<(l.length:Int):=(by omega);clear t;go_enter func5,ntmps5;go_wp2;go_ret;exact ⟨ZW,rfl,λe=>(by cases e),Below.refl _ _⟩
 . have I:¬ (200:Int)<(l.length:Int):=(by omega);have E:=hide t;clear t;go_enter func5,ntmps5;go_wp2;go_loopw [3,4] (λM z wr=>Sf w l M z wr) (λ_ z _=>l.length-(intOf z).toNat)
   case atStart=>exact ⟨0,Nat.zero_le _,rfl,rfl,by simp [gP],Below.refl _ _⟩
   case round=>
    obtain ⟨k,U,rfl,rfl,n,f⟩:=hrel;by_cases i:k<l.length
    . obtain ⟨b,off,rfl,B,A⟩:=E.out (λe=>by rw [e] at i;simp at i);obtain ⟨P,K,L,u,y,D⟩:=A k i;obtain ⟨N,O,rfl,_⟩:=id D;have g:=rG l k i;have G:=J l[k] (XT i);obtain ⟨s,r⟩:=nM (l[k].s);obtain ⟨dl,o⟩:=nM (l[k].d.length);rw [r,o] at g G;rw [r] at u;rw [o] at y;obtain ⟨a,q⟩:=nM (gP (l.take k));rw [q] at g n ⊢;obtain ⟨Y,H⟩:=nM (s.size);have F:(k:Int)<(l.length:Int):=(by omega);have S:IntKind.i64.wrap ((a:Int)+(s.size:Int))=(a:Int)+(s.size:Int):=(by rw [IntKind.wrap_i64];omega);have T:IntKind.i64.wrap ((a:Int)+(s.size:Int)+(dl:Int))=(a:Int)+(s.size:Int)+(dl:Int):=(by rw [IntKind.wrap_i64];omega);have V:IntKind.i64.wrap ((k:Int)+1)=(k:Int)+1:=(by rw [IntKind.wrap_i64];omega);have W:=(f.cell (p:=⟨b,off+k*4+2,ZZ⟩) B).trans u;have X:=(f.cell (p:=⟨b,off+k*4+3,ZZ⟩) B).trans y;have m:=hide3 g q f;clear g q f K L u y D A r o H;go_wp2;go_quiet (fail);have j:Hid (bW w (wr.drewN nq)):=hide (m.out.2.2.trans ⟨rfl,rfl,rfl,XL _,λ_ _=>rfl⟩);by_cases R:(100000:Int)<(a:Int)+(s.size:Int)+(dl:Int)
      . go_wp2;go_ret;exact ⟨ZW,rfl,λe=>(by cases e),j.out⟩
      . go_wp2;have g:=m.out.1;refine ⟨⟨k+1,by omega,by go_num,?_,by omega,j.out⟩,?_⟩
        . rw [g,show ((a+(s.size+dl):Nat):Int)=(a:Int)+(s.size:Int)+(dl:Int) by omega]
        . simp only [intOf];omega
    . have C:k=l.length:=(by omega);have F:¬ (k:Int)<(l.length:Int):=(by omega);have m:Hid (l.length<=200/\gP l<=100000):=hide ⟨by omega,by rw [C,List.take_length] at n;exact n⟩;have j:=hide f;clear C n f;go_wp2;go_ret;exact ⟨ZX,rfl,λ_=>m.out,j.out⟩
def Rf (D L G:Nat) (a s r:ZU) (blocks:Nat) (out want:ZU) (cache:Int):List ZU:=[Z8 Z9 (D:Nat),Z8 Z9 (L:Nat),Z8 Z9 (G:Nat),a,s,r,Z8 Z9 (blocks:Nat),out,want,Z8 Z9 cache]
def nX (w:ZV) (wb D L G:Nat) (a s r:ZU) (blocks:Nat) (out want:ZU) (cache:Int):Prop:=aw w wb 36 (Rf D L G a s r blocks out want cache)
def nX.cells {s:ZU} (h:nX w wb D L G a s r blocks out want cache) :
 w.cell? ⟨wb,0,ZZ⟩=ZY (Z8 Z9 (D:Nat))/\w.cell? ⟨wb,1,ZZ⟩=ZY (Z8 Z9 (L:Nat))/\w.cell? ⟨wb,2,ZZ⟩=ZY (Z8 Z9 (G:Nat))/\w.cell? ⟨wb,3,ZZ⟩=ZY a/\w.cell? ⟨wb,4,ZZ⟩=ZY s/\w.cell? ⟨wb,5,ZZ⟩=ZY r/\w.cell? ⟨wb,6,ZZ⟩=ZY (Z8 Z9 (blocks:Nat))/\w.cell? ⟨wb,7,ZZ⟩=ZY out/\w.cell? ⟨wb,8,ZZ⟩=ZY want/\w.cell? ⟨wb,9,ZZ⟩=ZY (Z8 Z9 cache):=
 ⟨aw.cell h rfl,aw.cell h rfl,aw.cell h rfl,aw.cell h rfl,aw.cell h rfl,aw.cell h rfl,aw.cell h rfl,aw.cell h rfl,aw.cell h rfl,aw.cell h rfl⟩
theorem Iw {s:ZU} (h:nX w wb D L G (Z7 (ZY ⟨p,0,ZZ⟩)) s r blocks out want cache) (A:∃ o,s=.pointer o) (R:Nat->ZV->Prop) (j:∀ sa w2,R sa w2->w2.heap[wb]?=w.heap[wb]?)
 (ho:ZT ZR 30 #[Z7 (ZY ⟨p,0,ZZ⟩),.agg #[Z8 Z9 D,Z8 Z9 L,Z8 Z9 G],.agg #[Z8 Z9 cache]] w.drew λe w2=>∃ sa,e=Z4 (Z0 #[Z7 (ZY ⟨sa,0,ZZ⟩),.nilIface])/\R sa w2) :
 ZT ZR 15 #[Z7 (ZY ⟨wb,0,ZZ⟩)] w λe w'=>e=Z4 (Z3 ZX)/\∃ sa w2 w3,R sa w2/\bW w2 w3/\nX w' wb D L G (Z7 (ZY ⟨p,0,ZZ⟩)) (Z7 (ZY ⟨sa,0,ZZ⟩)) r blocks out want cache/\w'=w3.setCell ⟨wb,4,ZZ⟩ (Z7 (ZY ⟨sa,0,ZZ⟩)):=by
 obtain ⟨k,c1,l,m,n,q,t,u,v,x⟩:=h.cells;have f:=hide3 ho h j;clear ho h j n q t u v;go_enter func15,ntmps15;go_upto_region 1 with fail;go_cut [3,4] from 6 to 34 (λC E wx=>∃ sa,C=Z7 (ZY ⟨sa,0,ZZ⟩)/\E=.nilIface/\R sa wx)
 case first=>
  go_region_with (go_at_call 30;refine f.out.1.mono ?_;rintro e w2 ⟨sa,rfl,a⟩;have b:=hide a;clear a);all_goals (go_wp2_with fail;go_meet;case rel=>exact ⟨sa,rfl,rfl,b.out⟩)
 case rest=>
  obtain ⟨sa,rfl,rfl,a⟩:=hcut;have d:nX wc wb D L G (Z7 (ZY ⟨p,0,ZZ⟩)) s r blocks out want cache:=aw.keep f.out.2.1 (f.out.2.2 sa wc a);obtain ⟨B,rfl⟩:=A;have y:=d.cells.2.2.2.2.1;have z:=aw.TX d 4;have b:=hide2 a d;clear a d k c1 l m x;go_wp2_with fail;refine (sY wc).mono ?_;rintro e w3 ⟨rfl,g⟩;have c:nX w3 wb D L G (Z7 (ZY ⟨p,0,ZZ⟩)) (.pointer B) r blocks out want cache:=aw.keep b.out.2 (g.block _ (aw.lt b.out.2));have F:=c.cells.2.2.2.2.1;have H:=aw.TX c 4;have i:=hide2 g c;clear g c y z;dsimp only;go_wp2;go_ret;refine ⟨rfl,sa,wc,w3,b.out.1,i.out.1,?_,rfl⟩;exact aw.set i.out.2 4 [Z7 (ZY ⟨sa,0,ZZ⟩)] (by simp [Rf])
theorem aW.other (h:aW w ar v p ps D L G t pg ob P xs A F) (g:w.heap.size<=w'.heap.size) {b:Nat} (a:∀ j,j≠b->j<w.heap.size->w'.heap[j]?=w.heap[j]?) (r:b<ar) (m:b≠v) (i:¬ F.has p A.n b) (q:3<=b) (l:¬ ps.bl b):aW w' ar v p ps D L G t pg ob P xs A F:=by
 have k1:2<3:=by decide
 have k2:1<3:=by decide
 have c:eR (λk=>ar<k/\¬ F.has p A.n k/\¬ ps.bl k) w w':=⟨g,λk o hK=>a k (by have:=hK.1;omega) o⟩;exact ⟨h.TR.keep (a _ (by omega) h.TR.lt),⟨h.vol.vol.keep (a _ (Ne.symm m) h.vol.vol.lt),h.vol.arr.keep λj f=>a j (λe=>i (e▸f)) (h.vol.arr.TH f),h.vol.laid.keep (a _ (by omega) h.vol.laid.lt),h.vol.TQ.keep (a _ (by omega) h.vol.TQ.lt),XG h.vol.room g⟩,h.free,h.UX,h.Vg,h.Vy,h.fit,h.par,h.TM,h.pgs.keep c,h.cat.keep c,h.nb,h.turn,ps.keep _ _ h.kit λk d=>a k (λe=>l (e▸d)) (ps.lt _ h.kit k d),h.apt⟩
def aq.kind {X:ZV} (h:aq X p A F) {k:Nat} (d:F.has p A.n k):∃ cs T,X.heap[k]?=ZY (Z5 cs T (0,0))/\(T=57\/T=61\/T=255\/T=4):=by
 obtain ⟨R,h,_,e⟩:=h;rw [<- e.n] at d;rcases d with rfl|rfl|⟨i,b,rfl|rfl⟩
 . exact ⟨_,_,h.top,.inl rfl⟩
 . obtain ⟨cs,f,_⟩:=h.Vt;exact ⟨_,_,f,.inr (.inl rfl)⟩
 . obtain ⟨c,a,_⟩:=h.blk i b;exact ⟨_,_,a,.inr (.inr (.inl rfl))⟩
 . obtain ⟨c,a,_⟩:=h.bad i b;exact ⟨_,_,a,.inr (.inr (.inr rfl))⟩
def uQ (w:ZV) (b:Nat):Prop:=∀ off u,w.cell? ⟨b,off,ZZ⟩=ZY u->(∀ x,u≠Z8 Z9 x)/\∀ s,u≠Z1 s
def Ir (a:w.heap[b]?=ZY (Z5 #[.nilIface] 63 (0,0))):uQ w b:=λoff u h=>by
 cases off with
 | zero=>simp [World.cell?,a] at h;subst h;exact ⟨λ_=>nofun,λ_=>nofun⟩
 | succ n=>simp [World.cell?,a] at h
def bN.aside {v:ZU} (h:bN K w v l) (n:uQ w b) (q:w.heap.size<=w'.heap.size) (p:∀ k,k≠b->k<w.heap.size->w'.heap[k]?=w.heap[k]?):bN K w' v l:=by
 obtain ⟨ao,c,g,j,m⟩:=h;refine ⟨ao,c,g,j,λhl=>?_⟩;obtain ⟨b',off,r,s,a,d⟩:=m hl;have f:b'≠b:=λe=>by
  subst e;exact (n _ _ (d 0 (X5.2 hl))).1 _ rfl
 exact ⟨b',off,r,s,XO a q,λi o=>(World.cell?_of_block (p b' f a)).trans (d i o)⟩
def gE.aside {v:ZU} {os:List Ob} (h:gE K w v os) (f:uQ w b) (j:w.heap.size<=w'.heap.size) (g:∀ k,k≠b->k<w.heap.size->w'.heap[k]?=w.heap[k]?):gE K w' v os:=by
 obtain ⟨ao,c,o,p,q⟩:=h;refine ⟨ao,c,o,p,λhl=>?_⟩;obtain ⟨b',off,t,u,l,m⟩:=q hl;have r:b'≠b:=λe=>by
  subst e;obtain ⟨n,d,_⟩:=m 0 (X5.2 hl);exact (f _ _ d).2 _ rfl
 refine ⟨b',off,t,u,XO l j,λi s=>?_⟩;obtain ⟨n,d,x,y,z⟩:=m i s;have a:=g b' r l;exact ⟨n,(World.cell?_of_block a).trans d,(World.cell?_of_block a).trans x,(World.cell?_of_block a).trans y,z.aside f j g⟩
theorem aW.aside (h:aW w ar v p ps D L G t pg ob P xs A F) (f:uQ w b) (i:¬ ps.bl b) (c:w.heap.size<=w'.heap.size) (a:∀ k,k≠b->k<w.heap.size->w'.heap[k]?=w.heap[k]?) (m:B<=b) (l:∀ k,F.has p A.n k->k<B) (q:v<B) (o:ar<B) (hK:3<=B):aW w' ar v p ps D L G t pg ob P xs A F:=by
 have k1:2<3:=by decide
 have k2:1<3:=by decide
 exact ⟨h.TR.keep (a _ (by omega) h.TR.lt),⟨h.vol.vol.keep (a _ (by omega) h.vol.vol.lt),h.vol.arr.keep λj g=>a j (by have:=l j g;omega) (h.vol.arr.TH g),h.vol.laid.keep (a _ (by omega) h.vol.laid.lt),h.vol.TQ.keep (a _ (by omega) h.vol.TQ.lt),XG h.vol.room c⟩,h.free,h.UX,h.Vg,h.Vy,h.fit,h.par,h.TM,h.pgs.aside f c a,h.cat.aside f c a,h.nb,h.turn,ps.keep _ _ h.kit λk d=>a k (λe=>i (e▸d)) (ps.lt _ h.kit k d),h.apt⟩
def aW.VC {cs:Array ZU} (h:aW w ar v p ps D L G t pg ob P xs A F) (a:w.heap[b]?=ZY (Z5 cs 63 (0,0))):¬ ps.bl b:=λq=>by
 exact absurd (ps.kd _ h.kit b q _ _ _ a) (by unfold l9;decide)
def LL (b:Nat) (w w':ZV):Prop:=w.heap[b]?=ZY (Z5 #[.nilIface] 63 (0,0))/\w'.heap.size=w.heap.size/\∀ j,j≠b->w'.heap[j]?=w.heap[j]?
theorem ED (h:aW w ar v p ps D L G t pg ob P xs A F) (k:FuncId) (first cap:Array ZU) (R:∀ (args:Array ZU) (w:ZV),(callFunc k args).run ZR w=.ok (.enter k args) w) (Q:ZU->Nat->aS->ay->cA->ZV->Prop) (T:Nat->Prop) (N:∀ j,T j->j≠w.heap.size)
 (X:∀ x f a B ps' w2 w',LL w.heap.size w2 w'->Q x f a B ps' w2->Q x f a B ps' w')
 (S:∀ w1,bW w w1->w1.heap.size=w.heap.size+1->ZT ZR k (first++cap) w1 λe w2=>∃ x f d c g a B ps',e=Z4 x/\noCut x/\aW w2 ar v p ps' D L G f d c g a B F/\B.n=A.n/\(B.nb=A.nb/\B.lost=A.lost)/\aa (λj=>j=ar\/F.has p A.n j\/T j) w1 w2/\Q x f a B ps' w2) :
 ZT ZR 46 #[Z7 (ZY ⟨ar,0,ZZ⟩),.func (.func k) first cap] w λe w'=>∃ x f d c g a B ps',e=Z4 x/\noCut x/\aW w' ar v p ps' D L G f d c g a B F/\B.n=A.n/\(B.nb=A.nb/\B.lost=A.lost)/\aa (λj=>j=ar\/F.has p A.n j\/T j) w w'/\Q x f a B ps' w':=by
 have J:=h.TR.lt;have hr:=h.vol.vol.lt;have C:∀ j,F.has p A.n j->j<w.heap.size:=λj i=>h.vol.arr.TH i;have I:=h.vol.room;have W:=uC k first cap R w ar _ h.TR rfl (λw1 x w2=>bW w w1/\w1.heap.size=w.heap.size+1/\w2.heap[w.heap.size]?=ZY (Z5 #[.nilIface] 63 (0,0))/\∃ f d c g a B ps',aW w2 ar v p ps' D L G f d c g a B F/\B.n=A.n/\(B.nb=A.nb/\B.lost=A.lost)/\aa (λj=>j=ar\/F.has p A.n j\/T j) w1 w2/\Q x f a B ps' w2)
  (λw1 m y U=>(S w1 m y).mono (by
   rintro e w2 ⟨x,f,d,c,g,a,B,ps',rfl,z,hl,o,r,s,u⟩;have E:=s;have H:w2.heap[w.heap.size]?=w1.heap[w.heap.size]?:=E.block _ (by omega) (λe=>by
    rcases e with e|e|e
    . omega
    . have:=C _ e;omega
    . exact N _ e rfl)
   exact ⟨x,rfl,z,⟨m,y,H.trans U,f,d,c,g,a,B,ps',hl,o,r,E,u⟩,H,_,hl.TR,rfl⟩))
 refine W.mono ?_;rintro e w' ⟨x,w1,w2,rfl,z,_,_,⟨m,y,q,f,d,c,g,a,B,ps',hl,o,r,s,u⟩,rfl⟩;have K:(w2.setCell ⟨w.heap.size,0,ZZ⟩ x).heap[ar]?=ZY (Z5 (mR v D L G f (g.getD 0 0) (az a.os).length d c ZW) 121 (0,0)):=(blk_setCell_other _ _ _ _ (by show ar≠w.heap.size;omega)).trans hl.TR;have M:=aj (j:=9) K (Z3 ZW);have l:LL w.heap.size w2 ((w2.setCell ⟨w.heap.size,0,ZZ⟩ x).setCell ⟨ar,9,ZZ⟩ (Z3 ZW)):=by
  refine ⟨q,by simp [World.setCell],λj i=>?_⟩;by_cases e:j=ar
  . subst e;exact M.trans hl.TR.symm
  . exact (blk_setCell_other _ _ _ _ e).trans (blk_setCell_other _ _ _ _ i)
 have V:=hl.aside (w':=(w2.setCell ⟨w.heap.size,0,ZZ⟩ x).setCell ⟨ar,9,ZZ⟩ (Z3 ZW)) (b:=w.heap.size) (B:=w.heap.size) (Ir q) (hl.VC q) (by rw [l.2.1];exact XL _) (λj i _=>l.2.2 j i) lR (by rw [o];exact C) hr J I;refine ⟨x,f,d,c,g,a,B,ps',rfl,z,V,o,r,?_,X _ _ _ _ _ _ _ l u⟩;have O:aa (λj=>j=ar\/F.has p A.n j\/T j) w w2:=(aa.TG m _).trans s;exact O.later (T:=λj=>w.heap.size<=j) ⟨rfl,rfl,rfl,by rw [l.2.1];exact XL _,λj _ i=>l.2.2 j (by omega)⟩ (λj Y Z=>by omega)
theorem Og (h:aW w ar v p ps D L G t pg ob P xs A F) (k:FuncId) (first cap:Array ZU) (C:∀ (args:Array ZU) (w:ZV),(callFunc k args).run ZR w=.ok (.enter k args) w) (Q:ZU->Nat->aS->ay->ZV->Prop)
 (I:∀ x b a B w2 w',LL w.heap.size w2 w'->Q x b a B w2->Q x b a B w')
 (E:∀ w1,bW w w1->w1.heap.size=w.heap.size+1->ZT ZR k (first++cap) w1 λe w2=>∃ x b d c f a B,e=Z4 x/\noCut x/\aW w2 ar v p ps D L G b d c f a B F/\B.n=A.n/\(B.nb=A.nb/\B.lost=A.lost)/\aa (λj=>j=ar\/F.has p A.n j) w1 w2/\Q x b a B w2) :
 ZT ZR 46 #[Z7 (ZY ⟨ar,0,ZZ⟩),.func (.func k) first cap] w λe w'=>∃ x b d c f a B,e=Z4 x/\noCut x/\aW w' ar v p ps D L G b d c f a B F/\B.n=A.n/\(B.nb=A.nb/\B.lost=A.lost)/\aa (λj=>j=ar\/F.has p A.n j) w w'/\Q x b a B w':=by
 refine (ED h k first cap C (λx b a B ps' w2=>ps'=ps/\Q x b a B w2) (λ_=>False) (λ_ e=>e.elim) (λx b a B ps' w2 w' H y=>⟨y.1,I x b a B w2 w' H y.2⟩) λw1 z J=>(E w1 z J).mono ?_).mono ?_
 . rintro e w2 ⟨x,b,d,c,f,a,B,g,i,l,m,o,r,s⟩;exact ⟨x,b,d,c,f,a,B,ps,g,i,l,m,o,r.mono λj _ u=>u.elim .inl (λq=>.inr (.inl q)),rfl,s⟩
 . rintro e w2 ⟨x,b,d,c,f,a,B,ps',g,i,l,m,o,r,rfl,s⟩;exact ⟨x,b,d,c,f,a,B,g,i,l,m,o,r.mono λj _ u=>u.elim .inl (λq=>q.elim .inr (λq=>q.elim)),s⟩
theorem LM (h:aW w ar v p ps D L G t pg ob P xs A F) {n cnt pgn:Nat} (k:cnt=fL D n) (o:pgn=mV D (az xs.os).length n) (c:(ah xs.os).length+cnt+2*pgn+2<=A.nb) :
 ZT ZR 82 #[Z7 (ZY ⟨ar,0,ZZ⟩),Z8 Z9 ((cnt:Int)+(pgn:Int))] w λe w'=>∃ g cap,e=Z4 (Z0 #[Z6 (ZY ⟨g,0,ZZ⟩) (cnt+pgn) cap,Z3 ZX])/\w'.ownsRow w.heap.size 3 1 (Z6 (ZY ⟨g,0,ZZ⟩) (cnt+pgn) cap) (cnt+pgn) (Aa ((bj (tk A.nb (P++ah xs.os)).1 A.nb).take (cnt+pgn)))/\((bj (tk A.nb (P++ah xs.os)).1 A.nb).take (cnt+pgn)).length=cnt+pgn/\cnt+pgn<=cap/\w.heap.size<=g/\g<w'.heap.size/\bW w w':=by
 have j:=Et h.TM (count:=cnt) (pages:=pgn) (l:=19+4*fL D n) o c;have s:=h.nb;have r:1<=cnt:=by rw [k];unfold fL;omega
 have a:=lW h.TR h.vol.vol h.vol.arr h.fit h.n0 P xs.os h.pgs.any h.cat.any (cnt+pgn) (by omega);rw [decide_eq_true j,X6] at a;have b:((bj (tk A.nb (P++ah xs.os)).1 A.nb).take (cnt+pgn)).length=cnt+pgn:=by rw [XU];omega
 rw [b] at a;refine a.mono ?_;rintro e w' ⟨u,rfl,ho,d⟩;rcases ho.2 with ⟨_,q⟩|⟨g,cap,cur,rfl,f,m,i,_⟩
 . omega
 . exact ⟨g,cap,rfl,ho,b,i,f,(XM.1 m).1,d⟩
def Is {e:TypeId} {b:ZU} (h:aw w q e [a,b,c]):aw (((w.setCell ⟨q,0,ZZ⟩ a').setCell ⟨q,1,ZZ⟩ b').setCell ⟨q,2,ZZ⟩ c') q e [a',b',c']:=
 aw.set h 0 [a',b',c'] (by simp)
def It {b:ZU} (h:Below w7.drew.heap.size w7.drew w8):∃ q,Value.pointer (ZY ⟨w8.heap.size,0,ZZ⟩)=Z7 (ZY ⟨q,0,ZZ⟩)/\aw (w8.alloc (Z5 #[a,b,c] 123)) q 123 [a,b,c]/\w7.heap.size<=q/\bW w7 (w8.alloc (Z5 #[a,b,c] 123)):=by
 have d:bW w7 w8:=(Below.refl _ w7).drew.trans h;exact ⟨_,rfl,heap_alloc_last w8 _,d.size,d.alloc d.size _⟩
theorem Iu {b:ZU} (h:Below (w7.drew.alloc (Z5 #[a',b',c'] 123)).heap.size (w7.drew.alloc (Z5 #[a',b',c'] 123)) w8) (f:aw w8 w7.heap.size 123 [a',b',c']):∃ q,Value.pointer (ZY ⟨w7.heap.size,0,ZZ⟩)=Z7 (ZY ⟨q,0,ZZ⟩)/\aw (((w8.setCell ⟨w7.heap.size,0,ZZ⟩ a).setCell ⟨w7.heap.size,1,ZZ⟩ b).setCell ⟨w7.heap.size,2,ZZ⟩ c) q 123 [a,b,c]/\w7.heap.size<=q/\bW w7 (((w8.setCell ⟨w7.heap.size,0,ZZ⟩ a).setCell ⟨w7.heap.size,1,ZZ⟩ b).setCell ⟨w7.heap.size,2,ZZ⟩ c):=by
 have d:bW w7 (w7.drew.alloc (Z5 #[a',b',c'] 123)):=(Below.refl _ w7).drew.alloc lR _;have e:bW w7 w8:=d.trans (h.mono d.size);refine ⟨_,rfl,Is f,XL _,?_⟩;exact Below.setCell (p:=⟨w7.heap.size,2,ZZ⟩) (Below.setCell (p:=⟨w7.heap.size,1,ZZ⟩) (Below.setCell (p:=⟨w7.heap.size,0,ZZ⟩) e lR a) lR b) lR c
theorem PX (h:aW w ar v p ps D L G t pg ob P xs A F) (x:ByteArray) (b off c:Nat) (d:List Nat) (X:∀ w',aa (F.has p A.n) w w'->Bs w' (Z6 (ZY ⟨b,off,ZZ⟩) d.length c) d) (kg:d.length<c) (hx:bu x=ZX) (qk:d.length<=1500) (hm:x∉xs.names) (K:(ah xs.os).length+fL D d.length+2*mV D (az xs.os).length d.length+2<=A.nb) (qv:t+1<=1000000) :
 ZT ZR 70 #[Z7 (ZY ⟨ar,0,ZZ⟩),Z1 x,Z6 (ZY ⟨b,off,ZZ⟩) d.length c] w (LD w ar v p ps D L G t xs A F x d):=by
 obtain ⟨n,i⟩:=nM (d.length);have HD:=hide4 X i kg hm;have hn:n<=1500:=by omega
 rw [i] at K ⊢;clear X i kg qk;obtain ⟨_,_,_,_,c8⟩:=h.TR.cells;have kv:=h.find x;obtain ⟨k,o⟩:=nM (aD xs.names x);rw [o,h.T5 hm] at kv;have qm:=hide o;have qx:¬ (1500:Int)<(n:Int):=by omega
 have ks:=h.par.d1;have qj:=h.par.d;have qn:=h.T6;have qi:=sr ks hn;have q8:mV D (az xs.os).length n<=1000000:=zZ ks (by omega);have qg:=h.T9.2.1;obtain ⟨len,hi⟩:=nM ((az xs.os).length);obtain ⟨cnt,hf⟩:=nM (fL D n);obtain ⟨pgn,hj⟩:=nM (mV D len n);rw [hi] at q8 K qn;rw [hj] at q8 K;rw [hf] at qi K;have a:=hide5 h hf hj hi K;clear o h hm hi hf hj K;go_enter func70,ntmps70;go_wp2_with fail;refine kv.mono ?_;rintro e w1 ⟨rfl,hb⟩;have H:=hide hb;clear hb kv c8;go_wp2_with fail;refine (dB x w1).mono ?_;rintro e w2 ⟨rfl,rfl⟩;rw [hx];dsimp only;have S:=a.out.1.below H.out;obtain ⟨d0,_,d6,_,_⟩:=S.TR.cells;rw [a.out.2.2.2.1] at d6;have q1:=dw S.vol.vol (by omega);obtain ⟨q,hq⟩:=nM (D*44);rw [hq] at q1;have q0:=nh n q (by omega) ⟨by omega,by omega⟩ w2;have q7:max 1 ((n+q-1)/q)=cnt:=by rw [<- a.out.2.1,<- hq];rfl
 rw [q7] at q0;have ky:=λW=>nT cnt (by omega) W;obtain ⟨pk,hp⟩:=nM (19+4*cnt);have q9:∀ W,W.heap=w2.heap->ZT ZR 83 #[Z7 (ZY ⟨ar,0,ZZ⟩),Z8 Z9 ((len:Int)+(pk:Int))] W λe w'=>e=Z4 (Z8 Z9 (pgn:Nat))/\w'=W:=λW hW=>by
  have:=jj (w:=W) (S.TR.keep (by rw [hW])) (S.vol.vol.keep (by rw [hW])) ks (by omega) (len+(19+4*cnt)) (by omega);have e:Yd D (len+(19+4*cnt))=pgn:=by rw [<- a.out.2.2.1,<- a.out.2.1];rfl
  rw [e,hp,X6] at this;exact this
 rw [hp] at ky;have qq:pk<=200:=by omega
 have qz:IntKind.i64.wrap ((len:Int)+(pk:Int))=(len:Int)+(pk:Int):=by rw [IntKind.wrap_i64];omega
 have HP:=hide3 S ky q9;clear S ky q9 q7 hq hp;go_wp2_with fail;refine q1.mono ?_;rintro e w3 ⟨rfl,rfl⟩;clear q1;go_wp2_with fail;refine q0.mono ?_;rintro e w4 ⟨rfl,rfl⟩;clear q0;go_wp2_with fail;go_quiet (first|(go_at_call 101;refine Calls.quiet_of_same (HP.out.2.1 _))|(go_at_call 83;refine Calls.quiet_of_same (HP.out.2.2 _ rfl)));have kp:bW w4 (w4.drewN nq):=⟨rfl,rfl,rfl,XL _,λ_ _=>rfl⟩;have I:=HP.out.1.below kp;have kj:=rA I.TR I.vol.vol I.vol.arr I.fit I.n0 xs.os I.cat.any (by omega) cnt pgn (by omega) (by omega);have kf:decide ((ah xs.os).length+cnt+2*pgn+2<=A.nb)=ZX:=decide_eq_true (a.out.2.2.2.2);rw [kf] at kj;have U:=hide2 I (H.out.trans (kp.mono H.out.size));clear kp I kf d0 d6;obtain ⟨w5,qf⟩:=nM (w4.drewN nq);rw [qf] at kj U ⊢;clear qf;go_wp2_with fail;refine kj.mono ?_;rintro e w6 ⟨rfl,ko⟩;have kx:=U.out.1.below ko;have qe:=LM kx (n:=n) (cnt:=cnt) (pgn:=pgn) a.out.2.1.symm (by rw [a.out.2.2.2.1];exact a.out.2.2.1.symm) a.out.2.2.2.2;have O:=hide2 kx (U.out.2.trans (ko.mono U.out.2.size));clear ko kj U kx;dsimp only;have x3:IntKind.i64.wrap ((cnt:Int)+(pgn:Int))=(cnt:Int)+(pgn:Int):=by rw [IntKind.wrap_i64];omega
 go_wp2_with fail;refine qe.mono ?_;rintro e w7 ⟨g,cap,rfl,T,l,qh,kh,ki,Q⟩;have HT:=hide6 T l kh ki Q (O.out.1.below Q);clear qe T l kh ki Q;have k1:cnt<=cap:=by omega
 have k2:cnt<=cnt+pgn:=by omega
 have k3:(cnt:Int)<=(cap:Int):=by omega
 dsimp only;go_upto_region 15 with fail;have qo:1<=x.size/\x.size<=16:=by have:=hx;unfold bu at this;exact of_decide_eq_true this
 have qc:=uA x w7.drew (by omega) (by omega);have qd:=uA x (w7.drew.alloc (Z5 #[.string ⟨#[]⟩,Z8 Z9 0,Z6 ZZ 0 0] 123)) (by omega) (by omega);have q6:aw (w7.drew.alloc (Z5 #[.string ⟨#[]⟩,Z8 Z9 0,Z6 ZZ 0 0] 123)) w7.heap.size 123 [.string ⟨#[]⟩,Z8 Z9 0,Z6 ZZ 0 0]:=heap_alloc_last w7.drew _;have V:=hide3 qc qd q6;clear qc qd q6 qo;go_cut [13] from 72 to 80 (λqr wx=>∃ q,qr=Z7 (ZY ⟨q,0,ZZ⟩)/\aw wx q 123 [Z1 x,Z8 Z9 (n:Nat),Z6 (ZY ⟨g,0,ZZ⟩) cnt cnt]/\w7.heap.size<=q/\bW w7 wx)
 case first=>
  go_region_with (first
   | (go_at_call 103;refine V.out.1.mono ?_;rintro e w8 ⟨rfl,R⟩;have H8:=hide R;clear R)
   | (go_at_call 103;refine V.out.2.1.mono ?_;rintro e w8 ⟨rfl,R⟩;have E:aw w8 w7.heap.size 123 [.string ⟨#[]⟩,Z8 Z9 0,Z6 ZZ 0 0]:=V.out.2.2.keep (R.block _ V.out.2.2.lt);have z0:=E.cell (j:=0) (u:=.string ⟨#[]⟩) rfl;have z1:=E.cell (j:=1) (u:=Z8 Z9 0) rfl;have z2:=E.cell (j:=2) (u:=Z6 ZZ 0 0) rfl;have y0:=E.TX 0;have y1:=E.TX 1;have y2:=E.TX 2;have H9:=hide2 R E;clear R E))
  all_goals first
   | (go_wp2_with fail;go_meet;case rel=>exact It H8.out)
   | (go_wp2_with fail;go_meet;case rel=>exact Iu H9.out.1 H9.out.2)
 case rest=>
  obtain ⟨q,rfl,B,qs,Y⟩:=hcut;have x0:=B.cell (j:=0) (u:=Z1 x) rfl;have x1:=B.cell (j:=1) (u:=Z8 Z9 (n:Nat)) rfl;have x2:=B.cell (j:=2) (u:=Z6 (ZY ⟨g,0,ZZ⟩) cnt cnt) rfl;obtain ⟨fr,J⟩:=nM ((bj (tk A.nb (P++ah xs.os)).1 A.nb).take (cnt+pgn));rw [J] at HT;obtain ⟨T,l,kh,ki,Q,m⟩:=HT.out;have f:=m.below Y;have he:bW w w7:=O.out.2.trans (Q.mono O.out.2.size);have N:bW w wc:=he.trans (Y.mono he.size);have hh:ar<g/\¬ F.has p A.n g/\¬ ps.bl g:=⟨by have:=O.out.1.TR.lt;omega,λe=>by have:=O.out.1.vol.arr.TH e;omega,λe=>by have:=ps.lt _ O.out.1.kit _ e;omega⟩;have Z:¬ F.has p A.n q:=λe=>by have:=m.vol.arr.TH e;omega
  have qy:=m.nb;have kz:∀ c1,bN (λk=>ar<k/\¬ F.has p A.n k/\¬ ps.bl k) wc (Z6 (ZY ⟨g,0,ZZ⟩) cnt c1) (fr.take cnt):=λc1=>(xS T l hh (by have:=a.out.2.2.2.2;omega)).keep (eR.TF Y);have kc:∀ c1,bN (λk=>ar<k/\¬ F.has p A.n k/\¬ ps.bl k) wc (Z6 (ZY ⟨g,cnt,ZZ⟩) pgn c1) (fr.drop cnt):=λc1=>(Im T l hh (by have:=a.out.2.2.2.2;omega)).keep (eR.TF Y);have hs:(fr.take cnt).length=cnt:=by rw [XU,l];omega
  have km:=nO m.TM.VQ m.TM.VH (cnt+pgn);rw [J] at km;have hr:=m.par;obtain ⟨X,i,kg,hm⟩:=HD.out;have q4:=rP f.TR f.vol f.free f.UX f.fit f.TM.n hr.r hr.d1 hr.d hr.l1 hr.l4 hr.g hr.div hr.s f.TM.wait f.TM.lost x _ (fr.take cnt) ((kz cnt).UR λk o=>o.2.1) (λy hy=>(km.2 y (XP _ (X7 hy))).2) b off c d (λw' hO=>X w' ((aa.TG N _).trans hO)) (by omega) kg (λk o=>by
   rw [hs,<- a.out.2.1] at o;rw [i];exact Co hr.d1 o)
  rw [hs,i] at q4;have H9:=hide10 f N B Z kz kc l J m i;have qp:1<=pgn:=by rw [<- a.out.2.2.1];unfold mV pgs;omega
  clear B Y T l kh ki Q m f he N hh Z kz kc hs km hr X i J HT V HP H qs;go_wp2_with fail;refine q4.mono ?_;rintro e C ⟨rfl,k7,M⟩;obtain ⟨f,N,B,Z,qb,qa,l,J,m,i⟩:=H9.out;have h8:aw C q 123 _:=B.keep (M.block _ B.lt Z);have x6:=h8.cell (j:=0) (u:=Z1 x) rfl;have x7:=h8.cell (j:=1) (u:=Z8 Z9 (n:Nat)) rfl;have x8:=h8.cell (j:=2) (u:=Z6 (ZY ⟨g,0,ZZ⟩) cnt cnt) rfl;obtain ⟨_,_,_,_,y8⟩:=(f.TR.keep (M.block _ f.TR.lt f.UX)).cells;have q5:aa (F.has p A.n) w C.drew:=(aa.TG N _).trans (M.trans (aa.drew _));have kk:eR (λk=>ar<k/\¬ F.has p A.n k/\¬ ps.bl k) wc C.drew:=⟨M.size,λk o hK=>M.block k o hK.2.1⟩;have kr:∀ z∈d,z<256:=by obtain ⟨_,_,_,_,_,q3,_⟩:=HD.out.1 w (aa.refl _ _);exact q3
  have h2:cZ w C.drew ar v p ps D L G t pg ob P xs A F x d fr g cnt pgn (cap-cnt):=⟨a.out.1,q5,k7.keep λ_ _=>rfl,hx,HD.out.2.2.2,by rw [i];exact hn,kr,by rw [i];exact a.out.2.1.symm,by rw [i,a.out.2.2.2.1];exact a.out.2.2.1.symm,J.symm,l,a.out.2.2.2.2,(qb _).keep kk,(qa _).keep kk,qv⟩;have q2:=LF h2;rw [i,qm.out] at q2;have HR:=hide2 q2 h2;clear q2 h2 h8 q5 kk f N B Z qb qa l J m i k7 M q4 x0 x1 x2;have k4:¬ cap=cnt:=by omega
  go_wp2_with fail;go_region_with (first
   | (go_at_call 105;refine HR.out.1.mono ?_;rintro e x4 ⟨u,rfl,k8,k9⟩;have HC:=hide (EB HR.out.2 k8 k9);clear k8 k9)
   | (go_at_call 85;refine HC.out.mono ?_;rintro e x5 ⟨rfl,kb⟩;have HF:=hide kb;clear kb))
  all_goals (go_wp2;go_ret;exact ⟨rfl,HF.out⟩)
section
def eQ (w:ZV) (ar v p:Nat) (ps:cA) (D L G:Nat) (A:ay) (F:bh) (Q:ZU->Nat->aS->ay->ZV->Prop) (e:Ending) (w':ZV):Prop:=
 ∃ x t' pg' ob' P' xs' B,e=Z4 x/\noCut x/\aW w' ar v p ps D L G t' pg' ob' P' xs' B F/\B.n=A.n/\(B.nb=A.nb/\B.lost=A.lost)/\aa (λj=>j=ar\/F.has p A.n j) w w'/\Q x t' xs' B w'
def EE (D t:Nat) (xs:aS) (A:ay) (x:ByteArray) (d:List Nat) (r:ZU) (t':Nat) (xs':aS) (B:ay) (_:ZV):Prop:=B.reads=A.reads/\(
 (r=rQ 6/\t'=t/\xs'=xs/\bu x=ZW)\/(r=rQ 7/\t'=t/\xs'=xs/\bu x=ZX/\1500<d.length)\/(r=rQ 8/\t'=t/\xs'=xs/\bu x=ZX/\d.length<=1500/\x∈xs.names) \/
 (r=rQ 10/\t'=t/\xs'=xs/\bu x=ZX/\d.length<=1500/\x∉xs.names/\A.nb<(ah xs.os).length+fL D d.length+2*mV D (az xs.os).length d.length+2) \/
 (r=.nilIface/\t'=t+1/\bu x=ZX/\d.length<=1500/\x∉xs.names/\(ah xs.os).length+fL D d.length+2*mV D (az xs.os).length d.length+2<=A.nb/\∃ o,o.name=x/\xs'=xs.ins (o,d)))
def EF (t:Nat) (xs:aS) (A:ay) (x:ByteArray) (r:ZU) (t':Nat) (xs':aS) (B:ay) (_:ZV):Prop:=B.reads=A.reads/\(
 (r=rQ 6/\t'=t/\xs'=xs/\bu x=ZW)\/(r=rQ 9/\t'=t/\xs'=xs/\bu x=ZX/\x∉xs.names)\/(r=.nilIface/\t'=t+1/\bu x=ZX/\x∈xs.names/\xs'=xs.del (aD xs.names x)))
section
variable {w:ZV} {ar v p D L G t:Nat} {ps:cA} {pg ob:ZU} {P:List Nat} {xs:aS} {A:ay} {F:bh}
def qR (h:aW w ar v p ps D L G t pg ob P xs A F) {n:Int} (c:n≠13) {Q:ZU->Nat->aS->ay->ZV->Prop} {e:Ending} {w':ZV} (d:nV w n e w') (b:Q (rQ n) t xs A w'):eQ w ar v p ps D L G A F Q e w':=by
 obtain ⟨rfl,a⟩:=d;exact ⟨_,t,pg,ob,P,xs,A,rfl,.inr ⟨n,c,rfl⟩,h.below a,rfl,⟨rfl,rfl⟩,aa.TG a _,b⟩
theorem Nz (h:aW w ar v p ps D L G t pg ob P xs A F) (x:ByteArray) (b off c:Nat) (d:List Nat) (u:∀ w',aa (F.has p A.n) w w'->Bs w' (Z6 (ZY ⟨b,off,ZZ⟩) d.length c) d) (m:d.length<c) (r:t+1<=1000000) :
 ZT ZR 70 #[Z7 (ZY ⟨ar,0,ZZ⟩),Z1 x,Z6 (ZY ⟨b,off,ZZ⟩) d.length c] w (eQ w ar v p ps D L G A F (EE D t xs A x d)):=by
 cases hx:bu x with
 | false=>exact (Cj h x _ hx).mono λe w' a=>qR h (by decide) a ⟨rfl,.inl ⟨rfl,rfl,rfl,hx⟩⟩
 | true=>
  by_cases hl:1500<d.length
  . exact (Cl h x _ _ _ hx hl).mono λe w' a=>qR h (by decide) a ⟨rfl,.inr (.inl ⟨rfl,rfl,rfl,hx,hl⟩)⟩
  . have f:d.length<=1500:=(by omega);by_cases g:x∈xs.names
    . exact (vN h x _ _ _ hx f g).mono λe w' a=>qR h (by decide) a ⟨rfl,.inr (.inr (.inl ⟨rfl,rfl,rfl,hx,f,g⟩))⟩
    . by_cases hr:(ah xs.os).length+fL D d.length+2*mV D (az xs.os).length d.length+2<=A.nb
      . refine (PX h x b off c d u m hx f g hr r).mono ?_;rintro e w' ⟨rfl,k,j,l,B,o,ho,q,y,i,s⟩;exact ⟨_,_,k,j,l,_,B,rfl,.inl rfl,q,y,⟨i.1,i.2.1⟩,s,i.2.2,.inr (.inr (.inr (.inr ⟨rfl,rfl,hx,f,g,hr,o,ho,rfl⟩)))⟩
      . exact (Cm h x _ _ _ hx f g (by omega)).mono λe w' a=>qR h (by decide) a ⟨rfl,.inr (.inr (.inr (.inl ⟨rfl,rfl,rfl,hx,f,g,by omega⟩)))⟩
def PY (h:aW w ar v p ps D L G t pg ob P xs A F) (x:ByteArray) (j:t+1<=1000000) :
 ZT ZR 54 #[Z7 (ZY ⟨ar,0,ZZ⟩),Z1 x] w (eQ w ar v p ps D L G A F (EF t xs A x)):=by
 cases hx:bu x with
 | false=>exact (Ny h x hx).mono λe w' c=>qR h (by decide) c ⟨rfl,.inl ⟨rfl,rfl,rfl,hx⟩⟩
 | true=>
  by_cases a:x∈xs.names
  . refine (Rb h x hx a j).mono ?_;rintro e w' ⟨rfl,f,d,g,B,i,l,b,k⟩;exact ⟨_,_,f,d,g,_,B,rfl,.inl rfl,i,l,⟨b.1,b.2.1⟩,k,b.2.2,.inr (.inr ⟨rfl,rfl,hx,a,rfl⟩)⟩
  . exact (EC h x hx a).mono λe w' c=>qR h (by decide) c ⟨rfl,.inr (.inl ⟨rfl,rfl,rfl,hx,a⟩)⟩
end
def eQ.later {w0:ZV} {Q:ZU->Nat->aS->ay->ZV->Prop} {e:Ending} (h:eQ w ar v p ps D L G A F Q e w') (n:bW w0 w):eQ w0 ar v p ps D L G A F Q e w':=by
 obtain ⟨x,o,b,a,d,c,B,f,g,i,j,k,l,m⟩:=h;exact ⟨x,o,b,a,d,c,B,f,g,i,j,k,(aa.TG n _).trans l,m⟩
theorem Sc (h:aW w ar v p ps D L G t pg ob P xs A F) (x:ByteArray) (b off c:Nat) (d:List Nat) (B:∀ w',aa (F.has p A.n) w w'->Bs w' (Z6 (ZY ⟨b,off,ZZ⟩) d.length c) d) (I:d.length<c) (K:t+1<=1000000) :
 ZT ZR 45 #[Z7 (ZY ⟨ar,0,ZZ⟩),Z1 x,Z6 (ZY ⟨b,off,ZZ⟩) d.length c] w (eQ w ar v p ps D L G A F (EE D t xs A x d)):=by
 have O:∀ (fn:Fn) (first cap:Array ZU) (w:ZV),(Instr.makeFunc fn first cap).run ZR w=.ok (.func fn first cap) w:=λ_ _ _ _=>rfl;have J:∀ (args:Array ZU) (w:ZV),(callFunc 69 args).run ZR w=.ok (.enter 69 args) w:=enters_of func69 (by kernel_rfl) rfl;obtain ⟨n,s⟩:=nM (d.length);obtain ⟨w3,i⟩:=nM (((w.alloc (Z5 #[Z7 (ZY ⟨ar,0,ZZ⟩)] 90)).alloc (Z5 #[Z1 x] 9)).alloc (Z5 #[Z6 (ZY ⟨b,off,ZZ⟩) n c] 34));have g:ZS w3 w.heap.size 90 (Z7 (ZY ⟨ar,0,ZZ⟩)):=by rw [<- i];exact ((Boxed.new w _ _).alloc _).alloc _
 have j:ZS w3 (w.heap.size+1) 9 (Z1 x):=by
  have:=(Boxed.new (w.alloc (Z5 #[Z7 (ZY ⟨ar,0,ZZ⟩)] 90)) 9 (Z1 x)).alloc (Z5 #[Z6 (ZY ⟨b,off,ZZ⟩) n c] 34);rw [World.size_alloc] at this;rw [<- i];exact this
 have k:ZS w3 (w.heap.size+2) 34 (Z6 (ZY ⟨b,off,ZZ⟩) n c):=by
  have:=Boxed.new ((w.alloc (Z5 #[Z7 (ZY ⟨ar,0,ZZ⟩)] 90)).alloc (Z5 #[Z1 x] 9)) 34 (Z6 (ZY ⟨b,off,ZZ⟩) n c);simp only [World.size_alloc] at this;rw [<- i];exact this
 have f:bW w w3:=by rw [<- i];exact ((bA w _).alloc (by simp) _).alloc (by simp;omega) _
 have y:∀ w1,bW w3 w1->ZT ZR 69 #[Z7 (ZY ⟨w.heap.size,0,ZZ⟩),Z7 (ZY ⟨w.heap.size+1,0,ZZ⟩),Z7 (ZY ⟨w.heap.size+2,0,ZZ⟩)] w1 (eQ w1 ar v p ps D L G A F (EE D t xs A x d)):=λw1 a=>by
  have g1:=(show ZS w1 w.heap.size 90 _ from (a.block _ g.lt).trans g).cell;have M:=(show ZS w1 (w.heap.size+1) 9 _ from (a.block _ j.lt).trans j).cell;have N:=(show ZS w1 (w.heap.size+2) 34 _ from (a.block _ k.lt).trans k).cell;have l:bW w w1:=f.trans (a.mono f.size);have u:=Nz (h.below l) x b off c d (λw' E=>B w' ((aa.TG l _).trans E)) I K;rw [s] at u;clear g j k a l i f;go_enter func69,ntmps69;go_wp2_with fail;refine u.mono ?_;rintro e w2 m;obtain ⟨r,_,_,_,_,_,_,rfl,_⟩:=id m;have H:=hide m;clear m u;go_wp2;go_ret;exact H.out
 have z:=Og (h.below f) 69 #[] #[Z7 (ZY ⟨w.heap.size,0,ZZ⟩),Z7 (ZY ⟨w.heap.size+1,0,ZZ⟩),Z7 (ZY ⟨w.heap.size+2,0,ZZ⟩)] J (EE D t xs A x d) (λ_ _ _ _ _ _ _ q=>q) (λw1 a _=>y w1 a);have c1:=g.cell;rw [s];have H:=hide2 z f;clear z f y g j k h B s;go_enter func45,ntmps45;go_wp2_with fail;refine H.out.1.mono ?_;rintro e w8 o;obtain ⟨r,_,_,_,_,_,_,rfl,_⟩:=id o;have C:=hide (eQ.later o H.out.2);clear o;go_wp2;go_ret;exact C.out
theorem NA (h:aW w ar v p ps D L G t pg ob P xs A F) (x:ByteArray) (s:t+1<=1000000) :
 ZT ZR 37 #[Z7 (ZY ⟨ar,0,ZZ⟩),Z1 x] w (eQ w ar v p ps D L G A F (EF t xs A x)):=by
 have y:∀ (fn:Fn) (first cap:Array ZU) (w:ZV),(Instr.makeFunc fn first cap).run ZR w=.ok (.func fn first cap) w:=λ_ _ _ _=>rfl;have o:∀ (args:Array ZU) (w:ZV),(callFunc 53 args).run ZR w=.ok (.enter 53 args) w:=enters_of func53 (by kernel_rfl) rfl;obtain ⟨w3,f⟩:=nM ((w.alloc (Z5 #[Z7 (ZY ⟨ar,0,ZZ⟩)] 90)).alloc (Z5 #[Z1 x] 9));have c:ZS w3 w.heap.size 90 (Z7 (ZY ⟨ar,0,ZZ⟩)):=by rw [<- f];exact (Boxed.new w _ _).alloc _
 have d:ZS w3 (w.heap.size+1) 9 (Z1 x):=by
  have:=Boxed.new (w.alloc (Z5 #[Z7 (ZY ⟨ar,0,ZZ⟩)] 90)) 9 (Z1 x);rw [World.size_alloc] at this;rw [<- f];exact this
 have b:bW w w3:=by rw [<- f];exact (bA w _).alloc (by simp) _
 have k:∀ w1,bW w3 w1->ZT ZR 53 #[Z7 (ZY ⟨w.heap.size,0,ZZ⟩),Z7 (ZY ⟨w.heap.size+1,0,ZZ⟩)] w1 (eQ w1 ar v p ps D L G A F (EF t xs A x)):=λw1 a=>by
  have g1:=(show ZS w1 w.heap.size 90 _ from (a.block _ c.lt).trans c).cell;have u:=(show ZS w1 (w.heap.size+1) 9 _ from (a.block _ d.lt).trans d).cell;have j:bW w w1:=b.trans (a.mono b.size);have m:=PY (h.below j) x s;clear c d a j f b;go_enter func53,ntmps53;go_wp2_with fail;refine m.mono ?_;rintro e w2 g;obtain ⟨r,_,_,_,_,_,_,rfl,_⟩:=id g;have H:=hide g;clear g m;go_wp2;go_ret;exact H.out
 have l:=Og (h.below b) 53 #[] #[Z7 (ZY ⟨w.heap.size,0,ZZ⟩),Z7 (ZY ⟨w.heap.size+1,0,ZZ⟩)] o (EF t xs A x) (λ_ _ _ _ _ _ _ q=>q) (λw1 a _=>k w1 a);have c1:=c.cell;have H:=hide2 l b;clear l b k c d h;go_enter func37,ntmps37;go_wp2_with fail;refine H.out.1.mono ?_;rintro e w8 i;obtain ⟨r,_,_,_,_,_,_,rfl,_⟩:=id i;have n:=hide (eQ.later i H.out.2);clear i;go_wp2;go_ret;exact n.out
theorem Sd (i:ZS w sa 92 (Z7 (ZY ⟨ar,0,ZZ⟩))) (h:aW w ar v p ps D L G t pg ob P xs A F) (x:ByteArray) (b off c:Nat) (d:List Nat) (g:∀ w',aa (F.has p A.n) w w'->Bs w' (Z6 (ZY ⟨b,off,ZZ⟩) d.length c) d) (k:d.length<c) (l:t+1<=1000000) :
 ZT ZR 32 #[Z7 (ZY ⟨sa,0,ZZ⟩),Z1 x,Z6 (ZY ⟨b,off,ZZ⟩) d.length c] w (eQ w ar v p ps D L G A F (EE D t xs A x d)):=by
 have cs:=i.cell;have f:=Sc h x b off c d g k l;clear i h g;go_enter func32,ntmps32;go_wp2_with fail;refine f.mono ?_;rintro e w8 a;obtain ⟨r,_,_,_,_,_,_,rfl,_⟩:=id a;have j:=hide a;clear a f;go_wp2;go_ret;exact j.out
theorem NC (c:ZS w sa 92 (Z7 (ZY ⟨ar,0,ZZ⟩))) (h:aW w ar v p ps D L G t pg ob P xs A F) (x:ByteArray) (f:t+1<=1000000) :
 ZT ZR 21 #[Z7 (ZY ⟨sa,0,ZZ⟩),Z1 x] w (eQ w ar v p ps D L G A F (EF t xs A x)):=by
 have cs:=c.cell;have b:=NA h x f;clear c h;go_enter func21,ntmps21;go_wp2_with fail;refine b.mono ?_;rintro e w8 a;obtain ⟨r,_,_,_,_,_,_,rfl,_⟩:=id a;have d:=hide a;clear a b;go_wp2;go_ret;exact d.out
end
def eN (a:ps.S w) {k:Nat} {cs:Array ZU} {T:TypeId} {z:Nat×Nat} (h:w.heap[k]?=ZY (Z5 cs T z)) (b:¬ l9 T):¬ ps.bl k:=λc=>b (ps.kd w a k c cs T z h)
def xO:¬ l9 196:=by unfold l9;decide
def uK:¬ l9 34:=by unfold l9;decide
def FB {v:ZU} (h:w.ownsRow 0 284 4 v (bG D L G s C).length (er .u8 (bG D L G s C))) (hl:(bG D L G s C).length<=4398046511104):Ps .u8 w v (bG D L G s C):=My h hl
def Ra (a b:Nat) (c:a<65536) (d:b<65536):bits .or .u64 (a:Int) (b:Int)=((a|||b:Nat):Int):=bits_or_u64_nat a b (by omega) (by omega)
def Nt {a:Nat} (c:a<65536) (d:b<65536):a|||b<65536:=Nat.or_lt_two_pow (n:=16) c d
theorem Ig {S l:Nat} (h:S &&& l=0) {i:Nat} (a:S.testBit i=ZX):l.testBit i=ZW:=by
 have:=congrArg (λx=>x.testBit i) h;simp only [Nat.testBit_and,a,Bool.true_and,Nat.zero_testBit] at this;exact this
structure CD (D L G:Nat) (Kind:cA->Prop) (ps ps':cA) (lost s:Nat) (C:Ck) (ao:Option Addr) (m c B:Nat) (wx:ZV):Prop where
 kind:Kind ps'
 Vp:ps'.ps=ps.ps
 V7:ps'.ho=ps.ho
 kit:ps'.S wx
 bl:∀ k,ps'.bl k->ps.bl k\/B<=k
 ob:∀ k,(Value.slice ao m c).ownBlock=ZY k->ps.bl k\/B<=k
 own:wx.ownsRow 0 284 4 (.slice ao m c) (bG D L G s C).length (er .u8 (bG D L G s C))
 Va:D5 D L G lost s
 told:tells (fw D L G) (ab (av (D+L+G) s))=ZY C
def CD.keep {c:Nat} {wy:ZV} (h:CD D L G Kind ps ps' lost s C ao m c B wx) {T:Nat->Prop} (d:aa T wx wy) (f:∀ k,T k->k<B/\¬ ps.bl k):CD D L G Kind ps ps' lost s C ao m c B wy:=
 ⟨h.kind,h.Vp,h.V7,ps'.keep _ _ h.kit λk a=>d.block k (ps'.lt _ h.kit k a) (λq=>by
  have b:=f k q;rcases h.bl k a with e|e
  . exact b.2 e
  . omega),h.bl,h.ob,dA h.own d (λk a q=>by
  have b:=f k q;rcases h.ob k a with e|e
  . exact b.2 e
  . omega),h.Va,h.told⟩
def CD.mono {c B':Nat} (h:CD D L G Kind ps ps' lost s C ao m c B wx) (b:B'<=B):CD D L G Kind ps ps' lost s C ao m c B' wx:=
 ⟨h.kind,h.Vp,h.V7,h.kit,λk a=>(h.bl k a).imp id λq=>XG b q,λk a=>(h.ob k a).imp id λq=>XG b q,h.own,h.Va,h.told⟩
def C5 (r v ps D L G:Nat) (w:ZV):Prop:=w.cell? ⟨r,0,ZZ⟩=ZY (Z7 (ZY ⟨v,0,ZZ⟩))/\w.cell? ⟨v,1,ZZ⟩=ZY (Z8 Z9 (D:Int))/\w.cell? ⟨v,2,ZZ⟩=ZY (Z8 Z9 (L:Int))/\w.cell? ⟨v,3,ZZ⟩=ZY (Z8 Z9 (G:Int))/\w.cell? ⟨v,4,ZZ⟩=ZY (Z7 (ZY ⟨ps,0,ZZ⟩))
def Lz {r g N gone sp ps:Nat} (hr:ew w r v b g N gone sp) (a:bt w v p D L G ps ho):C5 r v ps D L G w:=by
 obtain ⟨_,c,d,e,f,_⟩:=a.cells;exact ⟨hr.cells.1,c,d,e,f⟩
def Ez (h:k<=16):ab (2^k-1)=List.range k:=oF h
def Ce (R:Nat->List Nat):∀ m,(∀ i,i<m->(R i).length=44)->((List.range m).map R).flatten.length=44*m
 | 0,_=>rfl
 | m+1,h=>by
  rw [List.range_succ,XS,List.flatten_append,X8,Ce R m λi a=>h i (by omega)];simp [h m (by omega)];omega
theorem PS {base M size:Nat} {fl:List Nat} (h:w.ownsRow base 5 1 u M (aH fl)) (y:fl.length=M) (v:∀ x∈fl,x<256) (B:size<=M) (z:M<=1000000):∃ ao cp,u=.slice ao M cp/\M<=cp/\cp<=9223372036854775807/\(ao=ZZ->M=0/\cp=0)/\(∀ a,ao=ZY a->base<=a.block)/\Bs w (.slice ao size size) (fl.take size):=by
 have hl:(fl.take size).length=size:=by rw [XU];omega
 rcases h.2 with ⟨d,e⟩|⟨b,cp,cur,d,m,n,o,p,A,r⟩
 . have s:size=0:=(by omega);subst s;exact ⟨ZZ,0,by rw [d,e],by omega,by omega,λ_=>⟨e,rfl⟩,λa h=>(by cases h),by rw [List.take_zero];exact ⟨ZZ,0,rfl,XL _,by decide,λ_ h=>(by cases h),λh=>absurd rfl h⟩⟩
 . have j:cp<=9223372036854775807:=(by unfold maxLen at p;omega);refine ⟨ZY ⟨b,0,ZZ⟩,cp,d,o,j,λh=>(by cases h),λa h=>(by cases h;exact m),ZY ⟨b,0,ZZ⟩,size,by rw [hl],by rw [hl];exact XL _,?_,λx t=>v x (X7 t),λ_=>⟨b,0,rfl,λk g=>?_⟩⟩
   . rw [hl];omega
   . rw [hl] at g;have f:k<fl.length:=(by omega);have q:cur[k]?=ZY (Z8 .u8 ((fl[k]:Nat):Int)):=by
      have c:=congrArg (λl=>l[k]?) r;simp only [Nat.mul_one,aH] at c;rw [List.getElem?_take_of_lt (by omega),Array.getElem?_toList,List.getElem?_map,X3 f] at c;exact c
     have i:(fl.take size).getD k 0=fl[k]:=(by simp [List.getD_eq_getElem?_getD,g,f]);rw [i];simp [World.cell?,n,q]
theorem xP (D L G:Int) (w:ZV) (a:0<=D/\D<=100) (b:0<=L/\L<=100) (c:0<=G/\G<=100):ZT ZR 9 #[.agg #[Z8 Z9 D,Z8 Z9 L,Z8 Z9 G]] w λe w'=>e=Z4 (Z8 Z9 (D+L+G))/\w'=w.alloc (Z5 #[Z8 Z9 D,Z8 Z9 L,Z8 Z9 G] 25):=by
 obtain ⟨d,f⟩:=a;obtain ⟨b1,b2⟩:=b;obtain ⟨c1,g⟩:=c;go_enter func9,ntmps9;go_wp2;go_ret;exact ⟨rfl,rfl⟩
theorem Ih {ps:Nat} (h:bt w v p D L G ps ho) (hD:D<=12) (hL:L<=4) (hG:G<=4) {N:Nat} (n:N=D+L+G):ZT ZR 75 #[Z7 (ZY ⟨v,0,ZZ⟩)] w λe w'=>e=Z4 (Z7 (ZY ⟨w.heap.size+2,0,ZZ⟩))/\ew w' (w.heap.size+2) v 0 (w.heap.size+1) N 0 0/\w'.rowIs (w.heap.size+1) 34 N (λ_=>Z6 ZZ 0 0)/\bW w w':=by
 obtain ⟨_,c1,j,k,_⟩:=h.cells;go_enter func75,ntmps75;go_wp2_with fail;refine (xP (D:Int) (L:Int) (G:Int) w ⟨by omega,by omega⟩ ⟨by omega,by omega⟩ ⟨by omega,by omega⟩).mono ?_;rintro e f ⟨rfl,c⟩;rw [show ((D:Int)+(L:Int)+(G:Int))=(N:Int) by omega];have o:N<=20:=by omega
 have a:bW w f:=by rw [c];exact bA w _
 have b:f.heap.size=w.heap.size+1:=by rw [c];simp
 have i:=hide2 a b;clear a c1 j k h n c b;go_wp2_with (at_make;refine vC _ rfl (Z2 8) (Z2 8) rfl _ N rfl rfl rfl (by omega) ?_;intro g d m q);go_ret;obtain ⟨a,b⟩:=i.out;have l:g.heap.size=w.heap.size+2:=by omega
 rw [b] at d ⊢;refine ⟨rfl,?_,?_,?_⟩
 . have:=blk_alloc_new g (Z5 (QI v 0 (w.heap.size+1) N 0 0) 196);rw [l] at this;exact this
 . exact d.of_block (blk_alloc_lt _ _ _ (by omega))
 . exact (a.trans (m.mono a.size)).alloc (by omega) _
def z6 (w:ZV) (D L G nb c0:Nat) (e:Ending) (w':ZV):Prop:=
 ∃ wb p r sa ar v sb cache F pg A,e=Z4 (Z0 #[Z7 (ZY ⟨wb,0,ZZ⟩),Z3 ZX])/\nX w' wb D L G (Z7 (ZY ⟨p,0,ZZ⟩)) (Z7 (ZY ⟨sa,0,ZZ⟩)) (Z7 (ZY ⟨r,0,ZZ⟩)) nb (Z6 ZZ 0 0) (Z6 ZZ 0 0) cache /\
  oU w' r (r+1) (Z6 ZZ 0 0) []/\ZS w' sa 92 (Z7 (ZY ⟨ar,0,ZZ⟩))/\aW w' ar v p (uJ sb (c0:Int) 0) D L G 1 pg (Z6 ZZ 0 0) [2] [] A F/\A.nb=nb/\(∀ k,F.has p A.n k->w.heap.size<=k)/\w.heap.size<=wb/\wb<ar/\wb<v/\bW w w'/\(∀ i,A.lost i=ZW)/\w.heap.size<=sb/\wb<sb/\A.reads=((jz (D+L+G) nb).TL (D+L+G)).reads
theorem xU {nb:Nat} (hr:vL D L G) (kk:8<=nb) (kf:nb<=1000) (c:Int) (hv:bk w) (ht:aJ w) (hK:3<=w.heap.size) :
 ZT ZR 7 #[.agg #[Z8 Z9 (D:Nat),Z8 Z9 (L:Nat),Z8 Z9 (G:Nat)],Z8 Z9 (nb:Nat),Z8 Z9 c] w λe w'=>∃ W:Nat,W<65/\(∀ n:Nat,n<65->c=(n:Int)->W=n)/\z6 w D L G nb W e w':=by
 obtain ⟨i,ky,I⟩:=pI c 65 (by decide) (by decide);have hb:wrap64 ((IntKind.u64.wrap c).tmod 65)=(i:Int):=by simpa using I
 clear I;have k0:∀ n:Nat,n<65->c=(n:Int)->i=n:=λn hn e=>by
  subst e;have:wrap64 ((IntKind.u64.wrap (n:Int)).tmod 65)=(n:Int):=by
   have e1:IntKind.u64.wrap (n:Int)=(n:Int):=(by rw [IntKind.wrap_u64];omega);rw [e1,show (n:Int).tmod 65=(n:Int) from Int.tmod_eq_of_lt (by omega) (by omega)];exact nj (by omega)
  omega
 have kv:=hide k0;clear k0;obtain ⟨w1,kh⟩:=nM (w.alloc (Z5 #[Z8 Z9 (D:Nat),Z8 Z9 (L:Nat),Z8 Z9 (G:Nat)] 25));have O:aw w1 w.heap.size 25 [Z8 Z9 (D:Nat),Z8 Z9 (L:Nat),Z8 Z9 (G:Nat)]:=by rw [<- kh];exact heap_alloc_last w _
 have x0:=O.cell (j:=0) (u:=Z8 Z9 (D:Nat)) rfl;have x1:=O.cell (j:=1) (u:=Z8 Z9 (L:Nat)) rfl;have x2:=O.cell (j:=2) (u:=Z8 Z9 (G:Nat)) rfl;have kj:bW w w1:=by rw [<- kh];exact bA w _
 have ko:=xP (D:Int) (L:Int) (G:Int) w1 ⟨by omega,by have:=hr.d;omega⟩ ⟨by omega,by have:=hr.l4;omega⟩ ⟨by omega,by have:=hr.g;omega⟩;have H:=hide2 O kj;clear O kj;go_enter func7,ntmps7;go_wp2_with fail;refine ko.mono ?_;rintro e w2 ⟨rfl,kr⟩;have U:bW w1 w2:=by rw [kr];exact bA w1 _
 clear kr kh x0 x1 x2 ko;have ke:=yS (D+L+G) nb w2 (by have:=hr.s;omega) (by omega);rw [show ((D+L+G:Nat):Int)=(D:Int)+(L:Int)+(G:Int) by omega] at ke;go_wp2_with fail;refine ke.mono ?_;rintro e w3 ⟨rfl,z,hF⟩;obtain ⟨F,t,b⟩:∃ F:bh,aq w3 w2.heap.size (jz (D+L+G) nb) F/\∀ k,F.has w2.heap.size (D+L+G) k->w2.heap.size<=k:=by
  rcases hF with ⟨h0,_⟩|⟨_,F,x,X⟩
  . have:=hr.d1;omega
  . exact ⟨F,x,X⟩
 have h:bW w w2:=H.out.2.trans (U.mono H.out.2.size);have l:bW w w3:=h.trans (z.mono h.size);have R:aw w3 w.heap.size 25 _:=H.out.1.keep ((z.block _ (XO H.out.1.lt U.size)).trans (U.block _ H.out.1.lt));have y0:=R.cell (j:=0) (u:=Z8 Z9 (D:Nat)) rfl;have y1:=R.cell (j:=1) (u:=Z8 Z9 (L:Nat)) rfl;have y2:=R.cell (j:=2) (u:=Z8 Z9 (G:Nat)) rfl;obtain ⟨p,E⟩:=nM (w2.heap.size);rw [E] at t b ⊢;have H3:=hide6 t b l z E h;clear t b l z E h R hF ke U;dsimp only;go_wp2_with fail;obtain ⟨a,C⟩:=nM ((w3.alloc (Z5 #[Z6 ZZ 0 0] 53)).alloc (Z5 #[Z8 Z9 (D:Nat),Z8 Z9 (L:Nat),Z8 Z9 (G:Nat),Z7 (ZY ⟨p,0,ZZ⟩),.pointer ZZ,Z7 (ZY ⟨w3.heap.size,0,ZZ⟩),Z8 Z9 (nb:Nat),Z6 ZZ 0 0,Z6 ZZ 0 0,Z8 Z9 (i:Nat)] 36));have V:a.heap[w3.heap.size]?=ZY (Z5 #[Z6 ZZ 0 0] 53 (0,0)):=by rw [<- C];exact (blk_alloc_lt _ _ _ (by simp)).trans (heap_alloc_last w3 _)
 have S:nX a (w3.heap.size+1) D L G (Z7 (ZY ⟨p,0,ZZ⟩)) (.pointer ZZ) (Z7 (ZY ⟨w3.heap.size,0,ZZ⟩)) nb (Z6 ZZ 0 0) (Z6 ZZ 0 0) (i:Int):=by
  rw [<- C];have:=heap_alloc_last (w3.alloc (Z5 #[Z6 ZZ 0 0] 53)) (Z5 #[Z8 Z9 (D:Nat),Z8 Z9 (L:Nat),Z8 Z9 (G:Nat),Z7 (ZY ⟨p,0,ZZ⟩),.pointer ZZ,Z7 (ZY ⟨w3.heap.size,0,ZZ⟩),Z8 Z9 (nb:Nat),Z6 ZZ 0 0,Z6 ZZ 0 0,Z8 Z9 (i:Nat)] 36);rw [World.size_alloc] at this;exact this
 have Y:bW w3 a:=by rw [<- C];exact (bA w3 _).alloc (by simp) _
 have ki:a.heap.size=w3.heap.size+2:=by rw [<- C];simp
 obtain ⟨t,b,l,z,E,h⟩:=H3.out;have o:bW w a:=l.trans (Y.mono l.size);have Z:bW a a.drew:=(Below.refl _ a).drew;have J:aq a.drew p (jz (D+L+G) nb) F:=(t.below Y lR).below Z lR;have k1:2<3:=by decide
 have k2:1<3:=by decide
 have k5:=h.size;have y:∀ k,F.has p (D+L+G) k->k<w3.heap.size:=λk Q=>t.TH Q;have M:¬ F.has p (D+L+G) 2:=λe=>by have:=b _ e;omega
 have N:¬ F.has p (D+L+G) 1:=λe=>by have:=b _ e;omega
 have P:bW w a.drew:=o.trans (Z.mono o.size);have kp:=Il (cache:=(i:Int)) (A:=jz (D+L+G) nb) J (nE (by have:=hr.s;omega) (by omega)) rfl hr.r hr.d1 hr.d hr.l1 hr.l4 hr.g hr.div hr.s (by omega) (by omega) kk (by show (-1:Int)<0;omega) (λ_=>rfl) (λ_=>rfl) (λ_ _=>rfl) (hv.below P hv.lt) (ht.keep (P.block _ ht.lt)) (XG hK P.size) M N;have km:=Iw S ⟨_,rfl⟩ (λsa w2=>∃ ar v ps u,a.heap.size<=sa/\ZS w2 sa 92 (Z7 (ZY ⟨ar,0,ZZ⟩))/\zY a.drew w2 p D L G ar v ps u (jz (D+L+G) nb) F i)
  (λsa w2 hR=>by
   obtain ⟨ar,v,ps,u,_,_,f⟩:=hR;exact f.out.block _ (by show w3.heap.size+1<a.heap.size;omega) (λe=>by have:=y _ e;omega))
  (kp.mono (by
   rintro e w2 ⟨sa,ar,v,ps,u,rfl,x,X,h3⟩;exact ⟨sa,rfl,ar,v,ps,u,x,X,h3⟩))
 have H5:=hide8 V S o ki J y M N;clear V S Y ki t b l z E h o Z J k1 k2 k5 y M N P kp;rw [C];refine km.mono ?_;rintro e w6 ⟨rfl,sa,w7,w8,⟨ar,v,ps,u,kg,K,f⟩,m,T,ks⟩;have H6:=hide6 kg K f m T ks;clear kg K f m T ks km C;dsimp only;go_wp2;go_ret2;obtain ⟨V,S,o,ki,J,y,M,N⟩:=H5.out;obtain ⟨kg,K,f,m,T,rfl⟩:=H6.out;obtain ⟨_,b,l,_,E,h⟩:=H3.out;have q4:=l.size;have k5:=h.size;have kx:a.heap.size<=ar:=f.VU;have q5:a.heap.size<=v:=f.Wi;have hg:∀ j,j≠w3.heap.size+1->(w8.setCell ⟨w3.heap.size+1,4,ZZ⟩ (Z7 (ZY ⟨sa,0,ZZ⟩))).heap[j]?=w8.heap[j]?:=λj hj=>blk_setCell_other _ _ _ _ hj;have q6:a.heap.size<=w7.heap.size:=f.out.size;have q7:=m.size;have q2:¬ F.has p (D+L+G) w3.heap.size:=λe=>by have:=y _ e;omega
 have q3:¬ F.has p (D+L+G) (w3.heap.size+1):=λe=>by have:=y _ e;omega
 obtain ⟨sb,kz,hh⟩:=LN f J rfl hr kk kf (by show (-1:Int)<0;omega) (λ_=>rfl) (λ_ _=>rfl) (XG hK o.size) M N (EG ((nE (by have:=hr.s;omega) (by omega)).TL _) hr.d hr.l4 hr.g rfl);have q0:=kz.below m;have q1:=q0.other (w':=w8.setCell ⟨w3.heap.size+1,4,ZZ⟩ (Z7 (ZY ⟨sa,0,ZZ⟩))) (by simp [World.setCell]) (λj hj _=>hg j hj) (by omega) (by omega) q3 (by omega) (λq=>by have q':sb<=w3.heap.size+1/\_:=q;have:a.heap.size<=sb:=hh;omega);have hO:aa (F.has p (D+L+G)) a w7:=(aa.drew a).trans f.out;have kb:bW w (w8.setCell ⟨w3.heap.size+1,4,ZZ⟩ (Z7 (ZY ⟨sa,0,ZZ⟩))):=by
  have x:bW w w7:=o.trans (hO.below (B:=w.heap.size) λk Q=>⟨by omega,λe=>by have:=b _ e;omega⟩);exact Below.setCell (p:=⟨w3.heap.size+1,4,ZZ⟩) (x.trans (m.mono x.size)) (by show w.heap.size<=w3.heap.size+1;omega) _
 refine ⟨i,ky,kv.out,w3.heap.size+1,p,w3.heap.size,sa,ar,v,sb,i,F,u,_,rfl,T,⟨?_,World.ownsRow_nil _ _ _ _⟩,?_,q1,rfl,λk Q=>by have:=b k Q;omega,by omega,by omega,by omega,kb,λ_=>rfl,by have:a.heap.size<=sb:=hh;omega,by have:a.heap.size<=sb:=hh;omega,rfl⟩
 . exact (hg _ (by omega)).trans ((m.block _ (by omega)).trans ((hO.block _ (by omega) q2).trans V))
 . exact (hg _ (by omega)).trans ((m.block _ K.lt).trans K)
section
structure Pq where
 lost:Nat
 nb:Nat
 s:Nat
 C:Ck
 ao:Option Addr
 m:Nat
 c:Nat
def Pq.cn (D L G:Nat) (q:Pq):Fp:=⟨D,L,G,(q.lost:Nat),ZX,1+((ab (av (D+L+G) q.s)).length:Int),.slice q.ao q.m q.c⟩
def j7 (qs:List Pq):List Nat:=qs.map (·.nb)
def pF (sb:Nat) (qs:List Pq) (a:Nat):Prop:=a=sb\/a∈j7 qs
structure gh (w:ZV) (sb:Nat) (room:Int) (D L G:Nat) (pl:Nat->Nat) (es:List (Nat×Nat×Nat)) (qs:List Pq):Prop where
 list:fG w sb room
 TV:w.heap[sb+1+1+1]?=ZY (Z5 #[Z7 (ZY ⟨sb+1+1,0,ZZ⟩)] 230 (0,0))
 map:∃ n,w.heap[sb+1]?=ZY (.map (dN D L G es).toArray n)
 ring:∃ cn nw ol,pN w (pF sb qs) cn nw ol/\uW nw ol sb (j7 qs) sb/\∀ q∈qs,cn q.nb=q.cn D L G
 nd:(sb::j7 qs).Nodup
 lo:(cV es).Nodup
 Vb:∀ e∈es,∃ q∈qs,q.lost=e.1/\q.nb=e.2.1
 Vx:∀ q∈qs,∃ e∈es,e.1=q.lost/\e.2.1=q.nb
 len:es.length=qs.length
 Ux:∀ q∈qs,sb+1+1+1<q.nb
 own:∀ q∈qs,w.ownsRow 0 284 4 (.slice q.ao q.m q.c) (bG D L G q.s q.C).length (er .u8 (bG D L G q.s q.C))
 Va:∀ q∈qs,D5 D L G q.lost q.s
 told:∀ q∈qs,tells (fw D L G) (ab (av (D+L+G) q.s))=ZY q.C
 ld:∀ q∈qs,nD (bG D L G q.s q.C)=pl q.lost
section
variable {w w':ZV} {sb:Nat} {room:Int} {D L G:Nat} {pl:Nat->Nat} {es:List (Nat×Nat×Nat)} {qs:List Pq}
def gh.apart (h:gh w sb room D L G pl es qs) (a:Nat) (b:pF sb qs a):a≠sb+1/\a≠sb+1+1/\a≠sb+1+1+1/\a<w.heap.size/\∃ cs,w.heap[a]?=ZY (Z5 cs 262 (0,0)):=by
 obtain ⟨cn,nw,ol,d,_,_⟩:=h.ring;have c:=d a b;refine ⟨?_,?_,?_,c.lt,_,c⟩;all_goals
  rcases b with rfl|b
  . omega
  . obtain ⟨q,e,rfl⟩:=XK.1 b;have:=h.Ux q e;omega
def gh.steps (h:gh w sb room D L G pl es qs) {q:Pq} (f:q∈qs) {k:Nat} (d:(Value.slice q.ao q.m q.c).ownBlock=ZY k):¬ pF sb qs k:=λe=>by
 obtain ⟨_,_,_,_,cs,b⟩:=h.apart k e;obtain ⟨cur,a⟩:=iS (h.own q f) d;rw [b] at a;simp only [X9,Obj.cells.injEq] at a;exact absurd a.2.1 (by decide)
def LA (qs l r:List Pq) (q:Pq) (h:qs=l++q::r):j7 qs=j7 l++q.nb::j7 r:=by rw [h];simp [j7]
theorem PT (h:gh w sb room D L G pl es qs) {x:Nat} (Z:x∈cV es) :
 ∃ q t,q∈qs/\q.lost=x/\(∀ p,p∈t↔p∈qs)/\∀ W,gh W sb room D L G pl es qs->ZT ZR 167 #[Z7 (ZY ⟨sb+1+1,0,ZZ⟩),bP D L G x ZX] W λe w'=>e=Z4 (Z0 #[.agg #[Z8 Z9 (1+((ab (av (D+L+G) q.s)).length:Int)),.slice q.ao q.m q.c],Z3 ZX])/\gh w' sb room D L G pl es t/\aa (pF sb qs) W w':=by
 obtain ⟨e,u,f⟩:=XK.1 Z;obtain ⟨k,H,M⟩:=XV u;obtain ⟨q,v,O,hz⟩:=h.Vb e u;obtain ⟨l,r,B⟩:=List.append_of_mem v;have d:∀ p,p∈q::(l++r)↔p∈qs:=λp=>by rw [B];simp only [XH,XQ];constructor<;>(intro h;rcases h with h|h|h<;>simp [h])
 refine ⟨q,q::(l++r),v,O.trans f,d,λW h=>?_⟩;obtain ⟨cn,nw,ol,S,hL,K⟩:=h.ring;obtain ⟨n,P⟩:=h.map;have N:=LA qs l r q B;have i:=h.nd;rw [N] at hL i;have F:sb∉j7 l++q.nb::j7 r:=(XI.1 i).1;obtain ⟨U,hr,X⟩:=uW.take hL i F;have Y:∀ a,pF sb (q::(l++r)) a↔pF sb qs a:=λa=>by
  unfold pF j7;simp only [XK];constructor
  . rintro (e|⟨p,b,e⟩)
    . exact .inl e
    . exact .inr ⟨p,(d p).1 b,e⟩
  . rintro (e|⟨p,b,e⟩)
    . exact .inl e
    . exact .inr ⟨p,(d p).2 b,e⟩
 have E:∀ a,a∈sb::(j7 l++q.nb::j7 r)->pF sb qs a:=λa g=>by
  rcases XH.1 g with e|e
  . exact .inl e
  . exact .inr (by rw [N];exact e)
 have I:pF sb qs (nw q.nb):=E _ (by
  rcases XH.1 hr with e|e
  . rw [e];exact XN ..
  . exact XJ _ (XP _ e))
 have J:pF sb qs (ol q.nb):=by
  rcases X with e|e
  . exact E _ (XJ _ (Ya _ (XJ _ e)))
  . exact .inl e
 have R:pF sb qs (ol sb):=by
  rcases hL.T4 with e|e
  . exact .inl e.1
  . exact E _ (XJ _ e)
 have C:q.nb∉sb::(j7 l++j7 r):=by
  intro o;have A:=(XI.1 i).2;rcases XH.1 o with e|e
  . exact F (by rw [<- e];simp)
  . rw [XW] at A;rcases XQ.1 e with e|e
    . exact A.2.2 _ e _ (XN ..) rfl
    . exact (XI.1 A.2.1).1 e
 have z:(sb::(j7 l++j7 r)).Nodup:=by
  refine XI.2 ⟨λe=>F ?_,?_⟩
  . rcases XQ.1 e with e|e
    . exact XP _ e
    . exact Ya _ (XJ _ e)
  . exact XX (List.Sublist.append_left (List.sublist_cons_self _ _) _) (XI.1 i).2
 have T:=U.put z C;refine (Hk h.list P H h.lo (by rw [M];exact f) (by rw [M];exact hz.symm) S (λa g=>⟨(h.apart a g).1,(h.apart a g).2.1⟩) (.inr (XK.2 ⟨q,v,rfl⟩)) I J (.inl rfl) R (by rw [K q v,Pq.cn,O.trans f])).mono ?_;rintro e w' ⟨rfl,V,j⟩;have y:∀ a,sb<a->a<=sb+1+1+1->¬ pF sb qs a:=λa I J q=>by
  obtain ⟨q1,q2,q3,_⟩:=h.apart a q;rcases q with q|q
  . omega
  . obtain ⟨p,b,rfl⟩:=XK.1 q;have:=h.Ux p b;omega
 have hy:sb+1+1+1<W.heap.size:=(XM.1 h.TV).1;refine ⟨rfl,⟨(j.block _ (by omega) (y _ (by omega) (by omega))).trans h.list,(j.block _ hy (y _ (by omega) (by omega))).trans h.TV,⟨n,(j.block _ (by omega) (y _ (by omega) (by omega))).trans P⟩,⟨cn,_,_,λa g=>V a ((Y a).1 g),?_,λp b=>K p ((d p).1 b)⟩,?_,h.lo,λe u=>?_,λp b=>h.Vx p ((d p).1 b),?_,λp b=>h.Ux p ((d p).1 b),λp b=>dA (h.own p ((d p).1 b)) j (λk H q=>h.steps ((d p).1 b) H q),λp b=>h.Va p ((d p).1 b),λp b=>h.told p ((d p).1 b),λp b=>h.ld p ((d p).1 b)⟩,j⟩
 . have e:j7 (q::(l++r))=q.nb::(j7 l++j7 r):=(by simp [j7]);rw [e];exact T
 . have e:j7 (q::(l++r))=q.nb::(j7 l++j7 r):=(by simp [j7]);rw [e,XI];refine ⟨λo=>?_,XI.2 ⟨λo=>C (XJ _ o),(XI.1 z).2⟩⟩;rcases XH.1 o with e|e
   . exact C (by rw [<- e];exact XN ..)
   . exact (XI.1 z).1 e
 . obtain ⟨p,b,Q⟩:=h.Vb e u;exact ⟨p,(d p).2 b,Q⟩
 . rw [h.len,B];simp;omega
end
end
section
section
variable {w w':ZV} {sb:Nat} {room:Int} {D L G:Nat} {pl:Nat->Nat} {es:List (Nat×Nat×Nat)} {qs:List Pq}
theorem uL:∀ (es:List (Nat×Nat×Nat)) (j:Nat),cV (es.eraseIdx j)=(cV es).eraseIdx j
 | [],_=>rfl
 | _::_,0=>rfl
 | e::es,j+1=>congrArg (e.1::·) (uL es j)
def EA (h:l.Nodup) {i j:Nat} (a:i<l.length) (b:j<l.length) (e:l[i]=l[j]):i=j:=by
 rcases Nat.lt_trichotomy i j with q|q|q
 . exact absurd e (Yb.1 h i j a b q)
 . exact q
 . exact absurd e.symm (Yb.1 h j i b a q)
def zX (q:Pq) (qs:List Pq):j7 (q::qs)=q.nb::j7 qs:=rfl
theorem PU (h:gh w sb room D L G pl es qs) {x:Nat} (hx:x∉cV es) {s m c:Nat} {C:Ck} {ao:Option Addr} (ho:w.ownsRow 0 284 4 (.slice ao m c) (bG D L G s C).length (er .u8 (bG D L G s C))) (hr:D5 D L G x s) (ht:tells (fw D L G) (ab (av (D+L+G) s))=ZY C) (hl:nD (bG D L G s C)=pl x) :
 ZT ZR 169 #[Z7 (ZY ⟨sb+1+1,0,ZZ⟩),bP D L G x ZX,.agg #[Z8 Z9 (1+((ab (av (D+L+G) s)).length:Int)),.slice ao m c]] w λe w'=>e=Z4 (Z0 #[])/\(∃ f T,gh w' sb room D L G pl f T/\∀ q∈T,q∈qs\/q=⟨x,w.heap.size+1+1,s,C,ao,m,c⟩)/\aa (λk=>pF sb qs k\/k=sb+1) w w':=by
 obtain ⟨cn,nw,ol,hN,hL,q8⟩:=h.ring;obtain ⟨n,hm⟩:=h.map;have qb:sb+1+1+1<w.heap.size:=(XM.1 h.TV).1;obtain ⟨N,kx⟩:∃ N,N=w.heap.size+1+1:=⟨_,rfl⟩;obtain ⟨g,A⟩:∃ g:Pq,g=⟨x,N,s,C,ao,m,c⟩:=⟨_,rfl⟩;have q5:∀ a,pF sb qs a->a<w.heap.size:=λa r=>(h.apart a r).2.2.2.1;have Z:N∉sb::j7 qs:=λe=>by
  have:=q5 N (by rcases XH.1 e with e|e;exact .inl e;exact .inr e);omega
 have V:=hL.put h.nd Z;obtain ⟨B,ka⟩:∃ B,B=il (il nw N sb) (ol sb) N:=⟨_,rfl⟩;obtain ⟨F,kb⟩:∃ F,F=il (il ol N (ol sb)) sb N:=⟨_,rfl⟩;obtain ⟨cn',k0⟩:∃ cn',cn'=R6 cn N (g.cn D L G):=⟨_,rfl⟩;obtain ⟨f,I⟩:∃ f,f=es++[(x,N,n)]:=⟨_,rfl⟩;rw [<- ka,<- kb] at V;have h3:pF sb qs (ol sb):=by
  rcases hL.T4 with e|e
  . exact .inl e.1
  . exact .inr e
 have K:g.nb=N:=by rw [A]
 have kp:∀ q∈g::qs,cn' q.nb=q.cn D L G:=λq d=>by
  rw [k0];unfold R6;rcases XH.1 d with e|e
  . rw [e,K,if_pos rfl]
  . rw [if_neg (show ¬ q.nb=N from λt=>Z (XJ _ (by rw [<- t];exact XK.2 ⟨q,e,rfl⟩))),q8 q e]
 have km:(cV f).Nodup:=by
  have e:cV f=cV es++[x]:=by rw [I];simp [cV]
  rw [e,XW];exact ⟨h.lo,by simp,λa r b hb e=>hx (by rw [XY] at hb;rw [<- hb,<- e];exact r)⟩
 have kv:∀ q∈g::qs,∃ e∈f,e.1=q.lost/\e.2.1=q.nb:=λq d=>by
  rcases XH.1 d with e|e
  . exact ⟨(x,N,n),by rw [I];simp,by rw [e,A],by rw [e,A]⟩
  . obtain ⟨y,hy,o⟩:=h.Vx q e;exact ⟨y,by rw [I];exact XP _ hy,o⟩
 have kr:∀ e∈f,∃ q∈g::qs,q.lost=e.1/\q.nb=e.2.1:=λe E=>by
  rw [I] at E;rcases XQ.1 E with o|o
  . obtain ⟨q,d,t⟩:=h.Vb e o;exact ⟨q,XJ _ d,t⟩
  . rw [XY] at o;exact ⟨g,XN ..,by rw [o,A],by rw [o,A]⟩
 have k7:f.length=qs.length+1:=by rw [I,X8,h.len];rfl
 have W:(sb::j7 (g::qs)).Nodup:=by
  rw [zX,K];refine XI.2 ⟨λe=>?_,XI.2 ⟨λe=>Z (XJ _ e),(XI.1 h.nd).2⟩⟩;rcases XH.1 e with e|e
  . exact Z (by rw [<- e];exact XN ..)
  . exact (XI.1 h.nd).1 e
 rw [<- K,<- zX] at V;obtain ⟨l,u,S⟩:∃ l u,g::qs=l++[u]:=⟨(g::qs).dropLast,(g::qs).getLast (by simp),(List.dropLast_concat_getLast (by simp)).symm⟩;have hv:u∈g::qs:=by rw [S];simp
 have U:j7 (g::qs)=j7 l++u.nb::j7 []:=by rw [S];simp [j7]
 have ko:=V;have X:=W;rw [U] at ko X;have H:B sb=u.nb:=by
  rw [ko.last (by simp)];simp [j7]
 obtain ⟨hT,q6,q7⟩:=uW.take ko X (XI.1 X).1;have kj:∀ a,a∈sb::j7 (g::qs)->a=N\/pF sb qs a:=λa r=>by
  rw [zX,K] at r;rcases XH.1 r with e|e
  . exact .inr (.inl e)
  . rcases XH.1 e with e|e
    . exact .inl e
    . exact .inr (.inr e)
 have k6:∀ q∈g::qs,q.nb=u.nb->q∉l:=λq d e qe=>by
  have kz:=(XI.1 X).2;rw [XW] at kz;exact kz.2.2 q.nb (XK.2 ⟨q,qe,rfl⟩) u.nb (by simp) e
 have kc:∀ q∈g::qs,q∈l\/q=u:=λq d=>by
  rw [S] at d;rcases XQ.1 d with e|e
  . exact .inl e
  . exact .inr (XY.1 e)
 refine (Ek (cn':=cn') (regs:=1+((ab (av (D+L+G) s)).length:Int)) (ao:=ao) (m:=m) (c:=c) h.list hm hx hN (λa r=>⟨(h.apart a r).1,(h.apart a r).2.1⟩) (.inl rfl) h3 kx (by rw [k0,A];rfl) ka kb I (λ_=>⟨km,?_⟩)).mono ?_
 . obtain ⟨e,E,o,t⟩:=kv u hv;obtain ⟨j,O,q4⟩:=XV E;refine ⟨j,O,by rw [q4,t,H],⟨_,_,by rw [H,kp u hv,q4,o];rfl⟩,?_,?_,?_⟩
   . rw [H];exact kj _ (XJ _ (XK.2 ⟨u,hv,rfl⟩))
   . rw [H];refine kj _ ?_;rw [U];rcases XH.1 q6 with e|e
     . rw [e];exact XN ..
     . exact XJ _ (XP _ e)
   . rw [H];rcases q7 with e|e
     . cases e
     . rw [e];exact .inr (.inl rfl)
 . rintro e w' ⟨rfl,hA,M⟩;have hn:∀ {v:ZU} {nn:Nat} {xs:List ZU},w.ownsRow 0 284 4 v nn xs->∀ k,v.ownBlock=ZY k->¬ (pF sb qs k\/k=sb+1):=λhw k P q=>by
    obtain ⟨cur,Q⟩:=iS hw P;rcases q with q|q
    . obtain ⟨_,_,_,_,cs,hc⟩:=h.apart k q;rw [hc] at Q;simp only [X9,Obj.cells.injEq] at Q;exact absurd Q.2.1 (by decide)
    . rw [q,hm] at Q;cases Q
   have k8:∀ a,sb+1<a->a<=sb+1+1+1->¬ (pF sb qs a\/a=sb+1):=λa h1 h2 q=>by
    rcases q with q|q
    . obtain ⟨q1,q2,q3,_⟩:=h.apart a q;rcases q with q|q
      . omega
      . obtain ⟨p,hp,rfl⟩:=XK.1 q;have:=h.Ux p hp;omega
    . omega
   have hs:=(M.block (sb+1+1) (by omega) (k8 _ (by omega) (by omega))).trans h.list;have h7:=(M.block _ qb (k8 _ (by omega) (by omega))).trans h.TV;have ky:∀ q∈g::qs,sb+1+1+1<q.nb:=λq d=>by
    rcases XH.1 d with e|e
    . rw [e,K];omega
    . exact h.Ux q e
   have ke:∀ q∈g::qs,w'.ownsRow 0 284 4 (.slice q.ao q.m q.c) (bG D L G q.s q.C).length (er .u8 (bG D L G q.s q.C)):=λq d=>by
    rcases XH.1 d with e|e
    . subst A;rw [e];exact dA ho M (λk P q=>hn ho k P q)
    . exact dA (h.own q e) M (λk P q'=>hn (h.own q e) k P q')
   have J:∀ q∈g::qs,D5 D L G q.lost q.s/\tells (fw D L G) (ab (av (D+L+G) q.s))=ZY q.C/\nD (bG D L G q.s q.C)=pl q.lost:=λq d=>by
    rcases XH.1 d with e|e
    . subst A;rw [e];exact ⟨hr,ht,hl⟩
    . exact ⟨h.Va q e,h.told q e,h.ld q e⟩
   have kg:∀ q∈g::qs,q∈qs\/q=⟨x,w.heap.size+1+1,s,C,ao,m,c⟩:=λq d=>by
    rcases XH.1 d with e|e
    . right;rw [e,A,kx]
    . exact .inl e
   refine ⟨rfl,?_,M⟩;by_cases kf:((f.length:Nat):Int)<=room
   . obtain ⟨ks,Y⟩:=hA.1 kf;exact ⟨f,g::qs,⟨hs,h7,ks,⟨cn',B,F,λa r=>Y a (kj a (by rcases r with e|e;rw [e];exact XN ..;exact XJ _ e)),V,kp⟩,W,km,kr,kv,by rw [k7];rfl,ky,ke,λq d=>(J q d).1,λq d=>(J q d).2.1,λq d=>(J q d).2.2⟩,kg⟩
   . obtain ⟨j,O,kk,ks,Y⟩:=hA.2 (by omega);rw [H] at Y kk;have z:∀ q∈l,q∈g::qs:=λq d=>by rw [S];exact XP _ d
     have qa:f[j].1=u.lost:=by
      obtain ⟨q,d,o,t⟩:=kr _ (XT O);rcases kc q d with e|e
      . exact absurd e (k6 q d (by rw [t,kk]))
      . rw [<- o,e]
     have e0:cV (f.eraseIdx j)=(cV f).eraseIdx j:=uL _ _;have qd:j7 l++j7 []=j7 l:=(by simp [j7]);rw [qd] at hT;refine ⟨f.eraseIdx j,l,⟨hs,h7,ks,⟨cn',_,_,λa r=>Y a (kj a ?_),hT,λq d=>kp q (z q d)⟩,?_,?_,λe E=>?_,λq d=>?_,?_,λq d=>ky q (z q d),λq d=>ke q (z q d),λq d=>(J q (z q d)).1,λq d=>(J q (z q d)).2.1,λq d=>(J q (z q d)).2.2⟩,λq d=>kg q (z q d)⟩
     . rw [U];rcases r with e|e
       . rw [e];exact XN ..
       . exact XJ _ (XP _ e)
     . rw [U] at W;exact XX (List.Sublist.cons_cons _ (List.sublist_append_left _ _)) W
     . rw [e0];exact XX (List.eraseIdx_sublist _ _) km
     . obtain ⟨i,hi,qc,R⟩:=Yc.1 E;obtain ⟨q,d,o,t⟩:=kr e (by rw [<- R];exact XT _);refine ⟨q,(kc q d).resolve_right λeq=>?_,o,t⟩;subst eq;have q9:(cV f)[i]'(by simpa [cV] using hi)=(cV f)[j]'(by simpa [cV] using O):=by
        simp only [cV,List.getElem_map,R,qa,o]
       exact qc (EA km _ _ q9)
     . obtain ⟨e,E,o,t⟩:=kv q (z q d);obtain ⟨i,hi,R⟩:=XV E;refine ⟨e,Yc.2 ⟨i,hi,λhd=>?_,R⟩,o,t⟩;subst hd;rw [R,t] at kk;exact k6 q (z q d) kk d
     . have:(g::qs).length=l.length+1:=by rw [S];simp
       rw [List.length_eraseIdx_of_lt O,k7];simp at this;omega
def Nu (sb:Nat) (qs:List Pq) (k:Nat):Prop:=(sb<=k/\k<=sb+1+1+1)\/k∈j7 qs\/∃ q∈qs,(Value.slice q.ao q.m q.c).ownBlock=ZY k
def Cf {qs:List Pq} (h:pF sb qs k):Nu sb qs k:=h.elim (λe=>.inl (by omega)) λe=>.inr (.inl e)
def gh.keep (h:gh w sb room D L G pl es qs) (b:∀ k,Nu sb qs k->w'.heap[k]?=w.heap[k]?):gh w' sb room D L G pl es qs:=by
 obtain ⟨cn,nw,ol,g,hL,f⟩:=h.ring;obtain ⟨n,i⟩:=h.map;exact ⟨(b _ (.inl ⟨by omega,by omega⟩)).trans h.list,(b _ (.inl ⟨by omega,by omega⟩)).trans h.TV,⟨n,(b _ (.inl ⟨by omega,by omega⟩)).trans i⟩,⟨cn,nw,ol,λa c=>(g a c).keep (b a (Cf c)),hL,f⟩,h.nd,h.lo,h.Vb,h.Vx,h.len,h.Ux,λq d=>G7 (h.own q d) λk e=>b k (.inr (.inr ⟨q,d,e⟩)),h.Va,h.told,h.ld⟩
def gh.blt (h:gh w sb room D L G pl es qs) (k:Nat) (a:Nu sb qs k):k<w.heap.size:=by
 have c:sb+1+1+1<w.heap.size:=(XM.1 h.TV).1;rcases a with e|e|⟨q,b,e⟩
 . omega
 . exact (h.apart k (.inr e)).2.2.2.1
 . exact PC (h.own q b) e
def Cg (sb:Nat) (room:Int) (D L G:Nat) (pl:Nat->Nat) (es:List (Nat×Nat×Nat)) (qs:List Pq) (ho:Nat):cA where
 ps:=sb+1+1+1
 ho:=ho
 bl:=Nu sb qs
 S:=λw=>gh w sb room D L G pl es qs
 keep:=λ_ _ h hk=>h.keep hk
 kd:=λw h k hk cs T z e=>by
  rcases hk with ⟨h1,h2⟩|hk|⟨q,hq,hk⟩
  . have hx:k=sb\/k=sb+1\/k=sb+1+1\/k=sb+1+1+1:=by omega
    rcases hx with rfl|rfl|rfl|rfl
    . obtain ⟨_,_,_,_,cs',q⟩:=h.apart k (.inl rfl)
      rw [q] at e;injection e with e;injection e with _ e;exact .inr (.inr (.inl e.symm))
    . obtain ⟨n,q⟩:=h.map;rw [q] at e;injection e with e;cases e
    . have q:w.heap[sb+1+1]?=_:=h.list
      rw [q] at e;injection e with e;injection e with _ e;exact .inr (.inl e.symm)
    . rw [h.TV] at e;injection e with e;injection e with _ e;exact .inl e.symm
  . obtain ⟨_,_,_,_,cs',q⟩:=h.apart k (.inr hk)
    rw [q] at e;injection e with e;injection e with _ e;exact .inr (.inr (.inl e.symm))
  . obtain ⟨cur,q⟩:=iS (h.own q hq) hk
    rw [q] at e;injection e with e;injection e with _ e;exact .inr (.inr (.inr (.inl e.symm)))
 lt:=λ_ h=>h.blt
def xQ (sb:Nat) (room:Int) (D L G:Nat) (pl:Nat->Nat) (ps:cA):Prop:=∃ es qs ho,ps=Cg sb room D L G pl es qs ho
end
end
def Ct {qs qs':List Pq} (h:∀ p,p∈qs'↔p∈qs) (c:Nu sb qs' k):Nu sb qs k:=by
 rcases c with e|e|⟨q,a,e⟩
 . exact .inl e
 . obtain ⟨q,a,b⟩:=XK.1 e;exact .inr (.inl (XK.2 ⟨q,(h q).1 a,b⟩))
 . exact .inr (.inr ⟨q,(h q).1 a,e⟩)
def gh.cell {qs:List Pq} (h:gh w sb room D L G pl es qs):w.cell? ⟨sb+1+1+1,0,ZZ⟩=ZY (Z7 (ZY ⟨sb+1+1,0,ZZ⟩)):=by
 have a:=h.TV;simp [World.cell?,a]
theorem LO {qs:List Pq} (t:gh w sb room D L G pl es qs) {lost:Nat} (U:lost∈cV es):∃ q d,q∈qs/\q.lost=lost/\(∀ p,p∈d↔p∈qs)/\ZT ZR 151 #[Z7 (ZY ⟨sb+1+1+1,0,ZZ⟩),bP D L G lost ZX] w λe w'=>jK D L G q.s q.ao q.m q.c e/\gh w' sb room D L G pl es d/\aa (pF sb qs) w w':=by
 obtain ⟨q,d,S,hr,B,E⟩:=PT t U;refine ⟨q,d,S,hr,B,?_⟩;obtain ⟨s,T⟩:=nM (q.s);obtain ⟨ao,Q⟩:=nM (q.ao);obtain ⟨m,P⟩:=nM (q.m);obtain ⟨c,K⟩:=nM (q.c);rw [T,Q,P,K] at E ⊢;clear T Q P K;have f:=vM.new w D L G lost;obtain ⟨w2,hy⟩:=nM ((w.alloc (Z5 #[Z8 Z9 (D:Int),Z8 Z9 (L:Int),Z8 Z9 (G:Int),Z8 .u64 (lost:Int),Z3 ZX] 228)).alloc (Z5 #[Z8 Z9 0,Z6 ZZ 0 0] 210));rw [hy] at f;obtain ⟨W,c1,X,Y,Z⟩:=f.cells;have j:∀ k,Nu sb qs k->k<w.heap.size:=t.blt;have g:∀ k,Nu sb d k->k<w.heap.size:=λk b=>j k (Ct B b);have u:=t.keep λk b=>f.below.block k (j k b);have hv:=u.cell;obtain ⟨z,i⟩:∃ z:Int,1+((ab (av (D+L+G) s)).length:Int)=z:=⟨_,rfl⟩;have J:∀ w',bW w2 w'->ZT ZR 167 #[Z7 (ZY ⟨sb+1+1,0,ZZ⟩),bP D L G lost ZX] w' λe o=>e=Z4 (Z0 #[.agg #[Z8 Z9 z,.slice ao m c],Z3 ZX])/\gh o sb room D L G pl es d/\aa (pF sb qs) w' o:=λw' hb=>by
  rw [<- i];exact E w' (u.keep λk b=>hb.block k (XO (j k b) f.below.size))
 have C:bW w2 (w2.alloc (Z5 #[Z8 Z9 0,Z6 ZZ 0 0] 210)):=bA w2 _;obtain ⟨d0,d1,d2,d3,d4⟩:=(f.mono C).cells;have dp:=(u.keep λk b=>C.block k (XO (j k b) f.below.size)).cell;have k6:=f.size;have k0:w.heap.size≠w2.heap.size:=by omega
 have O:∀ k,pF sb qs k->k<w.heap.size:=λk b=>j k (Cf b);have M:=hide O;have H:=hide4 f g i J;clear f J C t u g j O E B S hr U;unfold bP at H ⊢;unfold jK;rw [i];clear i;go_enter func151,ntmps151;go_upto_region 1 with fail;go_cut [6,7] from 10 to 18 (λv6 v7 wx=>v7=Z3 ZX/\∃ r,v6=Z7 (ZY ⟨r,0,ZZ⟩)/\w2.heap.size<=r/\wx.heap[r]?=ZY (Z5 #[Z8 Z9 z,.slice ao m c] 210 (0,0))/\gh wx sb room D L G pl es d/\aa (pF sb qs) w2 wx)
 case first=>
  go_region_with (go_at_call 167;refine (H.out.2.2.2 _ ?_).mono ?_;(first|exact (Below.refl _ _).drew|exact ((Below.refl _ _).drew).alloc lR _);rintro e w3 ⟨rfl,h,a⟩;(try (have F:w3.heap[w2.heap.size]?=ZY (Z5 #[Z8 Z9 0,Z6 ZZ 0 0] 210 (0,0)):=(a.block w2.heap.size (by simp) (λq=>by have:=M.out _ q;omega)).trans (blk_alloc_new w2.drew _);obtain ⟨r0,r1,g1,g0⟩:=aG F;have V:=hide F;clear F));have I:aa (pF sb qs) w2 w3:=(by first|exact (aa.drew w2).trans a|exact aa.after ((bA w2 _).drew) a);have x:=hide2 h I;clear h a I);all_goals (go_wp2_with fail;go_meet;case rel=>(
   obtain ⟨h,a⟩:=x.out;have g:=H.out.2.1;have hg:=a.size;first
    | (refine ⟨rfl,w2.heap.size,rfl,XL _,ll (y':=.slice ao m c) (lj (x':=Z8 Z9 z) V.out),h.keep λk b=>(ik w3 w2.heap.size 0 1 _ _).block k (by have:=g k b;omega) (by have:=g k b;omega),?_⟩
       have n:=ik w3 w2.heap.size 0 1 (Z8 Z9 z) (.slice ao m c);exact ⟨n.os.trans a.os,n.tape.trans a.tape,n.output.trans a.output,XG a.size n.size,λk y A=>(n.block k (by omega) (by omega)).trans (a.block k y A)⟩)
    | exact ⟨rfl,w3.heap.size,rfl,hg,blk_alloc_new _ _,h.keep λk b=>blk_alloc_lt _ _ _ (by have:=g k b;omega),a.os,a.tape,a.output,by rw [World.size_alloc];omega,λk y A=>(blk_alloc_lt _ _ _ (by omega)).trans (a.block k y A)⟩))
 case rest=>
  clear W c1 X Y Z d0 d1 d2 d3 d4 dp hv k0;rename ZV=>w3;obtain ⟨rfl,r,rfl,k5,R,h,a⟩:=hcut;obtain ⟨f,g,i,_⟩:=H.out;have l:=(a.block (w.heap.size+1) (by omega) (λq=>by have:=M.out _ q;omega)).trans f.res;obtain ⟨q0,q1,g1,g0⟩:=aG l;obtain ⟨r0,r1,_,_⟩:=aG R;have x:=hide3 l h a;clear l h a R f g i;go_wp2;obtain ⟨l,h,a⟩:=x.out;obtain ⟨f,g,i,_⟩:=H.out;obtain ⟨n0,n1,_⟩:=aG (ll (y':=.slice ao m c) (lj (x':=Z8 Z9 z) l));have N:aa (λk=>k=w.heap.size+1) w3 ((w3.setCell ⟨w.heap.size+1,0,ZZ⟩ (Z8 Z9 z)).setCell ⟨w.heap.size+1,1,ZZ⟩ (.slice ao m c)):=ik w3 (w.heap.size+1) 0 1 _ _;refine bodyPost_ret (v:=Z0 #[.agg #[Z8 Z9 z,.slice ao m c],.nilIface]) (by simp [results,results151,go_sem,n0,n1]) rfl ?_;exact ⟨rfl,h.keep λk b=>N.block k (by have:=g k b;have:=a.size;omega) (by have:=g k b;omega),(aa.after f.below a).later N (λk b q=>by omega)⟩
section
section
variable (D L G lost:Nat) (hr:bU D L G=ZX) (hD1:1<=D) (hD:D<=12) (hL:1<=L) (hL4:L<=4) (hG:G<=4) (hdiv:D%L=0) (h16:D+L+G<=16) (hl:lost<2^(D+L+G)) (hT0:∃ C,tells (fw D L G) (ab lost)=ZY C)
include hr hD1 hD hL hL4 hG hdiv h16 hl hT0
theorem Ix {qs:List Pq} (S:gh w sb room D L G pl es qs) (hx:lost∉cV es) (ki:∀ s C,D5 D L G lost s->tells (fw D L G) (ab (av (D+L+G) s))=ZY C->nD (bG D L G s C)=pl lost) (hT:aJ w) (h2:3<=w.heap.size):ZT ZR 151 #[Z7 (ZY ⟨sb+1+1+1,0,ZZ⟩),bP D L G lost ZX] w λe w'=>∃ s C ao m c d b,jK D L G s ao m c e/\D5 D L G lost s/\tells (fw D L G) (ab (av (D+L+G) s))=ZY C/\w'.ownsRow w.heap.size 284 4 (.slice ao m c) (bG D L G s C).length (er .u8 (bG D L G s C))/\gh w' sb room D L G pl d b/\(∀ q∈b,q∈qs\/(w.heap.size<=q.nb/\∀ k,(Value.slice q.ao q.m q.c).ownBlock=ZY k->w.heap.size<=k))/\aa (λk=>pF sb qs k\/k=sb+1) w w':=by
 have i:=vM.new w D L G lost;obtain ⟨w2,kx⟩:=nM ((w.alloc (Z5 #[Z8 Z9 (D:Int),Z8 Z9 (L:Int),Z8 Z9 (G:Int),Z8 .u64 (lost:Int),Z3 ZX] 228)).alloc (Z5 #[Z8 Z9 0,Z6 ZZ 0 0] 210));rw [kx] at i;obtain ⟨O,c1,P,Q,R⟩:=i.cells;have f:=S.keep λk a=>i.below.block k (S.blt k a);have k6:=f.list;obtain ⟨n,k7⟩:=f.map;have kv:=f.cell;have hs:∀ w',bW w2 w'->ZT ZR 167 #[Z7 (ZY ⟨sb+1+1,0,ZZ⟩),bP D L G lost ZX] w' λe hd=>e=Z4 (Z0 #[.agg #[Z8 Z9 0,Z6 ZZ 0 0],Z3 ZW])/\bW w' hd:=λw' hb=>Ec ((hb.block _ (XM.1 k6).1).trans k6) ((hb.block _ (XM.1 k7).1).trans k7) hx;have k9:bW w2 (w2.alloc (Z5 #[Z8 Z9 0,Z6 ZZ 0 0] 210)):=bA w2 _;obtain ⟨d0,d1,d2,d3,d4⟩:=(i.mono k9).cells;have dp:=(f.keep λk a=>k9.block k (f.blt k a)).cell;have k5:=hide4 (XM.1 S.TV).1 (λk (a:pF sb qs k)=>S.blt k (Cf a)) hx ki;have kz:=i.size;have ky:w.heap.size≠w2.heap.size:=by omega
 have H:=hide3 i f hs;clear i f hs k6 k7 S k9 hx ki;unfold bP at H ⊢;go_enter func151,ntmps151;go_upto_region 1 with fail;go_cut [6,7] from 10 to 18 (λv6 v7 wx=>v7=Z3 ZW/\bW w2 wx)
 case first=>
  go_region_with (go_at_call 167;refine (H.out.2.2 _ ?_).mono ?_;(first|exact (Below.refl _ _).drew|exact ((Below.refl _ _).drew).alloc lR _);rintro e w3 ⟨rfl,x⟩;(try (have q3:w3.heap[w2.heap.size]?=ZY (Z5 #[Z8 Z9 0,Z6 ZZ 0 0] 210 (0,0)):=(x.block w2.heap.size (by simp)).trans (blk_alloc_new w2.drew _);obtain ⟨r0,r1,g1,g0⟩:=aG q3;clear q3));have hp:bW w2 w3:=(by first|exact ((Below.refl _ w2).drew).trans x|exact ((bA w2 _).drew).trans (x.mono (by simp)));have J:=hide hp;clear x hp);all_goals (go_wp2_with fail;go_meet;case rel=>(refine ⟨rfl,?_⟩;first|exact J.out.alloc J.out.size _|exact (J.out.setCell (p:=⟨w2.heap.size,0,ZZ⟩) lR _).setCell (p:=⟨w2.heap.size,1,ZZ⟩) lR _))
 case rest=>
  clear O c1 P Q R d0 d1 d2 d3 d4 dp kv ky;rename ZV=>w3;obtain ⟨rfl,x⟩:=hcut;obtain ⟨i,f,_⟩:=H.out;have o:=i.mono x;have N:=f.keep λk a=>x.block k (f.blt k a);obtain ⟨O,c1,P,Q,R⟩:=o.cells;have ka:=Ly D L G lost hr hD1 hD hL hL4 hG hdiv h16 hl hT0 w3 (hT.mono (by omega) o.below) (XG h2 o.below.size);unfold bP at ka;have J:=hide3 o N ka;clear i f o N ka x hT;go_wp2_with fail;refine J.out.2.2.mono ?_;rintro e j ⟨s,C,B,t,ao,m,c,rfl,kg,M⟩;clear O c1 P Q R;obtain ⟨z,E⟩:∃ z:Int,1+((ab (av (D+L+G) s)).length:Int)=z:=⟨_,rfl⟩;rw [E];obtain ⟨o,N,_⟩:=J.out;have Z:bW w3 j:=⟨M.os,M.tape,M.output,M.size,λk a=>M.block k a (λq=>q)⟩;have km:=hide (show w.heap.size+2<=w3.heap.size/\w3.heap.size<=j.heap.size from ⟨o.size,Z.size⟩);have Y:bW j (j.alloc (Z5 #[Z8 Z9 z,.slice ao m c] 210)):=bA j _;have X:=Z.trans (Y.mono Z.size);have h:=o.mono X;have u:=N.keep λk a=>X.block k (N.blt k a);have kh:=u.cell;have y:(j.alloc (Z5 #[Z8 Z9 z,.slice ao m c] 210)).heap[j.heap.size]?=ZY (Z5 #[Z8 Z9 z,.slice ao m c] 210 (0,0)):=blk_alloc_new _ _;have r:=aB kg Y;obtain ⟨g,kb⟩:=nM (j.alloc (Z5 #[Z8 Z9 z,.slice ao m c] 210));rw [kb] at Y X h u kh y r;obtain ⟨O,c1,P,Q,R⟩:=h.cells;obtain ⟨r0,r1,_,_⟩:=aG y;have W:=PU (w:=g.drew) (u.keep λ_ _=>rfl) k5.out.2.2.1 (show g.drew.ownsRow 0 284 4 (.slice ao m c) (bG D L G s C).length (er .u8 (bG D L G s C)) from fZ (aB r (Below.refl _ g).drew) (Nat.zero_le _)) B t (k5.out.2.2.2 s C B t);rw [E] at W;unfold bP at W;have H5:=hide8 h u y r W B t E;clear M kg Z Y X h u y r W o N B t E;go_upto_region 6 with fail;go_cut [34] from 28 to 33 (λ_v wx=>(∃ d b,gh wx sb room D L G pl d b/\∀ q∈b,q∈qs\/q=⟨lost,g.drew.heap.size+1+1,s,C,ao,m,c⟩)/\aa (λk=>pF sb qs k\/k=sb+1) g.drew wx)
  case first=>
   go_region_with (go_at_call 169;refine H5.out.2.2.2.2.1.mono ?_;rintro e F ⟨rfl,l,U⟩;have H6:=hide2 l U;clear l U);all_goals (go_wp2_with fail;go_meet;case rel=>exact H6.out)
  case rest=>
   rename ZV=>F;clear O c1 P Q R r0 r1 kh;obtain ⟨⟨d,b,l,hv⟩,U⟩:=hcut;obtain ⟨h,u,y,r,_,B,t,E⟩:=H5.out;have I:aa (λk=>pF sb qs k\/k=sb+1) g F:=(aa.drew g).trans U;obtain ⟨kk,ke,_⟩:=k5.out;have kj:=h.size;have ks:j.heap.size<g.heap.size:=(XM.1 y).1;have kc:=km.out;have k0:∀ k,w.heap.size<=k->¬ (pF sb qs k\/k=sb+1):=λk h1 q=>by
    rcases q with q|q
    . have:=ke k q;omega
    . omega
   have A:=(I.block (w.heap.size+1) (by omega) (k0 _ (by omega))).trans h.res;have kf:=(I.block j.heap.size ks (k0 _ (by omega))).trans y;have K:F.ownsRow w3.heap.size 284 4 (.slice ao m c) (bG D L G s C).length (er .u8 (bG D L G s C)):=dA r I (λk a q=>k0 k (by have:=gJ r a;omega) q);obtain ⟨q0,q1,g1,g0⟩:=aG A;obtain ⟨r0,r1,_,_⟩:=aG kf;have q2:g.drew.heap.size=g.heap.size:=rfl;have V:∀ q∈b,q∈qs\/(w.heap.size<=q.nb/\∀ k,(Value.slice q.ao q.m q.c).ownBlock=ZY k->w.heap.size<=k):=λq hq=>(hv q hq).imp id λe=>by
    subst e;exact ⟨by show w.heap.size<=g.drew.heap.size+1+1;omega,λk a=>by have:=gJ K a;omega⟩
   have H6:=hide9 A l K I V kj kk kc u.blt;clear l hv V U h u y r I A kf K B t E ke k0;go_wp2;obtain ⟨A,l,K,I,V,kj,kk,kc,ko⟩:=H6.out;obtain ⟨n0,n1,_⟩:=aG (ll (y':=.slice ao m c) (lj (x':=Z8 Z9 z) A));have k8:aa (λk=>k=w.heap.size+1) F ((F.setCell ⟨w.heap.size+1,0,ZZ⟩ (Z8 Z9 z)).setCell ⟨w.heap.size+1,1,ZZ⟩ (.slice ao m c)):=ik F (w.heap.size+1) 0 1 _ _;refine bodyPost_ret (v:=Z0 #[.agg #[Z8 Z9 z,.slice ao m c],.nilIface]) (by simp [results,results151,go_sem,n0,n1]) rfl ?_;obtain ⟨h,_,_,_,_,B,t,E⟩:=H5.out;have kp:∀ k,Nu sb b k->k≠w.heap.size+1:=λk a e=>by
    obtain ⟨cs,T,zz,kr⟩:∃ cs T zz,F.heap[k]?=ZY (Z5 cs T zz):=⟨_,_,_,by rw [e];exact A⟩;rw [e,A] at kr;have:=(Cg sb room D L G pl d b 0).kd F l k a _ _ _ (by rw [e];exact A);exact absurd this (by unfold l9;decide)
   exact ⟨s,C,ao,m,c,d,b,by unfold jK;rw [E],B,t,fZ (dA K k8 (λk a q=>by have:=gJ K a;omega)) (by omega),l.keep λk a=>k8.block k (l.blt k a) (kp k a),V,(aa.after h.below I).later k8 (λk a q=>by omega)⟩
end
end
