import Derived.Test.YtfbmmcnpjhmjaaaGreatDoorM42
set_option maxRecDepth 100000
set_option maxHeartbeats 8000000
open Go.IntKind renaming i64 -> Z9
open Go.Value renaming int -> Z8, pointer -> Z7, slice -> Z6, bool -> Z4
open Go.Obj renaming cells -> Z5
open Go.Operand renaming tmp -> Z3
open Option renaming none -> Z2, some -> Z1
open Bool renaming false -> Z0
open Go renaming World -> ZZ
open Go.RowKit renaming Below -> ZY
open Nat renaming le_trans -> Tm, testBit_two_pow_sub_one -> Tn, eq_of_testBit_eq -> To, two_pow_pos -> Tp
open Go.Proofs.Tryz renaming prog -> ZX
namespace Go.Proofs.YtfbmmcnpjhmjaaaGreatDoor
open Go.RowKit Go.Deep Gf
variable {A:aB} {F:bx} {cache:Int} {D L G ar v p:Nat} {R:Nat->Option aW} {w:ZZ}
theorem oL:∀ k,(∀ i,i<k->R i=Z1 .blank)->bW R k=⟨0,0,0,0,0,0⟩
 | 0,_=>rfl
 | k+1,h=>by
  show tc (bW R k) (R k)=_;rw [h k (by omega),oL k λi a=>h i (by omega)];rfl
theorem or_pow (k:Nat):(2^k-1)|||2^k=2^(k+1)-1:=by
 refine To λi=>?_;rw [Nat.testBit_or,Tn,Tn,Nat.testBit_two_pow];by_cases h:k=i
 . subst h;simp
 . by_cases a:i<k
   . simp [a];omega
   . simp [h,a];omega
theorem mQ:∀ k,(∀ i,i<k->R i=Z1 .blank)->fA R k=2^k-1
 | 0,_=>rfl
 | k+1,h=>by
  show J0 (fA R k) k (R k)=_;rw [h k (by omega),mQ k λi a=>h i (by omega)];exact or_pow k
theorem GA {lost:Nat} (a:D<=12) (b:G<=4) (h:∀ i,i<D+L+G->lost/2^i%2=0):zR D L G lost:=by
 have c:∀ k,k<=D+L+G->cnt lost k=0:=by
  intro k e;induction k with
  | zero=>rfl
  | succ k ih=>rw [Iu,ih (by omega),h k (by omega)];rfl
 exact Ix D L G lost a b (nJ (λl d=>nO D L G a b l (rO _ _ _ (by rw [de];omega) l d)) 0) (by rw [c _ lR];omega)
theorem GB {n i:Nat} (c:n<=60) (b:i<n):(18446744073709551615-(2^n-1))/2^i%2=0:=by
 have a:18446744073709551615-(2^n-1)=2^(i+1)*(2^(63-i)-2^(n-i-1)):=by
  rw [Nat.mul_sub,<- Nat.pow_add,<- Nat.pow_add,show i+1+(63-i)=64 by omega,show i+1+(n-i-1)=n by omega];have:0<2^n:=Tp n;omega
 rw [a,Nat.pow_succ,Nat.mul_assoc,Nat.mul_div_cancel_left _ (Tp i),Nat.mul_mod_right]
theorem Md (x:Nat) (h:x<2^64):(2^64-1)^^^x=2^64-1-x:=by
 refine To λi=>?_;rw [Nat.testBit_xor,Tn,show 2^64-1-x=2^64-(x+1) by omega,Nat.testBit_two_pow_sub_succ h];by_cases a:i<64
 . simp [a]
 . have:x.testBit i=Z0:=Nat.testBit_lt_two_pow (Nat.lt_of_lt_of_le h (Nat.pow_le_pow_right (by decide) (by omega)));simp [a,this]
theorem Me (x:Nat) (h:x<18446744073709551616):bits .xor .u64 IntKind.u64.max (x:Int)=((18446744073709551615-x:Nat):Int):=by
 have:=bits_xor_u64_nat 18446744073709551615 x (by decide) h;rw [show (18446744073709551615:Nat)=2^64-1 by decide,Md x (by omega)] at this;exact this
theorem Kq {ps ho:Nat} (Y:bJ w ar v 0 0 0 0 0 0 (Z6 Z2 0 0) (Z6 Z2 0 0) Z0) (hV:m6 w v p D L G ps ho A F) (W:jI F p A.n v) (kj:¬ F.has p A.n ar) (hf:A.fit) (C:A.n=D+L+G) (hr:cn D L G=true) (kx:1<=D) (P:D<=12) (hL:1<=L) (Z:L<=4) (Q:G<=4) (hs:D%L=0) (kv:D+L+G<=16)
 (kz:3<=A.nb) (hw:A.wait<0) (h6:∀ i,A.lost i=Z0) (k6:∀ d,A.bad d 0=Z0) (hz:∀ i,i<A.n->A.blk i 0=zb) :
 Calls ZX 68 #[Z7 (Z1 ⟨ar,0,Z2⟩)] w λe w'=>e=.returned .nilIface/\aq w' p (eV (A.readTo A.n) D L G) F/\(∃ u,bJ w' ar v D L G 1 2 0 u (Z6 Z2 0 0) Z0/\bK (λk=>w.heap.size<=k) w' u [2])/\aa (λk=>k=ar\/F.has p A.n k) w w':=by
 obtain ⟨c0,_⟩:=Y.cells;have kr:=uA hV W hf 0 C P Z Q (by omega) (by omega) h6 k6 (λ_=>.blank) (λ_=>trivial) (λ_=>zy) hz;go_enter Tryz.func68,Tryz.ntmps68;go_wp2_with fail;refine kr.mono ?_;rintro e w1 ⟨g,rfl,hg,l,ka,m⟩;have z:=Y.keep (m.block _ Y.lt kj);have K:=hV.turn W m ka;have hy:A.n<=16:=by omega
 obtain ⟨N,h⟩:=nM (A.n);have k7:=yL (N:=A.n) (λ_=>Z1 .blank) (by omega) (w:=w1) l;rw [oL _ (λ_ _=>rfl),show Gl ⟨0,0,0,0,0,0⟩=aQ 0 0 0 0 0 0 from rfl,h] at k7;have H1:=hide7 z K m l k7 h C;rw [h] at hy;clear z K m l k7 ka kr C;rw [h];clear h;go_wp2_with fail;refine H1.out.2.2.2.2.1.mono ?_;rintro e w2 ⟨rfl,k0⟩;have q2:=vT;obtain ⟨z,K,m,l,_,h,C⟩:=H1.out;have B:ZY w1.heap.size w1 (fC w2 0 0 0 0 0 0):=k0.trans ((eN w2 0 0 0 0 0 0).mono k0.size);have b:=z.keep (B.block _ z.lt);have y:=K.below B lR;have r:=l.of_block (B.block g l.lt);have k8:=tf w2 0 0 0 0 0 0;obtain ⟨j,k9⟩:=nM (fC w2 0 0 0 0 0 0);rw [k9] at B b y r k8;have c5:j.cell? ⟨w2.heap.size,3,Z2⟩=Z1 (Z8 .u64 0):=by simp [World.cell?,k8,aQ]
 obtain ⟨d0,_⟩:=b.cells;have J:aa (F.has p A.n) w j:=m.trans (aa.of_all B _);have H3:=hide5 b y r J k9;clear z K m l k0 B b y r k8 J k9 c0;go_wp2_with (show wpList _ _ _ ({ dst:=Z2,op:=Op.store 117 (Z3 4) (Z3 11),type:=_,pos:=_,after:=_,guard:=_ }::_) _ _;refine nv (w:=w2) (D:=0) (L:=0) (G:=0) (t:=0) (f:=0) (n:=0) rfl (Z3 4) (Z3 11) rfl (by rfl) (by rfl) ?_;rw [H3.out.2.2.2.2]);go_quiet (fail);have x:ZY j.heap.size j (j.drewN nq):=⟨rfl,rfl,rfl,Nat.le_refl _,λ_ _=>rfl⟩;have H:(j.drewN nq).cell? ⟨w2.heap.size,3,Z2⟩=Z1 (Z8 .u64 0):=c5;have I:(j.drewN nq).cell? ⟨ar,0,Z2⟩=Z1 (Z7 (Z1 ⟨v,0,Z2⟩)):=d0;obtain ⟨M,ks⟩:=nM (j.drewN nq);rw [ks] at x H I ⊢;obtain ⟨b,y,r,J,_⟩:=H3.out;have c:=b.keep (x.block _ b.lt);have s:=y.below x lR;have a:=r.of_block (x.block g r.lt);have o:aa (F.has p A.n) w M:=J.trans (aa.of_all x _);have T:=hide4 c s a o;clear b y r J c s a o x c5 d0 ks;go_wp2_with fail;refine (uC T.out.2.1.vol).mono ?_;rintro e w5 ⟨rfl,k5⟩;obtain ⟨c,s,a,o⟩:=T.out;have kf:=a.of_block (k5.block g a.lt);have S:=Du (N:=A.n) (λ_=>Z1 .blank) (by omega) (w:=w5) kf;rw [mQ _ (λ_ _=>rfl),h] at S;obtain ⟨X,R⟩:=nM (2^N-1);have ky:X<18446744073709551616:=by rw [<- R];have:=JN (k:=N) (by omega);omega
 have key:=Me X ky;rw [R] at S;have hT:zR D L G (18446744073709551615-X):=GA P Q λi hi=>by rw [<- R];exact GB (by omega) (by omega)
 have E:=hide4 k5 S hT C;clear c s a o k5 kf S R hT C h;go_wp2_with fail;refine E.out.2.1.mono ?_;rintro e w6 ⟨rfl,kk⟩;have hq:ZY M.heap.size M w6:=E.out.1.trans (kk.mono E.out.1.size);have H6:=hide hq;clear hq kk;go_wp2_with fail;refine (kQ D L G (18446744073709551615-X) hr P hL Z Q hs (by omega) w6).mono ?_;rintro e w7 ⟨bb,rfl,ko,km⟩;rw [ko.2 E.out.2.2.1];obtain ⟨c,s,a,o⟩:=T.out;have O:ZY M.heap.size M w7:=H6.out.trans (km.mono H6.out.size);have kh:=c.keep (O.block _ c.lt);have kg:=s.below O lR;have kp:=Gj kh kg W kj (hf.readTo _) E.out.2.2.2 hr kx P hL Z Q hs kv kz hw h6;have kc:aa (F.has p A.n) w w7:=o.trans (aa.of_all O _);have U:=hide2 kp kc;clear c s a o O kh kg kp kc ko km H I key;go_wp2_with fail;refine U.out.1.mono ?_;rintro e w8 ⟨rfl,kb,ki,ke⟩;have V:=hide3 kb ki ke;clear kb ki ke;go_wp2;go_ret;obtain ⟨u,q0,q1⟩:=V.out.2.1;exact ⟨rfl,V.out.1,⟨u,q0,q1.weaken λk hk=>Tm U.out.2.size hk⟩,(U.out.2.mono λ_ _ q=>.inr q).trans V.out.2.2⟩
noncomputable def Rk:Array Oper:=((Tryz.f44.body.bind (mD · 6))).getD #[]
def QG:List (Op×Option Nat×List Nat):=[(Op.move (Z3 0),Z1 24,[]),
 (Op.call { callee:=Callee.value (Operand.func 66),args:=#[Z3 24],argTypes:=#[31] },Z1 25,[0]),
 (Op.load 25 (Z3 4),Z1 26,[]),
 (Op.call { callee:=Callee.value (Operand.func 9),args:=#[Z3 26],argTypes:=#[25] },Z1 27,[2,1]),
 (Op.binOp BinOp.neq 3 (Z3 25) (Z3 27) 3,Z1 28,[1,3]),
 (Op.assign (Z3 28),Z1 21,[4,3])]
theorem GC:aN Rk 21 29 QG:=bt (by kernel_rfl) (by kernel_rfl)
def QH (p n:Nat) (D L G:Nat):List Value:=[Z7 (Z1 ⟨p,0,Z2⟩),Z8 Z9 n,.agg #[Z8 Z9 D,Z8 Z9 L,Z8 Z9 G],Z8 Z9 ((D+L+G:Nat):Int),Z4 (!decide (n=D+L+G)),Z4 (!decide (n=D+L+G))]
theorem A9 {ops:Array Oper} {Q:Exit->Act->ZZ->Prop} {a:Act} {q:Nat} (E:Rk=ops) (h:aq w p A F) (O:A.fit) (z:w.heap[q]?=Z1 (Z5 #[Z8 Z9 (D:Int),Z8 Z9 (L:Int),Z8 Z9 (G:Int)] 25 (0,0))) (R:D<=12) (T:L<=4) (S:G<=4) (W:a.tmps.size=48)
 (B:a.eval (Z3 0)=Z7 (Z1 ⟨p,0,Z2⟩)) (C:a.eval (Z3 4)=Z7 (Z1 ⟨q,0,Z2⟩))
 (M:∀ (w':ZZ),ZY w.heap.size w w'->Q .normal (Act.putFrom a 21 [Z4 (!decide (A.n=D+L+G)),a.eval (Z3 22),a.eval (Z3 23),Z7 (Z1 ⟨p,0,Z2⟩),Z8 Z9 A.n,.agg #[Z8 Z9 D,Z8 Z9 L,Z8 Z9 G],Z8 Z9 ((D+L+G:Nat):Int),Z4 (!decide (A.n=D+L+G))]) w'):(Code.region 6 ops true).wp ZX Q a w:=by
 subst E;have K:q<w.heap.size:=(Array.getElem?_eq_some_iff.1 z).1;have V:=O.n;refine cO (by kernel_rfl) GC a w (by omega) (λi u _=>u=(QH p A.n D L G).getD i undef) (λ_ w'=>ZY w.heap.size w w') ((Below.refl _ w).drew) ?_ ?_
 . intro i t;match i,t with
   | 0,_=>exact λo d w' l s ho g k m r j c b=>ab (ag ho ((k.slot 0 (by omega)).trans B) w') g ⟨c,rfl,kq⟩
   | 1,_=>
    intro o d w' l s ho g k m r j c b;have u0:d.eval (Z3 24)=Z7 (Z1 ⟨p,0,Z2⟩):=b 0 (j 0 (by decide));refine dz (f:=66) (args:=#[Z7 (Z1 ⟨p,0,Z2⟩)]) (w1:=w') (by simp only [execOp,show o.op=Op.call { callee:=Callee.value (Operand.func 66),args:=#[Z3 24],argTypes:=#[31] } from ho];go_simp;simpa [Act.eval] using u0) g (Dj (h.below c lR)) ?_;rintro e x ⟨rfl,rfl⟩;exact ⟨_,rfl,c,rfl,kq⟩
   | 2,_=>
    intro o d w' l s ho g k m r j c b;have u0:d.eval (Z3 4)=Z7 (Z1 ⟨q,0,Z2⟩):=(k.slot 4 (by omega)).trans C;have J:w'.heap[q]?=_:=(c.block q K).trans z;have I:(Instr.loadAt 25 (Z7 (Z1 ⟨q,0,Z2⟩))).run ZX w'=.ok (.agg #[Z8 Z9 (D:Int),Z8 Z9 (L:Int),Z8 Z9 (G:Int)]) w':=by
     simp only [Instr.loadAt,Instr.sureAddr,Sem.run_bind,Sem.run_pure,Result.andThen_ok,run_loadVar_row w' q 25 25 #[Z8 Z9 (D:Int),Z8 Z9 (L:Int),Z8 Z9 (G:Int)] (0,0) _ J Tryz.underlying25 rfl (by kernel_rfl)]
    exact ab (v:=.agg #[Z8 Z9 D,Z8 Z9 L,Z8 Z9 G]) (by simp [execOp,show o.op=Op.load 25 (Z3 4) from ho,u0,I]) g ⟨c,rfl,kq⟩
   | 3,_=>
    intro o d w' l s ho g k m r j c b;have u0:d.eval (Z3 26)=.agg #[Z8 Z9 D,Z8 Z9 L,Z8 Z9 G]:=b 2 (j 2 (by decide));refine dz (f:=9) (args:=#[.agg #[Z8 Z9 D,Z8 Z9 L,Z8 Z9 G]]) (w1:=w') (by simp only [execOp,show o.op=Op.call { callee:=Callee.value (Operand.func 9),args:=#[Z3 26],argTypes:=#[25] } from ho];go_simp;simpa [Act.eval] using u0) g (ea (D:Int) (L:Int) (G:Int) w' ⟨by omega,by omega⟩ ⟨by omega,by omega⟩ ⟨by omega,by omega⟩) ?_;rintro e x ⟨rfl,N⟩;exact ⟨_,rfl,c.trans (N.mono c.size),by show Value.int .i64 ((D:Int)+L+G)=Z8 Z9 ((D+L+G:Nat):Int);congr 1,kq⟩
   | 4,_=>
    intro o d w' l s ho g k m r j c b;have u0:d.eval (Z3 25)=Z8 Z9 (A.n:Nat):=b 1 (j 1 (by decide));have u1:d.eval (Z3 27)=Z8 Z9 ((D+L+G:Nat):Int):=b 3 (j 3 (by decide));refine ab (v:=Z4 (!decide (A.n=D+L+G))) ?_ g ⟨c,rfl,kq⟩;simp only [execOp,show o.op=Op.binOp BinOp.neq 3 (Z3 25) (Z3 27) 3 from ho,u0,u1];by_cases e:A.n=D+L+G
    . rw [e];go_simp
    . have P:¬ ((A.n:Nat):Int)=((D+L+G:Nat):Int):=(by omega);rw [decide_eq_false e];generalize ((D+L+G:Nat):Int)=q at *;go_simp
   | 5,_=>
    intro o d w' l s ho g k m r j c b;have u0:d.eval (Z3 28)=Z4 (!decide (A.n=D+L+G)):=b 4 (j 4 (by decide));exact ab (v:=Z4 (!decide (A.n=D+L+G))) (by simp [execOp,show o.op=Op.assign (Z3 28) from ho,u0]) g ⟨c,rfl,kq⟩
   | n+6,hn=>exact absurd hn (by show ¬ n+6<6;omega)
 . rintro d w' H y ⟨l,U,c⟩ b;have e:d=Act.putFrom a 21 [Z4 (!decide (A.n=D+L+G)),a.eval (Z3 22),a.eval (Z3 23),Z7 (Z1 ⟨p,0,Z2⟩),Z8 Z9 A.n,.agg #[Z8 Z9 D,Z8 Z9 L,Z8 Z9 G],Z8 Z9 ((D+L+G:Nat):Int),Z4 (!decide (A.n=D+L+G))]:=H.out _ rfl (by omega) (λi t=>?_)
   . rw [e];exact M w' c
   . match i,t with
     | 0,_=>exact b 5 (by decide)
     | 1,_=>exact y 22 (by decide)
     | 2,_=>exact y 23 (by decide)
     | 3,_=>exact b 0 (by decide)
     | 4,_=>exact b 1 (by decide)
     | 5,_=>exact b 2 (by decide)
     | 6,_=>exact b 3 (by decide)
     | 7,_=>exact b 4 (by decide)
     | n+8,hn=>exact absurd hn (by simp)
structure yV (w w':ZZ) (p D L G ar v ps:Nat) (u:Value) (A:aB) (F:bx) (cache:Int):Prop where
 arGe:w.heap.size<=ar
 vGe:w.heap.size<=v
 arc:bJ w' ar v D L G 1 2 0 u (Z6 Z2 0 0) Z0
 pg:bK (λk=>w.heap.size<=k/\ar<k) w' u [2]
 vol:m6 w' v p D L G ps 0 (eV (A.readTo A.n) D L G) F
 out:aa (F.has p A.n) w w'
 sh:∃ sb,ps=sb+1+1+1/\w.heap.size<=sb/\ps<v/\v<ar/\jF w' sb cache
theorem Kr (h:aq w p A F) (hf:A.fit) (hn:A.n=D+L+G) (hr:cn D L G=true) (qb:1<=D) (hD:D<=12) (hL:1<=L) (q4:L<=4) (hG:G<=4) (kj:D%L=0) (qa:D+L+G<=16) (qm:0<=cache) (qn:cache<=64)
 (qp:8<=A.nb) (hw:A.wait<0) (k9:∀ i,A.lost i=Z0) (ki:∀ d,A.bad d 0=Z0) (hz:∀ i,i<A.n->A.blk i 0=zb) (Y:bj w) (X:aJ w) (hK:3<=w.heap.size) (kx:¬ F.has p A.n 2) (ky:¬ F.has p A.n 1) :
 Calls ZX 44 #[Z7 (Z1 ⟨p,0,Z2⟩),.agg #[Z8 Z9 D,Z8 Z9 L,Z8 Z9 G],.agg #[Z8 Z9 cache]] w λe w'=>∃ ar v ps u,e=.returned (.tuple #[Z7 (Z1 ⟨ar,0,Z2⟩),.nilIface])/\yV w w' p D L G ar v ps u A F cache:=by
 have qo:∀ (fn:Fn) (first cap:Array Value) (w:ZZ),(Instr.makeFunc fn first cap).run ZX w=.ok (.func fn first cap) w:=λ_ _ _ _=>rfl;have qc:∀ (args:Array Value) (w:ZZ),(callFunc 68 args).run ZX w=.ok (.enter 68 args) w:=enters_of Tryz.func68 (by kernel_rfl) rfl;have m:((w.alloc (Z5 #[Z8 Z9 (D:Int),Z8 Z9 (L:Int),Z8 Z9 (G:Int)] 25)).alloc (Z5 #[Z8 Z9 cache] 86)).heap[w.heap.size]?=Z1 (Z5 #[Z8 Z9 (D:Int),Z8 Z9 (L:Int),Z8 Z9 (G:Int)] 25 (0,0)):=(blk_alloc_lt _ _ _ (by simp)).trans (blk_alloc_new _ _);have ho:((w.alloc (Z5 #[Z8 Z9 (D:Int),Z8 Z9 (L:Int),Z8 Z9 (G:Int)] 25)).alloc (Z5 #[Z8 Z9 cache] 86)).heap[w.heap.size+1]?=Z1 (Z5 #[Z8 Z9 cache] 86 (0,0)):=by
  have:=blk_alloc_new (w.alloc (Z5 #[Z8 Z9 (D:Int),Z8 Z9 (L:Int),Z8 Z9 (G:Int)] 25)) (Z5 #[Z8 Z9 cache] 86);rwa [World.size_alloc] at this
 have t:ZY w.heap.size w ((w.alloc (Z5 #[Z8 Z9 (D:Int),Z8 Z9 (L:Int),Z8 Z9 (G:Int)] 25)).alloc (Z5 #[Z8 Z9 cache] 86)):=(bA w _).alloc (by simp) _;have T:((w.alloc (Z5 #[Z8 Z9 (D:Int),Z8 Z9 (L:Int),Z8 Z9 (G:Int)] 25)).alloc (Z5 #[Z8 Z9 cache] 86)).heap.size=w.heap.size+2:=by simp
 obtain ⟨w2,qg⟩:=nM ((w.alloc (Z5 #[Z8 Z9 (D:Int),Z8 Z9 (L:Int),Z8 Z9 (G:Int)] 25)).alloc (Z5 #[Z8 Z9 cache] 86));rw [qg] at m ho t T;have p0:w2.cell? ⟨w.heap.size,0,Z2⟩=Z1 (Z8 Z9 D):=by simp [World.cell?,m]
 have p1:w2.cell? ⟨w.heap.size,1,Z2⟩=Z1 (Z8 Z9 L):=by simp [World.cell?,m]
 have p2:w2.cell? ⟨w.heap.size,2,Z2⟩=Z1 (Z8 Z9 G):=by simp [World.cell?,m]
 have H2:=hide4 m ho t T;clear m ho t T;go_enter Tryz.func44,Tryz.ntmps44;go_wp2_with fail;refine (oV D L G _).mono ?_;rw [hr];rintro e w3 ⟨rfl,P⟩;obtain ⟨m,ho,t,T⟩:=H2.out;have S:=(P.block _ (by omega)).trans m;have I:=(P.block _ (by omega)).trans ho;have B:ZY w.heap.size w w3:=t.trans (P.mono t.size);have ks:=P.size;have o0:w3.cell? ⟨w.heap.size+1,0,Z2⟩=Z1 (Z8 Z9 cache):=by simp [World.cell?,I]
 have H3:=hide4 S I B (show w.heap.size+2<=w3.heap.size by omega);clear m ho t T S I B P ks p0 p1 p2;go_wp2_with fail;refine A9 (by kernel_rfl) (h.below H3.out.2.2.1 lR) hf H3.out.1 hD q4 hG rfl rfl rfl ?_;intro K Q;rw [decide_eq_true hn];obtain ⟨S,I,B,ks⟩:=H3.out;have Z:=(Q.block _ (by omega)).trans S;have q6:=(Q.block _ (by omega)).trans I;have he:ZY w.heap.size w K:=B.trans (Q.mono B.size);have qj:=Q.size;have q5:=sN (h.below he lR) (by omega);have kk:¬ ((A.nb:Nat):Int)<8:=by omega
 have q0:K.cell? ⟨w.heap.size,0,Z2⟩=Z1 (Z8 Z9 D):=by simp [World.cell?,Z]
 have q1:K.cell? ⟨w.heap.size,1,Z2⟩=Z1 (Z8 Z9 L):=by simp [World.cell?,Z]
 have q2:K.cell? ⟨w.heap.size,2,Z2⟩=Z1 (Z8 Z9 G):=by simp [World.cell?,Z]
 have o4:K.cell? ⟨w.heap.size+1,0,Z2⟩=Z1 (Z8 Z9 cache):=by simp [World.cell?,q6]
 have H4:=hide3 he q5 (show w.heap.size+2<=K.heap.size by omega);clear S I B ks Z q6 he qj q5 Q o0;rename_i kz
 refine kz _ _ ?_;clear kz;simp only [Act.putFrom,Act.put,List.setIfInBounds_toArray,List.set_cons_succ,List.set_cons_zero];obtain ⟨NB,kg⟩:=nM (A.nb);rw [kg] at H4 kk;have qk:=hide kg;clear kg;go_wp2_with fail;refine H4.out.2.1.mono ?_;rintro e w5 ⟨rfl,qh⟩;subst qh;go_wp2_with fail;refine (Cf p D L G cache w5).mono ?_;rintro e a ⟨v,sb,rfl,qe,O,W,kh⟩;obtain ⟨ps,q7⟩:=nM (sb+1+1+1);rw [q7] at O W;obtain ⟨V,_,qq⟩:=H4.out;have hg:ZY w.heap.size w a:=V.trans (kh.mono V.size);have qs:=kh.size;have R:ZY a.heap.size a (a.alloc (Z5 (mz v 0 0 0 0 0 0 (Z6 Z2 0 0) (Z6 Z2 0 0) Z0) 121)):=bA a _;have H:bJ (a.alloc (Z5 (mz v 0 0 0 0 0 0 (Z6 Z2 0 0) (Z6 Z2 0 0) Z0) 121)) a.heap.size v 0 0 0 0 0 0 (Z6 Z2 0 0) (Z6 Z2 0 0) Z0:=blk_alloc_new _ _;obtain ⟨f,ko⟩:=nM (a.alloc (Z5 (mz v 0 0 0 0 0 0 (Z6 Z2 0 0) (Z6 Z2 0 0) Z0) 121));rw [ko] at R H;have g:ZY w.heap.size w f:=hg.trans (R.mono hg.size);have r:m6 f v p D L G ps 0 A F:=⟨O.keep (R.block _ O.lt),h.below g lR,Y.below g Y.lt,X.keep (g.block _ X.lt),Tm hK g.size⟩;have o:∀ k,F.has p A.n k->k<w.heap.size:=λk C=>h.has_lt C;have N:jI F p A.n v:=⟨λq=>by have:=o v q;omega,kx,ky⟩;have k5:¬ F.has p A.n a.heap.size:=λq=>by have:=o _ q;omega
 have q9:a.heap.size<f.heap.size:=H.lt;have qf:v<a.heap.size:=O.lt;have q8:=uB 68 #[Z7 (Z1 ⟨a.heap.size,0,Z2⟩)] #[] qc f a.heap.size _ H rfl
  (λw1 x w2=>x=.nilIface/\aq w2 p (eV (A.readTo A.n) D L G) F/\(∃ u,bJ w2 a.heap.size v D L G 1 2 0 u (Z6 Z2 0 0) Z0/\bK (λk=>w1.heap.size<=k) w2 u [2])/\aa (λk=>k=a.heap.size\/F.has p A.n k) w1 w2)
  (λw1 l kf=>(Kq (H.keep (l.block _ H.lt)) (r.below l lR) N k5 hf hn hr qb hD hL q4 hG kj qa (by omega) hw k9 ki hz).mono (by
   rintro e w2 ⟨rfl,E,⟨u,y,J⟩,c⟩;exact ⟨_,rfl,.inl rfl,⟨rfl,E,⟨u,y,J⟩,c⟩,c.block _ (by omega) (λq=>q.elim (λe=>by omega) (λq=>by have:=o _ q;omega)),_,y,rfl⟩))
 have kr:=V.size;have kb:w.heap.size<=sb/\ps<v/\v<a.heap.size/\jF f sb cache:=⟨by omega,W.2.1,qf,W.2.2.below R⟩;have H7:=hide6 g r o q8 N q9;have HS:=hide kb;clear W kb kr V hg R H g r q8 O kh N k5 q0 q1 q2 o4;have kp:a.alloc (Z5 #[Z7 (Z1 ⟨v,0,Z2⟩),Z8 Z9 0,Z8 Z9 0,Z8 Z9 0,Z8 .u64 0,Z8 Z9 0,Z8 Z9 0,Z6 Z2 0 0,Z6 Z2 0 0,Z4 Z0] 121)=f:=ko;clear ko;go_wp2_with fail;clear kp;refine H7.out.2.2.2.1.mono ?_;rintro e w8 ⟨x,w1,z,rfl,_,l,kf,⟨rfl,E,⟨u,y,J⟩,c⟩,rfl⟩;have H8:=hide6 l kf E y J c;clear l kf E y J c;go_wp2;go_ret2;obtain ⟨g,r,o,_,N,q9⟩:=H7.out;obtain ⟨l,kf,E,y,J,c⟩:=H8.out;have s:ZY w.heap.size w w1:=g.trans (l.mono g.size);have qi:=g.size;have M:∀ k,k≠f.heap.size->k≠a.heap.size->((z.setCell ⟨f.heap.size,0,Z2⟩ .nilIface).setCell ⟨a.heap.size,9,Z2⟩ (Z4 Z0)).heap[k]?=z.heap[k]?:=λk U h2=>(blk_setCell_other _ _ _ _ h2).trans (blk_setCell_other _ _ _ _ U);have kv:((z.setCell ⟨f.heap.size,0,Z2⟩ .nilIface).setCell ⟨a.heap.size,9,Z2⟩ (Z4 Z0)).heap.size=z.heap.size:=by simp [World.setCell]
 have hO:aa (F.has p A.n) w ((z.setCell ⟨f.heap.size,0,Z2⟩ .nilIface).setCell ⟨a.heap.size,9,Z2⟩ (Z4 Z0)):=
  ⟨c.os.trans s.os,c.tape.trans s.tape,c.output.trans s.output,by rw [kv];exact Tm s.size c.size,λk C qd=>(M k (by omega) (by omega)).trans ((c.block k (by have:=s.size;omega) (λq=>q.elim (λe=>by omega) qd)).trans (s.block k C))⟩
 obtain ⟨s1,s2,s3,s4⟩:=HS.out;have s5:=s4.lt;refine ⟨a.heap.size,v,ps,u,rfl,by omega,by omega,?_,?_,?_,hO,sb,q7.symm,s1,s2,s3,s4.keep λk U h2=>(M k (by omega) (by omega)).trans ((c.block k (by omega) (λq=>q.elim (λe=>by omega) (λq=>by have:=o _ q;omega))).trans (l.block k (by omega)))⟩
 . have km:z.heap[a.heap.size]?=Z1 (Z5 (mz v D L G 1 2 0 u (Z6 Z2 0 0) Z0) 121 (0,0)):=y;have U:(z.setCell ⟨f.heap.size,0,Z2⟩ .nilIface).heap[a.heap.size]?=Z1 (Z5 (mz v D L G 1 2 0 u (Z6 Z2 0 0) Z0) 121 (0,0)):=(blk_setCell_other _ _ _ _ (by show a.heap.size≠f.heap.size;omega)).trans km;exact aj (j:=9) U (Z4 Z0)
 . obtain ⟨ao,cc,q1,q2,q3⟩:=J;refine ⟨ao,cc,q1,q2,λhl=>?_⟩;obtain ⟨b,bo,r1,r2,r3,r4⟩:=q3 hl;exact ⟨b,bo,r1,⟨by omega,by omega⟩,by rw [kv];exact r3,λi hi=>(World.cell?_of_block (M b (by omega) (by omega))).trans (r4 i hi)⟩
 . refine ⟨?_,E.keep λk C=>M k (by have:=o k C;omega) (by have:=o k C;omega),?_,?_,?_⟩
   . exact r.vol.keep ((M v (by have:=r.vol.lt;omega) (by omega)).trans ((c.block v (by have:=r.vol.lt;omega) (λq=>q.elim (λe=>by omega) N.v)).trans (l.block v r.vol.lt)))
   . exact Y.keep (hO.block _ Y.lt kx)
   . exact X.keep (hO.block _ X.lt ky)
   . rw [kv];exact Tm (Tm hK s.size) c.size
structure On (w w2:ZZ) (D L G cache:Int):Prop where
 par:w2.heap[w.heap.size]?=Z1 (Z5 #[Z8 Z9 D,Z8 Z9 L,Z8 Z9 G] 25 (0,0))
 opt:w2.heap[w.heap.size+1]?=Z1 (Z5 #[Z8 Z9 cache] 86 (0,0))
 below:ZY w.heap.size w w2
 size:w2.heap.size=w.heap.size+2
theorem Oo (w:ZZ) (D L G cache:Int):On w ((w.alloc (Z5 #[Z8 Z9 D,Z8 Z9 L,Z8 Z9 G] 25)).alloc (Z5 #[Z8 Z9 cache] 86)) D L G cache:=by
 refine ⟨(blk_alloc_lt _ _ _ (by simp)).trans (blk_alloc_new _ _),?_,(bA w _).alloc (by simp) _,by simp⟩;have:=blk_alloc_new (w.alloc (Z5 #[Z8 Z9 D,Z8 Z9 L,Z8 Z9 G] 25)) (Z5 #[Z8 Z9 cache] 86);rwa [World.size_alloc] at this
theorem GD (h:aq w p A F) (O:A.fit) (S:A.n=D+L+G) (T:cn D L G=true) (B:1<=D) (I:D<=12) (K:1<=L) (M:L<=4) (J:G<=4) (y:D%L=0) (z:D+L+G<=16) (N:0<=cache) (P:cache<=64)
 (Q:8<=A.nb) (U:A.wait<0) (t:∀ i,A.lost i=Z0) (x:∀ d,A.bad d 0=Z0) (V:∀ i,i<A.n->A.blk i 0=zb) (r:bj w) (q:aJ w) (hK:3<=w.heap.size) (C:¬ F.has p A.n 2) (E:¬ F.has p A.n 1) :
 Calls ZX 30 #[Z7 (Z1 ⟨p,0,Z2⟩),.agg #[Z8 Z9 D,Z8 Z9 L,Z8 Z9 G],.agg #[Z8 Z9 cache]] w λe w'=>∃ j ar v ps u,e=.returned (.tuple #[Z7 (Z1 ⟨j,0,Z2⟩),.nilIface])/\w.heap.size<=j/\Boxed w' j 92 (Z7 (Z1 ⟨ar,0,Z2⟩))/\yV w w' p D L G ar v ps u A F cache:=by
 have b:=Oo w D L G cache;obtain ⟨w2,R⟩:=nM ((w.alloc (Z5 #[Z8 Z9 (D:Int),Z8 Z9 (L:Int),Z8 Z9 (G:Int)] 25)).alloc (Z5 #[Z8 Z9 cache] 86));rw [R] at b;have p0:w2.cell? ⟨w.heap.size,0,Z2⟩=Z1 (Z8 Z9 D):=by simp [World.cell?,b.par]
 have p1:w2.cell? ⟨w.heap.size,1,Z2⟩=Z1 (Z8 Z9 L):=by simp [World.cell?,b.par]
 have p2:w2.cell? ⟨w.heap.size,2,Z2⟩=Z1 (Z8 Z9 G):=by simp [World.cell?,b.par]
 have o0:w2.cell? ⟨w.heap.size+1,0,Z2⟩=Z1 (Z8 Z9 cache):=by simp [World.cell?,b.opt]
 have c:=b.below;have m:=Kr (h.below c lR) O S T B I K M J y z N P Q U t x V (r.below c r.lt) (q.keep (c.block _ q.lt)) (Tm hK c.size) C E;have H:=hide2 b m;clear b m c;go_enter Tryz.func30,Tryz.ntmps30;go_wp2_with fail;refine H.out.2.mono ?_;rintro e f ⟨ar,v,ps,u,rfl,a⟩;have s:=hide a;clear a;go_wp2;go_ret2;have a:=s.out;have c:=H.out.1.below;have hj:=H.out.1.size;have l:aa (F.has p A.n) w f:=(aa.of_all c _).trans a.out;have g:ZY f.heap.size f (f.alloc (Z5 #[Z7 (Z1 ⟨ar,0,Z2⟩)] 92)):=bA f _;refine ⟨f.heap.size,ar,v,ps,u,rfl,l.size,Boxed.new f _ _,?_,?_,a.arc.keep (g.block _ a.arc.lt),?_,a.vol.below g lR,l.trans (aa.of_all g _),?_⟩
 . have:=a.arGe;omega
 . have:=a.vGe;omega
 . exact (a.pg.weaken (λk o=>⟨by have:=o.1;omega,o.2⟩)).keep (eM.of_below g)
 . obtain ⟨sb,W,s2,X,Y,Z⟩:=a.sh;exact ⟨sb,W,by omega,X,Y,Z.below g⟩
theorem bf.other {w':ZZ} {t:Nat} {ps:dD} {pg ob:Value} {P:List Nat} {xs:bg} (h:bf w ar v p ps D L G t pg ob P xs A F) (g:w.heap.size<=w'.heap.size) {b:Nat} (a:∀ j,j≠b->j<w.heap.size->w'.heap[j]?=w.heap[j]?) (r:b<ar) (m:b≠v) (i:¬ F.has p A.n b) (q:3<=b) (l:¬ ps.bl b):bf w' ar v p ps D L G t pg ob P xs A F:=by
 have k1:2<3:=by decide
 have k2:1<3:=by decide
 have c:eM (λk=>ar<k/\¬ F.has p A.n k/\¬ ps.bl k) w w':=⟨g,λk o hK=>a k (by have:=hK.1;omega) o⟩;exact ⟨h.arc.keep (a _ (by omega) h.arc.lt),⟨h.vol.vol.keep (a _ (Ne.symm m) h.vol.vol.lt),h.vol.arr.keep λj f=>a j (λe=>i (e▸f)) (h.vol.arr.has_lt f),h.vol.laid.keep (a _ (by omega) h.vol.laid.lt),h.vol.tab.keep (a _ (by omega) h.vol.tab.lt),Tm h.vol.room g⟩,h.free,h.nar,h.vlt,h.arK,h.fit,h.par,h.disk,h.pgs.keep c,h.cat.keep c,h.nb,h.turn,ps.keep _ _ h.kit λk d=>a k (λe=>l (e▸d)) (ps.lt _ h.kit k d),h.apt⟩
theorem aq.kind {X:ZZ} (h:aq X p A F) {k:Nat} (d:F.has p A.n k):∃ cs T,X.heap[k]?=Z1 (Z5 cs T (0,0))/\(T=57\/T=61\/T=255\/T=4):=by
 obtain ⟨R,h,_,e⟩:=h;rw [<- e.n] at d;rcases d with rfl|rfl|⟨i,b,rfl|rfl⟩
 . exact ⟨_,_,h.top,.inl rfl⟩
 . obtain ⟨cs,f,_⟩:=h.drv;exact ⟨_,_,f,.inr (.inl rfl)⟩
 . obtain ⟨c,a,_⟩:=h.blk i b;exact ⟨_,_,a,.inr (.inr (.inl rfl))⟩
 . obtain ⟨c,a,_⟩:=h.bad i b;exact ⟨_,_,a,.inr (.inr (.inr rfl))⟩
end Go.Proofs.YtfbmmcnpjhmjaaaGreatDoor
