import Derived.Test.YtfbmmcnpjhmjaaaGreatDoorM33
set_option maxRecDepth 100000
set_option maxHeartbeats 8000000
open Go.IntKind renaming u64 -> Z9
open Go.Value renaming int -> Z8, pointer -> Z7
open Go.Obj renaming cells -> Z6
open Go.Operand renaming tmp -> Z5
open Option renaming none -> Z4, some -> Z3
open Bool renaming false -> Z2
open Go renaming World -> Z1, Value -> Z0
open Nat renaming le_refl -> Tm, lt_of_lt_of_le -> To
open Option.some renaming inj -> Tn
open Go.Proofs.Tryz renaming prog -> ZZ
namespace Go.Proofs.YtfbmmcnpjhmjaaaGreatDoor
open Go.RowKit Go.Deep
variable {a:Act} {ad:Addr} {ops:Array Oper} {Q:Exit->Act->Z1->Prop} {rest:List Oper} {g N s l n r v b q gone sp:Nat} {Dn:Nat->Bool} {o:Oper} {u:Z0} {w w':Z1}
structure Rt where
 D:Nat
 L:Nat
 G:Nat
 t:Nat
 f:Nat
 n:Nat
def Gl (x:Rt):Array Z0:=aQ x.D x.L x.G x.t x.f x.n
def oG:Option aW->Z0
 | none=>.nilIface
 | some r=>bp r
def tc (x:Rt):Option aW->Rt
 | some (.root D L G t f n)=>if x.t<t then ⟨D,L,G,t,f,n⟩ else x
 | _=>x
def bW (R:Nat->Option aW):Nat->Rt
 | 0=>⟨0,0,0,0,0,0⟩
 | k+1=>tc (bW R k) (R k)
def J0 (x k:Nat):Option aW->Nat
 | some .blank=>x|||2^k
 | _=>x
def fA (R:Nat->Option aW):Nat->Nat
 | 0=>0
 | k+1=>J0 (fA R k) k (R k)
theorem td (R:Nat->Option aW):∀ k,k<=60->fA R k<2^k
 | 0,_=>by simp [fA]
 | k+1,h=>by
  have ih:=td R k (by omega);have a:2^k<2^(k+1):=Nat.pow_lt_pow_right (by decide) (by omega);show J0 (fA R k) k (R k)<2^(k+1);unfold J0;split
  . exact Nat.or_lt_two_pow (by omega) a
  . omega
theorem te (e:o.guard=Z4) (x y:Operand) (ho:o.op=.store 117 x y) {b D L G t f n:Nat} {cs:Array Z0}
 (g:a.eval x=Z7 (Z3 ⟨b,0,Z4⟩)) (i:a.eval y=.agg (aQ D L G t f n)) (c:w.heap[b]?=Z3 (Z6 cs 117 (0,0))) (d:cs.size=6) (h:wpList ZZ ops Q rest (a.put o.dst undef) (w.setRow b (aQ D L G t f n))):wpList ZZ ops Q (o::rest) a w:=by
 refine wpList_plain e λK hK=>?_;unfold Oper.wp;simp [execOp,ho,g,i,sV c d,Result.andThen];exact hK _ _ h
theorem L7 (v:Z0) (w:Z1):(Instr.typeAssert (.iface 117 v) 219 117 true).run ZZ w=.ok (.tuple #[v,.bool true]) w:=by
 simp [Instr.typeAssert,run_underlying Tryz.underlying117]
theorem lK (t:TypeId) (h:t≠117) (v:Z0) (w:Z1):(Instr.typeAssert (.iface t v) 219 117 true).run ZZ w=.ok (.tuple #[.agg (aQ 0 0 0 0 0 0),.bool Z2]) w:=by
 simp [Instr.typeAssert,run_underlying Tryz.underlying117,h];rfl
theorem AL (w:Z1):(Instr.typeAssert .nilIface 219 117 true).run ZZ w=.ok (.tuple #[.agg (aQ 0 0 0 0 0 0),.bool Z2]) w:=by
 simp [Instr.typeAssert,run_underlying Tryz.underlying117];rfl
theorem Ds (w:Z1):(zeroValue 235).run ZZ w=.ok (.agg #[]) w:=by
 obtain ⟨a,b,c⟩:∃ a,ZZ.info? 235=Z3 a/\a.zero=Z3 (.agg #[]):=by
  have:(ZZ.info? 235).map (λi=>i.zero)=Z3 (Z3 (.agg #[])):=by kernel_rfl
  rw [Option.map_eq_some_iff] at this;exact this
 simp [zeroValue,typeInfo,Sem.run_bind,b,c]
theorem J1 (v:Z0) (w:Z1):(Instr.typeAssert (.iface 235 v) 219 235 true).run ZZ w=.ok (.tuple #[v,.bool true]) w:=by
 simp [Instr.typeAssert,run_underlying Tryz.underlying235]
theorem kG (t:TypeId) (h:t≠235) (v:Z0) (w:Z1):(Instr.typeAssert (.iface t v) 219 235 true).run ZZ w=.ok (.tuple #[.agg #[],.bool Z2]) w:=by
 simp [Instr.typeAssert,run_underlying Tryz.underlying235,h]
theorem yK (w:Z1):(Instr.typeAssert .nilIface 219 235 true).run ZZ w=.ok (.tuple #[.agg #[],.bool Z2]) w:=by
 simp [Instr.typeAssert,run_underlying Tryz.underlying235]
def fC (w:Z1) (D L G t f n:Nat):Z1:=(w.alloc (Z6 (aQ 0 0 0 0 0 0) 117)).setRow w.heap.size (aQ D L G t f n)
theorem tf (w:Z1) (D L G t f n:Nat):(fC w D L G t f n).heap[w.heap.size]?=Z3 (Z6 (aQ D L G t f n) 117 (0,0)):=setRow_heap _ _ _ _ _ _ (blk_alloc_new w (Z6 (aQ 0 0 0 0 0 0) 117))
theorem eN (w:Z1) (D L G t f n:Nat):Below w.heap.size w (fC w D L G t f n):=(bA w _).trans ⟨rfl,rfl,rfl,by unfold fC;rw [fY];exact Tm _,λk a=>(aI _ _ _).block k (by simp;omega) (λq=>by have:=Tn q;omega)⟩
theorem nv (b:o.guard=Z4) (x y:Operand) (ho:o.op=.store 117 x y) {D L G t f n:Nat}
 (c:a.eval x=Z7 (Z3 ⟨w.heap.size,0,Z4⟩)) (d:a.eval y=.agg (aQ D L G t f n)) (h:wpList ZZ ops Q rest (a.put o.dst undef) (fC w D L G t f n)):wpList ZZ ops Q (o::rest) a (w.alloc (Z6 (aQ 0 0 0 0 0 0) 117)):=
 te b x y ho c d (blk_alloc_new _ _) rfl h
def RY (w:Z1) (R:Nat->Option aW) (N:Nat) (s i:Z0) (wr:Z1):Prop:=∃ k:Nat,k<=N/\i=Z8 .i64 k/\s=Z8 Z9 (fA R k:Nat)/\Below w.heap.size w wr
theorem Du (R:Nat->Option aW) (x:N<=60) (d:w.rowIs g 219 N (λi=>oG (R i))) :
 Calls ZZ 98 #[.slice (Z3 ⟨g,0,Z4⟩) N N] w λe w'=>e=.returned (Z8 Z9 (fA R N:Nat))/\Below w.heap.size w w':=by
 have q:=d.lt;have z:=Ds;go_enter Tryz.func98,Tryz.ntmps98;go_wp2_with fail;go_loopw [2,9] (λs i wr=>RY w R N s i wr) (λ_ i _=>N-(intOf i).toNat)
 case atStart=>exact ⟨0,Nat.zero_le _,rfl,rfl,Below.refl _ _⟩
 case round=>
  obtain ⟨k,y,rfl,rfl,b⟩:=hrel;by_cases v:k<N
  . have j:wr.rowIs g 219 N (λi=>oG (R i)):=d.of_block (b.block g q);have c:=j.cell (i:=k) v;have a:fA R (k+1)=J0 (fA R k) k (R k):=rfl;have h:=td R k (by omega);have p:fA R k<18446744073709551616:=Nat.lt_trans h (JN (by omega));have m:=b.size;cases h4:R k with
    | none=>
     have o:=yK;rw [h4] at c a;simp only [oG] at c;have H:=hide2 b a;clear b j a h d;go_wp2;refine ⟨⟨k+1,by omega,by go_num,by rw [H.out.2];rfl,H.out.1.alloc m _⟩,by simp [intOf];omega⟩
    | some r=>
     cases r with
     | shard l=>
      have o:=kG 217 (by decide);rw [h4] at c a;simp only [oG,bp] at c;have H:=hide2 b a;clear b j a h d;go_wp2;refine ⟨⟨k+1,by omega,by go_num,by rw [H.out.2];rfl,H.out.1.alloc m _⟩,by simp [intOf];omega⟩
     | filled=>
      have o:=kG 174 (by decide);rw [h4] at c a;simp only [oG,bp] at c;have H:=hide2 b a;clear b j a h d;go_wp2;refine ⟨⟨k+1,by omega,by go_num,by rw [H.out.2];rfl,H.out.1.alloc m _⟩,by simp [intOf];omega⟩
     | root D L G t f n=>
      have o:=kG 117 (by decide);rw [h4] at c a;simp only [oG,bp] at c;have H:=hide2 b a;clear b j a h d;go_wp2;refine ⟨⟨k+1,by omega,by go_num,by rw [H.out.2];rfl,H.out.1.alloc m _⟩,by simp [intOf];omega⟩
     | blank=>
      have o:=J1;rw [h4] at c a;simp only [oG,bp] at c;have H:=hide2 b a;clear b j a h d;go_wp2_with fail;refine (iF _ k p (by omega) _).mono ?_;rintro e w2 ⟨rfl,rfl⟩;go_wp2;refine ⟨⟨k+1,by omega,by go_num,by rw [H.out.2];rfl,H.out.1.alloc m _⟩,by simp [intOf];omega⟩
  . have u:k=N:=(by omega);subst u;have H:=hide b;clear b d;go_wp2;go_ret;exact ⟨rfl,H.out⟩
def RZ (w:Z1) (R:Nat->Option aW) (N:Nat) (i:Z0) (wr:Z1):Prop:=∃ k:Nat,k<=N/\i=Z8 .i64 k/\wr.heap[w.heap.size]?=Z3 (Z6 (Gl (bW R k)) 117 (0,0))/\Below w.heap.size w wr
theorem yL (R:Nat->Option aW) (X:N<=60) (o:w.rowIs g 219 N (λi=>oG (R i))) :
 Calls ZZ 95 #[.slice (Z3 ⟨g,0,Z4⟩) N N] w λe w'=>e=.returned (.agg (Gl (bW R N)))/\Below w.heap.size w w':=by
 have Q:=o.lt;have F:(w.alloc (Z6 (aQ 0 0 0 0 0 0) 117)).heap[w.heap.size]?=Z3 (Z6 (Gl (bW R 0)) 117 (0,0)):=blk_alloc_new _ _;have J:Below w.heap.size w (w.alloc (Z6 (aQ 0 0 0 0 0 0) 117)):=bA w _;have Y:=vT;go_enter Tryz.func95,Tryz.ntmps95;go_wp2_with fail;go_loopw [9] (λi wr=>RZ w R N i wr) (λi _=>N-(intOf i).toNat)
 case atStart=>exact ⟨0,Nat.zero_le _,rfl,F,J⟩
 case round=>
  clear F J;obtain ⟨k,x,rfl,h,d⟩:=hrel;by_cases T:k<N
  . have p:wr.rowIs g 219 N (λi=>oG (R i)):=o.of_block (d.block g Q);have c:=p.cell (i:=k) T;have a:bW R (k+1)=tc (bW R k) (R k):=rfl;have M:=d.size;have I:w.heap.size<wr.heap.size:=(Array.getElem?_eq_some_iff.1 h).1;have m:(fC wr 0 0 0 0 0 0).heap[w.heap.size]?=Z3 (Z6 (Gl (bW R k)) 117 (0,0)):=((eN wr 0 0 0 0 0 0).block _ I).trans h;have j:Below w.heap.size w (fC wr 0 0 0 0 0 0):=d.trans ((eN wr 0 0 0 0 0 0).mono M);cases h7:R k with
    | none=>
     have z:=AL;rw [h7] at c a;simp only [oG] at c;have H:=hide3 m j a;clear h d p a o m j;go_wp2_with (show wpList _ _ _ ({ dst:=Z4,op:=Op.store 117 (Z5 5) (Z5 16),type:=_,pos:=_,after:=_,guard:=_ }::_) _ _;refine nv (w:=wr) (D:=0) (L:=0) (G:=0) (t:=0) (f:=0) (n:=0) rfl (Z5 5) (Z5 16) rfl (by rfl) (by rfl) ?_);refine ⟨⟨k+1,by omega,by go_num,by rw [H.out.2.2];exact H.out.1,H.out.2.1⟩,by simp [intOf];omega⟩
    | some r=>
     cases r with
     | shard l=>
      have z:=lK 217 (by decide);rw [h7] at c a;simp only [oG,bp] at c;have H:=hide3 m j a;clear h d p a o m j;go_wp2_with (show wpList _ _ _ ({ dst:=Z4,op:=Op.store 117 (Z5 5) (Z5 16),type:=_,pos:=_,after:=_,guard:=_ }::_) _ _;refine nv (w:=wr) (D:=0) (L:=0) (G:=0) (t:=0) (f:=0) (n:=0) rfl (Z5 5) (Z5 16) rfl (by rfl) (by rfl) ?_);refine ⟨⟨k+1,by omega,by go_num,by rw [H.out.2.2];exact H.out.1,H.out.2.1⟩,by simp [intOf];omega⟩
     | blank=>
      have z:=lK 235 (by decide);rw [h7] at c a;simp only [oG,bp] at c;have H:=hide3 m j a;clear h d p a o m j;go_wp2_with (show wpList _ _ _ ({ dst:=Z4,op:=Op.store 117 (Z5 5) (Z5 16),type:=_,pos:=_,after:=_,guard:=_ }::_) _ _;refine nv (w:=wr) (D:=0) (L:=0) (G:=0) (t:=0) (f:=0) (n:=0) rfl (Z5 5) (Z5 16) rfl (by rfl) (by rfl) ?_);refine ⟨⟨k+1,by omega,by go_num,by rw [H.out.2.2];exact H.out.1,H.out.2.1⟩,by simp [intOf];omega⟩
     | filled=>
      have z:=lK 174 (by decide);rw [h7] at c a;simp only [oG,bp] at c;have H:=hide3 m j a;clear h d p a o m j;go_wp2_with (show wpList _ _ _ ({ dst:=Z4,op:=Op.store 117 (Z5 5) (Z5 16),type:=_,pos:=_,after:=_,guard:=_ }::_) _ _;refine nv (w:=wr) (D:=0) (L:=0) (G:=0) (t:=0) (f:=0) (n:=0) rfl (Z5 5) (Z5 16) rfl (by rfl) (by rfl) ?_);refine ⟨⟨k+1,by omega,by go_num,by rw [H.out.2.2];exact H.out.1,H.out.2.1⟩,by simp [intOf];omega⟩
     | root D L G t f n=>
      have z:=L7;rw [h7] at c a;simp only [oG,bp] at c;have u:=tf wr D L G t f n;have s:(fC wr D L G t f n).heap[w.heap.size]?=Z3 (Z6 (Gl (bW R k)) 117 (0,0)):=((eN wr D L G t f n).block _ I).trans h;have A:Below w.heap.size w (fC wr D L G t f n):=d.trans ((eN wr D L G t f n).mono M);obtain ⟨O,B⟩:=nM (fC wr D L G t f n);rw [B] at u s A;have W:O.cell? ⟨wr.heap.size,3,Z4⟩=Z3 (Z8 Z9 t):=(by simp [World.cell?,u,aQ]);have V:O.cell? ⟨w.heap.size,3,Z4⟩=Z3 (Z8 Z9 (bW R k).t):=(by simp [World.cell?,s,Gl,aQ]);have H:=hide5 B u s A a;clear h d p a o B u s A m j;by_cases K:(bW R k).t<t
      . go_wp2_with (first|(show wpList _ _ _ ({ dst:=Z4,op:=Op.store 117 (Z5 5) (Z5 16),type:=_,pos:=_,after:=_,guard:=_ }::_) _ _;refine nv (w:=wr) (D:=D) (L:=L) (G:=G) (t:=t) (f:=f) (n:=n) rfl (Z5 5) (Z5 16) rfl (by rfl) (by rfl) ?_;rw [H.out.1])|(show wpList _ _ _ ({ dst:=Z3 26,op:=_,type:=_,pos:=_,after:=_,guard:=_ }::_) _ _;refine yD (D:=D) (L:=L) (G:=G) (t:=t) (f:=f) (n:=n) (b:=wr.heap.size) rfl (Z5 5) rfl rfl (by rfl) (by exact H.out.2.1) ?_)|(show wpList _ _ _ ({ dst:=Z4,op:=Op.store 117 (Z5 2) (Z5 26),type:=_,pos:=_,after:=_,guard:=_ }::_) _ _;refine te (D:=D) (L:=L) (G:=G) (t:=t) (f:=f) (n:=n) (b:=w.heap.size) (cs:=Gl (bW R k)) rfl (Z5 2) (Z5 26) rfl (by rfl) (by rfl) (by exact H.out.2.2.1) rfl ?_));obtain ⟨_,U,C,y,E⟩:=H.out;refine ⟨⟨k+1,by omega,by go_num,?_,y.trans ⟨rfl,rfl,rfl,by rw [fY];exact Tm _,λk x=>(aI _ _ _).block k (To x y.size) (λq=>by have:=Tn q;omega)⟩⟩,by simp [intOf];omega⟩;rw [E];rw [show tc (bW R k) (Z3 (.root D L G t f n))=⟨D,L,G,t,f,n⟩ from if_pos K];exact setRow_heap _ _ _ _ _ _ C
      . go_wp2_with (show wpList _ _ _ ({ dst:=Z4,op:=Op.store 117 (Z5 5) (Z5 16),type:=_,pos:=_,after:=_,guard:=_ }::_) _ _;refine nv (w:=wr) (D:=D) (L:=L) (G:=G) (t:=t) (f:=f) (n:=n) rfl (Z5 5) (Z5 16) rfl (by rfl) (by rfl) ?_;rw [H.out.1]);obtain ⟨_,U,C,y,E⟩:=H.out;refine ⟨⟨k+1,by omega,by go_num,?_,y⟩,by simp [intOf];omega⟩;rw [E];rw [show tc (bW R k) (Z3 (.root D L G t f n))=bW R k from if_neg K];exact C
  . have S:k=N:=(by omega);subst S;have H:=hide2 h d;clear h d o;go_wp2_with (first|(show wpList _ _ _ ({ dst:=Z3 28,op:=_,type:=_,pos:=_,after:=_,guard:=_ }::_) _ _;refine yD (b:=w.heap.size) (ra:=Gl (bW R k)) rfl (Z5 2) rfl rfl (by rfl) (by exact H.out.1) ?_)|(show wpList _ _ _ ({ dst:=Z4,op:=Op.store 117 (Z5 2) (Z5 28),type:=_,pos:=_,after:=_,guard:=_ }::_) _ _;refine te (b:=w.heap.size) (cs:=Gl (bW R k)) (D:=(bW R k).D) (L:=(bW R k).L) (G:=(bW R k).G) (t:=(bW R k).t) (f:=(bW R k).f) (n:=(bW R k).n) rfl (Z5 2) (Z5 28) rfl (by rfl) (by rfl) (by exact H.out.1) rfl ?_));have P:=setRow_heap _ _ _ (Gl (bW R k)) _ _ H.out.1;refine bodyPost_ret (v:=.agg (Gl (bW R k))) (results_cell_row Tryz.results95 _ _ w.heap.size 117 (Gl (bW R k)) (0,0) _ rfl P Tryz.underlying117 rfl (np _ _ _ _ _ _)) rfl ?_;exact ⟨rfl,H.out.2.trans ⟨rfl,rfl,rfl,by rw [fY];exact Tm _,λk x=>(aI _ _ _).block k (To x H.out.2.size) (λq=>by have:=Tn q;omega)⟩⟩
section
open Go.Shelf Gf
def Gm (s:Nat) (w:Z1) (ad:Addr) (u:Z0) (Dn:Nat->Bool) (w':Z1):Prop:=w'=if Dn s=true then w.drew.setCell ad u else w.drew
theorem dW (h:Gm s w ad u Dn w') (i:Nat) (a:s≠i):Gm s w ad u (dN Dn i) w':=by unfold Gm;rw [jr a];exact h
theorem jQ (h:Gm s w ad u Dn w') {a:Addr} (c:a.block≠ad.block) {v:Z0} (b:w.cell? a=Z3 v):w'.cell? a=Z3 v:=by
 unfold Gm at h;subst h;split
 . exact (World.cell?_of_block (blk_setCell_other _ _ _ _ c)).trans b
 . exact b
theorem oH (h:Gm s w ad u Dn w') (a:Dn s=Z2):w'=w.drew:=by
 unfold Gm at h;rwa [if_neg (by rw [a];decide)] at h
theorem AM (h:Gm s w ad u Dn w') (a:Dn s=true):w'=w.drew.setCell ad u:=by
 unfold Gm at h;rwa [if_pos a] at h
noncomputable def Ri:Array Oper:=((Tryz.f126.body.bind (mD · 13))).getD #[]
def PI:List (Op×Option Nat×List Nat):=[(Op.load 144 (Z5 2),Z3 76,[]),
 (Op.nilCheck (Z5 76),Z3 77,[0]),
 (Op.fieldAddr 196 (Z5 77) 0,Z3 78,[1]),
 (Op.load 115 (Z5 78),Z3 79,[2]),
 (Op.load 144 (Z5 2),Z3 80,[]),
 (Op.nilCheck (Z5 80),Z3 81,[4]),
 (Op.fieldAddr 196 (Z5 81) 0,Z3 82,[5]),
 (Op.load 115 (Z5 82),Z3 83,[6]),
 (Op.nilCheck (Z5 83),Z3 84,[7]),
 (Op.fieldAddr 130 (Z5 84) 3,Z3 85,[8]),
 (Op.load 124 (Z5 85),Z3 86,[9]),
 (Op.move (Z5 4),Z3 87,[]),
 (Op.call { callee:=Callee.value (Operand.func 131),args:=#[Z5 86,Z5 87],argTypes:=#[124,3] },Z3 88,[10,11]),
 (Op.nilCheck (Z5 79),Z3 89,[3,0,1,2,3,4,5,6,7,8,9,10,11,12]),
 (Op.fieldAddr 130 (Z5 89) 3,Z3 90,[13,0,1,2,3,4,5,6,7,8,9,10,11,12]),
 (Op.store 124 (Z5 90) (Z5 88),Z4,[14,12,12,0,1,2,3,4,5,6,7,8,9,10,11,12])]
theorem Gn:aN Ri 76 91 PI:=bt (by kernel_rfl) (by kernel_rfl)
def Oi (r v x hol:Nat):List Z0:=[Z7 (Z3 ⟨r,0,Z4⟩),Z7 (Z3 ⟨r,0,Z4⟩),Z7 (Z3 ⟨r,0,Z4⟩),Z7 (Z3 ⟨v,0,Z4⟩),Z7 (Z3 ⟨r,0,Z4⟩),Z7 (Z3 ⟨r,0,Z4⟩),Z7 (Z3 ⟨r,0,Z4⟩),Z7 (Z3 ⟨v,0,Z4⟩),Z7 (Z3 ⟨v,0,Z4⟩),Z7 (Z3 ⟨v,5,Z4⟩),Z8 Z9 hol,Z8 .i64 x,Z8 Z9 ((hol|||2^x:Nat):Int),Z7 (Z3 ⟨v,0,Z4⟩),Z7 (Z3 ⟨v,5,Z4⟩),undef]
theorem tg {p D L G ps hol:Nat} (O:bq w v p D L G ps hol) (U:Boxed w q 144 (Z7 (Z3 ⟨r,0,Z4⟩))) (hr:ef w r v b g N gone sp) (x:Nat) (hx:x<=60) (Y:hol<18446744073709551616) (K:q≠v) (M:r≠v) (V:Ri=ops) (hj:a.tmps.size=100)
 (J:a.eval (Z5 2)=Z7 (Z3 ⟨q,0,Z4⟩)) (R:a.eval (Z5 4)=Z8 .i64 x)
 (W:∀ (w':Z1),w'=w.drew.setCell ⟨v,5,Z4⟩ (Z8 Z9 ((hol|||2^x:Nat):Int))->Q .normal (Act.putFrom a 76 [Z7 (Z3 ⟨r,0,Z4⟩),Z7 (Z3 ⟨r,0,Z4⟩),Z7 (Z3 ⟨r,0,Z4⟩),Z7 (Z3 ⟨v,0,Z4⟩),Z7 (Z3 ⟨r,0,Z4⟩),Z7 (Z3 ⟨r,0,Z4⟩),Z7 (Z3 ⟨r,0,Z4⟩),Z7 (Z3 ⟨v,0,Z4⟩),Z7 (Z3 ⟨v,0,Z4⟩),Z7 (Z3 ⟨v,5,Z4⟩),Z8 Z9 hol,Z8 .i64 x,Z8 Z9 ((hol|||2^x:Nat):Int),Z7 (Z3 ⟨v,0,Z4⟩),Z7 (Z3 ⟨v,5,Z4⟩)]) w'):(Code.region 13 ops true).wpIn (Fence.wide.inRound l) n ZZ Q a w:=by
 subst V;have H:=U.cell;have I:=hr.cells.1;have F:=O.cells.2.2.2.2.2;have S:w.frozen? ⟨v,5,Z4⟩=Z2:=by
  have T:w.heap[v]?=_:=O;simp [World.frozen?,T]
 refine dK (by kernel_rfl) Gn a w (by omega) (λi u _=>u=(Oi r v x hol).getD i undef) (Gm 15 w ⟨v,5,Z4⟩ (Z8 Z9 ((hol|||2^x:Nat):Int))) rfl ?_ ?_
 . intro i E;match i,E with
   | 0,_=>
    intro o k w' Dn B ho s t y A m j d;have u0:k.eval (Z5 2)=Z7 (Z3 ⟨q,0,Z4⟩):=(t.slot 2 (by omega)).trans J;have C:=jQ j (a:=⟨q,0,Z4⟩) K H;exact aT (v:=Z7 (Z3 ⟨r,0,Z4⟩)) (by simp only [execOp,show o.op=Op.load 144 (Z5 2) from ho,u0];go_simp) (by rw [ho];intro c h;cases h) s ⟨dW j 0 (by decide),rfl,kq⟩
   | 1,_|2,_|5,_|6,_|8,_|9,_|13,_|14,_=>
    intro o k w' Dn B ho s t y A m j d;have u0:=d _ (m _ (.head _));simp only [PI,Oi,bV,cM,Sg,Sf] at ho u0;exact aT (by simp only [execOp,ho,u0,Oi,Sg,Sf];go_simp) (by rw [ho];intro c h;cases h) s ⟨dW j _ (by decide),rfl,kq⟩
   | 3,_=>
    intro o k w' Dn B ho s t y A m j d;have u0:k.eval (Z5 78)=Z7 (Z3 ⟨r,0,Z4⟩):=d 2 (m 2 (by decide));have C:=jQ j (a:=⟨r,0,Z4⟩) M I;exact aT (v:=Z7 (Z3 ⟨v,0,Z4⟩)) (by simp only [execOp,show o.op=Op.load 115 (Z5 78) from ho,u0];go_simp) (by rw [ho];intro c h;cases h) s ⟨dW j 3 (by decide),rfl,kq⟩
   | 4,_=>
    intro o k w' Dn B ho s t y A m j d;have u0:k.eval (Z5 2)=Z7 (Z3 ⟨q,0,Z4⟩):=(t.slot 2 (by omega)).trans J;have C:=jQ j (a:=⟨q,0,Z4⟩) K H;exact aT (v:=Z7 (Z3 ⟨r,0,Z4⟩)) (by simp only [execOp,show o.op=Op.load 144 (Z5 2) from ho,u0];go_simp) (by rw [ho];intro c h;cases h) s ⟨dW j 4 (by decide),rfl,kq⟩
   | 7,_=>
    intro o k w' Dn B ho s t y A m j d;have u0:k.eval (Z5 82)=Z7 (Z3 ⟨r,0,Z4⟩):=d 6 (m 6 (by decide));have C:=jQ j (a:=⟨r,0,Z4⟩) M I;exact aT (v:=Z7 (Z3 ⟨v,0,Z4⟩)) (by simp only [execOp,show o.op=Op.load 115 (Z5 82) from ho,u0];go_simp) (by rw [ho];intro c h;cases h) s ⟨dW j 7 (by decide),rfl,kq⟩
   | 10,_=>
    intro o k w' Dn B ho s t y A m j d;have u0:k.eval (Z5 85)=Z7 (Z3 ⟨v,5,Z4⟩):=d 9 (m 9 (by decide));have hf:Dn 15=Z2:=by
     cases e:Dn 15 with
     | false=>rfl
     | true=>exact absurd ((A 15 e).2 10 (by decide)) (by rw [y];decide)
    have hh:=oH j hf;have C:w'.cell? ⟨v,5,Z4⟩=Z3 (Z8 Z9 hol):=(by rw [hh];exact F);exact aT (v:=Z8 Z9 hol) (by simp only [execOp,show o.op=Op.load 124 (Z5 85) from ho,u0];go_simp) (by rw [ho];intro c h;cases h) s ⟨dW j 10 (by decide),rfl,kq⟩
   | 11,_=>
    intro o k w' Dn B ho s t y A m j d;have u0:k.eval (Z5 4)=Z8 .i64 x:=(t.slot 4 (by omega)).trans R;exact aT (ag ho u0 w') (by rw [ho];intro c h;cases h) s ⟨dW j 11 (by decide),rfl,kq⟩
   | 12,_=>
    intro o k w' Dn B ho s t y A m j d;have u0:k.eval (Z5 86)=Z8 Z9 hol:=d 10 (m 10 (by decide));have u1:k.eval (Z5 87)=Z8 .i64 x:=d 11 (m 11 (by decide));refine nZ (f:=131) (args:=#[Z8 Z9 hol,Z8 .i64 x]) (w1:=w') (by simp only [execOp,show o.op=Op.call { callee:=Callee.value (Operand.func 131),args:=#[Z5 86,Z5 87],argTypes:=#[124,3] } from ho];go_simp;exact ⟨by simpa [Act.eval] using u0,by simpa [Act.eval] using u1⟩) (by rw [ho];intro c h;cases h) s (iF hol x Y hx w') ?_;rintro e hb ⟨rfl,rfl⟩;exact ⟨_,rfl,dW j 12 (by decide),rfl,kq⟩
   | 15,_=>
    intro o k w' Dn B ho s t y A m j d;have u0:k.eval (Z5 90)=Z7 (Z3 ⟨v,5,Z4⟩):=d 14 (m 14 (by decide));have u1:k.eval (Z5 88)=Z8 Z9 ((hol|||2^x:Nat):Int):=d 12 (m 12 (by decide));have hw:=oH j y;subst hw;have C:w.drew.cell? ⟨v,5,Z4⟩=Z3 (Z8 Z9 hol):=F;have ff:w.drew.frozen? ⟨v,5,Z4⟩=Z2:=S;obtain ⟨z,P⟩:=nM (((hol|||2^x:Nat):Int));rw [P] at u1;refine r9 (w':=w.drew.setCell ⟨v,5,Z4⟩ (Z8 Z9 z)) (by simp only [execOp,show o.op=Op.store 124 (Z5 90) (Z5 88) from ho,u0,u1];go_simp) (by rw [ho];intro c h;cases h) ⟨?_,rfl,kq⟩;unfold Gm;rw [if_pos j6,P]
   | n+16,hn=>exact absurd hn (by show ¬ n+16<16;omega)
 . rintro k w' Z h9 ⟨Dn,X,j⟩ d;have e:k=Act.putFrom a 76 [Z7 (Z3 ⟨r,0,Z4⟩),Z7 (Z3 ⟨r,0,Z4⟩),Z7 (Z3 ⟨r,0,Z4⟩),Z7 (Z3 ⟨v,0,Z4⟩),Z7 (Z3 ⟨r,0,Z4⟩),Z7 (Z3 ⟨r,0,Z4⟩),Z7 (Z3 ⟨r,0,Z4⟩),Z7 (Z3 ⟨v,0,Z4⟩),Z7 (Z3 ⟨v,0,Z4⟩),Z7 (Z3 ⟨v,5,Z4⟩),Z8 Z9 hol,Z8 .i64 x,Z8 Z9 ((hol|||2^x:Nat):Int),Z7 (Z3 ⟨v,0,Z4⟩),Z7 (Z3 ⟨v,5,Z4⟩)]:=Z.out _ rfl (by omega) (λi E=>?_)
   . rw [e];exact W w' (AM j (X 15 (by decide)))
   . match i,E with
     | 0,_=>exact d 0 (by decide)
     | 1,_=>exact d 1 (by decide)
     | 2,_=>exact d 2 (by decide)
     | 3,_=>exact d 3 (by decide)
     | 4,_=>exact d 4 (by decide)
     | 5,_=>exact d 5 (by decide)
     | 6,_=>exact d 6 (by decide)
     | 7,_=>exact d 7 (by decide)
     | 8,_=>exact d 8 (by decide)
     | 9,_=>exact d 9 (by decide)
     | 10,_=>exact d 10 (by decide)
     | 11,_=>exact d 11 (by decide)
     | 12,_=>exact d 12 (by decide)
     | 13,_=>exact d 13 (by decide)
     | 14,_=>exact d 14 (by decide)
     | n+15,hn=>exact absurd hn (by simp)
noncomputable def Rj:Array Oper:=((Tryz.f126.body.bind (mD · 14))).getD #[]
def PJ:List (Op×Option Nat×List Nat):=[(Op.load 144 (Z5 2),Z3 91,[]),
 (Op.load 144 (Z5 2),Z3 92,[]),
 (Op.nilCheck (Z5 92),Z3 93,[1]),
 (Op.fieldAddr 196 (Z5 93) 3,Z3 94,[2]),
 (Op.load 124 (Z5 94),Z3 95,[3]),
 (Op.move (Z5 4),Z3 96,[]),
 (Op.call { callee:=Callee.value (Operand.func 131),args:=#[Z5 95,Z5 96],argTypes:=#[124,3] },Z3 97,[4,5]),
 (Op.nilCheck (Z5 91),Z3 98,[0,0,1,2,3,4,5,6]),
 (Op.fieldAddr 196 (Z5 98) 3,Z3 99,[7,0,1,2,3,4,5,6]),
 (Op.store 124 (Z5 99) (Z5 97),Z4,[8,6,6,0,1,2,3,4,5,6])]
theorem Gp:aN Rj 91 100 PJ:=bt (by kernel_rfl) (by kernel_rfl)
def Oj (r x gone:Nat):List Z0:=[Z7 (Z3 ⟨r,0,Z4⟩),Z7 (Z3 ⟨r,0,Z4⟩),Z7 (Z3 ⟨r,0,Z4⟩),Z7 (Z3 ⟨r,3,Z4⟩),Z8 Z9 gone,Z8 .i64 x,Z8 Z9 ((gone|||2^x:Nat):Int),Z7 (Z3 ⟨r,0,Z4⟩),Z7 (Z3 ⟨r,3,Z4⟩),undef]
theorem th (M:Boxed w q 144 (Z7 (Z3 ⟨r,0,Z4⟩))) (H:ef w r v b g N gone sp) (x:Nat) (X:x<=60) (S:gone<18446744073709551616) (G:q≠r) (O:Rj=ops) (hh:a.tmps.size=100)
 (F:a.eval (Z5 2)=Z7 (Z3 ⟨q,0,Z4⟩)) (J:a.eval (Z5 4)=Z8 .i64 x)
 (R:∀ (w':Z1),w'=w.drew.setCell ⟨r,3,Z4⟩ (Z8 Z9 ((gone|||2^x:Nat):Int))->Q .normal (Act.putFrom a 91 [Z7 (Z3 ⟨r,0,Z4⟩),Z7 (Z3 ⟨r,0,Z4⟩),Z7 (Z3 ⟨r,0,Z4⟩),Z7 (Z3 ⟨r,3,Z4⟩),Z8 Z9 gone,Z8 .i64 x,Z8 Z9 ((gone|||2^x:Nat):Int),Z7 (Z3 ⟨r,0,Z4⟩),Z7 (Z3 ⟨r,3,Z4⟩)]) w'):(Code.region 14 ops true).wpIn (Fence.wide.inRound l) n ZZ Q a w:=by
 subst O;have E:=M.cell;have D:=H.cells.2.2.2.1;have K:w.frozen? ⟨r,3,Z4⟩=Z2:=by
  have L:w.heap[r]?=_:=H;simp [World.frozen?,L]
 refine dK (by kernel_rfl) Gp a w (by omega) (λi u _=>u=(Oj r x gone).getD i undef) (Gm 9 w ⟨r,3,Z4⟩ (Z8 Z9 ((gone|||2^x:Nat):Int))) rfl ?_ ?_
 . intro i C;match i,C with
   | 0,_=>
    intro o k w' Dn A ho p s t y m j d;have u0:k.eval (Z5 2)=Z7 (Z3 ⟨q,0,Z4⟩):=(s.slot 2 (by omega)).trans F;have B:=jQ j (a:=⟨q,0,Z4⟩) G E;exact aT (v:=Z7 (Z3 ⟨r,0,Z4⟩)) (by simp only [execOp,show o.op=Op.load 144 (Z5 2) from ho,u0];go_simp) (by rw [ho];intro c h;cases h) p ⟨dW j 0 (by decide),rfl,kq⟩
   | 1,_=>
    intro o k w' Dn A ho p s t y m j d;have u0:k.eval (Z5 2)=Z7 (Z3 ⟨q,0,Z4⟩):=(s.slot 2 (by omega)).trans F;have B:=jQ j (a:=⟨q,0,Z4⟩) G E;exact aT (v:=Z7 (Z3 ⟨r,0,Z4⟩)) (by simp only [execOp,show o.op=Op.load 144 (Z5 2) from ho,u0];go_simp) (by rw [ho];intro c h;cases h) p ⟨dW j 1 (by decide),rfl,kq⟩
   | 2,_|3,_|7,_|8,_=>
    intro o k w' Dn A ho p s t y m j d;have u0:=d _ (m _ (.head _));simp only [PJ,Oj,bV,cM,Sg,Sf] at ho u0;exact aT (by simp only [execOp,ho,u0,Oj,Sg,Sf];go_simp) (by rw [ho];intro c h;cases h) p ⟨dW j _ (by decide),rfl,kq⟩
   | 4,_=>
    intro o k w' Dn A ho p s t y m j d;have u0:k.eval (Z5 94)=Z7 (Z3 ⟨r,3,Z4⟩):=d 3 (m 3 (by decide));have U:Dn 9=Z2:=by
     cases e:Dn 9 with
     | false=>rfl
     | true=>exact absurd ((y 9 e).2 4 (by decide)) (by rw [t];decide)
    have V:=oH j U;have B:w'.cell? ⟨r,3,Z4⟩=Z3 (Z8 Z9 gone):=(by rw [V];exact D);exact aT (v:=Z8 Z9 gone) (by simp only [execOp,show o.op=Op.load 124 (Z5 94) from ho,u0];go_simp) (by rw [ho];intro c h;cases h) p ⟨dW j 4 (by decide),rfl,kq⟩
   | 5,_=>
    intro o k w' Dn A ho p s t y m j d;have u0:k.eval (Z5 4)=Z8 .i64 x:=(s.slot 4 (by omega)).trans J;exact aT (ag ho u0 w') (by rw [ho];intro c h;cases h) p ⟨dW j 5 (by decide),rfl,kq⟩
   | 6,_=>
    intro o k w' Dn A ho p s t y m j d;have u0:k.eval (Z5 95)=Z8 Z9 gone:=d 4 (m 4 (by decide));have u1:k.eval (Z5 96)=Z8 .i64 x:=d 5 (m 5 (by decide));refine nZ (f:=131) (args:=#[Z8 Z9 gone,Z8 .i64 x]) (w1:=w') (by simp only [execOp,show o.op=Op.call { callee:=Callee.value (Operand.func 131),args:=#[Z5 95,Z5 96],argTypes:=#[124,3] } from ho];go_simp;exact ⟨by simpa [Act.eval] using u0,by simpa [Act.eval] using u1⟩) (by rw [ho];intro c h;cases h) p (iF gone x S X w') ?_;rintro e Y ⟨rfl,rfl⟩;exact ⟨_,rfl,dW j 6 (by decide),rfl,kq⟩
   | 9,_=>
    intro o k w' Dn A ho p s t y m j d;have u0:k.eval (Z5 99)=Z7 (Z3 ⟨r,3,Z4⟩):=d 8 (m 8 (by decide));have u1:k.eval (Z5 97)=Z8 Z9 ((gone|||2^x:Nat):Int):=d 6 (m 6 (by decide));have W:=oH j t;subst W;have B:w.drew.cell? ⟨r,3,Z4⟩=Z3 (Z8 Z9 gone):=D;have Z:w.drew.frozen? ⟨r,3,Z4⟩=Z2:=K;obtain ⟨z,I⟩:=nM (((gone|||2^x:Nat):Int));rw [I] at u1;refine r9 (w':=w.drew.setCell ⟨r,3,Z4⟩ (Z8 Z9 z)) (by simp only [execOp,show o.op=Op.store 124 (Z5 99) (Z5 97) from ho,u0,u1];go_simp) (by rw [ho];intro c h;cases h) ⟨?_,rfl,kq⟩;unfold Gm;rw [if_pos j6,I]
   | n+10,hn=>exact absurd hn (by show ¬ n+10<10;omega)
 . rintro k w' T h8 ⟨Dn,P,j⟩ d;have e:k=Act.putFrom a 91 [Z7 (Z3 ⟨r,0,Z4⟩),Z7 (Z3 ⟨r,0,Z4⟩),Z7 (Z3 ⟨r,0,Z4⟩),Z7 (Z3 ⟨r,3,Z4⟩),Z8 Z9 gone,Z8 .i64 x,Z8 Z9 ((gone|||2^x:Nat):Int),Z7 (Z3 ⟨r,0,Z4⟩),Z7 (Z3 ⟨r,3,Z4⟩)]:=T.out _ rfl (by omega) (λi C=>?_)
   . rw [e];exact R w' (AM j (P 9 (by decide)))
   . match i,C with
     | 0,_=>exact d 0 (by decide)
     | 1,_=>exact d 1 (by decide)
     | 2,_=>exact d 2 (by decide)
     | 3,_=>exact d 3 (by decide)
     | 4,_=>exact d 4 (by decide)
     | 5,_=>exact d 5 (by decide)
     | 6,_=>exact d 6 (by decide)
     | 7,_=>exact d 7 (by decide)
     | 8,_=>exact d 8 (by decide)
     | n+9,hn=>exact absurd hn (by simp)
end
end Go.Proofs.YtfbmmcnpjhmjaaaGreatDoor
