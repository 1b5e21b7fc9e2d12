import Derived.Test.YtfbmmcnpjhmjaaaGreatDoorM23
set_option maxRecDepth 100000
set_option maxHeartbeats 8000000
open Go.IntKind renaming i64 -> Z9
open Go.Value renaming int -> Z8, pointer -> Z7
open Go.Obj renaming cells -> Z6
open Go.Operand renaming tmp -> Z5
open Option renaming none -> Z4, some -> Z3
open Go renaming World -> Z2, Value -> Z1
open Array renaming getElem?_eq_some_iff -> Tm
open List renaming range -> Tn, length_map -> To, length_range -> Tp, map_toArray -> Tq, map_cons -> Tr, getD_eq_getElem?_getD -> Ts, getElem?_map -> Tt, getElem?_range -> Tu, setIfInBounds_toArray -> Tw, set_cons_succ -> Tx, set_cons_zero -> Ty
open Option.some renaming inj -> Tv
open Go.Proofs.Tryz renaming prog -> Z0
namespace Go.Proofs.YtfbmmcnpjhmjaaaGreatDoor
open Go.RowKit Go.Deep
variable {a:Act} {A:aB} {ops:Array Oper} {cs:Array Z1} {off:Bool} {Q:Exit->Act->Z2->Prop} {F:bx} {vs:List Z1} {v D L G t f n ar p ps ho D' L' G' t' f' n':Nat} {Dn:Nat->Bool} {o:Oper} {pg ob:Z1} {w0 w:Z2}
theorem Dp {a':Act} {d lo:Nat} {v:Z1} (f:a'.tmps.size=a.tmps.size) (c:a'.defers=a.defers) (m:lo+vs.length<=a.tmps.size) (n:d<lo) (j:a'.eval (.tmp d)=v) (g:∀ i,i<vs.length->a'.eval (.tmp (lo+i))=vs.getD i undef) (h:∀ s,s≠d->s<lo\/lo+vs.length<=s->a'.eval (.tmp s)=a.eval (.tmp s)):a'=Act.putFrom (a.put (Z3 d) v) lo vs:=by
 obtain ⟨k,l⟩:=fs vs (a.put (Z3 d) v) lo;refine wO (f.trans ((k.trans (nF _ _ _)).symm)) (c.trans l.symm) λs _=>?_;rw [ft vs _ lo s (by rw [nF];omega)];by_cases e:lo<=s/\s<lo+vs.length
 . rw [if_pos e];have:=g (s-lo) (by omega);rwa [show lo+(s-lo)=s by omega] at this
 . rw [if_neg e];by_cases b:s=d
   . subst b;rw [qV _ _ _ (by omega),j]
   . rw [gZ _ _ _ _ (λq=>b q.symm)];exact h s b (by omega)
noncomputable def Rc:Array Oper:=((Tryz.f85.body.bind (mD · 5))).getD #[]
def Oc:List (Op×Option Nat×List Nat):=[(Op.move (Z5 0),Z3 19,[]),
 (Op.nilCheck (Z5 19),Z3 20,[0]),
 (Op.fieldAddr 121 (Z5 20) 0,Z3 21,[1]),
 (Op.load 115 (Z5 21),Z3 22,[2]),
 (Op.call { callee:=Callee.value (Operand.func 96),args:=#[Z5 22],argTypes:=#[115] },Z3 23,[3]),
 (Op.move (Z5 0),Z3 24,[]),
 (Op.nilCheck (Z5 24),Z3 25,[5]),
 (Op.fieldAddr 121 (Z5 25) 1,Z3 26,[6]),
 (Op.fieldAddr 117 (Z5 26) 1,Z3 27,[7]),
 (Op.load 47 (Z5 27),Z3 28,[8]),
 (Op.binOp BinOp.add 47 (Z5 28) (Operand.const (Value.int IntKind.u64 1)) 47,Z3 29,[9]),
 (Op.move (Z5 2),Z3 30,[]),
 (Op.indexAddr 41 (Z5 30) (Operand.const (Value.int IntKind.i64 0)),Z3 31,[11]),
 (Op.load 3 (Z5 31),Z3 32,[12]),
 (Op.move (Z5 7),Z3 33,[]),
 (Op.call { callee:=Callee.builtin Builtin.len,args:=#[Z5 33],argTypes:=#[34] },Z3 34,[14]),
 (Op.build 117 #[(0,Z5 23),(1,Z5 29),(2,Z5 32),(3,Z5 34)],Z3 35,[4,10,13,15]),
 (Op.alloc 117,Z3 9,[]),
 (Op.store 117 (Z5 9) (Z5 35),Z4,[17,16,4,0,1,2,3,4,5,6,7,8,9,10,11,12,13,14,15,16,17])]
theorem Gb:aN Rc 9 36 Oc:=bt (by kernel_rfl) (by kernel_rfl)
theorem yB {s:Operand} (ho:o.op=.call { callee:=.builtin .len,args:=#[s],argTypes:=#[34] }) {so:Option Addr} {n c:Nat} (hx:a.eval s=.slice so n c) (w:Z2):(execOp a.eval o).run Z0 w=.ok (.value (Z8 Z9 n)) w:=by
 unfold execOp;simp only [ho,resolve,invoke,builtin,Sem.run_bind,Sem.run_pure,Result.andThen_ok,Tq,Tr,List.map_nil,hx];simp [Builtin.len_,run_underlying Tryz.underlying34,goInt]
def kA (w:Z2) (b:Nat):Prop:=∃ cs:Array Z1,cs.size=6/\w.heap[b]?=Z3 (Z6 cs 117 (0,0))
def P6 (s ar v D L G t m pb po pn pc f:Nat) (so:Option Addr) (cap:Nat) (i:Nat) (u:Z1) (w:Z2):Prop:=match i with
 | 0|1|2|5|6=>u=Z7 (Z3 ⟨ar,0,Z4⟩)
 | 3=>u=Z7 (Z3 ⟨v,0,Z4⟩)
 | 4=>u=.agg #[Z8 Z9 D,Z8 Z9 L,Z8 Z9 G]
 | 7=>u=Z7 (Z3 ⟨ar,1,Z4⟩)
 | 8=>u=Z7 (Z3 ⟨ar,4,Z4⟩)
 | 9=>u=Z8 .u64 t
 | 10=>u=Z8 .u64 ((t+1:Nat):Int)
 | 11=>u=.slice (Z3 ⟨pb,po,Z4⟩) pn pc
 | 12=>u=Z7 (Z3 ⟨pb,po,Z4⟩)
 | 13=>u=Z8 Z9 f
 | 14=>u=.slice so m cap
 | 15=>u=Z8 Z9 m
 | 16=>u=.agg (aQ D L G (t+1) f m)
 | 17=>∃ b,u=Z7 (Z3 ⟨b,0,Z4⟩)/\s<=b/\kA w b
 | 18=>∃ b,s<=b/\w.heap[b]?=Z3 (Z6 (aQ D L G (t+1) f m) 117 (0,0))
 | _=>True
def Qy (w0:Z2) (Dn:Nat->Bool) (w:Z2):Prop:=Below w0.heap.size w0 w/\(∀ b b',w0.heap.size<=b->w0.heap.size<=b'->kA w b->kA w b'->b=b')/\(Dn 17=false->∀ b,w0.heap.size<=b->¬ kA w b)
theorem cI (h:Qy w0 Dn w) (i:Nat) (a:i≠17):Qy w0 (dN Dn i) w:=⟨h.1,h.2.1,λq=>h.2.2 (by unfold dN at q;rwa [if_neg (λe=>a e.symm)] at q)⟩
theorem vT (w:Z2):(zeroValue 117).run Z0 w=.ok (.agg (aQ 0 0 0 0 0 0)) w:=by
 obtain ⟨a,b,c⟩:∃ a,Z0.info? 117=Z3 a/\a.zero=Z3 (.agg (aQ 0 0 0 0 0 0)):=by
  have:(Z0.info? 117).map (λi=>i.zero)=Z3 (Z3 (.agg (aQ 0 0 0 0 0 0))):=by kernel_rfl
  rw [Option.map_eq_some_iff] at this;exact this
 simp [zeroValue,typeInfo,Sem.run_bind,b,c]
theorem np (D L G t f n:Nat):(Z0.info? 117).map (λi=>i.size)=Z3 (aQ D L G t f n).size:=by kernel_rfl
theorem vU (D L G t f n:Nat):(aQ D L G t f n).all (λv=>v.oneCell')=true:=by simp [aQ,Value.oneCell']
theorem sV {b:Nat} (h:w.heap[b]?=Z3 (Z6 cs 117 (0,0))) (a:cs.size=6):(Instr.storeAt 117 (Z7 (Z3 ⟨b,0,Z4⟩)) (.agg (aQ D L G t f n))).run Z0 w=.ok () (w.setRow b (aQ D L G t f n)):=by
 simp only [Instr.storeAt,Instr.sureAddr,Sem.run_bind,Sem.run_pure,Result.andThen_ok,run_storeVar_row w b 117 117 cs (aQ D L G t f n) h (np D L G t f n) (by rw [a];rfl) (vU D L G t f n)]
theorem uI {m cap pb po pn pc:Nat} {so:Option Addr} (hp:Rc=ops) (l:bq w v p D L G ps ho) (U:w.heap[ar]?=Z3 (Z6 cs 121 (0,0))) (h0:cs[0]?=Z3 (Z7 (Z3 ⟨v,0,Z4⟩))) (h4:cs[4]?=Z3 (Z8 .u64 t)) (ht:t<=1000000000) (k9:1<=pn) (hx:w.cell? ⟨pb,po,Z4⟩=Z3 (Z8 Z9 f))
 (ka:a.tmps.size=60) (Y:a.eval (Z5 0)=Z7 (Z3 ⟨ar,0,Z4⟩)) (e2:a.eval (Z5 2)=.slice (Z3 ⟨pb,po,Z4⟩) pn pc) (e7:a.eval (Z5 7)=.slice so m cap)
 (hQ:∀ (w':Z2) (vs:List Z1) (b:Nat),vs.length=17->w.heap.size<=b->w'.heap[b]?=Z3 (Z6 (aQ D L G (t+1) f m) 117 (0,0))->Below w.heap.size w w'->Q .normal (Act.putFrom (a.put (Z3 9) (Z7 (Z3 ⟨b,0,Z4⟩))) 19 vs) w'):(Code.region 5 ops true).wp Z0 Q a w:=by
 subst hp;have Z:ar<w.heap.size:=(Tm.1 U).1;have n1:IntKind.u64.wrap ((t:Int)+1)=((t+1:Nat):Int):=by rw [IntKind.wrap_u64];omega
 refine cO (by kernel_rfl) Gb a w (by omega) (P6 w.heap.size ar v D L G t m pb po pn pc f so cap) (Qy w) ⟨(Below.refl _ w).drew,λb I H _ M _=>?_,λ_ b H M=>?_⟩ ?_ ?_
 . obtain ⟨c,_,M⟩:=M;have:=(Tm.1 M).1;have k6:w.drew.heap.size=w.heap.size:=rfl;omega
 . obtain ⟨c,_,M⟩:=M;have:=(Tm.1 M).1;have k6:w.drew.heap.size=w.heap.size:=rfl;omega
 . intro i P;match i,P with
   | 0,_=>exact λo g w' Dn C ho x z y B r d l=>ab (ag ho ((z.slot 0 (by omega)).trans Y) w') x ⟨cI d _ (by decide),rfl,kq⟩
   | 1,_=>
    intro o g w' Dn C ho x z y B r d l;have u0:g.eval (Z5 19)=Z7 (Z3 ⟨ar,0,Z4⟩):=l 0 (r 0 (by decide));exact ab (dZ ho u0 w') x ⟨cI d _ (by decide),rfl,kq⟩
   | 2,_=>
    intro o g w' Dn C ho x z y B r d l;have u0:g.eval (Z5 20)=Z7 (Z3 ⟨ar,0,Z4⟩):=l 1 (r 1 (by decide));exact ab (v:=Z7 (Z3 ⟨ar,0,Z4⟩)) (by simp only [execOp,show o.op=Op.fieldAddr 121 (Z5 20) 0 from ho,u0];go_simp) x ⟨cI d _ (by decide),rfl,kq⟩
   | 3,_=>
    intro o g w' Dn C ho x z y B r d l;have u0:g.eval (Z5 21)=Z7 (Z3 ⟨ar,0,Z4⟩):=l 2 (r 2 (by decide));have T:=(d.1.block ar Z).trans U;have c:w'.cell? ⟨ar,0,Z4⟩=Z3 (Z7 (Z3 ⟨v,0,Z4⟩)):=(by simp [World.cell?,T,h0]);exact ab (v:=Z7 (Z3 ⟨v,0,Z4⟩)) (by simp only [execOp,show o.op=Op.load 115 (Z5 21) from ho,u0];go_simp) x ⟨cI d _ (by decide),rfl,kq⟩
   | 4,_=>
    intro o g w' Dn C ho x z y B r d k0;have u0:g.eval (Z5 22)=Z7 (Z3 ⟨v,0,Z4⟩):=k0 3 (r 3 (by decide));have S:Dn 18=false:=by
     cases q:Dn 18 with
     | false=>rfl
     | true=>have:=(B 18 q).2 4 (by decide);rw [y] at this;cases this
    refine dz (f:=96) (args:=#[Z7 (Z3 ⟨v,0,Z4⟩)]) (w1:=w') (by simp only [execOp,show o.op=Op.call { callee:=Callee.value (Operand.func 96),args:=#[Z5 22],argTypes:=#[115] } from ho];go_simp;simpa [Act.eval] using u0) x (oe (l.keep (d.1.block _ l.lt))) ?_;rintro e X ⟨rfl,H,hz,V⟩;have O:∀ b,kA X b->kA w' b:=λb ⟨c,F,A⟩=>by
     have:=(Tm.1 A).1;by_cases e:b=w'.heap.size
     . subst e;rw [V] at A;simp at A
     . exact ⟨c,F,(H.block b (by omega)).symm.trans A⟩
    refine ⟨_,rfl,⟨d.1.trans (H.mono d.1.size),λb I J K F A=>d.2.1 b I J K (O b F) (O I A),λq b J K=>d.2.2 (by unfold dN at q;rwa [if_neg (by decide)] at q) b J (O b K)⟩,rfl,λj u E q=>?_⟩;match j,E,q with
    | 0,_,q|1,_,q|2,_,q|3,_,q|4,_,q|5,_,q|6,_,q|7,_,q|8,_,q|9,_,q|10,_,q|11,_,q|12,_,q|13,_,q|14,_,q|15,_,q|16,_,q=>exact q
    | 17,_,⟨b,F,A,c,R,N⟩=>exact ⟨b,F,A,c,R,(H.block b (Tm.1 N).1).trans N⟩
    | 18,E,_=>rw [S] at E;cases E
    | n+19,_,_=>trivial
   | 5,_=>exact λo g w' Dn C ho x z y B r d l=>ab (ag ho ((z.slot 0 (by omega)).trans Y) w') x ⟨cI d _ (by decide),rfl,kq⟩
   | 6,_=>
    intro o g w' Dn C ho x z y B r d l;have u0:g.eval (Z5 24)=Z7 (Z3 ⟨ar,0,Z4⟩):=l 5 (r 5 (by decide));exact ab (dZ ho u0 w') x ⟨cI d _ (by decide),rfl,kq⟩
   | 7,_=>
    intro o g w' Dn C ho x z y B r d l;have u0:g.eval (Z5 25)=Z7 (Z3 ⟨ar,0,Z4⟩):=l 6 (r 6 (by decide));exact ab (v:=Z7 (Z3 ⟨ar,1,Z4⟩)) (by simp only [execOp,show o.op=Op.fieldAddr 121 (Z5 25) 1 from ho,u0];go_simp) x ⟨cI d _ (by decide),rfl,kq⟩
   | 8,_=>
    intro o g w' Dn C ho x z y B r d l;have u0:g.eval (Z5 26)=Z7 (Z3 ⟨ar,1,Z4⟩):=l 7 (r 7 (by decide));exact ab (v:=Z7 (Z3 ⟨ar,4,Z4⟩)) (by simp only [execOp,show o.op=Op.fieldAddr 117 (Z5 26) 1 from ho,u0];go_simp) x ⟨cI d _ (by decide),rfl,kq⟩
   | 9,_=>
    intro o g w' Dn C ho x z y B r d l;have u0:g.eval (Z5 27)=Z7 (Z3 ⟨ar,4,Z4⟩):=l 8 (r 8 (by decide));have T:=(d.1.block ar Z).trans U;have c:w'.cell? ⟨ar,4,Z4⟩=Z3 (Z8 .u64 t):=(by simp [World.cell?,T,h4]);exact ab (v:=Z8 .u64 t) (by simp only [execOp,show o.op=Op.load 47 (Z5 27) from ho,u0];go_simp) x ⟨cI d _ (by decide),rfl,kq⟩
   | 10,_=>
    intro o g w' Dn C ho x z y B r d l;have u0:g.eval (Z5 28)=Z8 .u64 t:=l 9 (r 9 (by decide));exact ab (v:=Z8 .u64 ((t+1:Nat):Int)) (by simp only [execOp,show o.op=Op.binOp BinOp.add 47 (Z5 28) (Operand.const (Value.int IntKind.u64 1)) 47 from ho,u0,show g.eval (Operand.const (Value.int IntKind.u64 1))=Value.int IntKind.u64 1 from rfl];go_simp) x ⟨cI d _ (by decide),rfl,kq⟩
   | 11,_=>exact λo g w' Dn C ho x z y B r d l=>ab (ag ho ((z.slot 2 (by omega)).trans e2) w') x ⟨cI d _ (by decide),rfl,kq⟩
   | 12,_=>
    intro o g w' Dn C ho x z y B r d l;have u0:g.eval (Z5 30)=.slice (Z3 ⟨pb,po,Z4⟩) pn pc:=l 11 (r 11 (by decide));exact ab (v:=Z7 (Z3 ⟨pb,po,Z4⟩)) (by simp only [execOp,show o.op=Op.indexAddr 41 (Z5 30) (Operand.const (Value.int IntKind.i64 0)) from ho,u0,show g.eval (Operand.const (Value.int IntKind.i64 0))=Value.int IntKind.i64 0 from rfl];go_simp;intro h;omega) x ⟨cI d _ (by decide),rfl,kq⟩
   | 13,_=>
    intro o g w' Dn C ho x z y B r d l;have u0:g.eval (Z5 31)=Z7 (Z3 ⟨pb,po,Z4⟩):=l 12 (r 12 (by decide));have c:w'.cell? ⟨pb,po,Z4⟩=Z3 (Z8 Z9 f):=(d.1.cell (p:=⟨pb,po,Z4⟩) (block_lt_of_cell hx)).trans hx;exact ab (v:=Z8 Z9 f) (by simp only [execOp,show o.op=Op.load 3 (Z5 31) from ho,u0];go_simp) x ⟨cI d _ (by decide),rfl,kq⟩
   | 14,_=>exact λo g w' Dn C ho x z y B r d l=>ab (ag ho ((z.slot 7 (by omega)).trans e7) w') x ⟨cI d _ (by decide),rfl,kq⟩
   | 15,_=>
    intro o g w' Dn C ho x z y B r d l;have u0:g.eval (Z5 33)=.slice so m cap:=l 14 (r 14 (by decide));exact ab (v:=Z8 Z9 m) (yB ho u0 w') x ⟨cI d _ (by decide),rfl,kq⟩
   | 16,_=>
    intro o g w' Dn C ho x z y B r d l;have u0:g.eval (Z5 23)=.agg #[Z8 Z9 D,Z8 Z9 L,Z8 Z9 G]:=l 4 (r 4 (by decide));have u1:g.eval (Z5 29)=Z8 .u64 ((t+1:Nat):Int):=l 10 (r 10 (by decide));have u2:g.eval (Z5 34)=Z8 Z9 m:=l 15 (r 15 (by decide));have u3:g.eval (Z5 32)=Z8 Z9 f:=l 13 (r 13 (by decide));exact ab (v:=.agg (aQ D L G (t+1) f m)) (by simp only [execOp,show o.op=Op.build 117 #[(0,Z5 23),(1,Z5 29),(2,Z5 32),(3,Z5 34)] from ho,Tq,Tr,List.map_nil,u0,u1,u2,u3];go_simp;rfl) x ⟨cI d _ (by decide),rfl,kq⟩
   | 17,_=>
    intro o g w' Dn C ho x z y B r d l;have S:Dn 18=false:=by
     cases q:Dn 18 with
     | false=>rfl
     | true=>have:=(B 18 q).2 17 (by decide);rw [y] at this;cases this
    have O:∀ b,w.heap.size<=b->kA (w'.alloc (Z6 (aQ 0 0 0 0 0 0) 117)) b->b=w'.heap.size:=λb H ⟨c,F,A⟩=>by
     have:=(Tm.1 A).1;simp at this;by_cases e:b=w'.heap.size
     . exact e
     . exact absurd ⟨c,F,(blk_alloc_lt _ _ _ (by omega)).symm.trans A⟩ (d.2.2 y b H)
    refine ab (v:=Z7 (Z3 ⟨w'.heap.size,0,Z4⟩)) (w':=w'.alloc (Z6 (aQ 0 0 0 0 0 0) 117)) (by simp only [execOp,show o.op=Op.alloc 117 from ho];go_simp;rfl) x ⟨⟨d.1.alloc d.1.size _,λb I J K F A=>(O b J F).trans (O I K A).symm,λq=>(by unfold dN at q;rw [if_pos rfl] at q;cases q)⟩,⟨_,rfl,d.1.size,_,rfl,blk_alloc_new _ _⟩,λj u E q=>?_⟩;match j,E,q with
    | 0,_,q|1,_,q|2,_,q|3,_,q|4,_,q|5,_,q|6,_,q|7,_,q|8,_,q|9,_,q|10,_,q|11,_,q|12,_,q|13,_,q|14,_,q|15,_,q|16,_,q=>exact q
    | 17,E,_=>rw [y] at E;cases E
    | 18,E,_=>rw [S] at E;cases E
    | n+19,_,_=>trivial
   | 18,_=>
    intro o g w' Dn C ho x z y B r d l;obtain ⟨b,u0,H,c,R,N⟩:P6 w.heap.size ar v D L G t m pb po pn pc f so cap 17 (g.eval (Z5 9)) w':=l 17 (r 17 (by decide));have u1:g.eval (Z5 35)=.agg (aQ D L G (t+1) f m):=l 16 (r 16 (by decide));have W:∀ I,kA (w'.setRow b (aQ D L G (t+1) f m)) I->kA w' I:=λI ⟨c',F,A⟩=>by
     by_cases e:I=b
     . subst e;exact ⟨c,R,N⟩
     . exact ⟨c',F,((aI w' b _).block I (by have:=(Tm.1 A).1;rwa [fY] at this) (λq=>e (by cases q;rfl))).symm.trans A⟩
    have hO:Below w.heap.size w' (w'.setRow b (aQ D L G (t+1) f m)):=⟨rfl,rfl,rfl,by rw [fY];exact Nat.le_refl _,λk z=>(aI w' b _).block k (by have:=d.1.size;omega) (λq=>by cases q;omega)⟩;refine iQ (w':=w'.setRow b (aQ D L G (t+1) f m)) (by simp [execOp,show o.op=Op.store 117 (Z5 9) (Z5 35) from ho,u0,u1,sV N R]) ⟨⟨d.1.trans hO,λb1 b2 J K F A=>d.2.1 b1 b2 J K (W b1 F) (W b2 A),λq b1 J K=>d.2.2 (by unfold dN at q;rwa [if_neg (by decide)] at q) b1 J (W b1 K)⟩,⟨b,H,setRow_heap w' b c _ _ _ N⟩,λj u E q=>?_⟩;match j,E,q with
    | 0,_,q|1,_,q|2,_,q|3,_,q|4,_,q|5,_,q|6,_,q|7,_,q|8,_,q|9,_,q|10,_,q|11,_,q|12,_,q|13,_,q|14,_,q|15,_,q|16,_,q=>exact q
    | 17,_,⟨b1,F,A,c1,q5,q6⟩=>
     refine ⟨b1,F,A,?_⟩;have e:b1=b:=d.2.1 b1 b A H ⟨c1,q5,q6⟩ ⟨c,R,N⟩;subst e;exact ⟨_,rfl,setRow_heap w' b1 c1 _ _ _ q6⟩
    | 18,E,_=>rw [y] at E;cases E
    | n+19,_,_=>trivial
   | n+19,V=>exact absurd V (by show ¬ n+19<19;omega)
 . rintro g w' hv hh ⟨Dn,hD,d⟩ l;obtain ⟨b,u0,H,M⟩:P6 w.heap.size ar v D L G t m pb po pn pc f so cap 17 (g.eval (Z5 9)) w':=l 17 (by decide);obtain ⟨b2,k5,hy⟩:P6 w.heap.size ar v D L G t m pb po pn pc f so cap 18 undef w':=l 18 (by decide);have e:b2=b:=d.2.1 b2 b k5 H ⟨_,rfl,hy⟩ M;subst e;have e:g=Act.putFrom (a.put (Z3 9) (Z7 (Z3 ⟨b2,0,Z4⟩))) 19 ((Tn 17).map λi=>g.eval (.tmp (19+i))):=Dp hv.size hv.defers (by rw [To,Tp];omega) (by decide) u0 (λi P=>by
    rw [To,Tp] at P;rw [Ts,Tt,Tu P];rfl) (λs hs k7=>by
    rw [To,Tp] at k7;refine hh s λi P=>?_;have k8:i<19:=P;rcases Nat.lt_or_ge i 17 with h|h
    . intro q;have h3:(bV Oc i).2.1=Z3 (19+i):=by
       have:∀ i,i<17->(bV Oc i).2.1=Z3 (19+i):=by decide
       exact this i h
      rw [h3] at q;have:=Tv q;omega
    . rcases Nat.lt_or_ge i 18 with h5|h5
      . have:i=17:=by omega
        subst this;intro q;have:=Tv q;omega
      . have:i=18:=by omega
        subst this;intro q;cases q)
   rw [e];exact hQ w' _ b2 (by rw [To,Tp]) H hy d.1
section
open Go.Shelf Gf
theorem sW {q:Nat} (h:w.heap[q]?=Z3 (Z6 (aQ D L G t f n) 117 (0,0))):(Instr.loadAt 117 (Z7 (Z3 ⟨q,0,Z4⟩))).run Z0 w=.ok (.agg (aQ D L G t f n)) w:=by
 simp only [Instr.loadAt,Instr.sureAddr,Sem.run_bind,Sem.run_pure,Result.andThen_ok,run_loadVar_row w q 117 117 (aQ D L G t f n) (0,0) _ h Tryz.underlying117 rfl (by kernel_rfl)]
noncomputable def Re:Array Oper:=((Tryz.f85.body.bind (mD · 6))).getD #[]
def PG:List (Op×Option Nat×List Nat):=[(Op.move (Z5 0),Z3 36,[]),
 (Op.nilCheck (Z5 36),Z3 37,[0]),
 (Op.fieldAddr 121 (Z5 37) 0,Z3 38,[1]),
 (Op.load 115 (Z5 38),Z3 39,[2]),
 (Op.load 117 (Z5 9),Z3 40,[]),
 (Op.makeInterface 117 (Z5 40),Z3 41,[4]),
 (Op.move (Z5 0),Z3 42,[]),
 (Op.nilCheck (Z5 42),Z3 43,[6]),
 (Op.fieldAddr 121 (Z5 43) 0,Z3 44,[7]),
 (Op.load 115 (Z5 44),Z3 45,[8]),
 (Op.call { callee:=Callee.value (Operand.func 123),args:=#[Z5 45],argTypes:=#[115] },Z3 46,[9]),
 (Op.call { callee:=Callee.value (Operand.func 122),args:=#[Z5 39,Operand.const (Value.int IntKind.i64 0),Z5 41,Z5 46],argTypes:=#[115,3,219,124] },Z3 47,[3,5,10,10])]
theorem Gc:aN Re 36 48 PG:=bt (by kernel_rfl) (by kernel_rfl)
def Od (ar v D L G t f m S z:Nat):List Z1:=[Z7 (Z3 ⟨ar,0,Z4⟩),Z7 (Z3 ⟨ar,0,Z4⟩),Z7 (Z3 ⟨ar,0,Z4⟩),Z7 (Z3 ⟨v,0,Z4⟩),.agg (aQ D L G t f m),bp (.root D L G t f m),Z7 (Z3 ⟨ar,0,Z4⟩),Z7 (Z3 ⟨ar,0,Z4⟩),Z7 (Z3 ⟨ar,0,Z4⟩),Z7 (Z3 ⟨v,0,Z4⟩),Z8 .u64 S,Z8 .u64 z]
def yC (A:aB) (r:aW) (D:Nat->Bool):aB:=if D 11=true then A.putAt (Tn A.n) 0 (λ_=>r.blk) else A
def Qz (w0:Z2) (p:Nat) (A:aB) (F:bx) (r:aW) (Dn:Nat->Bool) (w:Z2):Prop:=aq w p (yC A r Dn) F/\aa (F.has p A.n) w0 w
theorem jb {r:aW} {w':Z2} (h:Qz w0 p A F r Dn w) (i:Nat) (b:i≠11) (a:Below w.heap.size w w'):Qz w0 p A F r (dN Dn i) w':=by
 refine ⟨?_,h.2.trans (aa.of_all a _)⟩;have e:yC A r (dN Dn i)=yC A r Dn:=by unfold yC dN;rw [if_neg (λe:11=i=>b e.symm)]
 rw [e];exact h.1.below a lR
theorem nr (ha:Re=ops) (B:m6 w v p D L G ps ho A F) (E:jI F p A.n v) (X:¬ F.has p A.n ar) (P:w.heap[ar]?=Z3 (Z6 cs 121 (0,0))) (V:cs[0]?=Z3 (Z7 (Z3 ⟨v,0,Z4⟩)))
 (hf:A.fit) (I:A.n=D+L+G) (Y:D<=12) (hr:L<=4) (Z:G<=4) (C:D+L+G<=16) (hb:0<A.nb) (hw:A.wait<0) {D' L' G' t f m q:Nat} (R:(aW.root D' L' G' t f m).ok) (T:w.heap[q]?=Z3 (Z6 (aQ D' L' G' t f m) 117 (0,0))) (k6:¬ F.has p A.n q)
 (k9:a.tmps.size=60) (K:a.eval (Z5 0)=Z7 (Z3 ⟨ar,0,Z4⟩)) (U:a.eval (Z5 9)=Z7 (Z3 ⟨q,0,Z4⟩))
 (hQ:∀ (w':Z2) (vs:List Z1),vs.length=12->aq w' p (A.putAt (Tn A.n) 0 (λ_=>(aW.root D' L' G' t f m).blk)) F->aa (F.has p A.n) w w'->Q .normal (Act.putFrom a 36 vs) w'):(Code.region 6 ops true).wp Z0 Q a w:=by
 subst ha;obtain ⟨S,N⟩:=nM (2^(D+L+G)-1);have O:ae S=Tn A.n:=by rw [<- N,I];exact nY C
 have hv:S<65536:=by
  have:2^(D+L+G)<=2^16:=Nat.pow_le_pow_right (by decide) C;omega
 obtain ⟨z,hz⟩:=nM (bS A (Tn A.n));have W:ar<w.heap.size:=(Tm.1 P).1;have k7:q<w.heap.size:=(Tm.1 T).1;have M:∀ w',aa (F.has p A.n) w w'->w'.cell? ⟨ar,0,Z4⟩=Z3 (Z7 (Z3 ⟨v,0,Z4⟩)):=λw' hO=>by
  have:=(hO.block ar W X).trans P;simp [World.cell?,this,V]
 refine bZ (by kernel_rfl) Gc a w (by omega) (λi u _=>u=(Od ar v D' L' G' t f m S z).getD i undef) (Qz w p A F (.root D' L' G' t f m)) ⟨B.arr.keep λ_ _=>rfl,aa.drew w⟩ ?_ ?_
 . intro i x;match i,x with
   | 0,_=>exact λo d w' Dn s ho g k l r j b h=>ab (ag ho ((k.slot 0 (by omega)).trans K) w') g ⟨jb b _ (by decide) (Below.refl _ _),rfl,kq⟩
   | 1,_|2,_|7,_|8,_=>
    intro o d w' Dn s ho g k l r j b h;have u0:=h _ (j _ (.head _));simp only [PG,Od,bV,cM,Sg,Sf] at ho u0;exact ab (by simp only [execOp,ho,u0,Od,Sg,Sf];go_simp) g ⟨jb b _ (by decide) (Below.refl _ _),rfl,kq⟩
   | 3,_=>
    intro o d w' Dn s ho g k l r j b h;have u0:d.eval (Z5 38)=Z7 (Z3 ⟨ar,0,Z4⟩):=h 2 (j 2 (by decide));have c:=M w' b.2;exact ab (v:=Z7 (Z3 ⟨v,0,Z4⟩)) (by simp only [execOp,show o.op=Op.load 115 (Z5 38) from ho,u0];go_simp) g ⟨jb b _ (by decide) (Below.refl _ _),rfl,kq⟩
   | 4,_=>
    intro o d w' Dn s ho g k l r j b h;have u0:d.eval (Z5 9)=Z7 (Z3 ⟨q,0,Z4⟩):=(k.slot 9 (by omega)).trans U;have k5:=sW ((b.2.block q k7 k6).trans T);exact ab (v:=.agg (aQ D' L' G' t f m)) (by simp [execOp,show o.op=Op.load 117 (Z5 9) from ho,u0,k5]) g ⟨jb b _ (by decide) (Below.refl _ _),rfl,kq⟩
   | 5,_=>
    intro o d w' Dn s ho g k l r j b h;have u0:d.eval (Z5 40)=.agg (aQ D' L' G' t f m):=h 4 (j 4 (by decide));exact ab (v:=bp (.root D' L' G' t f m)) (by simp only [execOp,show o.op=Op.makeInterface 117 (Z5 40) from ho,u0,bp];go_simp) g ⟨jb b _ (by decide) (Below.refl _ _),rfl,kq⟩
   | 6,_=>exact λo d w' Dn s ho g k l r j b h=>ab (ag ho ((k.slot 0 (by omega)).trans K) w') g ⟨jb b _ (by decide) (Below.refl _ _),rfl,kq⟩
   | 9,_=>
    intro o d w' Dn s ho g k l r j b h;have u0:d.eval (Z5 44)=Z7 (Z3 ⟨ar,0,Z4⟩):=h 8 (j 8 (by decide));have c:=M w' b.2;exact ab (v:=Z7 (Z3 ⟨v,0,Z4⟩)) (by simp only [execOp,show o.op=Op.load 115 (Z5 44) from ho,u0];go_simp) g ⟨jb b _ (by decide) (Below.refl _ _),rfl,kq⟩
   | 10,_=>
    intro o d w' Dn s ho g k l r j b h;have u0:d.eval (Z5 45)=Z7 (Z3 ⟨v,0,Z4⟩):=h 9 (j 9 (by decide));refine dz (f:=123) (args:=#[Z7 (Z3 ⟨v,0,Z4⟩)]) (w1:=w') (by simp only [execOp,show o.op=Op.call { callee:=Callee.value (Operand.func 123),args:=#[Z5 45],argTypes:=#[115] } from ho];go_simp;simpa [Act.eval] using u0) g (m7 (B.vol.keep (b.2.block _ B.vol.lt E.v)) Y hr Z C) ?_;rintro e J ⟨rfl,hy⟩;rw [N];exact ⟨_,rfl,jb b 10 (by decide) hy,rfl,kq⟩
   | 11,_=>
    intro o d w' Dn k8 ho g k l r j b h;have u0:d.eval (Z5 39)=Z7 (Z3 ⟨v,0,Z4⟩):=h 3 (j 3 (by decide));have u1:d.eval (Z5 41)=bp (.root D' L' G' t f m):=h 5 (j 5 (by decide));have u2:d.eval (Z5 46)=Z8 .u64 S:=h 10 (j 10 (by decide));have y:aq w' p A F:=(by have:=b.1;unfold yC at this;rw [if_neg (by rw [l];decide)] at this;exact this);have hx:=B.turn E b.2 y;have H:=kV hx E hf 0 S hb hv (λi x=>by rw [O] at x;simpa using x) hw (.root D' L' G' t f m) R (Cb R);rw [O] at H;rw [hz] at H;refine dz (f:=122) (args:=#[Z7 (Z3 ⟨v,0,Z4⟩),Z8 Z9 (0:Nat),bp (.root D' L' G' t f m),Z8 .u64 S]) (w1:=w') (by simp only [execOp,show o.op=Op.call { callee:=Callee.value (Operand.func 122),args:=#[Z5 39,Operand.const (Value.int IntKind.i64 0),Z5 41,Z5 46],argTypes:=#[115,3,219,124] } from ho];go_simp;exact ⟨by simpa [Act.eval] using u0,by simpa [Act.eval] using u1,by simpa [Act.eval] using u2⟩) g H ?_;rintro e J ⟨rfl,hm,hs⟩;refine ⟨_,rfl,⟨?_,b.2.trans hs⟩,rfl,kq⟩;have e:yC A (.root D' L' G' t f m) (dN Dn 11)=A.putAt (Tn A.n) 0 (λ_=>(aW.root D' L' G' t f m).blk):=(by unfold yC dN;rw [if_pos (by rw [if_pos rfl])]);rw [e];exact hm
   | n+12,I=>exact absurd I (by show ¬ n+12<12;omega)
 . rintro d w' k0 ⟨Dn,hp,b⟩ h;have e:yC A (.root D' L' G' t f m) Dn=A.putAt (Tn A.n) 0 (λ_=>(aW.root D' L' G' t f m).blk):=(by unfold yC;rw [if_pos (hp 11 (by decide))]);have y:=b.1;rw [e] at y;have e:d=Act.putFrom a 36 ((Tn 12).map λi=>d.eval (.tmp (36+i))):=k0.out _ (by rw [To,Tp]) (by omega) (λi x=>by
    rw [To,Tp] at x;rw [Ts,Tt,Tu x];rfl)
   rw [e];exact hQ w' _ (by rw [To,Tp]) y b.2
end
section
open Go.Shelf Gf
theorem yD {rest:List Oper} (e:o.guard=Z4) (x:Operand) (ho:o.op=.load 117 x) {b D L G t f n:Nat} {ra:Array Z1} (c:ra=aQ D L G t f n)
 (g:a.eval x=Z7 (Z3 ⟨b,0,Z4⟩)) (d:w.heap[b]?=Z3 (Z6 (aQ D L G t f n) 117 (0,0))) (h:wpList Z0 ops Q rest (a.put o.dst (.agg ra)) w):wpList Z0 ops Q (o::rest) a w:=by
 refine wpList_plain e λK hK=>?_;subst c;unfold Oper.wp;simp [execOp,ho,g,sW d,Result.andThen];exact hK _ _ h
theorem JU (h:bJ w ar v D' L' G' t' f' n' pg ob off):bJ (w.setCells ar 1 (aQ D L G t f n).toList) ar v D L G t f n pg ob off:=by
 have a:w.heap[ar]?=Z3 (Z6 (mz v D' L' G' t' f' n' pg ob off) 121 (0,0)):=h;have:=aj (j:=6) (aj (j:=5) (aj (j:=4) (aj (j:=3) (aj (j:=2) (aj (j:=1) a (Z8 Z9 (D:Int))) (Z8 Z9 (L:Int))) (Z8 Z9 (G:Int))) (Z8 .u64 (t:Int))) (Z8 Z9 (f:Int))) (Z8 Z9 (n:Int));exact this
theorem bJ.there (h:bJ w ar v D' L' G' t' f' n' pg ob off):w.there ar 1 6:=by
 have a:w.heap[ar]?=Z3 (Z6 (mz v D' L' G' t' f' n' pg ob off) 121 (0,0)):=h;intro j b;match j,b with
 | 0,_|1,_|2,_|3,_|4,_|5,_=>simp [World.cell?,World.frozen?,a,mz]
 | n+6,hn=>exact absurd hn (by omega)
theorem bJ.late (h:bJ w ar v D' L' G' t' f' n' pg ob off) (b a:Z1):bJ ((w.setCell ⟨ar,7,Z4⟩ b).setCell ⟨ar,8,Z4⟩ a) ar v D' L' G' t' f' n' b a off:=by
 have c:w.heap[ar]?=Z3 (Z6 (mz v D' L' G' t' f' n' pg ob off) 121 (0,0)):=h;exact aj (j:=8) (aj (j:=7) c b) a
theorem bJ.tail (h:bJ w ar v D' L' G' t' f' n' pg ob off):w.cell? ⟨ar,7,Z4⟩=Z3 pg/\w.frozen? ⟨ar,7,Z4⟩=false/\w.cell? ⟨ar,8,Z4⟩=Z3 ob/\w.frozen? ⟨ar,8,Z4⟩=false:=by
 have a:w.heap[ar]?=Z3 (Z6 (mz v D' L' G' t' f' n' pg ob off) 121 (0,0)):=h;simp [World.cell?,World.frozen?,a,mz]
theorem Oe (h:vs.length=17):∃ a b c d e f g i j k l m n o p q r,vs=[a,b,c,d,e,f,g,i,j,k,l,m,n,o,p,q,r]:=by
 match vs,h with
 | [a,b,c,d,e,f,g,i,j,k,l,m,n,o,p,q,r],_=>exact ⟨_,_,_,_,_,_,_,_,_,_,_,_,_,_,_,_,_,rfl⟩
def Dq (w:Z2) (vo:Z1) (l:List Nat):Prop:=∀ W,Below w.heap.size w W->Calls Z0 120 #[vo] W λe w'=>∃ g cap,e=.returned (.slice (Z3 ⟨g,0,Z4⟩) l.length cap)/\w'.ownsRow W.heap.size 5 1 (.slice (Z3 ⟨g,0,Z4⟩) l.length cap) l.length (aH l)/\Below W.heap.size W w'
def JV (w:Z2) (ar v p D L G t:Nat) (A:aB) (F:bx) (P l:List Nat) (vp vo:Z1) (off:Bool) (e:Ending) (w':Z2):Prop:=e=.returned .nilIface/\aq w' p ((A.pagesTo D L G P l P.length).putAt (Tn A.n) 0 (λ_=>(aW.root D L G (t+1) (P.getD 0 0) l.length).blk)) F/\bJ w' ar v D L G (t+1) (P.getD 0 0) l.length vp vo off/\aa (λk=>k=ar\/F.has p A.n k) w w'
theorem nt {nn:Nat} (ha:bJ w ar v D' L' G' t f nn pg ob off) (V:m6 w v p D L G ps ho A F) (T:jI F p A.n v) (r:¬ F.has p A.n ar) (X:A.fit) (Y:A.n=D+L+G) (hr:cn D L G=true) (kx:1<=D) (R:D<=12) (hL:1<=L) (kj:L<=4) (U:G<=4) (ka:D%L=0) (kg:D+L+G<=16)
 (hw:A.wait<0) (hv:iH A D L G) (ht:t<=1000000000) (oo:Option Addr) (on oc:Nat) (l:List Nat) (q1:∀ x∈l,x<256) (q0:l.length<=1000000) (q3:Dq w (.slice oo on oc) l)
 (pb po pc:Nat) (P:List Nat) (hP:bK (λk=>¬ F.has p A.n k) w (.slice (Z3 ⟨pb,po,Z4⟩) P.length pc) P) (kk:P≠[]) (ko:∀ x∈P,x<A.nb) (ky:∀ k,k<P.length->k*(D*44-4)<=l.length) :
 Calls Z0 85 #[Z7 (Z3 ⟨ar,0,Z4⟩),.slice oo on oc,.slice (Z3 ⟨pb,po,Z4⟩) P.length pc] w λe w'=>JV w ar v p D L G t A F P l (.slice (Z3 ⟨pb,po,Z4⟩) P.length pc) (.slice oo on oc) off e w':=by
 have h5:0<P.length:=List.length_pos_iff.2 kk;obtain ⟨b,O⟩:=nM (P.getD 0 0);have W:P[0]=b:=by rw [<- O];simp [h5]
 have q5:=X.nb;have kz:b<A.nb:=by rw [<- W];exact ko _ (List.getElem_mem _)
 have q2:(aW.root D L G (t+1) b l.length).ok:=⟨by omega,by omega,by omega,by omega,by omega,by omega⟩;unfold JV;rw [O];have HA:=hide2 O W;have HP:=hide hP;clear O W hP;go_enter Tryz.func85,Tryz.ntmps85;go_wp2_with fail;refine (q3 w (Below.refl _ w)).mono ?_;rintro e w1 ⟨g,cap,rfl,hx,c⟩;have h:=ha.keep (c.block _ ha.lt);have m:=V.below c lR;have Q:=HP.out.keep (eM.of_below c);have kv:=sU h m T r X Y hr kx R hL kj U ka kg hw hv g cap w.heap.size l hx q1 q0 (λk z=>V.arr.has_lt z) _ P Q ko ky;have H1:=hide5 c kv Q h m;clear c kv Q hx h m;go_wp2_with fail;refine H1.out.2.1.mono ?_;rintro e w2 ⟨rfl,kh,y⟩;obtain ⟨c,_,hm,h,m⟩:=H1.out;have o:=h.keep (y.block _ h.lt r);have q4:=gX A D L G P l P.length;have B:=m.turn T y kh;have km:=hm.keep (eM.of_outside y);obtain ⟨b',q6,c',e1,kp⟩:=rj km kk;simp only [Value.slice.injEq,Option.some.injEq,Addr.mk.injEq] at e1;obtain ⟨⟨rfl,rfl,_⟩,_,rfl⟩:=e1;have kb:=kp 0 h5;rw [Nat.add_zero,HA.out.2] at kb;have j:aa (F.has p A.n) w w2:=(aa.of_all c _).trans y;have J:=hide4 o B j kb;clear c hm h m kh y o B km kp kb j;go_wp2_with fail;refine uI (f:=b) (by kernel_rfl) J.out.2.1.vol J.out.1 rfl rfl ht (by omega) J.out.2.2.2 rfl rfl rfl rfl ?_;intro w3 vs rb I ke d N;obtain ⟨x0,x1,x2,x3,x4,x5,x6,x7,x8,x9,xa,xb,xc,xd,xe,xf,xg,rfl⟩:=Oe I;obtain ⟨o,B,j,kc⟩:=J.out;clear kc;have i:=o.keep (N.block _ o.lt);have C:=B.below N lR;have s:aa (F.has p A.n) w w3:=j.trans (aa.of_all N _);have u:¬ F.has p A.n rb:=λq=>by have:=V.arr.has_lt q;have:=j.size;omega
 have H3:=hide6 i C s d u ke;clear o B j i C s d u ke N I;rename_i hK
 refine hK _ _ ?_;clear hK;simp only [Act.putFrom,Act.put,Tw,Tx,Ty];go_wp2_with fail;obtain ⟨i,C,s,d,u,ke⟩:=H3.out;obtain ⟨a,hb,hd,q7⟩:=q4;refine nr (by kernel_rfl) C (by rw [a];exact T) (by rw [a];exact r) i rfl (gw X R U Y P l _) (by rw [a];exact Y) R kj U kg (by rw [hb];omega) (by rw [hd];exact hw) q2 d (by rw [a];exact u) rfl rfl rfl ?_;rw [a];intro w4 vs I ki K;obtain ⟨y0,y1,y2,y3,y4,y5,y6,y7,y8,y9,ya,yb,rfl⟩:=xF I;have k9:=i.keep (K.block _ i.lt r);have h4:=(K.block rb (Tm.1 d).1 u).trans d;have hi:aa (λk=>k=ar\/F.has p A.n k) w w4:=(s.trans K).mono λ_ _ q=>.inr q;have ks:=k9.there;have M:=JU (D:=D) (L:=L) (G:=G) (t:=t+1) (f:=b) (n:=l.length) k9;have k8:=hi.trans (aa.setCells (S:=λk=>k=ar\/F.has p A.n k) _ ar 1 (aQ D L G (t+1) b l.length).toList (.inl rfl));have Z:=ki.outside (aa.setCells (S:=λk=>k=ar) w4 ar 1 (aQ D L G (t+1) b l.length).toList rfl) (λk z e=>r (by have E:F.has p (A.pagesTo D L G P l P.length).n k:=z;rw [a] at E;exact e▸E));obtain ⟨w8,kf⟩:=nM (w4.setCells ar 1 (aQ D L G (t+1) b l.length).toList);rw [kf] at M k8 Z;obtain ⟨c7,f7,c8,f8⟩:=M.tail;have H:=hide6 Z k8 M ks h4 kf;clear ki K k9 hi ks M k8 Z kf h4 i C s d I;rename_i hK
 refine hK _ _ ?_;clear hK;simp only [Act.putFrom,Act.put,Tw,Tx,Ty];go_wp2_with (first|(refine yD rfl (Z5 9) rfl rfl (by rfl) (by exact H.out.2.2.2.2.1) ?_)|(refine wpList_store_mid rfl 117 (Z5 55) (Z5 51) rfl ar 1 (aQ D L G (t+1) b l.length) (by rfl) (by rfl) (by exact H.out.2.2.2.1) (np _ _ _ _ _ _) (vU _ _ _ _ _ _) ?_;rw [H.out.2.2.2.2.2]));go_ret;refine ⟨rfl,?_,H.out.2.2.1.late _ _,(H.out.2.1.trans (aa.setCell _ _ _ (.inl rfl))).trans (aa.setCell _ _ _ (.inl rfl))⟩;exact H.out.1.keep λk z=>by
  have E:F.has p (A.pagesTo D L G P l P.length).n k:=z;rw [a] at E;have kr:k≠ar:=λe=>r (e▸E);exact (blk_setCell_other _ _ _ _ kr).trans (blk_setCell_other _ _ _ _ kr)
end
end Go.Proofs.YtfbmmcnpjhmjaaaGreatDoor
