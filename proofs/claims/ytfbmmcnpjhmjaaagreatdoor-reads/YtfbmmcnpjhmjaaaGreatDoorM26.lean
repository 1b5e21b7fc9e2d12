import Derived.Test.YtfbmmcnpjhmjaaaGreatDoorM19
import Derived.Test.YtfbmmcnpjhmjaaaGreatDoorM20
set_option maxRecDepth 100000
set_option maxHeartbeats 8000000
open Go.IntKind renaming i64 -> Z9
open Go.Value renaming int -> Z8, pointer -> Z7
open Go.Operand renaming tmp -> Z6
open Option renaming none -> Z5, some -> Z4
namespace Go.Proofs.YtfbmmcnpjhmjaaaGreatDoor
open Go.RowKit Go.Deep Gf
variable {a a':Act} {ops:Array Oper} {Q:Exit->Act->World->Prop} {o lo hi b:Nat} {Dn:Nat->Bool} {m:Nat->Nat} {w w1 w2 w':World}
theorem dm (a:Act) (i:Nat) (v:Value) (h:i<a.tmps.size):(a.put (Z4 i) v).eval (.tmp i)=v:=by simp [Act.put,Act.eval,h]
theorem ah (a:Act) (i j:Nat) (v:Value) (h:i≠j):(a.put (Z4 i) v).eval (.tmp j)=a.eval (.tmp j):=by
 simp [Act.put,Act.eval,Array.getD_eq_getD_getElem?,h]
theorem LF (a:Act) (d:Option Nat) (v:Value):(a.put d v).tmps.size=a.tmps.size:=by
 cases d<;>simp [Act.put]
theorem xK {o:Oper} (b:o.guard=Z5):Region.wanted o (yielded ops a.tmps)=true:=by simp [Region.wanted,b]
structure js (lo hi:Nat) (a a':Act):Prop where
 size:a'.tmps.size=a.tmps.size
 defers:a'.defers=a.defers
 slot:∀ s,s<lo\/hi<=s->a'.eval (.tmp s)=a.eval (.tmp s)
theorem js.refl (lo hi:Nat) (a:Act):js lo hi a a:=⟨rfl,rfl,λ_ _=>rfl⟩
theorem js.put (h:js lo hi a a') (d:Nat) (v:Value) (c:lo<=d) (e:d<hi):js lo hi a (a'.put (Z4 d) v):=
 ⟨by rw [LF];exact h.size,h.defers,λs b=>by rw [ah _ _ _ _ (by omega)];exact h.slot s b⟩
theorem js.none (h:js lo hi a a') (v:Value):js lo hi a (a'.put Z5 v):=h
def K8 (w w1 w2:World) (Dn:Nat->Bool) (w':World):Prop:=w'=if Dn 25=true then (if Dn 29=true then w2 else w1) else w.drew
theorem dV (h:K8 w w1 w2 Dn w') (i:Nat) (a:25≠i) (b:29≠i):K8 w w1 w2 (dN Dn i) w':=by unfold K8;rw [jr a,jr b];exact h
theorem lA (h:K8 w w1 w2 Dn w') (a:Dn 25=false):w'=w.drew:=by
 unfold K8 at h;rwa [if_neg (by rw [a];decide)] at h
def MQ (w w1:World) (Dn:Nat->Bool) (w':World):Prop:=w'=if Dn 14=true then w1 else w.drew
theorem iX (h:MQ w w1 Dn w') (i:Nat) (a:14≠i):MQ w w1 (dN Dn i) w':=by unfold MQ;rw [jr a];exact h
theorem sn (h:MQ w w1 Dn w') (a:Dn 14=false):w'=w.drew:=by
 unfold MQ at h;rwa [if_neg (by rw [a];decide)] at h
theorem CP (h:w.rangeAt b o (cG m)):(Instr.loadAt 221 (Z7 (Z4 ⟨b,o,Z5⟩))).run Tryz.prog w=.ok (.agg (cG m).toArray) w:=run_loadAt_mid (P:=Tryz.prog) w b o 221 (cG m) _ h Tryz.underlying221 rfl (by simpa using Tryz.sizeArr16 _)
theorem CQ (h:w.there b o 16):(Instr.storeAt 221 (Z7 (Z4 ⟨b,o,Z5⟩)) (.agg (cG m).toArray)).run Tryz.prog w=.ok () (w.setCells b o (cG m)):=run_storeAt_mid (P:=Tryz.prog) w b o 221 (cG m).toArray (by simpa [jH] using h) (by simpa using Tryz.sizeArr16 _) (I0 _)
noncomputable def Q7:Array Oper:=((Tryz.f197.body.bind (mD · 4))).getD #[]
def NL:List (Op×Option Nat×List Nat):=[(Op.move (Z6 0),Z4 15,[]),
 (Op.move (Z6 0),Z4 16,[]),
 (Op.nilCheck (Z6 16),Z4 17,[1]),
 (Op.fieldAddr 319 (Z6 17) 1,Z4 18,[2]),
 (Op.load 3 (Z6 18),Z4 19,[3]),
 (Op.move (Z6 0),Z4 20,[]),
 (Op.move (Z6 5),Z4 21,[]),
 (Op.move (Z6 0),Z4 22,[]),
 (Op.move (Z6 5),Z4 23,[]),
 (Op.nilCheck (Z6 22),Z4 24,[7]),
 (Op.fieldAddr 319 (Z6 24) 0,Z4 25,[9]),
 (Op.indexAddr 317 (Z6 25) (Z6 23),Z4 26,[10,8]),
 (Op.load 221 (Z6 26),Z4 27,[11]),
 (Op.move (Z6 0),Z4 28,[]),
 (Op.move (Z6 0),Z4 29,[]),
 (Op.nilCheck (Z6 29),Z4 30,[14]),
 (Op.fieldAddr 319 (Z6 30) 1,Z4 31,[15]),
 (Op.load 3 (Z6 31),Z4 32,[16]),
 (Op.nilCheck (Z6 28),Z4 33,[13]),
 (Op.fieldAddr 319 (Z6 33) 0,Z4 34,[18]),
 (Op.indexAddr 317 (Z6 34) (Z6 32),Z4 35,[19,17]),
 (Op.load 221 (Z6 35),Z4 36,[20]),
 (Op.nilCheck (Z6 15),Z4 37,[0]),
 (Op.fieldAddr 319 (Z6 37) 0,Z4 38,[22]),
 (Op.indexAddr 317 (Z6 38) (Z6 19),Z4 39,[23,4,0,1,2,3,4,7,8,9,10,11,12,17,21]),
 (Op.store 221 (Z6 39) (Z6 27),Z5,[24,12,0,1,2,3,4,7,8,9,10,11,12,17,21]),
 (Op.nilCheck (Z6 20),Z4 40,[5]),
 (Op.fieldAddr 319 (Z6 40) 0,Z4 41,[26]),
 (Op.indexAddr 317 (Z6 41) (Z6 21),Z4 42,[27,6,0,1,2,3,4,5,6,7,8,9,10,11,12,13,14,15,16,17,18,19,20,21,22,23,24,25]),
 (Op.store 221 (Z6 42) (Z6 36),Z5,[28,21,25,0,1,2,3,4,5,6,7,8,9,10,11,12,13,14,15,16,17,18,19,20,21,22,23,24,25])]
theorem FH:aN Q7 15 43 NL:=bt (by kernel_rfl) (by kernel_rfl)
def Jf (b r t:Nat) (m:Nat->Nat->Nat):List Value:=[Z7 (Z4 ⟨b,0,Z5⟩),Z7 (Z4 ⟨b,0,Z5⟩),Z7 (Z4 ⟨b,0,Z5⟩),Z7 (Z4 ⟨b,128,Z5⟩),Z8 Z9 (t:Int),Z7 (Z4 ⟨b,0,Z5⟩),Z8 Z9 (r:Int),Z7 (Z4 ⟨b,0,Z5⟩),Z8 Z9 (r:Int),Z7 (Z4 ⟨b,0,Z5⟩),Z7 (Z4 ⟨b,0,Z5⟩),Z7 (Z4 ⟨b,r*16,Z5⟩),.agg (cG (m r)).toArray,Z7 (Z4 ⟨b,0,Z5⟩),Z7 (Z4 ⟨b,0,Z5⟩),Z7 (Z4 ⟨b,0,Z5⟩),Z7 (Z4 ⟨b,128,Z5⟩),Z8 Z9 (t:Int),Z7 (Z4 ⟨b,0,Z5⟩),Z7 (Z4 ⟨b,0,Z5⟩),Z7 (Z4 ⟨b,t*16,Z5⟩),.agg (cG (m t)).toArray,Z7 (Z4 ⟨b,0,Z5⟩),Z7 (Z4 ⟨b,0,Z5⟩),Z7 (Z4 ⟨b,t*16,Z5⟩),undef,Z7 (Z4 ⟨b,0,Z5⟩),Z7 (Z4 ⟨b,0,Z5⟩),Z7 (Z4 ⟨b,r*16,Z5⟩),undef]
theorem Af (b r t:Nat) (m:Nat->Nat->Nat) (R:r<8) (S:t<8) (p:w.drew.cell? ⟨b,128,Z5⟩=Z4 (Z8 Z9 (t:Int)))
 (G:w.drew.rangeAt b (r*16) (cG (m r))) (H:w.drew.rangeAt b (t*16) (cG (m t))) (L:w.drew.there b (r*16) 16) (tt:w.drew.there b (t*16) 16) (I:Q7=ops) (O:a.tmps.size=64)
 (s:a.eval (Z6 0)=Z7 (Z4 ⟨b,0,Z5⟩)) (C:a.eval (Z6 5)=Z8 Z9 (r:Int))
 (J:∀ a',js 15 43 a a'->Q .normal a' ((w.drew.setCells b (t*16) (cG (m r))).setCells b (r*16) (cG (m t)))):(Code.region 4 ops true).wp Tryz.prog Q a w:=by
 subst I;have N:(r:Int)<8:=by omega
 have P:(t:Int)<8:=by omega
 refine cO (by kernel_rfl) FH a w (by omega) (λi u _=>u=(Jf b r t m).getD i undef) (K8 w (w.drew.setCells b (t*16) (cG (m r))) ((w.drew.setCells b (t*16) (cG (m r))).setCells b (r*16) (cG (m t)))) rfl ?_ ?_
 . intro i hi;match i,hi with
   | 0,_=>
    intro o a' w' Dn l ho d h j k f c g;have u0:a'.eval (Z6 0)=Z7 (Z4 ⟨b,0,Z5⟩):=(h.slot 0 (by omega)).trans s;exact ab (ag ho u0 w') d ⟨dV c 0 (by decide) (by decide),rfl,kq⟩
   | 1,_=>
    intro o a' w' Dn l ho d h j k f c g;have u0:a'.eval (Z6 0)=Z7 (Z4 ⟨b,0,Z5⟩):=(h.slot 0 (by omega)).trans s;exact ab (ag ho u0 w') d ⟨dV c 1 (by decide) (by decide),rfl,kq⟩
   | 2,_|3,_|9,_|10,_|15,_|16,_|18,_|19,_|22,_|23,_|26,_|27,_=>
    intro o a' w' Dn l ho d h j k f c g;have u0:=g _ (f _ (.head _));simp only [NL,Jf,bV,cM,Sg,Sf] at ho u0;exact ab (by simp only [execOp,ho,u0,Jf,Sg,Sf];go_simp) d ⟨dV c _ (by decide) (by decide),rfl,kq⟩
   | 11,_|20,_|24,_|28,_=>
    intro o a' w' Dn l ho d h j k f c g;have u0:=g _ (f _ (.head _));have u1:=g _ (f _ (.tail _ (.head _)));simp only [NL,Jf,bV,cM,Sg,Sf] at ho u0 u1;exact ab (by simp only [execOp,ho,u0,u1,Jf,Sg,Sf];go_simp) d ⟨dV c _ (by decide) (by decide),rfl,kq⟩
   | 4,_=>
    intro o a' w' Dn l ho d h j k f c g;have u0:a'.eval (Z6 18)=Z7 (Z4 ⟨b,128,Z5⟩):=g 3 (f 3 (by decide));have q:Dn 25=false:=by
     cases e:Dn 25 with
     | false=>rfl
     | true=>exact absurd ((k 25 e).2 4 (by decide)) (by rw [j];decide)
    have F:w'.cell? ⟨b,128,Z5⟩=Z4 (Z8 Z9 (t:Int)):=(by rw [lA c q];exact p);exact ab (v:=Z8 Z9 (t:Int)) (by simp only [execOp,show o.op=Op.load 3 (Z6 18) from ho,u0];go_simp) d ⟨dV c 4 (by decide) (by decide),rfl,kq⟩
   | 5,_=>
    intro o a' w' Dn l ho d h j k f c g;have u0:a'.eval (Z6 0)=Z7 (Z4 ⟨b,0,Z5⟩):=(h.slot 0 (by omega)).trans s;exact ab (ag ho u0 w') d ⟨dV c 5 (by decide) (by decide),rfl,kq⟩
   | 6,_=>
    intro o a' w' Dn l ho d h j k f c g;have u0:a'.eval (Z6 5)=Z8 Z9 (r:Int):=(h.slot 5 (by omega)).trans C;exact ab (ag ho u0 w') d ⟨dV c 6 (by decide) (by decide),rfl,kq⟩
   | 7,_=>
    intro o a' w' Dn l ho d h j k f c g;have u0:a'.eval (Z6 0)=Z7 (Z4 ⟨b,0,Z5⟩):=(h.slot 0 (by omega)).trans s;exact ab (ag ho u0 w') d ⟨dV c 7 (by decide) (by decide),rfl,kq⟩
   | 8,_=>
    intro o a' w' Dn l ho d h j k f c g;have u0:a'.eval (Z6 5)=Z8 Z9 (r:Int):=(h.slot 5 (by omega)).trans C;exact ab (ag ho u0 w') d ⟨dV c 8 (by decide) (by decide),rfl,kq⟩
   | 12,_=>
    intro o a' w' Dn l ho d h j k f c g;have u0:a'.eval (Z6 26)=Z7 (Z4 ⟨b,r*16,Z5⟩):=g 11 (f 11 (by decide));have q:Dn 25=false:=by
     cases e:Dn 25 with
     | false=>rfl
     | true=>exact absurd ((k 25 e).2 12 (by decide)) (by rw [j];decide)
    have B:=lA c q;have z:=CP (w:=w') (by rw [B];exact G);exact ab (v:=.agg (cG (m r)).toArray) (by simp [execOp,show o.op=Op.load 221 (Z6 26) from ho,u0,z]) d ⟨dV c 12 (by decide) (by decide),rfl,kq⟩
   | 13,_=>
    intro o a' w' Dn l ho d h j k f c g;have u0:a'.eval (Z6 0)=Z7 (Z4 ⟨b,0,Z5⟩):=(h.slot 0 (by omega)).trans s;exact ab (ag ho u0 w') d ⟨dV c 13 (by decide) (by decide),rfl,kq⟩
   | 14,_=>
    intro o a' w' Dn l ho d h j k f c g;have u0:a'.eval (Z6 0)=Z7 (Z4 ⟨b,0,Z5⟩):=(h.slot 0 (by omega)).trans s;exact ab (ag ho u0 w') d ⟨dV c 14 (by decide) (by decide),rfl,kq⟩
   | 17,_=>
    intro o a' w' Dn l ho d h j k f c g;have u0:a'.eval (Z6 31)=Z7 (Z4 ⟨b,128,Z5⟩):=g 16 (f 16 (by decide));have q:Dn 25=false:=by
     cases e:Dn 25 with
     | false=>rfl
     | true=>exact absurd ((k 25 e).2 17 (by decide)) (by rw [j];decide)
    have F:w'.cell? ⟨b,128,Z5⟩=Z4 (Z8 Z9 (t:Int)):=(by rw [lA c q];exact p);exact ab (v:=Z8 Z9 (t:Int)) (by simp only [execOp,show o.op=Op.load 3 (Z6 31) from ho,u0];go_simp) d ⟨dV c 17 (by decide) (by decide),rfl,kq⟩
   | 21,_=>
    intro o a' w' Dn l ho d h j k f c g;have u0:a'.eval (Z6 35)=Z7 (Z4 ⟨b,t*16,Z5⟩):=g 20 (f 20 (by decide));have q:Dn 25=false:=by
     cases e:Dn 25 with
     | false=>rfl
     | true=>exact absurd ((k 25 e).2 21 (by decide)) (by rw [j];decide)
    have B:=lA c q;have z:=CP (w:=w') (by rw [B];exact H);exact ab (v:=.agg (cG (m t)).toArray) (by simp [execOp,show o.op=Op.load 221 (Z6 35) from ho,u0,z]) d ⟨dV c 21 (by decide) (by decide),rfl,kq⟩
   | 25,_=>
    intro o a' w' Dn l ho d h j k f c g;have u0:a'.eval (Z6 39)=Z7 (Z4 ⟨b,t*16,Z5⟩):=g 24 (f 24 (by decide));have u1:a'.eval (Z6 27)=.agg (cG (m r)).toArray:=g 12 (f 12 (by decide));have x:=lA c j;subst x;have A:=CQ (m:=m r) tt;refine iQ (w':=(w.drew.setCells b (t*16) (cG (m r)))) (by simp [execOp,show o.op=Op.store 221 (Z6 39) (Z6 27) from ho,u0,u1,A]) ⟨?_,rfl,kq⟩;have K:Dn 29=false:=by
     cases e:Dn 29 with
     | false=>rfl
     | true=>exact absurd ((k 29 e).2 25 (by decide)) (by rw [j];decide)
    unfold K8;rw [if_pos j6,jr (by decide),if_neg (by rw [K];decide)]
   | 29,_=>
    intro o a' w' Dn l ho d h j k f c g;have u0:a'.eval (Z6 42)=Z7 (Z4 ⟨b,r*16,Z5⟩):=g 28 (f 28 (by decide));have u1:a'.eval (Z6 36)=.agg (cG (m t)).toArray:=g 21 (f 21 (by decide));have D:=f 25 (by decide);have x:w'=(w.drew.setCells b (t*16) (cG (m r))):=by
     have:=c;unfold K8 at this;rwa [if_pos D,if_neg (by rw [j];decide)] at this
    have A:=CQ (w:=w') (m:=m t) (b:=b) (o:=r*16) (by rw [x];exact World.there_setCells L _ _ _);refine iQ (w':=w'.setCells b (r*16) (cG (m t))) (by simp [execOp,show o.op=Op.store 221 (Z6 42) (Z6 36) from ho,u0,u1,A]) ⟨?_,rfl,kq⟩;unfold K8;rw [jr (by decide),if_pos D,if_pos j6,x]
   | n+30,hn=>exact absurd hn (by show ¬ n+30<30;omega)
 . rintro a' w' y M ⟨Dn,E,c⟩ g;unfold K8 at c;rw [if_pos (E 25 (by decide)),if_pos (E 29 (by decide))] at c;rw [c];exact J a' ⟨y.size,y.defers,y.slot⟩
noncomputable def Q8:Array Oper:=((Tryz.f213.body.bind (mD · 6))).getD #[]
def NM:List (Op×Option Nat×List Nat):=[(Op.move (Z6 0),Z4 26,[]),
 (Op.move (Z6 5),Z4 27,[]),
 (Op.move (Z6 0),Z4 28,[]),
 (Op.move (Z6 0),Z4 29,[]),
 (Op.nilCheck (Z6 29),Z4 30,[3]),
 (Op.fieldAddr 319 (Z6 30) 2,Z4 31,[4]),
 (Op.load 3 (Z6 31),Z4 32,[5]),
 (Op.nilCheck (Z6 28),Z4 33,[2]),
 (Op.fieldAddr 319 (Z6 33) 0,Z4 34,[7]),
 (Op.indexAddr 317 (Z6 34) (Z6 32),Z4 35,[8,6]),
 (Op.load 221 (Z6 35),Z4 36,[9]),
 (Op.nilCheck (Z6 26),Z4 37,[0]),
 (Op.fieldAddr 319 (Z6 37) 0,Z4 38,[11]),
 (Op.indexAddr 317 (Z6 38) (Z6 27),Z4 39,[12,1,0,1,2,3,4,5,6,7,8,9,10]),
 (Op.store 221 (Z6 39) (Z6 36),Z5,[13,10,0,1,2,3,4,5,6,7,8,9,10])]
theorem FJ:aN Q8 26 40 NM:=bt (by kernel_rfl) (by kernel_rfl)
def Jg (b r t:Nat) (m:Nat->Nat->Nat):List Value:=[Z7 (Z4 ⟨b,0,Z5⟩),Z8 Z9 (r:Int),Z7 (Z4 ⟨b,0,Z5⟩),Z7 (Z4 ⟨b,0,Z5⟩),Z7 (Z4 ⟨b,0,Z5⟩),Z7 (Z4 ⟨b,129,Z5⟩),Z8 Z9 (t:Int),Z7 (Z4 ⟨b,0,Z5⟩),Z7 (Z4 ⟨b,0,Z5⟩),Z7 (Z4 ⟨b,t*16,Z5⟩),.agg (cG (m t)).toArray,Z7 (Z4 ⟨b,0,Z5⟩),Z7 (Z4 ⟨b,0,Z5⟩),Z7 (Z4 ⟨b,r*16,Z5⟩),undef]
theorem LG (b r t:Nat) (m:Nat->Nat->Nat) (N:r<8) (O:t<8) (p:w.drew.cell? ⟨b,129,Z5⟩=Z4 (Z8 Z9 (t:Int)))
 (z:w.drew.rangeAt b (t*16) (cG (m t))) (H:w.drew.there b (r*16) 16) (A:Q8=ops) (L:a.tmps.size=40)
 (q:a.eval (Z6 0)=Z7 (Z4 ⟨b,0,Z5⟩)) (y:a.eval (Z6 5)=Z8 Z9 (r:Int))
 (C:∀ a',js 26 40 a a'->Q .normal a' (w.drew.setCells b (r*16) (cG (m t)))):(Code.region 6 ops true).wp Tryz.prog Q a w:=by
 subst A;have K:(r:Int)<8:=by omega
 have M:(t:Int)<8:=by omega
 refine cO (by kernel_rfl) FJ a w (by omega) (λi u _=>u=(Jg b r t m).getD i undef) (MQ w (w.drew.setCells b (r*16) (cG (m t)))) rfl ?_ ?_
 . intro i hi;match i,hi with
   | 0,_=>
    intro o a' w' Dn l ho d h j k g c f;have u0:a'.eval (Z6 0)=Z7 (Z4 ⟨b,0,Z5⟩):=(h.slot 0 (by omega)).trans q;exact ab (ag ho u0 w') d ⟨iX c 0 (by decide),rfl,kq⟩
   | 1,_=>
    intro o a' w' Dn l ho d h j k g c f;have u0:a'.eval (Z6 5)=Z8 Z9 (r:Int):=(h.slot 5 (by omega)).trans y;exact ab (ag ho u0 w') d ⟨iX c 1 (by decide),rfl,kq⟩
   | 2,_=>
    intro o a' w' Dn l ho d h j k g c f;have u0:a'.eval (Z6 0)=Z7 (Z4 ⟨b,0,Z5⟩):=(h.slot 0 (by omega)).trans q;exact ab (ag ho u0 w') d ⟨iX c 2 (by decide),rfl,kq⟩
   | 3,_=>
    intro o a' w' Dn l ho d h j k g c f;have u0:a'.eval (Z6 0)=Z7 (Z4 ⟨b,0,Z5⟩):=(h.slot 0 (by omega)).trans q;exact ab (ag ho u0 w') d ⟨iX c 3 (by decide),rfl,kq⟩
   | 4,_|5,_|7,_|8,_|11,_|12,_=>
    intro o a' w' Dn l ho d h j k g c f;have u0:=f _ (g _ (.head _));simp only [NM,Jg,bV,cM,Sg,Sf] at ho u0;exact ab (by simp only [execOp,ho,u0,Jg,Sg,Sf];go_simp) d ⟨iX c _ (by decide),rfl,kq⟩
   | 9,_|13,_=>
    intro o a' w' Dn l ho d h j k g c f;have u0:=f _ (g _ (.head _));have u1:=f _ (g _ (.tail _ (.head _)));simp only [NM,Jg,bV,cM,Sg,Sf] at ho u0 u1;exact ab (by simp only [execOp,ho,u0,u1,Jg,Sg,Sf];go_simp) d ⟨iX c _ (by decide),rfl,kq⟩
   | 6,_=>
    intro o a' w' Dn l ho d h j k g c f;have u0:a'.eval (Z6 31)=Z7 (Z4 ⟨b,129,Z5⟩):=f 5 (g 5 (by decide));have x:Dn 14=false:=by
     cases e:Dn 14 with
     | false=>rfl
     | true=>exact absurd ((k 14 e).2 6 (by decide)) (by rw [j];decide)
    have I:w'.cell? ⟨b,129,Z5⟩=Z4 (Z8 Z9 (t:Int)):=(by rw [sn c x];exact p);exact ab (v:=Z8 Z9 (t:Int)) (by simp only [execOp,show o.op=Op.load 3 (Z6 31) from ho,u0];go_simp) d ⟨iX c 6 (by decide),rfl,kq⟩
   | 10,_=>
    intro o a' w' Dn l ho d h j k g c f;have u0:a'.eval (Z6 35)=Z7 (Z4 ⟨b,t*16,Z5⟩):=f 9 (g 9 (by decide));have x:Dn 14=false:=by
     cases e:Dn 14 with
     | false=>rfl
     | true=>exact absurd ((k 14 e).2 10 (by decide)) (by rw [j];decide)
    have F:=sn c x;have D:=CP (w:=w') (by rw [F];exact z);exact ab (v:=.agg (cG (m t)).toArray) (by simp [execOp,show o.op=Op.load 221 (Z6 35) from ho,u0,D]) d ⟨iX c 10 (by decide),rfl,kq⟩
   | 14,_=>
    intro o a' w' Dn l ho d h j k g c f;have u0:a'.eval (Z6 39)=Z7 (Z4 ⟨b,r*16,Z5⟩):=f 13 (g 13 (by decide));have u1:a'.eval (Z6 36)=.agg (cG (m t)).toArray:=f 10 (g 10 (by decide));have G:=sn c j;subst G;have E:=CQ (m:=m t) H;refine iQ (w':=(w.drew.setCells b (r*16) (cG (m t)))) (by simp [execOp,show o.op=Op.store 221 (Z6 39) (Z6 36) from ho,u0,u1,E]) ⟨?_,rfl,kq⟩;unfold MQ;rw [if_pos j6]
   | n+15,hn=>exact absurd hn (by show ¬ n+15<15;omega)
 . rintro a' w' s J ⟨Dn,B,c⟩ f;unfold MQ at c;rw [if_pos (B 14 (by decide))] at c;rw [c];exact C a' ⟨s.size,s.defers,s.slot⟩
end Go.Proofs.YtfbmmcnpjhmjaaaGreatDoor
