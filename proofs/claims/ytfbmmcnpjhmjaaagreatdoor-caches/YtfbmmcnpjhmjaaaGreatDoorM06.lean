import Derived.Laws.EntriesVeiled
import Derived.Test.YtfbmmcnpjhmjaaaGreatDoorM05
import Derived.RangeFuncRecord
set_option maxRecDepth 100000
set_option linter.defProp false
set_option maxHeartbeats 8000000
open Go.IntKind renaming i64 -> Z9, u64 -> Z8
open Go.Value renaming int -> Z7, pointer -> Z6, slice -> Z5, bool -> Z2, tuple -> Z0
open Go.Obj renaming cells -> Z4
open Go.Ending renaming returned -> Z3
open Go.Operand renaming tmp -> Z1
open Go renaming undef -> ZZ, World -> ZU, Value -> ZT, Calls -> ZR, Boxed -> ZQ
open Option renaming none -> ZY, some -> ZX
open Bool renaming true -> ZW, false -> ZV
open Go.RowKit renaming Below -> ZS
open List renaming range -> XG, getElem_mem -> XK, length_map -> XL, mem_filter -> XM, mem_map -> XN, length_append -> XO, mem_cons_of_mem -> XQ, nodup_cons -> XR, cons_append -> XS, mem_range -> XT, nil_append -> XU, getElem?_map -> XV, map_congr_left -> XW, mem_cons_self -> XX, getElem?_range -> XY, getD_eq_getElem?_getD -> X1, size_toArray -> X2, length_range -> X3, map_append -> X5, length_cons -> X7, map_cons -> X8, length_filter_le -> X9, length_nil -> Ya, push_toArray -> Yf, append_toArray -> Yg, getElem?_append_left -> Yh, take_succ_cons -> Yi, take_zero -> Yj, drop_succ_cons -> Yk, getElem?_append_right -> Yr, append_assoc -> Ys, range_succ -> Yt, mem_append -> Yu, getElem?_toArray -> Yx, drop_zero -> Yy, eq_nil_iff_forall_not_mem -> YA, foldl_append -> YB, filter_append -> YC, mem_flatten -> YF, mem_cons -> YG, getElem_of_mem -> YI, map_singleton -> YJ, mem_singleton -> YK, getElem?_take -> YM, getElem?_drop -> YN, length_take -> YO, append_nil -> YQ, getElem?_eq_getElem -> YS, eq_nil_of_length_eq_zero -> YW, take_length -> YX, getElem?_set -> YY, length_singleton -> YZ, take_succ_eq_append_getElem -> Y4, length_set -> Y5, mem_append_left -> Y7
open Nat renaming le_refl -> XH, le_trans -> XJ, reduceAdd -> Yb, reduceSub -> Yc, zero_le -> Yo, le_succ -> Yp, xor_zero -> Yw, two_pow_pos -> YD, mul_le_mul -> YH, le_succ_of_le -> YR, testBit_and -> YT, testBit_two_pow_sub_one -> YU, testBit_eq_decide_div_mod_eq -> Y3, add_sub_cancel_left -> Y8, pos_of_ne_zero -> Y9
open Array renaming getElem?_eq_some_iff -> XI, getElem?_eq_getElem -> X6, replicate_succ -> Yd, replicate_zero -> Ye, all_eq_true' -> Yn, size_modify -> Yq, getElem_modify_self -> YE, getD_eq_getD_getElem? -> YL, getElem?_eq_none -> YP
open Option renaming map_some -> XP, map_eq_some_iff -> X4, getD_some -> Ym
open Option.some renaming inj -> XZ, injEq -> X0
open Bool renaming and_eq_true_iff -> Yl, and_eq_true -> YV
open Prod.mk renaming injEq -> Yz
open Int renaming toNat_natCast -> Y6
open Go.Proofs.Tryz renaming prog -> ZP
open Go.Proofs.Tryz
namespace Go.Proofs.YtfbmmcnpjhmjaaaGreatDoor
open Go.RowKit Go.Deep Gf Go.Shelf
variable {a a':Act} {K:Act->ZU->Prop} {listed:Array Bool} {ops:Array Oper} {C C':Ck} {rec:Ck->Nat->Nat->cI->cI} {Q:Exit->Act->ZU->Prop} {F:Fence} {z regs room:Int} {M:List (List Nat)} {es:List (Nat×Nat×Nat)} {ns:List Nat} {rest:List Oper} {pre:List Sh} {lo hi b m l n B R i d h of q Bl p n0 D kept lost L G k Bg g' cap' gone sb:Nat} {Dn:Nat->Bool} {ed:Nat->List Nat} {ol nw:Nat->Nat} {S:Nat->Prop} {ob:Obj} {x:Op} {o:Oper} {row:Option Nat} {P:Program} {s sx:cI} {J:cI->ZU->Prop} {t:TypeId} {v y u steps ne:ZT} {w w1 w2 w' W W' X Y:ZU}
def dr (a:Act) (i:Nat) (v:ZT) (h:i<a.tmps.size):(a.put (ZX i) v).eval (.tmp i)=v:=by simp [Act.put,Act.eval,h]
def ai (a:Act) (i j:Nat) (v:ZT) (h:i≠j):(a.put (ZX i) v).eval (.tmp j)=a.eval (.tmp j):=by
 simp [Act.put,Act.eval,YL,h]
def MO (a:Act) (d:Option Nat) (v:ZT):(a.put d v).tmps.size=a.tmps.size:=by
 cases d<;>simp [Act.put]
def zg (b:o.guard=ZY):Region.wanted o (yielded ops a.tmps)=ZW:=by simp [Region.wanted,b]
structure jE (lo hi:Nat) (a a':Act):Prop where
 size:a'.tmps.size=a.tmps.size
 defers:a'.defers=a.defers
 slot:∀ s,s<lo\/hi<=s->a'.eval (.tmp s)=a.eval (.tmp s)
def jE.refl (lo hi:Nat) (a:Act):jE lo hi a a:=⟨rfl,rfl,λ_ _=>rfl⟩
def jE.put (h:jE lo hi a a') (d:Nat) (v:ZT) (c:lo<=d) (e:d<hi):jE lo hi a (a'.put (ZX d) v):=
 ⟨by rw [MO];exact h.size,h.defers,λs b=>by rw [ai _ _ _ _ (by omega)];exact h.slot s b⟩
def jE.none (h:jE lo hi a a') (v:ZT):jE lo hi a (a'.put ZY v):=h
def Md (w w1 w2:ZU) (Dn:Nat->Bool) (w':ZU):Prop:=w'=if Dn 25=ZW then (if Dn 29=ZW then w2 else w1) else w.drew
def dZ (h:Md w w1 w2 Dn w') (i:Nat) (a:25≠i) (b:29≠i):Md w w1 w2 (dR Dn i) w':=by unfold Md;rw [jB a,jB b];exact h
def lP (h:Md w w1 w2 Dn w') (a:Dn 25=ZV):w'=w.drew:=by
 unfold Md at h;rwa [if_neg (by rw [a];decide)] at h
def N7 (w w1:ZU) (Dn:Nat->Bool) (w':ZU):Prop:=w'=if Dn 14=ZW then w1 else w.drew
def jh (h:N7 w w1 Dn w') (i:Nat) (a:14≠i):N7 w w1 (dR Dn i) w':=by unfold N7;rw [jB a];exact h
def tB (h:N7 w w1 Dn w') (a:Dn 14=ZV):w'=w.drew:=by
 unfold N7 at h;rwa [if_neg (by rw [a];decide)] at h
def DO {o:Nat} {m:Nat->Nat} (h:w.rangeAt b o (cL m)):(Instr.loadAt 221 (Z6 (ZX ⟨b,o,ZY⟩))).run ZP w=.ok (.agg (cL m).toArray) w:=run_loadAt_mid (P:=ZP) w b o 221 (cL m) _ h underlying221 rfl (by simpa using Tryz.Ub _)
def DP {o:Nat} {m:Nat->Nat} (h:w.there b o 16):(Instr.storeAt 221 (Z6 (ZX ⟨b,o,ZY⟩)) (.agg (cL m).toArray)).run ZP w=.ok () (w.setCells b o (cL m)):=run_storeAt_mid (P:=ZP) w b o 221 (cL m).toArray (by simpa [jU] using h) (by simpa using Tryz.Ub _) (Ks _)
noncomputable def SJ:Array Oper:=((Tryz.f197.body.bind (mW · 4))).getD #[]
def Pc:List (Op×Option Nat×List Nat):=[(Op.move (Z1 0),ZX 15,[]),
 (Op.move (Z1 0),ZX 16,[]),
 (Op.nilCheck (Z1 16),ZX 17,[1]),
 (Op.fieldAddr 319 (Z1 17) 1,ZX 18,[2]),
 (Op.load 3 (Z1 18),ZX 19,[3]),
 (Op.move (Z1 0),ZX 20,[]),
 (Op.move (Z1 5),ZX 21,[]),
 (Op.move (Z1 0),ZX 22,[]),
 (Op.move (Z1 5),ZX 23,[]),
 (Op.nilCheck (Z1 22),ZX 24,[7]),
 (Op.fieldAddr 319 (Z1 24) 0,ZX 25,[9]),
 (Op.indexAddr 317 (Z1 25) (Z1 23),ZX 26,[10,8]),
 (Op.load 221 (Z1 26),ZX 27,[11]),
 (Op.move (Z1 0),ZX 28,[]),
 (Op.move (Z1 0),ZX 29,[]),
 (Op.nilCheck (Z1 29),ZX 30,[14]),
 (Op.fieldAddr 319 (Z1 30) 1,ZX 31,[15]),
 (Op.load 3 (Z1 31),ZX 32,[16]),
 (Op.nilCheck (Z1 28),ZX 33,[13]),
 (Op.fieldAddr 319 (Z1 33) 0,ZX 34,[18]),
 (Op.indexAddr 317 (Z1 34) (Z1 32),ZX 35,[19,17]),
 (Op.load 221 (Z1 35),ZX 36,[20]),
 (Op.nilCheck (Z1 15),ZX 37,[0]),
 (Op.fieldAddr 319 (Z1 37) 0,ZX 38,[22]),
 (Op.indexAddr 317 (Z1 38) (Z1 19),ZX 39,[23,4,0,1,2,3,4,7,8,9,10,11,12,17,21]),
 (Op.store 221 (Z1 39) (Z1 27),ZY,[24,12,0,1,2,3,4,7,8,9,10,11,12,17,21]),
 (Op.nilCheck (Z1 20),ZX 40,[5]),
 (Op.fieldAddr 319 (Z1 40) 0,ZX 41,[26]),
 (Op.indexAddr 317 (Z1 41) (Z1 21),ZX 42,[27,6,0,1,2,3,4,5,6,7,8,9,10,11,12,13,14,15,16,17,18,19,20,21,22,23,24,25]),
 (Op.store 221 (Z1 42) (Z1 36),ZY,[28,21,25,0,1,2,3,4,5,6,7,8,9,10,11,12,13,14,15,16,17,18,19,20,21,22,23,24,25])]
def GN:aN SJ 15 43 Pc:=bx (by kernel_rfl) (by kernel_rfl)
def Ku (b r t:Nat) (m:Nat->Nat->Nat):List ZT:=[Z6 (ZX ⟨b,0,ZY⟩),Z6 (ZX ⟨b,0,ZY⟩),Z6 (ZX ⟨b,0,ZY⟩),Z6 (ZX ⟨b,128,ZY⟩),Z7 Z9 (t:Int),Z6 (ZX ⟨b,0,ZY⟩),Z7 Z9 (r:Int),Z6 (ZX ⟨b,0,ZY⟩),Z7 Z9 (r:Int),Z6 (ZX ⟨b,0,ZY⟩),Z6 (ZX ⟨b,0,ZY⟩),Z6 (ZX ⟨b,r*16,ZY⟩),.agg (cL (m r)).toArray,Z6 (ZX ⟨b,0,ZY⟩),Z6 (ZX ⟨b,0,ZY⟩),Z6 (ZX ⟨b,0,ZY⟩),Z6 (ZX ⟨b,128,ZY⟩),Z7 Z9 (t:Int),Z6 (ZX ⟨b,0,ZY⟩),Z6 (ZX ⟨b,0,ZY⟩),Z6 (ZX ⟨b,t*16,ZY⟩),.agg (cL (m t)).toArray,Z6 (ZX ⟨b,0,ZY⟩),Z6 (ZX ⟨b,0,ZY⟩),Z6 (ZX ⟨b,t*16,ZY⟩),ZZ,Z6 (ZX ⟨b,0,ZY⟩),Z6 (ZX ⟨b,0,ZY⟩),Z6 (ZX ⟨b,r*16,ZY⟩),ZZ]
theorem Bb (b r t:Nat) (m:Nat->Nat->Nat) (R:r<8) (S:t<8) (p:w.drew.cell? ⟨b,128,ZY⟩=ZX (Z7 Z9 (t:Int)))
 (G:w.drew.rangeAt b (r*16) (cL (m r))) (H:w.drew.rangeAt b (t*16) (cL (m t))) (L:w.drew.there b (r*16) 16) (tt:w.drew.there b (t*16) 16) (I:SJ=ops) (O:a.tmps.size=64)
 (s:a.eval (Z1 0)=Z6 (ZX ⟨b,0,ZY⟩)) (C:a.eval (Z1 5)=Z7 Z9 (r:Int))
 (J:∀ a',jE 15 43 a a'->Q .normal a' ((w.drew.setCells b (t*16) (cL (m r))).setCells b (r*16) (cL (m t)))):(Code.region 4 ops ZW).wp ZP Q a w:=by
 subst I;have N:(r:Int)<8:=by omega
 have P:(t:Int)<8:=by omega
 refine cU (by kernel_rfl) GN a w (by omega) (λi u _=>u=(Ku b r t m).getD i ZZ) (Md w (w.drew.setCells b (t*16) (cL (m r))) ((w.drew.setCells b (t*16) (cL (m r))).setCells b (r*16) (cL (m t)))) rfl ?_ ?_
 . intro i hi;match i,hi with
   | 0,_=>
    intro o a' w' Dn l ho d h j k f c g;have u0:a'.eval (Z1 0)=Z6 (ZX ⟨b,0,ZY⟩):=(h.slot 0 (by omega)).trans s;exact ae (ag ho u0 w') d ⟨dZ c 0 (by decide) (by decide),rfl,kq⟩
   | 1,_=>
    intro o a' w' Dn l ho d h j k f c g;have u0:a'.eval (Z1 0)=Z6 (ZX ⟨b,0,ZY⟩):=(h.slot 0 (by omega)).trans s;exact ae (ag ho u0 w') d ⟨dZ c 1 (by decide) (by decide),rfl,kq⟩
   | 2,_|3,_|9,_|10,_|15,_|16,_|18,_|19,_|22,_|23,_|26,_|27,_=>
    intro o a' w' Dn l ho d h j k f c g;have u0:=g _ (f _ (.head _));simp only [Pc,Ku,bZ,cT,pM,pL] at ho u0;exact ae (by simp only [execOp,ho,u0,Ku,pM,pL];go_simp) d ⟨dZ c _ (by decide) (by decide),rfl,kq⟩
   | 11,_|20,_|24,_|28,_=>
    intro o a' w' Dn l ho d h j k f c g;have u0:=g _ (f _ (.head _));have u1:=g _ (f _ (.tail _ (.head _)));simp only [Pc,Ku,bZ,cT,pM,pL] at ho u0 u1;exact ae (by simp only [execOp,ho,u0,u1,Ku,pM,pL];go_simp) d ⟨dZ c _ (by decide) (by decide),rfl,kq⟩
   | 4,_=>
    intro o a' w' Dn l ho d h j k f c g;have u0:a'.eval (Z1 18)=Z6 (ZX ⟨b,128,ZY⟩):=g 3 (f 3 (by decide));have q:Dn 25=ZV:=by
     cases e:Dn 25 with
     | false=>rfl
     | true=>exact absurd ((k 25 e).2 4 (by decide)) (by rw [j];decide)
    have F:w'.cell? ⟨b,128,ZY⟩=ZX (Z7 Z9 (t:Int)):=(by rw [lP c q];exact p);exact ae (v:=Z7 Z9 (t:Int)) (by simp only [execOp,show o.op=Op.load 3 (Z1 18) from ho,u0];go_simp) d ⟨dZ c 4 (by decide) (by decide),rfl,kq⟩
   | 5,_=>
    intro o a' w' Dn l ho d h j k f c g;have u0:a'.eval (Z1 0)=Z6 (ZX ⟨b,0,ZY⟩):=(h.slot 0 (by omega)).trans s;exact ae (ag ho u0 w') d ⟨dZ c 5 (by decide) (by decide),rfl,kq⟩
   | 6,_=>
    intro o a' w' Dn l ho d h j k f c g;have u0:a'.eval (Z1 5)=Z7 Z9 (r:Int):=(h.slot 5 (by omega)).trans C;exact ae (ag ho u0 w') d ⟨dZ c 6 (by decide) (by decide),rfl,kq⟩
   | 7,_=>
    intro o a' w' Dn l ho d h j k f c g;have u0:a'.eval (Z1 0)=Z6 (ZX ⟨b,0,ZY⟩):=(h.slot 0 (by omega)).trans s;exact ae (ag ho u0 w') d ⟨dZ c 7 (by decide) (by decide),rfl,kq⟩
   | 8,_=>
    intro o a' w' Dn l ho d h j k f c g;have u0:a'.eval (Z1 5)=Z7 Z9 (r:Int):=(h.slot 5 (by omega)).trans C;exact ae (ag ho u0 w') d ⟨dZ c 8 (by decide) (by decide),rfl,kq⟩
   | 12,_=>
    intro o a' w' Dn l ho d h j k f c g;have u0:a'.eval (Z1 26)=Z6 (ZX ⟨b,r*16,ZY⟩):=g 11 (f 11 (by decide));have q:Dn 25=ZV:=by
     cases e:Dn 25 with
     | false=>rfl
     | true=>exact absurd ((k 25 e).2 12 (by decide)) (by rw [j];decide)
    have B:=lP c q;have z:=DO (w:=w') (by rw [B];exact G);exact ae (v:=.agg (cL (m r)).toArray) (by simp [execOp,show o.op=Op.load 221 (Z1 26) from ho,u0,z]) d ⟨dZ c 12 (by decide) (by decide),rfl,kq⟩
   | 13,_=>
    intro o a' w' Dn l ho d h j k f c g;have u0:a'.eval (Z1 0)=Z6 (ZX ⟨b,0,ZY⟩):=(h.slot 0 (by omega)).trans s;exact ae (ag ho u0 w') d ⟨dZ c 13 (by decide) (by decide),rfl,kq⟩
   | 14,_=>
    intro o a' w' Dn l ho d h j k f c g;have u0:a'.eval (Z1 0)=Z6 (ZX ⟨b,0,ZY⟩):=(h.slot 0 (by omega)).trans s;exact ae (ag ho u0 w') d ⟨dZ c 14 (by decide) (by decide),rfl,kq⟩
   | 17,_=>
    intro o a' w' Dn l ho d h j k f c g;have u0:a'.eval (Z1 31)=Z6 (ZX ⟨b,128,ZY⟩):=g 16 (f 16 (by decide));have q:Dn 25=ZV:=by
     cases e:Dn 25 with
     | false=>rfl
     | true=>exact absurd ((k 25 e).2 17 (by decide)) (by rw [j];decide)
    have F:w'.cell? ⟨b,128,ZY⟩=ZX (Z7 Z9 (t:Int)):=(by rw [lP c q];exact p);exact ae (v:=Z7 Z9 (t:Int)) (by simp only [execOp,show o.op=Op.load 3 (Z1 31) from ho,u0];go_simp) d ⟨dZ c 17 (by decide) (by decide),rfl,kq⟩
   | 21,_=>
    intro o a' w' Dn l ho d h j k f c g;have u0:a'.eval (Z1 35)=Z6 (ZX ⟨b,t*16,ZY⟩):=g 20 (f 20 (by decide));have q:Dn 25=ZV:=by
     cases e:Dn 25 with
     | false=>rfl
     | true=>exact absurd ((k 25 e).2 21 (by decide)) (by rw [j];decide)
    have B:=lP c q;have z:=DO (w:=w') (by rw [B];exact H);exact ae (v:=.agg (cL (m t)).toArray) (by simp [execOp,show o.op=Op.load 221 (Z1 35) from ho,u0,z]) d ⟨dZ c 21 (by decide) (by decide),rfl,kq⟩
   | 25,_=>
    intro o a' w' Dn l ho d h j k f c g;have u0:a'.eval (Z1 39)=Z6 (ZX ⟨b,t*16,ZY⟩):=g 24 (f 24 (by decide));have u1:a'.eval (Z1 27)=.agg (cL (m r)).toArray:=g 12 (f 12 (by decide));have x:=lP c j;subst x;have A:=DP (m:=m r) tt;refine ja (w':=(w.drew.setCells b (t*16) (cL (m r)))) (by simp [execOp,show o.op=Op.store 221 (Z1 39) (Z1 27) from ho,u0,u1,A]) ⟨?_,rfl,kq⟩;have K:Dn 29=ZV:=by
     cases e:Dn 29 with
     | false=>rfl
     | true=>exact absurd ((k 29 e).2 25 (by decide)) (by rw [j];decide)
    unfold Md;rw [if_pos kI,jB (by decide),if_neg (by rw [K];decide)]
   | 29,_=>
    intro o a' w' Dn l ho d h j k f c g;have u0:a'.eval (Z1 42)=Z6 (ZX ⟨b,r*16,ZY⟩):=g 28 (f 28 (by decide));have u1:a'.eval (Z1 36)=.agg (cL (m t)).toArray:=g 21 (f 21 (by decide));have D:=f 25 (by decide);have x:w'=(w.drew.setCells b (t*16) (cL (m r))):=by
     have:=c;unfold Md at this;rwa [if_pos D,if_neg (by rw [j];decide)] at this
    have A:=DP (w:=w') (m:=m t) (b:=b) (o:=r*16) (by rw [x];exact World.there_setCells L _ _ _);refine ja (w':=w'.setCells b (r*16) (cL (m t))) (by simp [execOp,show o.op=Op.store 221 (Z1 42) (Z1 36) from ho,u0,u1,A]) ⟨?_,rfl,kq⟩;unfold Md;rw [jB (by decide),if_pos D,if_pos kI,x]
   | n+30,hn=>exact absurd hn (by show ¬ n+30<30;omega)
 . rintro a' w' y M ⟨Dn,E,c⟩ g;unfold Md at c;rw [if_pos (E 25 (by decide)),if_pos (E 29 (by decide))] at c;rw [c];exact J a' ⟨y.size,y.defers,y.slot⟩
noncomputable def SK:Array Oper:=((Tryz.f213.body.bind (mW · 6))).getD #[]
def Pd:List (Op×Option Nat×List Nat):=[(Op.move (Z1 0),ZX 26,[]),
 (Op.move (Z1 5),ZX 27,[]),
 (Op.move (Z1 0),ZX 28,[]),
 (Op.move (Z1 0),ZX 29,[]),
 (Op.nilCheck (Z1 29),ZX 30,[3]),
 (Op.fieldAddr 319 (Z1 30) 2,ZX 31,[4]),
 (Op.load 3 (Z1 31),ZX 32,[5]),
 (Op.nilCheck (Z1 28),ZX 33,[2]),
 (Op.fieldAddr 319 (Z1 33) 0,ZX 34,[7]),
 (Op.indexAddr 317 (Z1 34) (Z1 32),ZX 35,[8,6]),
 (Op.load 221 (Z1 35),ZX 36,[9]),
 (Op.nilCheck (Z1 26),ZX 37,[0]),
 (Op.fieldAddr 319 (Z1 37) 0,ZX 38,[11]),
 (Op.indexAddr 317 (Z1 38) (Z1 27),ZX 39,[12,1,0,1,2,3,4,5,6,7,8,9,10]),
 (Op.store 221 (Z1 39) (Z1 36),ZY,[13,10,0,1,2,3,4,5,6,7,8,9,10])]
def GO:aN SK 26 40 Pd:=bx (by kernel_rfl) (by kernel_rfl)
def Kv (b r t:Nat) (m:Nat->Nat->Nat):List ZT:=[Z6 (ZX ⟨b,0,ZY⟩),Z7 Z9 (r:Int),Z6 (ZX ⟨b,0,ZY⟩),Z6 (ZX ⟨b,0,ZY⟩),Z6 (ZX ⟨b,0,ZY⟩),Z6 (ZX ⟨b,129,ZY⟩),Z7 Z9 (t:Int),Z6 (ZX ⟨b,0,ZY⟩),Z6 (ZX ⟨b,0,ZY⟩),Z6 (ZX ⟨b,t*16,ZY⟩),.agg (cL (m t)).toArray,Z6 (ZX ⟨b,0,ZY⟩),Z6 (ZX ⟨b,0,ZY⟩),Z6 (ZX ⟨b,r*16,ZY⟩),ZZ]
theorem MP (b r t:Nat) (m:Nat->Nat->Nat) (N:r<8) (O:t<8) (p:w.drew.cell? ⟨b,129,ZY⟩=ZX (Z7 Z9 (t:Int)))
 (z:w.drew.rangeAt b (t*16) (cL (m t))) (H:w.drew.there b (r*16) 16) (A:SK=ops) (L:a.tmps.size=40)
 (q:a.eval (Z1 0)=Z6 (ZX ⟨b,0,ZY⟩)) (y:a.eval (Z1 5)=Z7 Z9 (r:Int))
 (C:∀ a',jE 26 40 a a'->Q .normal a' (w.drew.setCells b (r*16) (cL (m t)))):(Code.region 6 ops ZW).wp ZP Q a w:=by
 subst A;have K:(r:Int)<8:=by omega
 have M:(t:Int)<8:=by omega
 refine cU (by kernel_rfl) GO a w (by omega) (λi u _=>u=(Kv b r t m).getD i ZZ) (N7 w (w.drew.setCells b (r*16) (cL (m t)))) rfl ?_ ?_
 . intro i hi;match i,hi with
   | 0,_=>
    intro o a' w' Dn l ho d h j k g c f;have u0:a'.eval (Z1 0)=Z6 (ZX ⟨b,0,ZY⟩):=(h.slot 0 (by omega)).trans q;exact ae (ag ho u0 w') d ⟨jh c 0 (by decide),rfl,kq⟩
   | 1,_=>
    intro o a' w' Dn l ho d h j k g c f;have u0:a'.eval (Z1 5)=Z7 Z9 (r:Int):=(h.slot 5 (by omega)).trans y;exact ae (ag ho u0 w') d ⟨jh c 1 (by decide),rfl,kq⟩
   | 2,_=>
    intro o a' w' Dn l ho d h j k g c f;have u0:a'.eval (Z1 0)=Z6 (ZX ⟨b,0,ZY⟩):=(h.slot 0 (by omega)).trans q;exact ae (ag ho u0 w') d ⟨jh c 2 (by decide),rfl,kq⟩
   | 3,_=>
    intro o a' w' Dn l ho d h j k g c f;have u0:a'.eval (Z1 0)=Z6 (ZX ⟨b,0,ZY⟩):=(h.slot 0 (by omega)).trans q;exact ae (ag ho u0 w') d ⟨jh c 3 (by decide),rfl,kq⟩
   | 4,_|5,_|7,_|8,_|11,_|12,_=>
    intro o a' w' Dn l ho d h j k g c f;have u0:=f _ (g _ (.head _));simp only [Pd,Kv,bZ,cT,pM,pL] at ho u0;exact ae (by simp only [execOp,ho,u0,Kv,pM,pL];go_simp) d ⟨jh c _ (by decide),rfl,kq⟩
   | 9,_|13,_=>
    intro o a' w' Dn l ho d h j k g c f;have u0:=f _ (g _ (.head _));have u1:=f _ (g _ (.tail _ (.head _)));simp only [Pd,Kv,bZ,cT,pM,pL] at ho u0 u1;exact ae (by simp only [execOp,ho,u0,u1,Kv,pM,pL];go_simp) d ⟨jh c _ (by decide),rfl,kq⟩
   | 6,_=>
    intro o a' w' Dn l ho d h j k g c f;have u0:a'.eval (Z1 31)=Z6 (ZX ⟨b,129,ZY⟩):=f 5 (g 5 (by decide));have x:Dn 14=ZV:=by
     cases e:Dn 14 with
     | false=>rfl
     | true=>exact absurd ((k 14 e).2 6 (by decide)) (by rw [j];decide)
    have I:w'.cell? ⟨b,129,ZY⟩=ZX (Z7 Z9 (t:Int)):=(by rw [tB c x];exact p);exact ae (v:=Z7 Z9 (t:Int)) (by simp only [execOp,show o.op=Op.load 3 (Z1 31) from ho,u0];go_simp) d ⟨jh c 6 (by decide),rfl,kq⟩
   | 10,_=>
    intro o a' w' Dn l ho d h j k g c f;have u0:a'.eval (Z1 35)=Z6 (ZX ⟨b,t*16,ZY⟩):=f 9 (g 9 (by decide));have x:Dn 14=ZV:=by
     cases e:Dn 14 with
     | false=>rfl
     | true=>exact absurd ((k 14 e).2 10 (by decide)) (by rw [j];decide)
    have F:=tB c x;have D:=DO (w:=w') (by rw [F];exact z);exact ae (v:=.agg (cL (m t)).toArray) (by simp [execOp,show o.op=Op.load 221 (Z1 35) from ho,u0,D]) d ⟨jh c 10 (by decide),rfl,kq⟩
   | 14,_=>
    intro o a' w' Dn l ho d h j k g c f;have u0:a'.eval (Z1 39)=Z6 (ZX ⟨b,r*16,ZY⟩):=f 13 (g 13 (by decide));have u1:a'.eval (Z1 36)=.agg (cL (m t)).toArray:=f 10 (g 10 (by decide));have G:=tB c j;subst G;have E:=DP (m:=m t) H;refine ja (w':=(w.drew.setCells b (r*16) (cL (m t)))) (by simp [execOp,show o.op=Op.store 221 (Z1 39) (Z1 36) from ho,u0,u1,E]) ⟨?_,rfl,kq⟩;unfold N7;rw [if_pos kI]
   | n+15,hn=>exact absurd hn (by show ¬ n+15<15;omega)
 . rintro a' w' s J ⟨Dn,B,c⟩ f;unfold N7 at c;rw [if_pos (B 14 (by decide))] at c;rw [c];exact C a' ⟨s.size,s.defers,s.slot⟩
theorem jE.split (b:jE lo hi a a') (p:lo<=hi) (q:hi<=a.tmps.size) :
 ∃ l:List ZT,l.length=hi-lo/\a'={ tmps:=(a.tmps.toList.take lo++(l++a.tmps.toList.drop hi)).toArray,defers:=a.defers }:=by
 have f:∀ (x:Act) (s:Nat),s<x.tmps.size->x.tmps[s]?=ZX (x.eval (.tmp s)):=λx s g=>by
  simp [Act.eval,YL,g]
 refine ⟨(a'.tmps.toList.drop lo).take (hi-lo),?_,?_⟩
 . have:=b.size;simp;omega
 . obtain ⟨c,o⟩:=a';have g:=b.size;have j:=b.defers;simp only at g j;subst j;congr 1;apply Array.ext_getElem?;intro i;simp only [Yx,List.getElem?_append,YM,YN,YO,List.length_drop,Array.length_toList,Array.getElem?_toList];by_cases c1:i<lo
   . rw [if_pos (by omega),if_pos c1];have e:=b.slot i (.inl c1);have d:=f ⟨c,a.defers⟩ i (by show i<c.size;omega);have h:=f a i (by omega);simp only at d;rw [d,h,e]
   . by_cases n:i<hi
     . rw [if_neg (by omega),if_pos (by omega),if_pos (by omega),show lo+(i-min lo a.tmps.size)=i by omega]
     . rw [if_neg (by omega),if_neg (by omega)];have m:hi+(i-min lo a.tmps.size-min (hi-lo) (c.size-lo))=i:=(by omega);rw [m];by_cases k:i<a.tmps.size
       . have e:=b.slot i (.inr (by omega));have d:=f ⟨c,a.defers⟩ i (by show i<c.size;omega);have h:=f a i k;simp only at d;rw [d,h,e]
       . rw [YP (by omega),YP (by omega)]
def QN {l:List ZT} (h:l.length=9):∃ u0 u1 u2 u3 u4 u5 u6 u7 u8,l=[u0,u1,u2,u3,u4,u5,u6,u7,u8]:=by
 match l,h with
 | [u0,u1,u2,u3,u4,u5,u6,u7,u8],_=>exact ⟨u0,u1,u2,u3,u4,u5,u6,u7,u8,rfl⟩
def QO {l:List ZT} (h:l.length=14):∃ u0 u1 u2 u3 u4 u5 u6 u7 u8 u9 u10 u11 u12 u13,l=[u0,u1,u2,u3,u4,u5,u6,u7,u8,u9,u10,u11,u12,u13]:=by
 match l,h with
 | [u0,u1,u2,u3,u4,u5,u6,u7,u8,u9,u10,u11,u12,u13],_=>exact ⟨u0,u1,u2,u3,u4,u5,u6,u7,u8,u9,u10,u11,u12,u13,rfl⟩
def QP {l:List ZT} (h:l.length=28):∃ u0 u1 u2 u3 u4 u5 u6 u7 u8 u9 u10 u11 u12 u13 u14 u15 u16 u17 u18 u19 u20 u21 u22 u23 u24 u25 u26 u27,l=[u0,u1,u2,u3,u4,u5,u6,u7,u8,u9,u10,u11,u12,u13,u14,u15,u16,u17,u18,u19,u20,u21,u22,u23,u24,u25,u26,u27]:=by
 match l,h with
 | [u0,u1,u2,u3,u4,u5,u6,u7,u8,u9,u10,u11,u12,u13,u14,u15,u16,u17,u18,u19,u20,u21,u22,u23,u24,u25,u26,u27],_=>exact ⟨u0,u1,u2,u3,u4,u5,u6,u7,u8,u9,u10,u11,u12,u13,u14,u15,u16,u17,u18,u19,u20,u21,u22,u23,u24,u25,u26,u27,rfl⟩
theorem Bd (b i:Nat) (C:Ck) (w:ZU) (j:aF w b C) (k:dY C) (hi:i<16) :
 ZR ZP 213 #[Z6 (ZX ⟨b,0,ZY⟩),Z7 Z9 i] w λe w'=>
  (iC C i=ZY/\e=Z3 (Z2 ZV)/\w'=w)\/(∃ C',iC C i=ZX C'/\e=Z3 (Z2 ZW)/\aF w' b C'/\w.grownBy w' (ZX b)):=by
 go_enter func213,ntmps213;go_wp2_with fail;refine (wL b i C w j k hi).mono ?_;rintro e w1 ⟨rfl,I⟩;subst I;cases h3:dX C i with
 | none=>
  have g:Hid (iC C i=ZY):=hide (by unfold iC;rw [h3];rfl);simp only [QL];clear h3;go_wp2;go_ret;exact .inl ⟨g.out,rfl,rfl⟩
 | some r=>
  obtain ⟨K,L,M⟩:=eK h3;have g:Hid (iC C i=ZX (gW C i r)):=hide (by unfold iC;rw [h3];rfl);have J:=k.T2;simp only [QL];clear h3;go_wp2_with fail;refine (wO b r i C _ j k (by omega) hi).mono ?_;rintro e w2 ⟨rfl,d,h⟩;have o:=d.Ui;have A:=d.frozen 129;have q:(lN C C.count r i).count=C.count:=rfl;rw [q] at o;have c:=wP d (C.count-1);have a:=fp h 129 (Z7 Z9 ((C.count-1:Nat):Int));have H:wrap64 ((C.count:Int)-1)=((C.count-1:Nat):Int):=by unfold wrap64;omega
  have B:IntKind.i64.wrap ((C.count:Int)-1)=((C.count-1:Nat):Int):=by rw [IntKind.wrap_i64];omega
  obtain ⟨f,s⟩:=nM (w2.setCell ⟨b,129,ZY⟩ (Z7 Z9 ((C.count-1:Nat):Int)));rw [s] at c a;have D:=hide d;have F:=hide h;have E:=hide c;have G:=hide a;have z:=c.Ui;have n:=hide (zf (show aF f.drew b _ from c) r (by omega) ((lN C C.count r i).m (C.count-1)));have p:Hid (w1.grownBy (f.drew.setCells b (r*16) (cL ((lN C C.count r i).m (C.count-1)))) (ZX b)):=hide (oT _ _ _ _ ⟨a.os,a.tape,a.output,a.size,a.block⟩);have x:=hide (kK (show aF f.drew b _ from c) (C.count-1) (by omega));have y:=hide (tz (show aF f.drew b _ from c) r (by omega));clear d h c a j;go_wp2;clear s o A H B q D F E G;refine MP b r (C.count-1) (lN C C.count r i).m (by omega) (by omega) z x.out y.out (by kernel_rfl) rfl rfl rfl ?_;intro a' u;obtain ⟨l,v,rfl⟩:=u.split (by decide) (by simp);clear u;obtain ⟨u0,u1,u2,u3,u4,u5,u6,u7,u8,u9,u10,u11,u12,u13,rfl⟩:=QO v;clear v;simp only [Yi,Yj,Yk,XS,XU,List.drop_nil,YQ];obtain ⟨N,t⟩:=nM (f.drew.setCells b (r*16) (cL ((lN C C.count r i).m (C.count-1))));rw [t] at n p ⊢;clear t;go_wp2;go_ret;exact .inr ⟨_,g.out,rfl,n.out,p.out⟩
theorem Kw (m:Nat->Nat->Nat) (t r:Nat):vG (vG m t (m r)) r (m t)=bV m t r:=by
 funext k;unfold vG bV;by_cases b:k=r
 . rw [if_pos b];by_cases a:k=t
   . rw [if_pos a,<- b,<- a]
   . rw [if_neg a,if_pos b]
 . rw [if_neg b];by_cases a:k=t
   . rw [if_pos a,if_pos a]
   . rw [if_neg a,if_neg a,if_neg b]
theorem tC (b i:Nat) (C:Ck) (w:ZU) (a:aF w b C) (c:dY C) (hi:i<16) :
 ZR ZP 197 #[Z6 (ZX ⟨b,0,ZY⟩),Z7 Z9 i] w λe w'=>
  (ku C i=ZY/\e=Z3 (Z2 ZV)/\w'=w)\/(∃ C',ku C i=ZX C'/\e=Z3 (Z2 ZW)/\aF w' b C'/\w.grownBy w' (ZX b)):=by
 go_enter func197,ntmps197;go_wp2_with fail;refine (wL b i C w a c hi).mono ?_;rintro e w1 ⟨rfl,P⟩;subst P;cases h4:dX C i with
 | none=>
  have h:Hid (ku C i=ZY):=hide (by unfold ku;rw [h4];rfl);simp only [QL];clear h4;go_wp2;go_ret;exact .inl ⟨h.out,rfl,rfl⟩
 | some r=>
  obtain ⟨W,X,Y⟩:=eK h4;have h:Hid (ku C i=ZX (jx C i r)):=hide (by unfold ku;rw [h4];rfl);have T:=c.T2;simp only [QL];clear h4;have d:=a.Uh;have u:=zf (zf (show aF w1.drew b _ from a) C.told (by omega) (C.m r)) r (by omega) (C.m C.told);have s:(⟨vG (vG C.m C.told (C.m r)) r (C.m C.told),C.told,C.count⟩:Ck)=⟨bV C.m C.told r,C.told,C.count⟩:=by rw [Kw]
  have v:aF ((w1.drew.setCells b (C.told*16) (cL (C.m r))).setCells b (r*16) (cL (C.m C.told))) b ⟨bV C.m C.told r,C.told,C.count⟩:=by rw [<- s];exact u
  have D:w1.grownBy ((w1.drew.setCells b (C.told*16) (cL (C.m r))).setCells b (r*16) (cL (C.m C.told))) (ZX b):=
   oT _ _ _ _ (oT _ _ _ _ ⟨rfl,rfl,rfl,XH _,λ_ _ _=>rfl⟩)
  have f:=hide v;have k:=hide D;have o:=hide (kK (show aF w1.drew b _ from a) r (by omega));have A:=hide (kK (show aF w1.drew b _ from a) C.told (by omega));have p:=hide (tz (show aF w1.drew b _ from a) r (by omega));have B:=hide (tz (show aF w1.drew b _ from a) C.told (by omega));clear u s v D a;go_wp2;refine Bb b r C.told C.m (by omega) (by omega) d o.out A.out p.out B.out (by kernel_rfl) rfl rfl rfl ?_;intro a' G;obtain ⟨l,H,rfl⟩:=G.split (by decide) (by simp);clear G o A p B;obtain ⟨u0,u1,u2,u3,u4,u5,u6,u7,u8,u9,u10,u11,u12,u13,u14,u15,u16,u17,u18,u19,u20,u21,u22,u23,u24,u25,u26,u27,rfl⟩:=QP H;clear H;simp only [Yi,Yj,Yk,Yy,XS,XU];obtain ⟨w2,K⟩:=nM ((w1.drew.setCells b (C.told*16) (cL (C.m r))).setCells b (r*16) (cL (C.m C.told)));rw [K] at f k ⊢;clear K d;have d:=f.out.Uh;have O:dY ⟨bV C.m C.told r,C.told,C.count⟩:=⟨fR c.byt,c.le,c.T2⟩;go_wp2_with fail;refine (A8 b C.told i _ _ f.out O (by omega) hi).mono ?_;rintro e Z ⟨rfl,n,F⟩;have Q:dY ⟨dS (bV C.m C.told r) C.told i,C.told,C.count⟩:=⟨ny (fR c.byt),c.le,c.T2⟩;have t:=gu k.out F;have j:=n.Uh;have y:=hide n;have z:=hide t;clear n F t d f k;go_wp2_with fail;refine (wO b C.told i _ _ y.out Q (by omega) hi).mono ?_;rintro e R ⟨rfl,g,I⟩;have x:=gu z.out I;have E:=Kt g (C.told+1);have J:=fp x 128 (Z7 Z9 ((C.told+1:Nat):Int));have q:=g.Uh;have S:=g.frozen 128;have L:R.cell? ⟨b,128,ZY⟩=ZX (Z7 Z9 (C.told:Int)):=q;have V:wrap64 ((C.told:Int)+1)=((C.told+1:Nat):Int):=by unfold wrap64;omega
  have U:IntKind.i64.wrap ((C.told:Int)+1)=((C.told+1:Nat):Int):=by rw [IntKind.wrap_i64];omega
  have M:=hide E;have N:=hide J;clear g I x E J q j y z;go_wp2;go_ret;exact .inr ⟨_,h.out,rfl,M.out,N.out⟩
def aY (C:Ck):Array ZT:=((XG 130).map (od C)).toArray
def bf (C:Ck):(aY C).size=130:=by unfold aY;rw [X2,XL,X3]
def zh (C:Ck) (i:Nat) (hi:i<130):(aY C)[i]?=ZX (od C i):=by
 unfold aY;rw [Yx,XV,XY hi];rfl
def Tryz.VD:(ZP.info? 319).map (λi=>i.size)=ZX 130:=by kernel_rfl
def ez (C:Ck):(ZP.info? 319).map (λi=>i.size)=ZX (aY C).size:=by rw [bf];exact Tryz.VD
theorem MQ (C:Ck) (i:Nat):(od C i).oneCell'=ZW:=by
 unfold od;split
 . rfl
 . split<;>rfl
def oW (C:Ck):(aY C).all (λv=>v.oneCell')=ZW:=by
 rw [Array.all_eq_true];intro i hi;have:=zh C i (by rw [<- bf C];exact hi);rw [X6 hi] at this;rw [XZ this];exact MQ C i
theorem aF.heap (h:aF w b C):w.heap[b]?=ZX (Z4 (aY C) 319 (0,0)):=by
 obtain ⟨c,j,l,k⟩:=h;have e:c=aY C:=by
  apply Array.ext
  . rw [l,bf]
  . intro i f g;have a:=k i (by omega);have d:=zh C i (by omega);rw [X6 f] at a;rw [X6 g] at d;rw [XZ a,XZ d]
 rw [<- e];exact j
def aF.of_heap (h:w.heap[b]?=ZX (Z4 (aY C) 319 (0,0))):aF w b C:=⟨_,h,bf C,λi hi=>zh C i hi⟩
def aF.new (w:ZU) (C:Ck):aF (w.alloc (Z4 (aY C) 319)) w.heap.size C:=aF.of_heap (World.alloc_heap_new w _)
def aF.lt (h:aF w b C):b<w.heap.size:=(XI.1 h.heap).1
def aF.keep (h:aF w b C) (e:w'.heap[b]?=w.heap[b]?):aF w' b C:=aF.of_heap (e.trans h.heap)
def aF.setRow (C:Ck) (h:aF w b C'):aF (w.setRow b (aY C)) b C:=aF.of_heap (setRow_heap w b (aY C') (aY C) _ _ h.heap)
def aR (w:ZU) (b:Nat) (cs:Array ZT):w.grownBy (w.setRow b cs) (ZX b):=
 ⟨rfl,rfl,rfl,by simp,λk _ a=>by
  have:b≠k:=λe=>a (by rw [e]);simp [World.setRow,Array.getElem?_modify,this]⟩
def mB (h:aF w b C):(Instr.loadAt 319 (Z6 (ZX ⟨b,0,ZY⟩))).run ZP w=.ok (.agg (aY C)) w:=by
 simp only [Instr.loadAt,Instr.sureAddr,Sem.run_bind,Sem.run_pure,Result.andThen_ok,run_loadVar_row w b 319 319 (aY C) (0,0) _ h.heap underlying319 rfl (ez C)]
def nH (C:Ck) (h:aF w b C'):(Instr.storeAt 319 (Z6 (ZX ⟨b,0,ZY⟩)) (.agg (aY C))).run ZP w=.ok () (w.setRow b (aY C)):=by
 simp only [Instr.storeAt,Instr.sureAddr,Sem.run_bind,Sem.run_pure,Result.andThen_ok,run_storeVar_row w b 319 319 (aY C') (aY C) h.heap (ez C) (by rw [bf,bf]) (oW C)]
def kM (f:o.guard=ZY) (x:Operand) (ho:o.op=.load 319 x) (b:Nat) (C:Ck)
 (g:a.eval x=Z6 (ZX ⟨b,0,ZY⟩)) (e:aF w b C) (h:wpListIn F n ZP ops Q rest (a.put o.dst (.agg (aY C))) w):wpListIn F n ZP ops Q (o::rest) a w:=by
 refine wpListIn_plain f λK hK=>?_;unfold Oper.wpIn;refine ⟨by simp [Oper.about,ho],?_⟩;rw [Oper.semAt_plain F _ _ (by rw [ho];intro c d;cases d)];simp [execOp,ho,g,mB e,Result.andThen];exact hK _ _ h
def jW (f:o.guard=ZY) (x y:Operand) (ho:o.op=.store 319 x y) (b:Nat) (C C':Ck)
 (g:a.eval x=Z6 (ZX ⟨b,0,ZY⟩)) (i:a.eval y=.agg (aY C)) (e:aF w b C') (h:wpListIn F n ZP ops Q rest (a.put o.dst ZZ) (w.setRow b (aY C))):wpListIn F n ZP ops Q (o::rest) a w:=by
 refine wpListIn_plain f λK hK=>?_;unfold Oper.wpIn;refine ⟨by simp [Oper.about,ho],?_⟩;rw [Oper.semAt_plain F _ _ (by rw [ho];intro c d;cases d)];simp [execOp,ho,g,i,nH C e,Result.andThen];exact hK _ _ h
def dG:Ck:=⟨λ_ _=>0,0,0⟩
def Tryz.zeroCk:(ZP.info? 319).map (λi=>(i.zero,i.size,i.bytes))=ZX (ZX (.agg (aY dG)),130,144):=by kernel_rfl
def zeroCk (w:ZU):(zeroValue 319).run ZP w=.ok (.agg (aY dG)) w:=by
 obtain ⟨c,a,b,_,_⟩:=info_parts Tryz.zeroCk;simp [zeroValue,typeInfo,Sem.run_bind,a,b]
def aF.mono (h:aF w b C) (c:ZS B w w') (a:b<B):aF w' b C:=h.keep (c.block b a)
def dy (g:o.guard=ZY) (d:o.about P w a.eval=ZY) (e:∀ c,o.op≠.defer c)
 (i:(execOp a.eval o).run P w=.ok (.value v) w') (h:K (a.put o.dst v) w'):if Region.wanted o (yielded ops a.tmps)=ZW then Oper.wpIn F n P o a w K Q else (∀ f,o.about P w a.eval=ZX f->F.fn f)/\K (a.put o.dst ZZ) w:=by
 rw [if_pos (zg g)];unfold Oper.wpIn;refine ⟨λf b=>(by rw [d] at b;cases b),?_⟩;rw [Oper.semAt_plain F _ _ e,i];exact h
def mD (g:o.guard=ZY) (d:o.about P w a.eval=ZY) (e:∀ c,o.op≠.defer c)
 (i:(execOp a.eval o).run P w=.ok .skip w') (h:K (a.put o.dst ZZ) w'):if Region.wanted o (yielded ops a.tmps)=ZW then Oper.wpIn F n P o a w K Q else (∀ f,o.about P w a.eval=ZX f->F.fn f)/\K (a.put o.dst ZZ) w:=by
 rw [if_pos (zg g)];unfold Oper.wpIn;refine ⟨λf b=>(by rw [d] at b;cases b),?_⟩;rw [Oper.semAt_plain F _ _ e,i];exact h
def qC {f:FuncId} {args:Array ZT} {R:Ending->ZU->Prop} (g:∀ f,F.fn f) (j:F.depth=ZY) (l:o.guard=ZY) (d:∀ c,o.op≠.defer c)
 (p:(execOp a.eval o).run P w=.ok (.enter f args) w') (i:CallsIn F (n-1) P f args w' R) (h:∀ e b,R e b->∃ v,e=Z3 v/\K (a.put o.dst v) b):if Region.wanted o (yielded ops a.tmps)=ZW then Oper.wpIn F n P o a w K Q else (∀ f,o.about P w a.eval=ZX f->F.fn f)/\K (a.put o.dst ZZ) w:=by
 rw [if_pos (zg l)];unfold Oper.wpIn;refine ⟨λf _=>g f,?_⟩;rw [Oper.semAt_plain F _ _ d,p];refine ⟨λh=>(by rw [j] at h;cases h),i.mono λe b k=>?_⟩;obtain ⟨v,rfl,m⟩:=h e b k;exact m
def IP:Code->Nat->Option (Array Oper)
 | .region i ops _,n=>if i=n then ZX ops else ZY
 | .seq a b,n=>(IP a n).orElse λ_=>IP b n
 | .cond _ a b,n=>(IP a n).orElse λ_=>IP b n
 | .block _ a,n=>IP a n
 | .loop a,n=>IP a n
 | .scope a,n=>IP a n
 | .rangeFunc _ _ a b,n=>(IP a n).orElse λ_=>IP b n
 | _,_=>ZY
noncomputable def oX:Array Oper:=((Tryz.f212.body.bind (IP · 8))).getD #[]
def ig:(XG 9).map (λi=>(oX[i]?).map λo=>(o.op,o.dst,o.guard))=[    ZX (.load 319 (Z1 12),ZX 28,ZY),
 ZX (.load 124 (Z1 6),ZX 29,ZY),
 ZX (.move (Z1 11),ZX 30,ZY),
 ZX (.call { callee:=.value (.func 214),args:=#[Z1 29,Z1 30],argTypes:=#[124,3] },ZX 31,ZY),
 ZX (.load 3 (Z1 7),ZX 32,ZY),
 ZX (.load 206 (Z1 8),ZX 33,ZY),
 ZX (.load 332 (Z1 9),ZX 34,ZY),
 ZX (.call { callee:=.value (.func 212),args:=#[Z1 28,Z1 31,Z1 32,Z1 33,Z1 34],argTypes:=#[319,124,3,206,332] },ZX 35,ZY),
 ZX (.unOp .not 4 (Z1 35),ZX 36,ZY)]:=by kernel_rfl
def ij {d:Option Nat} (hi:i<9) (h:((XG 9).map (λi=>(oX[i]?).map λo=>(o.op,o.dst,o.guard)))[i]?=ZX (ZX (x,d,ZY))):∃ o,oX[i]?=ZX o/\o.op=x/\o.dst=d/\o.guard=ZY:=by
 simp only [XV,XY hi,XP,X0,X4,Yz] at h;obtain ⟨o,a,b,c,e⟩:=h;exact ⟨o,a,b,c,e⟩
def uV:Nat->List Nat
 | 3=>[1,2]
 | 7=>[0,3,4,5,6,3]
 | 8=>[7]
 | _=>[]
def Be:(XG 9).map (λi=>(oX[i]?).map λo=>(o.after.toList.filter (λe=>Region.binds .any e)).map (λe=>e.on))=(XG 9).map (λi=>ZX (uV i)):=by kernel_rfl
theorem qD (h:i∈Region.ready .any oX listed):i<9/\listed.getD i ZW=ZV/\∀ k∈uV i,listed.getD k ZV=ZW:=by
 have g:oX.size=9:=by kernel_rfl
 unfold Region.ready at h;rw [XM,g,XT] at h;obtain ⟨c,a⟩:=h;rw [Yl] at a;refine ⟨c,by simpa using a.1,λk f=>?_⟩;have b:(oX[i]?).map (λo=>(o.after.toList.filter (λe=>Region.binds .any e)).map (λe=>e.on))=ZX (uV i):=by
  have:=congrArg (λl=>l[i]?) Be;simp only [XV,XY c,XP,X0] at this;exact this
 rw [X4] at b;obtain ⟨o,ho,j⟩:=b;rw [ho] at a;have d:=a.2;simp only [XP,Ym] at d;rw [<- j,XN] at f;obtain ⟨e,b,rfl⟩:=f;obtain ⟨m,n⟩:=XM.1 b;have:=Yn.1 d e (by simpa using m);simpa [n] using this
theorem eL (b:i<9) (f:listed.getD i ZW=ZV) (g:∀ k∈uV i,listed.getD k ZV=ZW):i∈Region.ready .any oX listed:=by
 have d:oX.size=9:=by kernel_rfl
 unfold Region.ready;rw [XM,d,XT];refine ⟨b,?_⟩;rw [Yl];refine ⟨by simpa using f,?_⟩;have a:(oX[i]?).map (λo=>(o.after.toList.filter (λe=>Region.binds .any e)).map (λe=>e.on))=ZX (uV i):=by
  have:=congrArg (λl=>l[i]?) Be;simp only [XV,XY b,XP,X0] at this;exact this
 rw [X4] at a;obtain ⟨o,ho,h⟩:=a;rw [ho];simp only [XP,Ym];rw [Yn];intro e a;by_cases c:Region.binds .any e=ZW
 . have:=g e.on (by rw [<- h];exact XN.2 ⟨e,XM.2 ⟨by simpa using a,c⟩,rfl⟩);simp [this]
 . simp [c]
def mF (I:Nat->Array Bool->Act->ZU->Prop)
 (c:∀ listed a w,I 0 listed a w->Region.ready .any ops listed=[]/\Q .normal a w)
 (b:∀ f listed a w,I (f+1) listed a w->Region.ready .any ops listed≠[]/\∀ i∈Region.ready .any ops listed,wpOpIn F n P ops Q i (I f (listed.setIfInBounds i ZW)) a w) :
 ∀ f listed a w,I f listed a w->wpAnyIn F n P .any ops Q f listed a w
 | 0,listed,a,w,h=>c listed a w h
 | f+1,listed,a,w,h=>⟨λe=>absurd e (b f listed a w h).1,λi hi=>wpOpIn_mono (λa' w' d=>mF I c b f _ a' w' d) ((b f listed a w h).2 i hi)⟩
def bn (b:Bool):Nat:=if b=ZW then 0 else 1
def RS (a:Act) (w:ZU) (R:ZU->Prop) (i of q:Nat) (C:Ck) (vf vy:ZT) (f:Nat) (listed:Array Bool) (a':Act) (w':ZU):Prop:=
 jE 28 37 a a'/\((∃ b0 b1 b2 b3 b4 b5 b6:Bool,listed=#[b0,b1,b2,b3,b4,b5,b6,ZV,ZV]/\f=2+(bn b0+bn b1+bn b2+bn b3+bn b4+bn b5+bn b6)/\(b3=ZW->b1=ZW/\b2=ZW)/\w'=w.drew /\
  (b0=ZW->a'.eval (Z1 28)=.agg (aY C))/\(b1=ZW->a'.eval (Z1 29)=Z7 Z8 (of:Int))/\(b2=ZW->a'.eval (Z1 30)=Z7 Z9 (i:Int))/\(b3=ZW->a'.eval (Z1 31)=Z7 Z8 (bO of i:Nat)) /\
  (b4=ZW->a'.eval (Z1 32)=Z7 Z9 (q:Int))/\(b5=ZW->a'.eval (Z1 33)=vf)/\(b6=ZW->a'.eval (Z1 34)=vy)) \/
  (f=1/\listed=#[ZW,ZW,ZW,ZW,ZW,ZW,ZW,ZW,ZV]/\a'.eval (Z1 35)=Z2 ZW/\R w') \/
  (f=0/\listed=#[ZW,ZW,ZW,ZW,ZW,ZW,ZW,ZW,ZW]/\a'.eval (Z1 36)=Z2 ZV/\R w'))
def dk {b:Bool} (h:b=ZV):bn b=1:=by rw [h];rfl
theorem DQ (N B6 B7 B8 B9 i of q:Nat) (C:Ck) (S T:ZT) (R:ZU->Prop) (hR:oX=ops)
 (x:a.tmps.size=39) (hi:i<16) (ha:of<65536) (i12:a.eval (Z1 12)=Z6 (ZX ⟨N,0,ZY⟩)) (i6:a.eval (Z1 6)=Z6 (ZX ⟨B6,0,ZY⟩)) (i11:a.eval (Z1 11)=Z7 Z9 (i:Int)) (i7:a.eval (Z1 7)=Z6 (ZX ⟨B7,0,ZY⟩)) (i8:a.eval (Z1 8)=Z6 (ZX ⟨B8,0,ZY⟩)) (i9:a.eval (Z1 9)=Z6 (ZX ⟨B9,0,ZY⟩))
 (h9:aF w.drew N C) (c6:w.drew.cell? ⟨B6,0,ZY⟩=ZX (Z7 Z8 (of:Int))) (c7:w.drew.cell? ⟨B7,0,ZY⟩=ZX (Z7 Z9 (q:Int))) (c8:w.drew.cell? ⟨B8,0,ZY⟩=ZX S) (c9:w.drew.cell? ⟨B9,0,ZY⟩=ZX T)
 (h8:∀ m,CallsIn Fence.wide m ZP 212 #[.agg (aY C),Z7 Z8 (bO of i:Nat),Z7 Z9 (q:Int),S,T] w.drew λe p=>e=Z3 (Z2 ZW)/\R p)
 (h:∀ a' p,jE 28 37 a a'->a'.eval (Z1 36)=Z2 ZV->R p->Q .normal a' p):(Code.region 8 ops ZW).wpIn (Fence.wide.inRound l) n ZP Q a w:=by
 subst hR;obtain ⟨p0,g0,x0,d0,k0⟩:=ij (i:=0) (by decide) (by rw [ig];rfl);obtain ⟨p1,g1,x1,d1,k1⟩:=ij (i:=1) (by decide) (by rw [ig];rfl);obtain ⟨p2,g2,x2,d2,k2⟩:=ij (i:=2) (by decide) (by rw [ig];rfl);obtain ⟨p3,g3,x3,d3,k3⟩:=ij (i:=3) (by decide) (by rw [ig];rfl);obtain ⟨p4,g4,x4,d4,k4⟩:=ij (i:=4) (by decide) (by rw [ig];rfl);obtain ⟨p5,g5,x5,d5,k5⟩:=ij (i:=5) (by decide) (by rw [ig];rfl);obtain ⟨p6,g6,x6,d6,k6⟩:=ij (i:=6) (by decide) (by rw [ig];rfl);obtain ⟨p7,g7,x7,d7,k7⟩:=ij (i:=7) (by decide) (by rw [ig];rfl);obtain ⟨p8,g8,x8,d8,k8⟩:=ij (i:=8) (by decide) (by rw [ig];rfl);have h6:oX.size=9:=by kernel_rfl
 refine wpIn_region_any (by kernel_rfl) ?_;rw [h6];refine mF (RS a w R i of q C S T) ?_ ?_ 9 _ a _ ⟨jE.refl _ _ _,.inl ⟨ZV,ZV,ZV,ZV,ZV,ZV,ZV,rfl,rfl,λh=>(by cases h),rfl,λh=>(by cases h),λh=>(by cases h),λh=>(by cases h),λh=>(by cases h),λh=>(by cases h),λh=>(by cases h),λh=>(by cases h)⟩⟩
 . rintro listed a' w' ⟨b,⟨b0,b1,b2,b3,r,s,t,_,d,_⟩|⟨d,_⟩|⟨_,rfl,f36,O⟩⟩
   . omega
   . omega
   . refine ⟨YA.2 λj M=>?_,h a' w' b f36 O⟩;obtain ⟨h1,u,_⟩:=qD M;have:j=0\/j=1\/j=2\/j=3\/j=4\/j=5\/j=6\/j=7\/j=8:=by omega
     rcases this with rfl|rfl|rfl|rfl|rfl|rfl|rfl|rfl|rfl<;>simp at u
 . rintro f listed a' w' ⟨b,⟨b0,b1,b2,b3,r,s,t,rfl,d,A,rfl,B,D,E,F,G,H,I⟩|⟨d,rfl,f35,O⟩|⟨d,_⟩⟩
   . constructor
     ·
      intro Z;have y:∀ j,j∉Region.ready .any oX #[b0,b1,b2,b3,r,s,t,ZV,ZV]:=λj=>by rw [Z];simp
      have V:b0=ZW:=eq_true_of_ne_false λe=>y 0 (eL (by decide) (by simp [e]) (by simp [uV]));have J:b1=ZW:=eq_true_of_ne_false λe=>y 1 (eL (by decide) (by simp [e]) (by simp [uV]));have L:b2=ZW:=eq_true_of_ne_false λe=>y 2 (eL (by decide) (by simp [e]) (by simp [uV]));have U:b3=ZW:=eq_true_of_ne_false λe=>y 3 (eL (by decide) (by simp [e]) (by simp [uV,J,L]));have W:r=ZW:=eq_true_of_ne_false λe=>y 4 (eL (by decide) (by simp [e]) (by simp [uV]));have X:s=ZW:=eq_true_of_ne_false λe=>y 5 (eL (by decide) (by simp [e]) (by simp [uV]));have Y:t=ZW:=eq_true_of_ne_false λe=>y 6 (eL (by decide) (by simp [e]) (by simp [uV]));exact y 7 (eL (by decide) (by simp) (by simp [uV,V,U,W,X,Y]))
     . intro j M;obtain ⟨h1,u,z⟩:=qD M;clear M;have h7:j=0\/j=1\/j=2\/j=3\/j=4\/j=5\/j=6\/j=7\/j=8:=(by omega);rcases h7 with rfl|rfl|rfl|rfl|rfl|rfl|rfl|rfl|rfl
       . have o:b0=ZV:=(by simpa using u);have k:=(b.slot 12 (by omega)).trans i12;refine wpOpIn_step g0 λK hK=>dy (v:=.agg (aY C)) (w':=w.drew) k0 (by simp [Oper.about,x0]) (by rw [x0];intro c g;cases g) (by simp [execOp,x0,k,mB h9,Result.andThen]) (hK _ _ ?_);rw [d0];exact ⟨b.put 28 _ (by decide) (by decide),.inl ⟨ZW,b1,b2,b3,r,s,t,rfl,by rw [dk o] at d;simp only [bn,if_true];simp only [bn] at d;omega,A,rfl,λ_=>dr _ _ _ (by rw [b.size,x];decide),λe=>(ai _ _ _ _ (by decide)).trans (D e),λe=>(ai _ _ _ _ (by decide)).trans (E e),λe=>(ai _ _ _ _ (by decide)).trans (F e),λe=>(ai _ _ _ _ (by decide)).trans (G e),λe=>(ai _ _ _ _ (by decide)).trans (H e),λe=>(ai _ _ _ _ (by decide)).trans (I e)⟩⟩
       . have o:b1=ZV:=(by simpa using u);have k:=(b.slot 6 (by omega)).trans i6;refine wpOpIn_step g1 λK hK=>dy (v:=Z7 Z8 (of:Int)) (w':=w.drew) k1 (by simp [Oper.about,x1]) (by rw [x1];intro c g;cases g) (by simp only [execOp,x1,k];go_simp) (hK _ _ ?_);rw [d1];exact ⟨b.put 29 _ (by decide) (by decide),.inl ⟨b0,ZW,b2,b3,r,s,t,rfl,by rw [dk o] at d;simp only [bn,if_true];simp only [bn] at d;omega,λe=>⟨rfl,(A e).2⟩,rfl,λe=>(ai _ _ _ _ (by decide)).trans (B e),λ_=>dr _ _ _ (by rw [b.size,x];decide),λe=>(ai _ _ _ _ (by decide)).trans (E e),λe=>(ai _ _ _ _ (by decide)).trans (F e),λe=>(ai _ _ _ _ (by decide)).trans (G e),λe=>(ai _ _ _ _ (by decide)).trans (H e),λe=>(ai _ _ _ _ (by decide)).trans (I e)⟩⟩
       . have o:b2=ZV:=(by simpa using u);have k:=(b.slot 11 (by omega)).trans i11;refine wpOpIn_step g2 λK hK=>dy (v:=Z7 Z9 (i:Int)) (w':=w.drew) k2 (by simp [Oper.about,x2]) (by rw [x2];intro c g;cases g) (by simp [execOp,x2,k]) (hK _ _ ?_);rw [d2];exact ⟨b.put 30 _ (by decide) (by decide),.inl ⟨b0,b1,ZW,b3,r,s,t,rfl,by rw [dk o] at d;simp only [bn,if_true];simp only [bn] at d;omega,λe=>⟨(A e).1,rfl⟩,rfl,λe=>(ai _ _ _ _ (by decide)).trans (B e),λe=>(ai _ _ _ _ (by decide)).trans (D e),λ_=>dr _ _ _ (by rw [b.size,x];decide),λe=>(ai _ _ _ _ (by decide)).trans (F e),λe=>(ai _ _ _ _ (by decide)).trans (G e),λe=>(ai _ _ _ _ (by decide)).trans (H e),λe=>(ai _ _ _ _ (by decide)).trans (I e)⟩⟩
       . have o:b3=ZV:=(by simpa using u);have J:b1=ZW:=(by have:=z 1 (by simp [uV]);simpa using this);have L:b2=ZW:=(by have:=z 2 (by simp [uV]);simpa using this);have k:=D J;have s1:=E L;refine wpOpIn_step g3 λK hK=>qC (λ_=>trivial) rfl k3 (by rw [x3];intro c g;cases g) (f:=214) (args:=#[Z7 Z8 (of:Int),Z7 Z9 (i:Int)]) (w':=w.drew) (by have P:a'.eval (.func 214)=.func (.func 214) #[] #[]:=rfl;generalize a'.eval=ev at k s1 P ⊢;simp [execOp,x3,resolve,invoke,k,s1,P,go_sem]) (CallsIn.inRound l (callsIn_wide.2 (Dh of i ha hi _))) ?_;rintro e p ⟨rfl,rfl⟩;refine ⟨_,rfl,hK _ _ ?_⟩;rw [d3];exact ⟨b.put 31 _ (by decide) (by decide),.inl ⟨b0,b1,b2,ZW,r,s,t,rfl,by rw [dk o] at d;simp only [bn,if_true];simp only [bn] at d;omega,λ_=>⟨J,L⟩,rfl,λe=>(ai _ _ _ _ (by decide)).trans (B e),λe=>(ai _ _ _ _ (by decide)).trans (D e),λe=>(ai _ _ _ _ (by decide)).trans (E e),λ_=>dr _ _ _ (by rw [b.size,x];decide),λe=>(ai _ _ _ _ (by decide)).trans (G e),λe=>(ai _ _ _ _ (by decide)).trans (H e),λe=>(ai _ _ _ _ (by decide)).trans (I e)⟩⟩
       . have o:r=ZV:=(by simpa using u);have k:=(b.slot 7 (by omega)).trans i7;refine wpOpIn_step g4 λK hK=>dy (v:=Z7 Z9 (q:Int)) (w':=w.drew) k4 (by simp [Oper.about,x4]) (by rw [x4];intro c g;cases g) (by simp only [execOp,x4,k];go_simp) (hK _ _ ?_);rw [d4];exact ⟨b.put 32 _ (by decide) (by decide),.inl ⟨b0,b1,b2,b3,ZW,s,t,rfl,by rw [dk o] at d;simp only [bn,if_true];simp only [bn] at d;omega,A,rfl,λe=>(ai _ _ _ _ (by decide)).trans (B e),λe=>(ai _ _ _ _ (by decide)).trans (D e),λe=>(ai _ _ _ _ (by decide)).trans (E e),λe=>(ai _ _ _ _ (by decide)).trans (F e),λ_=>dr _ _ _ (by rw [b.size,x];decide),λe=>(ai _ _ _ _ (by decide)).trans (H e),λe=>(ai _ _ _ _ (by decide)).trans (I e)⟩⟩
       . have o:s=ZV:=(by simpa using u);have k:=(b.slot 8 (by omega)).trans i8;refine wpOpIn_step g5 λK hK=>dy (v:=S) (w':=w.drew) k5 (by simp [Oper.about,x5]) (by rw [x5];intro c g;cases g) (by simp only [execOp,x5,k];go_simp) (hK _ _ ?_);rw [d5];exact ⟨b.put 33 _ (by decide) (by decide),.inl ⟨b0,b1,b2,b3,r,ZW,t,rfl,by rw [dk o] at d;simp only [bn,if_true];simp only [bn] at d;omega,A,rfl,λe=>(ai _ _ _ _ (by decide)).trans (B e),λe=>(ai _ _ _ _ (by decide)).trans (D e),λe=>(ai _ _ _ _ (by decide)).trans (E e),λe=>(ai _ _ _ _ (by decide)).trans (F e),λe=>(ai _ _ _ _ (by decide)).trans (G e),λ_=>dr _ _ _ (by rw [b.size,x];decide),λe=>(ai _ _ _ _ (by decide)).trans (I e)⟩⟩
       . have o:t=ZV:=(by simpa using u);have k:=(b.slot 9 (by omega)).trans i9;refine wpOpIn_step g6 λK hK=>dy (v:=T) (w':=w.drew) k6 (by simp [Oper.about,x6]) (by rw [x6];intro c g;cases g) (by simp only [execOp,x6,k];go_simp) (hK _ _ ?_);rw [d6];exact ⟨b.put 34 _ (by decide) (by decide),.inl ⟨b0,b1,b2,b3,r,s,ZW,rfl,by rw [dk o] at d;simp only [bn,if_true];simp only [bn] at d;omega,A,rfl,λe=>(ai _ _ _ _ (by decide)).trans (B e),λe=>(ai _ _ _ _ (by decide)).trans (D e),λe=>(ai _ _ _ _ (by decide)).trans (E e),λe=>(ai _ _ _ _ (by decide)).trans (F e),λe=>(ai _ _ _ _ (by decide)).trans (G e),λe=>(ai _ _ _ _ (by decide)).trans (H e),λ_=>dr _ _ _ (by rw [b.size,x];decide)⟩⟩
       . have V:b0=ZW:=(by have:=z 0 (by simp [uV]);simpa using this);have U:b3=ZW:=(by have:=z 3 (by simp [uV]);simpa using this);have W:r=ZW:=(by have:=z 4 (by simp [uV]);simpa using this);have X:s=ZW:=(by have:=z 5 (by simp [uV]);simpa using this);have Y:t=ZW:=(by have:=z 6 (by simp [uV]);simpa using this);obtain ⟨J,L⟩:=A U;subst V J L U W X Y;have k:=B rfl;have s3:=F rfl;have s4:=G rfl;have s5:=H rfl;have s6:=I rfl;refine wpOpIn_step g7 λK hK=>qC (λ_=>trivial) rfl k7 (by rw [x7];intro c g;cases g) (f:=212) (args:=#[.agg (aY C),Z7 Z8 (bO of i:Nat),Z7 Z9 (q:Int),S,T]) (w':=w.drew) (by have P:a'.eval (.func 212)=.func (.func 212) #[] #[]:=rfl;generalize a'.eval=ev at k s3 s4 s5 s6 P ⊢;simp [execOp,x7,resolve,invoke,k,s3,s4,s5,s6,P,go_sem]) (CallsIn.inRound l (h8 _)) ?_;rintro e p ⟨rfl,O⟩;refine ⟨_,rfl,hK _ _ ?_⟩;rw [d7];exact ⟨b.put 35 _ (by decide) (by decide),.inr (.inl ⟨by simp only [bn,if_true] at d;omega,rfl,dr _ _ _ (by rw [b.size,x];decide),O⟩)⟩
       . have:=z 7 (by simp [uV]);simp at this
   . constructor
     . intro Z;have:8∈Region.ready .any oX #[ZW,ZW,ZW,ZW,ZW,ZW,ZW,ZW,ZV]:=eL (by decide) (by simp) (by simp [uV]);rw [Z] at this;cases this
     . intro j M;obtain ⟨h1,u,_⟩:=qD M;have:j=8:=by
        have h7:j=0\/j=1\/j=2\/j=3\/j=4\/j=5\/j=6\/j=7\/j=8:=(by omega);rcases h7 with rfl|rfl|rfl|rfl|rfl|rfl|rfl|rfl|rfl<;>first|rfl|(simp at u)
       subst this;refine wpOpIn_step g8 λK hK=>dy (v:=Z2 ZV) (w':=w') k8 (by simp [Oper.about,x8]) (by rw [x8];intro c g;cases g) (by simp only [execOp,x8,f35];go_simp) (hK _ _ ?_);rw [d8];exact ⟨b.put 36 _ (by decide) (by decide),.inr (.inr ⟨by omega,rfl,dr _ _ _ (by rw [b.size,x];decide),O⟩)⟩
   . omega
section
attribute [local go_sem] Oper.semAt_some
theorem wQ (p least Bl:Nat) (w:ZU) (a:w.cell? ⟨Bl,0,ZY⟩=ZX (Z7 Z9 (least:Int))) :
 ZR ZP 208 #[Z7 Z9 p,Z6 (ZX ⟨Bl,0,ZY⟩)] w λe w'=>e=Z3 (Z2 (decide (p<least)))/\w'=w:=by
 go_enter func208,ntmps208;go_wp2;go_ret;exact ⟨by simp,rfl⟩
def fv (Bl:Nat):ZT:=.func (.func 208) #[] #[Z6 (ZX ⟨Bl,0,ZY⟩)]
def Bx (W:ZU) (B:Nat) (v:ZT):Prop:=∃ t,ZQ W B t v
def Bx.cell (h:Bx W B v):W.cell? ⟨B,0,ZY⟩=ZX v:=by obtain ⟨t,h⟩:=h;exact h.cell
def Bx.frozen (h:Bx W B v):W.frozen? ⟨B,0,ZY⟩=ZV:=by obtain ⟨t,h⟩:=h;exact h.frozen
def Bx.lt (h:Bx W B v):B<W.heap.size:=by obtain ⟨t,h⟩:=h;exact h.lt
def Bx.keep (h:Bx W B v) (e:W'.heap[B]?=W.heap[B]?):Bx W' B v:=by obtain ⟨t,h⟩:=h;exact ⟨t,e.trans h⟩
def Bx.set (h:Bx W B v) (a:ZT):Bx (W.setCell ⟨B,0,ZY⟩ a) B a:=by obtain ⟨t,h⟩:=h;exact ⟨t,h.set a⟩
def Bx.new (W:ZU) (t:TypeId) (v:ZT):Bx (W.alloc (Z4 #[v] t)) W.heap.size v:=⟨t,Boxed.new W t v⟩
def Bx.alloc (h:Bx W B v) (o:Obj):Bx (W.alloc o) B v:=by obtain ⟨t,h⟩:=h;exact ⟨t,h.alloc o⟩
structure VB (W:ZU) (h:Nat) (C:Ck) (of q Bl l:Nat):Prop where
 ck:aF W h C
 set:Bx W (h+1) (Z7 Z8 (of:Int))
 VP:Bx W (h+1+1) (Z7 Z9 (q:Int))
 T9:Bx W (h+1+1+1) (fv Bl)
 V2:Bx W (h+1+1+1+1) (.func (.yield l) #[] #[])
 res:Bx W (h+1+1+1+1+1) (Z2 ZV)
def VB.keep (v:VB W h C of q Bl l) (e:∀ k,h<=k->k<h+6->W'.heap[k]?=W.heap[k]?):VB W' h C of q Bl l:=
 ⟨v.ck.keep (e _ (by omega) (by omega)),v.set.keep (e _ (by omega) (by omega)),v.VP.keep (e _ (by omega) (by omega)),v.T9.keep (e _ (by omega) (by omega)),v.V2.keep (e _ (by omega) (by omega)),v.res.keep (e _ (by omega) (by omega))⟩
def VB.VL (v:VB W h C of q Bl l) (a:Nat):VB (W.setCell ⟨h+1+1,0,ZY⟩ (Z7 Z9 (a:Int))) h C of a Bl l:=by
 have e:∀ k,k≠h+1+1->(W.setCell ⟨h+1+1,0,ZY⟩ (Z7 Z9 (a:Int))).heap[k]?=W.heap[k]?:=λk b=>Below.heap_setCell _ _ _ _ b;exact ⟨v.ck.keep (e _ (by omega)),v.set.keep (e _ (by omega)),v.VP.set _,v.T9.keep (e _ (by omega)),v.V2.keep (e _ (by omega)),v.res.keep (e _ (by omega))⟩
def ji (K:List Nat) (d:Nat) (C:Ck) (of p:Nat) (s:cI) (pre:List Sh):Nat×cI×Bool:=(pre.map (·.1)).foldl (gY (yF K d) C of) (p,fs K s C,ZV)
def DR (K:List Nat) (d:Nat) (C:Ck) (of p:Nat) (s:cI) (pre:List Sh) (x:Sh):ji K d C of p s (pre++[x])=gY (yF K d) C of (ji K d C of p s pre) x.1:=by
 unfold ji;rw [X5,YB];rfl
def GP {K:List Nat} (h:pre.map (·.1)=ab of):(ji K d C of p s pre).2.1=iG K d C of p s:=by
 unfold ji;rw [h,pP]
def DS {K:List Nat} (h:pre.map (·.1)<+:ab of) (e:(ji K d C of p s pre).2.2=ZW):(ji K d C of p s pre).2.1=iG K d C of p s:=by
 obtain ⟨R,c⟩:=h;rw [pP,<- c,YB];show _=(R.foldl (gY (yF K d) C of) (ji K d C of p s pre)).2.1;obtain ⟨f,a⟩:∃ q sx,ji K d C of p s pre=(q,sx,ZW):=⟨_,_,by rw [<- e]⟩;obtain ⟨a,b⟩:=a;rw [b,wu]
def VI (K:List Nat) (d:Nat) (C:Ck) (of p:Nat) (s:cI) (W:ZU) (B n0 Bl l:Nat) (J:cI->ZU->Prop) (brk:Bool) (pre:List Sh) (X:ZU):Prop:=
 (ji K d C of p s pre).2.2=brk/\VB X W.heap.size C of (ji K d C of p s pre).1 Bl l/\J (ji K d C of p s pre).2.1 X/\bw n0 W X/\(ji K d C of p s pre).1<=p+pre.length/\B<=X.heap.size
def VI.own {K:List Nat} {brk:Bool} (f:∀ s A B,J s A->ZS n0 A B->J s B) (o:W.heap.size+6<=B) (t:n0<=W.heap.size) :
 OwnFrom B (VI K d C of p s W B n0 Bl l J brk):=by
 rintro pre X Y row ⟨g,h,i,b,j,q⟩ a n;have c:∀ k,k<W.heap.size+6->Y.heap[k]?=X.heap[k]?:=λk c=>a.block k (by omega) (λe=>by have:=(n k e.symm).1;omega);have u:=a.size;refine ⟨g,h.keep (λk _ m=>c k m),f _ _ _ i ⟨a.os,a.tape,a.output,a.size,λk r=>c k (by omega)⟩,⟨a.os.trans b.os,a.tape.trans b.tape,a.output.trans b.output,by have:=b.size;omega,λk k1 k2=>(c k (by omega)).trans (b.block k k1 k2)⟩,j,by omega⟩
def VX (K:List Nat) (d:Nat) (C:Ck) (of p:Nat) (s:cI) (W:ZU) (B n0 Bl l:Nat) (J:cI->ZU->Prop) (c:Code) (pre:List Sh) (X:ZU):Prop:=c=.exit 0/\VI K d C of p s W B n0 Bl l J ZW pre X
def GQ (h:¬ q<sx.2):gY rec C of (q,sx,ZV) i=(q,sx,ZW):=by unfold gY;simp [h]
def GR (h:q<sx.2) (a:iC C i=ZY):gY rec C of (q,sx,ZV) i=(q,sx,ZV):=by unfold gY;simp [h,a]
def MR (h:q<sx.2) (a:iC C i=ZX C'):gY rec C of (q,sx,ZV) i=(q+1,rec C' (bO of i) q sx,ZV):=by unfold gY;simp [h,a]
def kN (s:Nat):(Rm s).length=(ab s).length:=by rw [<- Mu s,XL]
def qE (s:Nat):(Rm s).length<=16:=by
 rw [kN];exact XJ (X9 _ _) (by simp)
theorem GS (q:Nat) (h:q<=100000):wrap64 ((q:Int)+1)=((q+1:Nat):Int)/\IntKind.i64.wrap ((q:Int)+1)=((q+1:Nat):Int):=by
 constructor
 . unfold wrap64;omega
 . rw [IntKind.wrap_i64];omega
theorem wR (b:∀ s A B,J s A->ZS n0 A B->J s B) (w:n0<=W.heap.size) (q:W.heap.size<=B) (r:W.heap.size<=D) (j:B≠D)
 (i:Bx X B (Z2 ZV)) (t:J s X) (o:bw n0 W X) (hK:X.heap[D]?=ZX (.deferred (ZX []))) (f:a.defers=[{ target:=.collected D,args:=#[] }]) (h5:a.eval (Z1 10)=Z6 (ZX ⟨B,0,ZY⟩)) (hT:a.tmps.size=39) :
 bodyPostM Fence.wide n ZP Tryz.f212 (λe W'=>e=Z3 (Z2 ZW)/\J s W'/\bw n0 W W') .ret a (X.setCell ⟨B,0,ZY⟩ (Z2 ZW)):=by
 have d:(X.setCell ⟨B,0,ZY⟩ (Z2 ZW)).heap[D]?=ZX (.deferred (ZX [])):=(KeepsOthers.setCell _ _ _).same D _ hK rfl;obtain ⟨g,u⟩:=a;simp only at f hT;subst f;refine ⟨by simp,.inl ⟨_,_,rfl,run_takeDeferred d,?_⟩⟩;have k:Bx (X.setCell ⟨B,0,ZY⟩ (Z2 ZW)) B (Z2 ZW):=i.set _;have l:Bx ((X.setCell ⟨B,0,ZY⟩ (Z2 ZW)).putObj D (.deferred ZY)) B (Z2 ZW):=k.keep (World.putObj_heap_other (λe=>j e));have c:=l.cell;have m:=(XI.1 d).1;have h:g.getD 10 ZZ=Z6 (ZX ⟨B,0,ZY⟩):=h5;refine ⟨Z2 ZW,?_,rfl,b _ _ _ (b _ _ _ t ((Below.refl _ _).setCell (p:=⟨B,0,ZY⟩) (by show n0<=B;omega) _)) (Below.TO (Below.refl _ _) (by omega) m _),(o.setCell (p:=⟨B,0,ZY⟩) (.inr q) _).putObj (.inr r) _⟩;have v:g[10]'(by omega)=Z6 (ZX ⟨B,0,ZY⟩):=by rw [<- h];simp [hT]
 simp only [results,results212];go_simp
theorem tD (K:List Nat) (n0 Bl l:Nat) (J:cI->ZU->Prop) (u:∀ s A B,J s A->ZS n0 A B->J s B)
 (k8:∀ s A,J s A->A.cell? ⟨Bl,0,ZY⟩=ZX (Z7 Z9 (s.2:Int))/\n0<=A.heap.size/\aJ A) (qq:2<=n0)
 (hY:∀ m s C W1,J s W1->dY C->YieldAt Fence.wide m ZP l #[.agg (aY C)] W1 λe W'=>e=Z3 (Z2 ZW)/\J (fs K s C) W'/\bw n0 W1 W')
 (d m:Nat) (C:Ck) (of p:Nat) (s:cI) (W:ZU) (hf:dY C) (km:of<65536) (hp:p+16<=100000) (hJ:J s W)
 (kp:∀ (m i:Nat) (C':Ck) (E p':Nat) (s':cI) (W':ZU),iC C i=ZX C'->E<65536->p'<=p+16->J s' W' ->
  CallsIn Fence.wide m ZP 212 #[.agg (aY C'),Z7 Z8 E,Z7 Z9 p',fv Bl,.func (.yield l) #[] #[]] W' λe I=>e=Z3 (Z2 ZW)/\J (yF K d C' E p' s') I/\bw n0 W' I) :
 CallsIn Fence.wide m ZP 212 #[.agg (aY C),Z7 Z8 of,Z7 Z9 p,fv Bl,.func (.yield l) #[] #[]] W λe W'=>e=Z3 (Z2 ZW)/\J (iG K d C of p s) W'/\bw n0 W W':=by
 have qv:=bf C;obtain ⟨_,R,_⟩:=k8 s W hJ;obtain ⟨n,HN⟩:∃ n:Nat,Hid (5<=n):=⟨5,XH _⟩;refine callsIn_wide.2 ((callsIn_wide (n:=n)).1 ?_);refine callsIn_of_wp_marks func212 rfl trivial ?_ rfl;simp only [ntmps212,X2,X7,Ya,Yb,Yc,Yd,Ye,Yf,Yg,XU,XS];have N:bW W ((((((W.alloc (Z4 (aY C) 319)).alloc (Z4 #[Z7 Z8 (of:Int)] 124)).alloc (Z4 #[Z7 Z9 (p:Int)] 3)).alloc (Z4 #[fv Bl] 206)).alloc (Z4 #[.func (.yield l) #[] #[]] 332)).alloc (Z4 #[Z2 ZV] 4)):=
  (((((bA W _).alloc (by simp) _).alloc (by simp;omega) _).alloc (by simp;omega) _).alloc (by simp;omega) _).alloc (by simp;omega) _
 have S:VB ((((((W.alloc (Z4 (aY C) 319)).alloc (Z4 #[Z7 Z8 (of:Int)] 124)).alloc (Z4 #[Z7 Z9 (p:Int)] 3)).alloc (Z4 #[fv Bl] 206)).alloc (Z4 #[.func (.yield l) #[] #[]] 332)).alloc (Z4 #[Z2 ZV] 4)) W.heap.size C of p Bl l:=by
  have hi:∀ (X:ZU) (o:Obj) (k:Nat),k<X.heap.size->(X.alloc o).heap[k]?=X.heap[k]?:=λX o k h=>Below.heap_alloc X o k h;refine ⟨?_,?_,?_,?_,?_,?_⟩
  . exact (aF.new W C).keep (by rw [hi _ _ _ (by simp;omega),hi _ _ _ (by simp;omega),hi _ _ _ (by simp;omega),hi _ _ _ (by simp;omega),hi _ _ _ (by simp)])
  . have h:=Bx.new (W.alloc (Z4 (aY C) 319)) 124 (Z7 Z8 (of:Int));rw [World.size_alloc] at h;exact (((h.alloc _).alloc _).alloc _).alloc _
  . have h:=Bx.new ((W.alloc (Z4 (aY C) 319)).alloc (Z4 #[Z7 Z8 (of:Int)] 124)) 3 (Z7 Z9 (p:Int));simp only [World.size_alloc] at h;exact ((h.alloc _).alloc _).alloc _
  . have h:=Bx.new (((W.alloc (Z4 (aY C) 319)).alloc (Z4 #[Z7 Z8 (of:Int)] 124)).alloc (Z4 #[Z7 Z9 (p:Int)] 3)) 206 (fv Bl);simp only [World.size_alloc] at h;exact (h.alloc _).alloc _
  . have h:=Bx.new ((((W.alloc (Z4 (aY C) 319)).alloc (Z4 #[Z7 Z8 (of:Int)] 124)).alloc (Z4 #[Z7 Z9 (p:Int)] 3)).alloc (Z4 #[fv Bl] 206)) 332 (.func (.yield l) #[] #[]);simp only [World.size_alloc] at h;exact h.alloc _
  . have h:=Bx.new (((((W.alloc (Z4 (aY C) 319)).alloc (Z4 #[Z7 Z8 (of:Int)] 124)).alloc (Z4 #[Z7 Z9 (p:Int)] 3)).alloc (Z4 #[fv Bl] 206)).alloc (Z4 #[.func (.yield l) #[] #[]] 332)) 4 (Z2 ZV);simp only [World.size_alloc] at h;exact h
 have ka:((((((W.alloc (Z4 (aY C) 319)).alloc (Z4 #[Z7 Z8 (of:Int)] 124)).alloc (Z4 #[Z7 Z9 (p:Int)] 3)).alloc (Z4 #[fv Bl] 206)).alloc (Z4 #[.func (.yield l) #[] #[]] 332)).alloc (Z4 #[Z2 ZV] 4)).heap.size=W.heap.size+6:=by simp
 unfold fv at N S ka ⊢;obtain ⟨W6,ke⟩:=nM (((((((W.alloc (Z4 (aY C) 319)).alloc (Z4 #[Z7 Z8 (of:Int)] 124)).alloc (Z4 #[Z7 Z9 (p:Int)] 3)).alloc (Z4 #[.func (.func 208) #[] #[Z6 (ZX ⟨Bl,0,ZY⟩)]] 206)).alloc (Z4 #[.func (.yield l) #[] #[]] 332)).alloc (Z4 #[Z2 ZV] 4)));rw [ke] at N S ka;obtain ⟨fn,tmps,assign,body,hy,q1⟩:=hY (n-1) s C W6 (u s W W6 hJ (N.mono R)) hf;have c9:=S.V2.cell;have r:=hide S;have HB:=hide N;have HS:=hide ka;clear S N ka;gi_wp2_with (first
  | (rw [ke];refine kM rfl (Z1 5) rfl W.heap.size C rfl r.out.ck ?_)
  | (refine kM rfl (Z1 5) rfl W.heap.size C rfl r.out.ck ?_))
 refine ⟨λh=>(by cases h),q1.mono ?_⟩;rintro e f ⟨rfl,q0,Z⟩;have hA:bw n0 W f:=(bw.TF HB.out).trans Z;have ks:VB f W.heap.size C of p Bl l:=r.out.keep (λk k1 k2=>Z.block k (by omega) (by have:=HS.out;omega));have qs:W.heap.size+6<=f.heap.size:=by have:=Z.size;have:=HS.out;omega
 have q7:=k8 _ _ q0;have c6:=ks.set.cell;clear hy q1 ke r HB HS Z c9;have r:=hide ks;clear ks;gi_wp2;refine de (dC of f) ?_;rintro e w' ⟨rfl,rfl⟩;have q2:aJ (f.alloc (Z4 #[Z7 Z8 (of:Int)] 124)):=q7.2.2.mono (B:=f.heap.size) (by omega) (bA _ _);have q4:(f.alloc (Z4 #[Z7 Z8 (of:Int)] 124)).cell? ⟨f.heap.size,0,ZY⟩=ZX (Z7 Z8 (of:Int)):=(Bx.new f 124 (Z7 Z8 (of:Int))).cell;have h0:VI K d C of p s W (f.alloc (Z4 #[Z7 Z8 (of:Int)] 124)).heap.size n0 Bl l J ZV [] (f.alloc (Z4 #[Z7 Z8 (of:Int)] 124)):=
  ⟨rfl,r.out.keep (λk k1 k2=>Below.heap_alloc _ _ _ (by omega)),u _ _ _ q0 ((Below.refl _ _).alloc q7.2.1 _),hA.trans (bw.TF (bA _ _)),XH _,XH _⟩
 have q9:(f.alloc (Z4 #[Z7 Z8 (of:Int)] 124)).heap.size=f.heap.size+1:=by simp
 obtain ⟨V,q3⟩:=nM (f.alloc (Z4 #[Z7 Z8 (of:Int)] 124));have H0:=hide h0;have HC:=hide q4;have HT:=hide q2;have j:=hide q9;clear h0 q4 q2 q9;gi_wp2;rw [q3] at H0 HC HT j;clear q3;refine wpIn_rangeFunc_ownG rfl (by have:=HN.out;omega) (gf:=153) (lb:=#[Z6 (ZX ⟨f.heap.size,0,ZY⟩)]) rfl trivial (enters_of func153 (by kernel_rfl) rfl)
  (eS (n-1) f.heap.size of km V (by have:=j.out;omega) HC.out (by have:=j.out;omega) HT.out) (λh k=>qZ h k) (re (by have:=j.out;omega)) (Below.refl _ _) (λ_=>rfl)
  (VI K d C of p s W V.heap.size n0 Bl l J ZV) (VX K d C of p s W V.heap.size n0 Bl l J)
  (VI.own u (by have:=j.out;omega) R) (λc=>by
   rintro pre X Y row ⟨y,b⟩ hg hr;exact ⟨y,VI.own u (by have:=j.out;omega) R pre X Y row b hg hr⟩) H0.out
  (λx=>{ tmps:=#[.agg (aY C),Z7 Z8 (of:Int),Z7 Z9 (p:Int),.func (.func 208) #[] #[Z6 (ZX ⟨Bl,0,ZY⟩)],.func (.yield l) #[] #[],Z6 (ZX ⟨W.heap.size,0,ZY⟩),Z6 (ZX ⟨W.heap.size+1,0,ZY⟩),Z6 (ZX ⟨W.heap.size+1+1,0,ZY⟩),Z6 (ZX ⟨W.heap.size+1+1+1,0,ZY⟩),Z6 (ZX ⟨W.heap.size+1+1+1+1,0,ZY⟩),Z6 (ZX ⟨W.heap.size+1+1+1+1+1,0,ZY⟩),Z7 Z9 (x.1:Int),ZZ,.func (.yield l) #[] #[],.agg (aY C),Z2 ZW,Z2 ZV,Z7 Z8 (of:Int),.func (.func 153) #[] #[Z6 (ZX ⟨f.heap.size,0,ZY⟩)],Z7 Z9 (x.1:Int),ZZ,ZZ,ZZ,ZZ,ZZ,ZZ,ZZ,ZZ,ZZ,ZZ,ZZ,ZZ,ZZ,ZZ,ZZ,ZZ,ZZ,ZZ,ZZ],defers:=[] }) ?assign ?body ?done ?stop
 case assign=>
  intro l2 x X Kk hK;unfold qY;gi_wp2;exact hK
 case body=>
  rintro l2 pre x X ⟨y,b,g,v,z,F⟩ kj;obtain ⟨q,sx,qa⟩:∃ q sx,ji K d C of p s pre=(q,sx,ZV):=⟨_,_,by rw [<- y]⟩;have kr:=DR K d C of p s pre x;rw [qa] at b g z kr;simp only at b g z;have kk:(ab of).length<=16:=by rw [<- kN of];exact qE of
  have hq:q<=p+16:=by omega
  have qk:q<=100000:=by omega
  have hl:=k8 _ _ g;have cl:=hl.1;have c7:=b.VP.cell;have f7:=b.VP.frozen;have c8:=b.T9.cell;unfold fv at c8;have r:=hide b;have HJ:=hide g;have HA:=hide v;have kb:=hide kr;have k6:=x.2;have U:=hide F;clear b g v qa y kr hl F kj;gi_wp2;refine dH (wQ q sx.2 Bl X cl) ?_;rintro e w' ⟨rfl,rfl⟩;by_cases Q:q<sx.2
  . have kh:decide (q<sx.2)=ZW:=decide_eq_true Q;rw [kh];have hz:=zeroCk;have kf:=r.out.ck;have hx:=bf dG;gi_wp2_with (first
     | (refine kM rfl (Z1 5) rfl W.heap.size C rfl kf ?_)
     | (refine jW rfl (Z1 12) (Z1 24) rfl w'.heap.size C dG rfl rfl (aF.new w' dG) ?_))
    have kg:aF ((w'.alloc (Z4 (aY dG) 319)).setRow w'.heap.size (aY C)) w'.heap.size C:=(aF.new w' dG).setRow C;have O:bW w' ((w'.alloc (Z4 (aY dG) 319)).setRow w'.heap.size (aY C)):=(bA _ _).grown (aR _ _ _) (by simp) (λk e=>by cases e;exact XH _);refine dH (Bd w'.heap.size x.1 C _ kg hf k6) ?_;rintro e w2 (⟨q8,rfl,qn⟩|⟨C',P,rfl,kc,q5⟩)
    ·
     subst qn;have HL:=hide q8;have G:=hide O;clear q8 O kg hz kf hx;gi_wp2;have ki:=j.out;have F:=U.out;have qh:=r.out.keep (λk k1 k2=>G.out.block k (by omega));refine ⟨(bw.TF G.out).keeps (Yo _),E3.TF (by omega) G.out,?_⟩;unfold VI;rw [kb.out,GR Q HL.out];exact ⟨rfl,qh,u _ _ _ HJ.out (G.out.mono (by omega)),HA.out.trans (bw.TF G.out),by rw [XO];exact YR z,by have:=G.out.size;omega⟩
    ·
     have k9:bW w' w2:=O.grown q5 O.size (λk e=>by cases e;exact XH _);have qm:w'.heap.size<w2.heap.size:=kc.lt;have kx:=hide P;have qc:=hide k9;have qd:=hide kc;have qj:W.heap.size+6<=w'.heap.size:=(by have:=j.out;have:=U.out;omega);have qb:VB w2 W.heap.size C of q Bl l:=r.out.keep (λk k1 k2=>k9.block k (by omega));have q6:J sx w2:=u _ _ _ HJ.out (k9.mono (by omega));have M:=hide qb;have qe:=hide q6;clear P k9 kc q5 O kg hz kf hx qb q6;gi_wp2;have k5:∀ m,CallsIn Fence.wide m ZP 212 #[.agg (aY C'),Z7 Z8 (bO of x.1:Nat),Z7 Z9 (q:Int),fv Bl,.func (.yield l) #[] #[]] w2.drew λe t=>e=Z3 (Z2 ZW)/\(J (yF K d C' (bO of x.1) q sx) t/\bw n0 w2.drew t):=
      λm=>kp m x.1 C' (bO of x.1) q sx w2.drew kx.out (pR _ _ km) (by omega) (u _ _ _ qe.out (Below.refl _ _).drew)
     refine DQ w'.heap.size (W.heap.size+1) (W.heap.size+1+1) (W.heap.size+1+1+1) (W.heap.size+1+1+1+1) x.1 of q C' (fv Bl) (.func (.yield l) #[] #[]) (λt=>J (yF K d C' (bO of x.1) q sx) t/\bw n0 w2.drew t) (by kernel_rfl) rfl k6 km rfl rfl rfl rfl rfl rfl
      (show aF w2.drew _ _ from qd.out) M.out.set.cell M.out.VP.cell M.out.T9.cell M.out.V2.cell k5 ?_
     clear k5;rintro a' T hk f36 ⟨ky,H⟩;obtain ⟨ls,P,rfl⟩:=hk.split (by decide) (by simp);clear hk;obtain ⟨u0,u1,u2,u3,u4,u5,u6,u7,u8,rfl⟩:=QN P;clear P;simp only [Yi,Yj,Yk,Yy,XS,XU] at f36 ⊢;obtain rfl:u8=Z2 ZV:=f36;have h9:bw n0 w2 T:=⟨H.os,H.tape,H.output,H.size,H.block⟩;have hv3:VB T W.heap.size C of q Bl l:=M.out.keep (λk k1 k2=>h9.block k (by omega) (by omega));have c7:=hv3.VP.cell;have f7:=hv3.VP.frozen;obtain ⟨qx,qo⟩:=GS q qk;have qg:=hide hv3;have qf:=hide ky;have kv:=hide h9;clear hv3 ky h9 H;gi_wp2;have ki:=j.out;have F:=U.out;have kz:J (yF K d C' (bO of x.1) q sx) (T.setCell ⟨W.heap.size+1+1,0,ZY⟩ (Z7 Z9 ((q+1:Nat):Int))):=u _ _ _ qf.out ((Below.refl _ _).setCell (p:=⟨W.heap.size+1+1,0,ZY⟩) (by show n0<=W.heap.size+1+1;omega) _);have hh:bw n0 w' T:=(bw.TF qc.out).trans kv.out;have qi:KeepsFrom V.heap.size w' (T.setCell ⟨W.heap.size+1+1,0,ZY⟩ (Z7 Z9 ((q+1:Nat):Int))):=(hh.keeps (by omega)).trans ((KeepsOthers.setCell _ _ _).from _);refine ⟨qi,λ_=>(k8 _ _ kz).2.2,?_⟩;unfold VI;rw [kb.out,MR Q kx.out];refine ⟨rfl,qg.out.VL (q+1),kz,(HA.out.trans hh).setCell (p:=⟨W.heap.size+1+1,0,ZY⟩) (.inr (XJ (Yp _) (Yp _))) _,by rw [XO];exact Nat.succ_le_succ z,?_⟩;have:=kv.out.size;simp only [World.setCell,Yq];omega
  . have kh:decide (q<sx.2)=ZV:=decide_eq_false Q;rw [kh];gi_wp2;refine ⟨KeepsFrom.refl _ _,rfl,?_⟩;unfold VI;rw [kb.out,GQ Q];exact ⟨rfl,r.out,HJ.out,HA.out,by rw [XO];exact YR z,U.out⟩
 case done=>
  rintro D xs X hD qp ⟨y,b,g,v,z,F⟩ hK;have L:=GP (K:=K) (d:=d) (C:=C) (p:=p) (s:=s) qp;rw [L] at g;have hb:=b.res.cell;have f10:=b.res.frozen;have ki:=j.out;have w:=hide3 b g v;clear b g v;gi_wp2;clear L;exact wR (a:=_) u R (by omega) (by omega) (by omega) w.out.1.res w.out.2.1 w.out.2.2 hK (by simp) (by simp [Act.eval]) (by simp)
 case stop=>
  rintro D c pre X hD ko ⟨rfl,y,b,g,v,z,F⟩ hK;have L:=DS (K:=K) (d:=d) (C:=C) (p:=p) (s:=s) ko y;rw [L] at g;have hb:=b.res.cell;have f10:=b.res.frozen;have ki:=j.out;have w:=hide3 b g v;clear b g v;gi_wp2;clear L;exact wR (a:=_) u R (by omega) (by omega) (by omega) w.out.1.res w.out.2.1 w.out.2.2 hK (by simp) (by simp [Act.eval]) (by simp)
def GT (a:dY C) (h:iC C i=ZX C'):dY C':=by
 obtain ⟨r,rfl,b,c,_⟩:=gw h;have:=a.T2;exact ⟨nz a.byt,by show C.told<=C.count-1;omega,by show C.count-1<=8;omega⟩
theorem Kx (K:List Nat) (n0 Bl l:Nat) (J:cI->ZU->Prop) (j:∀ s A B,J s A->ZS n0 A B->J s B)
 (k:∀ s A,J s A->A.cell? ⟨Bl,0,ZY⟩=ZX (Z7 Z9 (s.2:Int))/\n0<=A.heap.size/\aJ A) (n:2<=n0)
 (o:∀ m s C f,J s f->dY C->YieldAt Fence.wide m ZP l #[.agg (aY C)] f λe W'=>e=Z3 (Z2 ZW)/\J (fs K s C) W'/\bw n0 f W') :
 ∀ (d m:Nat) (C:Ck) (of p:Nat) (s:cI) (W:ZU),dY C->C.count<=C.told+d->of<65536->p+16*(d+1)<=100000->J s W ->
  CallsIn Fence.wide m ZP 212 #[.agg (aY C),Z7 Z8 of,Z7 Z9 p,fv Bl,.func (.yield l) #[] #[]] W λe W'=>e=Z3 (Z2 ZW)/\J (iG K d C of p s) W'/\bw n0 W W':=by
 intro d;induction d with
 | zero=>
  intro m C of p s W b z g D h;refine tD K n0 Bl l J j k n o 0 m C of p s W b g (by omega) h ?_;intro m i C' a q t W' c;obtain ⟨r,_,u,v,_⟩:=gw c;omega
 | succ d ih=>
  intro m C of p s W b z g D h;refine tD K n0 Bl l J j k n o (d+1) m C of p s W b g (by omega) h ?_;intro m i C' a q t W' c ho E x;have y:=GT b c;obtain ⟨r,w,u,v,_⟩:=gw c;exact ih m C' a q t W' y (by rw [w];show C.count-1<=C.told+d;omega) ho (by omega) x
end
theorem jX {R:Array Oper} (j:R.size=n) (a:(XG n).map (λi=>(R[i]?).map λo=>(o.after.toList.filter (λe=>Region.binds .any e)).map (λe=>e.on))=(XG n).map (λi=>ZX (ed i)))
 {listed:Array Bool} {i:Nat} (h:i∈Region.ready .any R listed):i<n/\listed.getD i ZW=ZV/\∀ k∈ed i,listed.getD k ZV=ZW:=by
 unfold Region.ready at h;rw [XM,j,XT] at h;obtain ⟨c,b⟩:=h;rw [Yl] at b;refine ⟨c,by simpa using b.1,λk f=>?_⟩;have a:(R[i]?).map (λo=>(o.after.toList.filter (λe=>Region.binds .any e)).map (λe=>e.on))=ZX (ed i):=by
  have:=congrArg (λl=>l[i]?) a;simp only [XV,XY c,XP,X0] at this;exact this
 rw [X4] at a;obtain ⟨o,ho,g⟩:=a;rw [ho] at b;have d:=b.2;simp only [XP,Ym] at d;rw [<- g,XN] at f;obtain ⟨e,a,rfl⟩:=f;obtain ⟨m,p⟩:=XM.1 a;have:=Yn.1 d e (by simpa using m);simpa [p] using this
theorem eA {R:Array Oper} (h:R.size=n) (a:(XG n).map (λi=>(R[i]?).map λo=>(o.after.toList.filter (λe=>Region.binds .any e)).map (λe=>e.on))=(XG n).map (λi=>ZX (ed i)))
 {listed:Array Bool} {i:Nat} (b:i<n) (f:listed.getD i ZW=ZV) (g:∀ k∈ed i,listed.getD k ZV=ZW):i∈Region.ready .any R listed:=by
 unfold Region.ready;rw [XM,h,XT];refine ⟨b,?_⟩;rw [Yl];refine ⟨by simpa using f,?_⟩;have a:(R[i]?).map (λo=>(o.after.toList.filter (λe=>Region.binds .any e)).map (λe=>e.on))=ZX (ed i):=by
  have:=congrArg (λl=>l[i]?) a;simp only [XV,XY b,XP,X0] at this;exact this
 rw [X4] at a;obtain ⟨o,ho,d⟩:=a;rw [ho];simp only [XP,Ym];rw [Yn];intro e a;by_cases c:Region.binds .any e=ZW
 . have:=g e.on (by rw [<- d];exact XN.2 ⟨e,XM.2 ⟨by simpa using a,c⟩,rfl⟩);simp [this]
 . simp [c]
theorem rp {B':Nat} (h:aF W B C) (a:Bx W B' v):B≠B':=by
 rintro rfl;obtain ⟨t,a⟩:=a;have e:=h.heap.symm.trans a;simp only [X0,Obj.cells.injEq] at e;have:=congrArg Array.size e.1;rw [bf] at this;simp at this
noncomputable def N8:Array Oper:=((Tryz.f199.body.bind (IP · 1))).getD #[]
def nI:(XG 7).map (λi=>(N8[i]?).map λo=>(o.op,o.dst,o.guard))=[
 ZX (.load 319 (Z1 2),ZX 11,ZY),ZX (.load 124 (Z1 3),ZX 12,ZY),ZX (.call { callee:=.value (.func 206),args:=#[Z1 12],argTypes:=#[124] },ZX 13,ZY),
 ZX (.alloc 319,ZX 5,ZY),ZX (.alloc 3,ZX 6,ZY),ZX (.store 319 (Z1 5) (Z1 11),ZY,ZY),ZX (.store 3 (Z1 6) (Z1 13),ZY,ZY)]:=by kernel_rfl
def nJ {d:Option Nat} (hi:i<7) (h:((XG 7).map (λi=>(N8[i]?).map λo=>(o.op,o.dst,o.guard)))[i]?=ZX (ZX (x,d,ZY))):∃ o,N8[i]?=ZX o/\o.op=x/\o.dst=d/\o.guard=ZY:=by
 simp only [XV,XY hi,XP,X0,X4,Yz] at h;obtain ⟨o,a,b,c,e⟩:=h;exact ⟨o,a,b,c,e⟩
def oY:Nat->List Nat
 | 2=>[1]
 | 5=>[3,0,2,0,3,4]
 | 6=>[4,2,5,0,1,2,3,4,5]
 | _=>[]
def eB:N8.size=7:=by kernel_rfl
def jF:(XG 7).map (λi=>(N8[i]?).map λo=>(o.after.toList.filter (λe=>Region.binds .any e)).map (λe=>e.on))=(XG 7).map (λi=>ZX (oY i)):=by kernel_rfl
def Tt (a:Act) (w:ZU) (kept:Nat) (C:Ck) (f:Nat) (listed:Array Bool) (a':Act) (w':ZU):Prop:=
 jE 5 14 a a'/\bW w w'/\((∃ b0 b1 b2 b3 b4:Bool,listed=#[b0,b1,b2,b3,b4,ZV,ZV]/\f=2+(bn b0+bn b1+bn b2+bn b3+bn b4)/\(b2=ZW->b1=ZW) /\
  (b0=ZW->a'.eval (Z1 11)=.agg (aY C))/\(b1=ZW->a'.eval (Z1 12)=Z7 Z8 (kept:Int))/\(b2=ZW->a'.eval (Z1 13)=Z7 Z9 ((ab kept).length:Nat)) /\
  (b3=ZW->∃ B,a'.eval (Z1 5)=Z6 (ZX ⟨B,0,ZY⟩)/\w.heap.size<=B/\aF w' B dG)/\(b4=ZW->∃ B,a'.eval (Z1 6)=Z6 (ZX ⟨B,0,ZY⟩)/\w.heap.size<=B/\Bx w' B (Z7 Z9 0))) \/
  (f=1/\listed=#[ZW,ZW,ZW,ZW,ZW,ZW,ZV]/\a'.eval (Z1 13)=Z7 Z9 ((ab kept).length:Nat)/\∃ B5 B6,a'.eval (Z1 5)=Z6 (ZX ⟨B5,0,ZY⟩)/\a'.eval (Z1 6)=Z6 (ZX ⟨B6,0,ZY⟩)/\w.heap.size<=B5/\w.heap.size<=B6/\aF w' B5 C/\Bx w' B6 (Z7 Z9 0)) \/
  (f=0/\listed=#[ZW,ZW,ZW,ZW,ZW,ZW,ZW]/\∃ B5 B6,a'.eval (Z1 5)=Z6 (ZX ⟨B5,0,ZY⟩)/\a'.eval (Z1 6)=Z6 (ZX ⟨B6,0,ZY⟩)/\w.heap.size<=B5/\w.heap.size<=B6/\aF w' B5 C/\Bx w' B6 (Z7 Z9 ((ab kept).length:Nat))))
theorem GU (B2 S kept:Nat) (C:Ck) (hR:N8=ops) (O:a.tmps.size=35) (h9:kept<65536)
 (i2:a.eval (Z1 2)=Z6 (ZX ⟨B2,0,ZY⟩)) (i3:a.eval (Z1 3)=Z6 (ZX ⟨S,0,ZY⟩)) (ha:aF w B2 C) (h5:Bx w S (Z7 Z8 (kept:Int)))
 (h:∀ a' w' r q,jE 5 14 a a'->a'.eval (Z1 5)=Z6 (ZX ⟨r,0,ZY⟩)->a'.eval (Z1 6)=Z6 (ZX ⟨q,0,ZY⟩)->w.heap.size<=r->w.heap.size<=q->aF w' r C->Bx w' q (Z7 Z9 ((ab kept).length:Nat))->bW w w'->Q .normal a' w') :
 (Code.region 1 ops ZW).wpIn Fence.wide n ZP Q a w:=by
 subst hR;have he:=ha.lt;have hg:=h5.lt;obtain ⟨p0,g0,x0,d0,k0⟩:=nJ (i:=0) (by decide) (by rw [nI];rfl);obtain ⟨p1,g1,x1,d1,k1⟩:=nJ (i:=1) (by decide) (by rw [nI];rfl);obtain ⟨p2,g2,x2,d2,k2⟩:=nJ (i:=2) (by decide) (by rw [nI];rfl);obtain ⟨p3,g3,x3,d3,k3⟩:=nJ (i:=3) (by decide) (by rw [nI];rfl);obtain ⟨p4,g4,x4,d4,k4⟩:=nJ (i:=4) (by decide) (by rw [nI];rfl);obtain ⟨p5,g5,x5,d5,k5⟩:=nJ (i:=5) (by decide) (by rw [nI];rfl);obtain ⟨p6,g6,x6,d6,k6⟩:=nJ (i:=6) (by decide) (by rw [nI];rfl);refine wpIn_region_any (by kernel_rfl) ?_;rw [eB];refine mF (Tt a w kept C) ?_ ?_ 7 _ a _ ⟨jE.refl _ _ _,(Below.refl _ w).drew,.inl ⟨ZV,ZV,ZV,ZV,ZV,rfl,rfl,λh=>(by cases h),λh=>(by cases h),λh=>(by cases h),λh=>(by cases h),λh=>(by cases h),λh=>(by cases h)⟩⟩
 . rintro listed a' w' ⟨l,g,⟨b0,b1,b2,b3,t,_,m,_⟩|⟨m,_⟩|⟨_,rfl,r,q,V,P,F,G,y,s⟩⟩
   . omega
   . omega
   . refine ⟨YA.2 λj E=>?_,h a' w' r q l V P F G y s g⟩;obtain ⟨h1,x,_⟩:=jX eB jF E;have:j=0\/j=1\/j=2\/j=3\/j=4\/j=5\/j=6:=by omega
     rcases this with rfl|rfl|rfl|rfl|rfl|rfl|rfl<;>simp at x
 . rintro f listed a' w' ⟨l,g,⟨b0,b1,b2,b3,t,rfl,m,R,I,J,L,M,N⟩|⟨m,rfl,Z,r,q,V,P,F,G,y,s⟩|⟨m,_⟩⟩
   . constructor
     . intro W;have A:∀ j,j∉Region.ready .any N8 #[b0,b1,b2,b3,t,ZV,ZV]:=λj=>by rw [W];simp
       have T:b0=ZW:=eq_true_of_ne_false λe=>A 0 (eA eB jF (by decide) (by simp [e]) (by simp [oY]));have b:b1=ZW:=eq_true_of_ne_false λe=>A 1 (eA eB jF (by decide) (by simp [e]) (by simp [oY]));have d:b2=ZW:=eq_true_of_ne_false λe=>A 2 (eA eB jF (by decide) (by simp [e]) (by simp [oY,b]));have z:b3=ZW:=eq_true_of_ne_false λe=>A 3 (eA eB jF (by decide) (by simp [e]) (by simp [oY]));have U:t=ZW:=eq_true_of_ne_false λe=>A 4 (eA eB jF (by decide) (by simp [e]) (by simp [oY]));exact A 5 (eA eB jF (by decide) (by simp) (by simp [oY,T,d,z,U]))
     . intro j E;obtain ⟨h1,x,D⟩:=jX eB jF E;clear E;have X:j=0\/j=1\/j=2\/j=3\/j=4\/j=5\/j=6:=(by omega);rcases X with rfl|rfl|rfl|rfl|rfl|rfl|rfl
       . have u:b0=ZV:=(by simpa using x);have H:=(l.slot 2 (by omega)).trans i2;have h7:=ha.mono g he;refine wpOpIn_step g0 λK hK=>dy (v:=.agg (aY C)) (w':=w') k0 (by simp [Oper.about,x0]) (by rw [x0];intro c o;cases o) (by simp [execOp,x0,H,mB h7,Result.andThen]) (hK _ _ ?_);rw [d0];exact ⟨l.put 11 _ (by decide) (by decide),g,.inl ⟨ZW,b1,b2,b3,t,rfl,by rw [dk u] at m;simp only [bn,if_true];simp only [bn] at m;omega,R,λ_=>dr _ _ _ (by rw [l.size,O];decide),λe=>(ai _ _ _ _ (by decide)).trans (J e),λe=>(ai _ _ _ _ (by decide)).trans (L e),λe=>(by obtain ⟨B,b,d⟩:=M e;exact ⟨B,(ai _ _ _ _ (by decide)).trans b,d⟩),λe=>(by obtain ⟨B,b,d⟩:=N e;exact ⟨B,(ai _ _ _ _ (by decide)).trans b,d⟩)⟩⟩
       . have u:b1=ZV:=(by simpa using x);have H:=(l.slot 3 (by omega)).trans i3;have cs:=(h5.keep (g.block S hg)).cell;refine wpOpIn_step g1 λK hK=>dy (v:=Z7 Z8 (kept:Int)) (w':=w') k1 (by simp [Oper.about,x1]) (by rw [x1];intro c o;cases o) (by simp only [execOp,x1,H];go_simp) (hK _ _ ?_);rw [d1];exact ⟨l.put 12 _ (by decide) (by decide),g,.inl ⟨b0,ZW,b2,b3,t,rfl,by rw [dk u] at m;simp only [bn,if_true];simp only [bn] at m;omega,λ_=>rfl,λe=>(ai _ _ _ _ (by decide)).trans (I e),λ_=>dr _ _ _ (by rw [l.size,O];decide),λe=>(ai _ _ _ _ (by decide)).trans (L e),λe=>(by obtain ⟨B,b,d⟩:=M e;exact ⟨B,(ai _ _ _ _ (by decide)).trans b,d⟩),λe=>(by obtain ⟨B,b,d⟩:=N e;exact ⟨B,(ai _ _ _ _ (by decide)).trans b,d⟩)⟩⟩
       . have u:b2=ZV:=(by simpa using x);have b:b1=ZW:=(by have:=D 1 (by simp [oY]);simpa using this);have H:=J b;refine wpOpIn_step g2 λK hK=>qC (λ_=>trivial) rfl k2 (by rw [x2];intro c o;cases o) (f:=206) (args:=#[Z7 Z8 (kept:Int)]) (w':=w') (by have sf:a'.eval (.func 206)=.func (.func 206) #[] #[]:=rfl;generalize a'.eval=ev at H sf ⊢;simp [execOp,x2,resolve,invoke,H,sf,go_sem]) (callsIn_wide.2 (AB kept h9 _)) ?_;rintro e hd ⟨rfl,rfl⟩;refine ⟨_,rfl,hK _ _ ?_⟩;rw [d2];exact ⟨l.put 13 _ (by decide) (by decide),g,.inl ⟨b0,b1,ZW,b3,t,rfl,by rw [dk u] at m;simp only [bn,if_true];simp only [bn] at m;omega,λ_=>b,λe=>(ai _ _ _ _ (by decide)).trans (I e),λe=>(ai _ _ _ _ (by decide)).trans (J e),λ_=>dr _ _ _ (by rw [l.size,O];decide),λe=>(by obtain ⟨B,b,d⟩:=M e;exact ⟨B,(ai _ _ _ _ (by decide)).trans b,d⟩),λe=>(by obtain ⟨B,b,d⟩:=N e;exact ⟨B,(ai _ _ _ _ (by decide)).trans b,d⟩)⟩⟩
       . have u:b3=ZV:=(by simpa using x);have hz:=zeroCk w';refine wpOpIn_step g3 λK hK=>dy (v:=Z6 (ZX ⟨w'.heap.size,0,ZY⟩)) (w':=w'.alloc (Z4 (aY dG) 319)) k3 (by simp [Oper.about,x3]) (by rw [x3];intro c o;cases o) (by simp only [execOp,x3];go_simp) (hK _ _ ?_);rw [d3];exact ⟨l.put 5 _ (by decide) (by decide),g.alloc g.size _,.inl ⟨b0,b1,b2,ZW,t,rfl,by rw [dk u] at m;simp only [bn,if_true];simp only [bn] at m;omega,R,λe=>(ai _ _ _ _ (by decide)).trans (I e),λe=>(ai _ _ _ _ (by decide)).trans (J e),λe=>(ai _ _ _ _ (by decide)).trans (L e),λ_=>⟨w'.heap.size,dr _ _ _ (by rw [l.size,O];decide),g.size,aF.new _ _⟩,λe=>(by obtain ⟨B,b,d,z⟩:=N e;exact ⟨B,(ai _ _ _ _ (by decide)).trans b,d,z.alloc _⟩)⟩⟩
       . have u:t=ZV:=(by simpa using x);refine wpOpIn_step g4 λK hK=>dy (v:=Z6 (ZX ⟨w'.heap.size,0,ZY⟩)) (w':=w'.alloc (Z4 #[Z7 Z9 0] 3)) k4 (by simp [Oper.about,x4]) (by rw [x4];intro c o;cases o) (by simp only [execOp,x4];go_simp) (hK _ _ ?_);rw [d4];exact ⟨l.put 6 _ (by decide) (by decide),g.alloc g.size _,.inl ⟨b0,b1,b2,b3,ZW,rfl,by rw [dk u] at m;simp only [bn,if_true];simp only [bn] at m;omega,R,λe=>(ai _ _ _ _ (by decide)).trans (I e),λe=>(ai _ _ _ _ (by decide)).trans (J e),λe=>(ai _ _ _ _ (by decide)).trans (L e),λe=>(by obtain ⟨B,b,d,z⟩:=M e;exact ⟨B,(ai _ _ _ _ (by decide)).trans b,d,z.keep (Below.heap_alloc _ _ _ z.lt)⟩),λ_=>⟨w'.heap.size,dr _ _ _ (by rw [l.size,O];decide),g.size,Bx.new _ _ _⟩⟩⟩
       . have T:b0=ZW:=(by have:=D 0 (by simp [oY]);simpa using this);have d:b2=ZW:=(by have:=D 2 (by simp [oY]);simpa using this);have z:b3=ZW:=(by have:=D 3 (by simp [oY]);simpa using this);have U:t=ZW:=(by have:=D 4 (by simp [oY]);simpa using this);have b:=R d;subst T b d z U;have Y:=I rfl;obtain ⟨r,t5,F,y⟩:=M rfl;obtain ⟨q,t6,G,s⟩:=N rfl;have hh:=nH C y;refine wpOpIn_step g5 λK hK=>mD (w':=w'.setRow r (aY C)) k5 (by simp [Oper.about,x5]) (by rw [x5];intro c o;cases o) (by simp [execOp,x5,t5,Y,hh,Result.andThen]) (hK _ _ ?_);rw [d5];have ne:=rp y s;exact ⟨l.none _,g.grown (aR _ _ _) g.size (λk e=>by cases e;exact F),.inr (.inl ⟨by simp only [bn,if_true] at m;omega,rfl,L rfl,r,q,t5,t6,F,G,y.setRow C,s.keep ((aR w' r (aY C)).block q s.lt (λe=>ne (by cases e;rfl)))⟩)⟩
       . have:=D 5 (by simp [oY]);simp at this
   . constructor
     . intro W;have:6∈Region.ready .any N8 #[ZW,ZW,ZW,ZW,ZW,ZW,ZV]:=eA eB jF (by decide) (by simp) (by simp [oY]);rw [W] at this;cases this
     . intro j E;obtain ⟨h1,x,_⟩:=jX eB jF E;have:j=6:=by
        have X:j=0\/j=1\/j=2\/j=3\/j=4\/j=5\/j=6:=(by omega);rcases X with rfl|rfl|rfl|rfl|rfl|rfl|rfl<;>first|rfl|(simp at x)
       subst this;have cc:=s.cell;have ff:=s.frozen;refine wpOpIn_step g6 λK hK=>mD (w':=w'.setCell ⟨q,0,ZY⟩ (Z7 Z9 ((ab kept).length:Nat))) k6 (by simp [Oper.about,x6]) (by rw [x6];intro c o;cases o) (by simp only [execOp,x6,P,Z];go_simp) (hK _ _ ?_);rw [d6];have ne:=rp y s;exact ⟨l.none _,g.setCell (p:=⟨q,0,ZY⟩) G _,.inr (.inr ⟨by omega,rfl,r,q,V,P,F,G,y.keep (Below.heap_setCell _ _ _ _ ne),s.set _⟩)⟩
   . omega
noncomputable def DT:Array Oper:=((Tryz.f199.body.bind (IP · 11))).getD #[]
def se:(XG 4).map (λi=>(DT[i]?).map λo=>(o.op,o.dst,o.guard))=[
 ZX (.load 319 (Z1 8),ZX 32,ZY),ZX (.load 3 (Z1 9),ZX 33,ZY),ZX (.store 319 (Z1 5) (Z1 32),ZY,ZY),ZX (.store 3 (Z1 6) (Z1 33),ZY,ZY)]:=by kernel_rfl
def sg {d:Option Nat} (hi:i<4) (h:((XG 4).map (λi=>(DT[i]?).map λo=>(o.op,o.dst,o.guard)))[i]?=ZX (ZX (x,d,ZY))):∃ o,DT[i]?=ZX o/\o.op=x/\o.dst=d/\o.guard=ZY:=by
 simp only [XV,XY hi,XP,X0,X4,Yz] at h;obtain ⟨o,a,b,c,e⟩:=h;exact ⟨o,a,b,c,e⟩
def rq:Nat->List Nat
 | 2=>[0,0]
 | 3=>[1,2,0,1,2]
 | _=>[]
def fY:DT.size=4:=by kernel_rfl
def mG:(XG 4).map (λi=>(DT[i]?).map λo=>(o.after.toList.filter (λe=>Region.binds .any e)).map (λe=>e.on))=(XG 4).map (λi=>ZX (rq i)):=by kernel_rfl
def RT (a:Act) (w:ZU) (B5 B6 n:Nat) (C:Ck) (f:Nat) (listed:Array Bool) (a':Act) (w':ZU):Prop:=
 jE 32 34 a a'/\((∃ b0 b1 b2:Bool,listed=#[b0,b1,b2,ZV]/\f=1+(bn b0+bn b1+bn b2)/\(b2=ZW->b0=ZW)/\(b0=ZW->a'.eval (Z1 32)=.agg (aY C))/\(b1=ZW->a'.eval (Z1 33)=Z7 Z9 (n:Int)) /\
  w'=(if b2=ZW then w.drew.setRow B5 (aY C) else w.drew)) \/
  (f=0/\listed=#[ZW,ZW,ZW,ZW]/\w'=(w.drew.setRow B5 (aY C)).setCell ⟨B6,0,ZY⟩ (Z7 Z9 (n:Int))))
theorem DU (b g u x n:Nat) (C C':Ck) (v:ZT) (hR:DT=ops) (sz:a.tmps.size=35)
 (i5:a.eval (Z1 5)=Z6 (ZX ⟨b,0,ZY⟩)) (i6:a.eval (Z1 6)=Z6 (ZX ⟨g,0,ZY⟩)) (i8:a.eval (Z1 8)=Z6 (ZX ⟨u,0,ZY⟩)) (i9:a.eval (Z1 9)=Z6 (ZX ⟨x,0,ZY⟩))
 (W:aF w u C) (J:Bx w x (Z7 Z9 (n:Int))) (H:aF w b C') (I:Bx w g v) (M:u≠b)
 (h:∀ a',jE 32 34 a a'->Q .normal a' ((w.drew.setRow b (aY C)).setCell ⟨g,0,ZY⟩ (Z7 Z9 (n:Int)))) :
 (Code.region 11 ops ZW).wpIn (Fence.wide.inRound l) m ZP Q a w:=by
 subst hR;obtain ⟨p0,g0,S,d0,k0⟩:=sg (i:=0) (by decide) (by rw [se];rfl);obtain ⟨p1,g1,T,d1,k1⟩:=sg (i:=1) (by decide) (by rw [se];rfl);obtain ⟨p2,g2,U,d2,k2⟩:=sg (i:=2) (by decide) (by rw [se];rfl);obtain ⟨p3,g3,V,d3,k3⟩:=sg (i:=3) (by decide) (by rw [se];rfl);have F:∀ (b2:Bool) (k:Nat),k≠b->k<w.heap.size->(if b2=ZW then w.drew.setRow b (aY C) else w.drew).heap[k]?=w.heap[k]?:=by
  intro b2 k d hi;cases b2
  . rfl
  . exact (aR w.drew b (aY C)).block k hi (λe=>d (by cases e;rfl))
 have N:x≠b:=(rp H J).symm;have L:g≠b:=(rp H I).symm;refine wpIn_region_any (by kernel_rfl) ?_;rw [fY];refine mF (RT a w b g n C) ?_ ?_ 4 _ a _ ⟨jE.refl _ _ _,.inl ⟨ZV,ZV,ZV,rfl,rfl,λh=>(by cases h),λh=>(by cases h),λh=>(by cases h),rfl⟩⟩
 . rintro listed a' w' ⟨d,⟨b0,b1,b2,_,o,_⟩|⟨_,rfl,rfl⟩⟩
   . omega
   . refine ⟨YA.2 λj z=>?_,h a' d⟩;obtain ⟨h1,s,_⟩:=jX fY mG z;have:j=0\/j=1\/j=2\/j=3:=by omega
     rcases this with rfl|rfl|rfl|rfl<;>simp at s
 . rintro f listed a' w' ⟨d,⟨b0,b1,b2,rfl,o,X,Z,O,rfl⟩|⟨o,_⟩⟩
   . constructor
     . intro h7;have y:∀ j,j∉Region.ready .any DT #[b0,b1,b2,ZV]:=λj=>by rw [h7];simp
       have q:b0=ZW:=eq_true_of_ne_false λe=>y 0 (eA fY mG (by decide) (by simp [e]) (by simp [rq]));have B:b1=ZW:=eq_true_of_ne_false λe=>y 1 (eA fY mG (by decide) (by simp [e]) (by simp [rq]));have D:b2=ZW:=eq_true_of_ne_false λe=>y 2 (eA fY mG (by decide) (by simp [e]) (by simp [rq,q]));exact y 3 (eA fY mG (by decide) (by simp) (by simp [rq,q,B,D]))
     . intro j z;obtain ⟨h1,s,G⟩:=jX fY mG z;clear z;have hh:j=0\/j=1\/j=2\/j=3:=(by omega);rcases hh with rfl|rfl|rfl|rfl
       . have r:b0=ZV:=(by simpa using s);have P:=(d.slot 8 (by omega)).trans i8;have hg:=W.keep (F b2 u M W.lt);refine wpOpIn_step g0 λK hK=>dy (v:=.agg (aY C)) (w':=if b2=ZW then w.drew.setRow b (aY C) else w.drew) k0 (by simp [Oper.about,S]) (by rw [S];intro c p;cases p) (by simp [execOp,S,P,mB hg,Result.andThen]) (hK _ _ ?_);rw [d0];exact ⟨d.put 32 _ (by decide) (by decide),.inl ⟨ZW,b1,b2,rfl,by rw [dk r] at o;simp only [bn,if_true];simp only [bn] at o;omega,λ_=>rfl,λ_=>dr _ _ _ (by rw [d.size,sz];decide),λe=>(ai _ _ _ _ (by decide)).trans (O e),rfl⟩⟩
       . have r:b1=ZV:=(by simpa using s);have P:=(d.slot 9 (by omega)).trans i9;have cs:=(J.keep (F b2 x N J.lt)).cell;refine wpOpIn_step g1 λK hK=>dy (v:=Z7 Z9 (n:Int)) (w':=if b2=ZW then w.drew.setRow b (aY C) else w.drew) k1 (by simp [Oper.about,T]) (by rw [T];intro c p;cases p) (by generalize (if b2=ZW then w.drew.setRow b (aY C) else w.drew)=wz at cs ⊢;simp only [execOp,T,P];go_simp) (hK _ _ ?_);rw [d1];exact ⟨d.put 33 _ (by decide) (by decide),.inl ⟨b0,ZW,b2,rfl,by rw [dk r] at o;simp only [bn,if_true];simp only [bn] at o;omega,X,λe=>(ai _ _ _ _ (by decide)).trans (Z e),λ_=>dr _ _ _ (by rw [d.size,sz];decide),rfl⟩⟩
       . have r:b2=ZV:=(by simpa using s);have q:b0=ZW:=(by have:=G 0 (by simp [rq]);simpa using this);subst r q;have t:=Z rfl;have s5:=(d.slot 5 (by omega)).trans i5;have hm:=nH C (show aF w.drew b C' from H);refine wpOpIn_step g2 λK hK=>mD (w':=w.drew.setRow b (aY C)) k2 (by simp [Oper.about,U]) (by rw [U];intro c p;cases p) (by show (execOp a'.eval p2).run ZP w.drew=_;simp [execOp,U,s5,t,hm,Result.andThen]) (hK _ _ ?_);rw [d2];exact ⟨d.none _,.inl ⟨ZW,b1,ZW,rfl,by simp only [bn,if_true] at o ⊢;simp at o ⊢;omega,λ_=>rfl,λ_=>t,O,rfl⟩⟩
       . have B:b1=ZW:=(by have:=G 1 (by simp [rq]);simpa using this);have D:b2=ZW:=(by have:=G 2 (by simp [rq]);simpa using this);subst B D;have q:=X rfl;subst q;have R:=O rfl;have s6:=(d.slot 6 (by omega)).trans i6;have Y:=I.keep (F ZW g L I.lt);have cc:=Y.cell;have ff:=Y.frozen;refine wpOpIn_step g3 λK hK=>mD (w':=(w.drew.setRow b (aY C)).setCell ⟨g,0,ZY⟩ (Z7 Z9 (n:Int))) k3 (by simp [Oper.about,V]) (by rw [V];intro c p;cases p) (by
          show (execOp a'.eval p3).run ZP (w.drew.setRow b (aY C))=_;have A:(w.drew.setRow b (aY C)).cell? ⟨g,0,ZY⟩=ZX v:=cc;have E:(w.drew.setRow b (aY C)).frozen? ⟨g,0,ZY⟩=ZV:=ff;generalize w.drew.setRow b (aY C)=wz at A E ⊢;simp only [execOp,V,s6,R];go_simp) (hK _ _ ?_)
         rw [d3];exact ⟨d.none _,.inr ⟨by simp only [bn,if_true] at o;omega,rfl,rfl⟩⟩
   . omega
section
attribute [local go_sem] Oper.semAt_some
theorem zi (C:Ck) (kept Bl:Nat) (w:ZU) :
 ZR ZP 209 #[.agg (aY C),Z7 Z8 kept,fv Bl] w λe w'=>e=Z3 (.func (.func 211) #[] #[Z6 (ZX ⟨w.heap.size,0,ZY⟩),Z6 (ZX ⟨w.heap.size+1,0,ZY⟩),Z6 (ZX ⟨w.heap.size+1+1,0,ZY⟩)]) /\
  aF w' w.heap.size C/\Bx w' (w.heap.size+1) (Z7 Z8 (kept:Int))/\Bx w' (w.heap.size+1+1) (fv Bl)/\bW w w'/\w'.heap.size=w.heap.size+3:=by
 have a:=bf C;unfold fv;go_enter func209,ntmps209;go_wp2;go_ret;refine ⟨rfl,?_,?_,?_,?_,by simp⟩
 . exact (aF.new w C).keep (by rw [Below.heap_alloc _ _ _ (by simp;omega),Below.heap_alloc _ _ _ (by simp)])
 . have h:=Bx.new (w.alloc (Z4 (aY C) 319)) 124 (Z7 Z8 (kept:Int));rw [World.size_alloc] at h;exact h.alloc _
 . have h:=Bx.new ((w.alloc (Z4 (aY C) 319)).alloc (Z4 #[Z7 Z8 (kept:Int)] 124)) 206 (.func (.func 208) #[] #[Z6 (ZX ⟨Bl,0,ZY⟩)]);simp only [World.size_alloc] at h;exact h
 . exact ((bA w _).alloc (by simp) _).alloc (by simp;omega) _
theorem zj (K:List Nat) (n0 Bl l:Nat) (J:cI->ZU->Prop) (j:∀ s A B,J s A->ZS n0 A B->J s B)
 (k:∀ s A,J s A->A.cell? ⟨Bl,0,ZY⟩=ZX (Z7 Z9 (s.2:Int))/\n0<=A.heap.size/\aJ A) (p:2<=n0)
 (r:∀ m s C b,J s b->dY C->YieldAt Fence.wide m ZP l #[.agg (aY C)] b λe W'=>e=Z3 (Z2 ZW)/\J (fs K s C) W'/\bw n0 b W')
 (n a Bs c:Nat) (C:Ck) (kept:Nat) (s:cI) (W:ZU) (t:aF W a C) (w:Bx W Bs (Z7 Z8 (kept:Int))) (o:Bx W c (fv Bl)) (d:dY C) (u:kept<65536) (q:J s W) :
 CallsIn Fence.wide n ZP 211 #[.func (.yield l) #[] #[],Z6 (ZX ⟨a,0,ZY⟩),Z6 (ZX ⟨Bs,0,ZY⟩),Z6 (ZX ⟨c,0,ZY⟩)] W λe W'=>(∃ v,e=Z3 v)/\J (iG K 8 C kept 0 s) W':=by
 have f:=λm=>Kx K n0 Bl l J j k p r 8 m C kept 0 s W d (by have:=d.T2;omega) u (by decide) q;have c1:=w.cell;have g:=o.cell;unfold fv at g f;refine callsIn_of_wp func211 rfl trivial ?_ rfl;simp only [ntmps211,X2,X7,Ya,Yb,Yc,Yd,Ye,Yf,Yg,XU,XS];gi_wp2_with (refine kM rfl (Z1 1) rfl a C rfl t ?_)
 refine ⟨trivial,λh=>(by cases h),(f _).mono ?_⟩;rintro e W' ⟨rfl,i,_⟩;gi_wp2;go_end0
 exact ⟨⟨_,rfl⟩,i⟩
structure FI (w:ZU) (kept B5 B6 B7:Nat) (s:cI) (W:ZU):Prop where
 Us:aF W B5 s.1
 least:Bx W B6 (Z7 Z9 (s.2:Int))
 T9:Bx W B7 (fv B6)
 set:Bx W (w.heap.size+1) (Z7 Z8 (kept:Int))
 res:aF W (w.heap.size+1+1) dG
 below:bW w W
def FI.mono {B5 B6 B7:Nat} (h:FI w kept B5 B6 B7 s W) (a:ZS B W W') (b:W.heap.size<=B\/(B5<B/\B6<B/\B7<B/\w.heap.size+3<=B)):FI w kept B5 B6 B7 s W':=by
 have e:=h.Us.lt;have f:=h.least.lt;have g:=h.T9.lt;have l1:=h.set.lt;have d:=h.res.lt;have c:=h.below.size;exact ⟨h.Us.keep (a.block _ (by omega)),h.least.keep (a.block _ (by omega)),h.T9.keep (a.block _ (by omega)),h.set.keep (a.block _ (by omega)),h.res.keep (a.block _ (by omega)),h.below.trans (a.mono (by omega))⟩
def Ky (p least Bl:Nat) (w:ZU) (b:z=(p:Int)) (a:w.cell? ⟨Bl,0,ZY⟩=ZX (Z7 Z9 (least:Int))) :
 ZR ZP 208 #[Z7 Z9 z,Z6 (ZX ⟨Bl,0,ZY⟩)] w λe w'=>e=Z3 (Z2 (decide (p<least)))/\w'=w:=by
 subst b;exact wQ p least Bl w a
def cR (x:Ck) (pre:List Sh):Nat:=((pre.map (·.1)).filter (cP x)).length
theorem MT (x:Ck) (pre:List Sh) (i:Sh):cR x (pre++[i])=cR x pre+(if cP x i.1=ZW then 1 else 0):=by
 unfold cR;rw [X5,YC,XO];congr 1;by_cases h:cP x i.1=ZW
 . simp [h]
 . simp [h]
def Pe {x:Ck} (h:pre.map (·.1)=ab kept):cR x pre=iF (ab kept) x:=by unfold cR iF;rw [h]
def MU {x:Ck} (h:pre.map (·.1)<+:ab kept):cR x pre<=iF (ab kept) x:=by
 unfold cR iF;obtain ⟨R,a⟩:=h;rw [<- a,YC,XO];omega
def QQ (x:Ck) (pre:List Sh):cR x pre<=pre.length:=by
 unfold cR;exact XJ (X9 _ _) (by rw [XL];exact XH _)
def Ro (X:ZU) (s:cI) (x:Ck) (pre:List Sh) (Y:ZU):Prop:=bW X Y/\Bx Y X.heap.size (Z7 Z9 (cR x pre:Int))/\(cR x pre=0\/cR x pre<s.2)
def Ro.own {x:Ck} (i:X.heap.size+1<=B):OwnFrom B (λpre Y=>Ro X s x pre Y):=by
 rintro pre A h row ⟨c,d,g⟩ b a;have f:=d.lt;exact ⟨c.grown b (by have:=c.size;omega) (λk e=>by have:=(a k e).1;omega),d.keep (b.block _ f (λe=>by have:=(a _ e.symm).1;omega)),g⟩
theorem DV (C:Ck) (kept:Nat) (w:ZU) (hf:dY C) (U:kept<65536) (hT:aJ w) (h2:3<=w.heap.size) :
 ZR ZP 199 #[.agg (aY C),Z7 Z8 kept] w λe w'=>e=Z3 (.agg (aY (aT 8 C kept).1))/\bW w w':=by
 have Z:=bf C;have h9:=bf dG;have hz:=zeroCk;obtain ⟨n,HN⟩:∃ n:Nat,Hid (9<=n):=⟨9,XH _⟩;refine (callsIn_wide (n:=n)).1 ?_;refine callsIn_of_wp_marks func199 rfl trivial ?_ rfl;simp only [ntmps199,X2,X7,Ya,Yb,Yc,Yd,Ye,Yf,Yg,XU,XS];have b0:bW w (((w.alloc (Z4 (aY C) 319)).alloc (Z4 #[Z7 Z8 (kept:Int)] 124)).alloc (Z4 (aY dG) 319)):=((bA w _).alloc (by simp) _).alloc (by simp;omega) _;have c0:aF (((w.alloc (Z4 (aY C) 319)).alloc (Z4 #[Z7 Z8 (kept:Int)] 124)).alloc (Z4 (aY dG) 319)) w.heap.size C:=(aF.new w C).keep (by rw [Below.heap_alloc _ _ _ (by simp;omega),Below.heap_alloc _ _ _ (by simp)]);have s0:Bx (((w.alloc (Z4 (aY C) 319)).alloc (Z4 #[Z7 Z8 (kept:Int)] 124)).alloc (Z4 (aY dG) 319)) (w.heap.size+1) (Z7 Z8 (kept:Int)):=by
  have h:=Bx.new (w.alloc (Z4 (aY C) 319)) 124 (Z7 Z8 (kept:Int));rw [World.size_alloc] at h;exact h.alloc _
 have r0:aF (((w.alloc (Z4 (aY C) 319)).alloc (Z4 #[Z7 Z8 (kept:Int)] 124)).alloc (Z4 (aY dG) 319)) (w.heap.size+1+1) dG:=by
  have h:=aF.new ((w.alloc (Z4 (aY C) 319)).alloc (Z4 #[Z7 Z8 (kept:Int)] 124)) dG;simp only [World.size_alloc] at h;exact h
 have z0:(((w.alloc (Z4 (aY C) 319)).alloc (Z4 #[Z7 Z8 (kept:Int)] 124)).alloc (Z4 (aY dG) 319)).heap.size=w.heap.size+3:=by simp
 obtain ⟨w3,qg⟩:=nM (((w.alloc (Z4 (aY C) 319)).alloc (Z4 #[Z7 Z8 (kept:Int)] 124)).alloc (Z4 (aY dG) 319));rw [qg] at b0 c0 s0 r0 z0;have HB:=hide b0;have HC:=hide c0;have HS:=hide s0;have O:=hide r0;have HZ:=hide z0;clear b0 c0 s0 r0 z0;gi_wp2;refine IV ?_;gi_wp2;refine GU w.heap.size (w.heap.size+1) kept C (by kernel_rfl) rfl U rfl rfl HC.out HS.out ?_;rintro a' d f a q8 e5 e6 l5 l6 c5 F v;obtain ⟨ls,V,rfl⟩:=q8.split (by decide) (by simp);clear q8;obtain ⟨u0,u1,u2,u3,u4,u5,u6,u7,u8,rfl⟩:=QN V;clear V;simp only [Yi,Yj,Yk,Yy,XS,XU] at e5 e6 ⊢;obtain rfl:u0=Z6 (ZX ⟨f,0,ZY⟩):=e5;obtain rfl:u1=Z6 (ZX ⟨a,0,ZY⟩):=e6;clear qg;have qi:=HZ.out;have cN:=(Bx.new d 206 .nilFunc).cell;have fN:=(Bx.new d 206 .nilFunc).frozen;have t:bW d ((d.alloc (Z4 #[.nilFunc] 206)).setCell ⟨d.heap.size,0,ZY⟩ (fv a)):=(bA _ _).setCell (p:=⟨d.heap.size,0,ZY⟩) lR _;have L:FI w kept f a d.heap.size (C,(ab kept).length) ((d.alloc (Z4 #[.nilFunc] 206)).setCell ⟨d.heap.size,0,ZY⟩ (fv a)):=
  ⟨c5.keep (t.block _ c5.lt),F.keep (t.block _ F.lt),(Bx.new d 206 .nilFunc).set _,HS.out.keep ((t.block _ (by have:=v.size;omega)).trans (v.block _ (by omega))),O.out.keep ((t.block _ (by have:=v.size;omega)).trans (v.block _ (by omega))),(HB.out.trans (v.mono (by omega))).trans (t.mono (by have:=v.size;omega))⟩
 have k8:aF ((d.alloc (Z4 #[.nilFunc] 206)).setCell ⟨d.heap.size,0,ZY⟩ (fv a)) w.heap.size C:=HC.out.keep ((t.block _ (by have:=v.size;omega)).trans (v.block _ (by omega)));have km:((d.alloc (Z4 #[.nilFunc] 206)).setCell ⟨d.heap.size,0,ZY⟩ (fv a)).heap.size=d.heap.size+1:=by simp [World.setCell]
 have qd:=v.size;have xy:=F.lt;obtain ⟨j,kj⟩:=nM ((d.alloc (Z4 #[.nilFunc] 206)).setCell ⟨d.heap.size,0,ZY⟩ (fv a));rw [kj] at L k8 km;unfold fv at kj;have Q:=L.T9.cell;unfold fv at Q;have c3:=L.set.cell;have G:=hide L;have qk:=hide k8;have xc:=hide km;have xb:=hide qd;have T:=hide qi;clear L k8 km t c5 F v HB HC HS O HZ qd qi hz Z h9;have ka:=zi C kept a j;unfold fv at ka;gi_wp2;refine wpIn_label ?_;gi_wp2_with (refine kM rfl (Z1 2) rfl w.heap.size C rfl qk.out ?_)
 refine de ka ?_;clear ka;rintro e w6 ⟨rfl,k1,k2,k3,k4,k5⟩;have qm:=hide k1;have qn:=hide k2;have qo:Hid (Bx w6 (j.heap.size+1+1) (fv a)):=hide k3;have qp:=hide k4;have kr:=hide k5;clear k1 k2 k3 k4 k5 kj cN fN Q c3;gi_wp2;have qx:FI w kept f a d.heap.size (C,(ab kept).length) w6:=G.out.mono qp.out (.inl lR);have xq:=G.out.Us.lt;have xx:=G.out.least.lt;have y0:=G.out.T9.lt;have xp:=G.out.res.lt;have q9:=kr.out;obtain ⟨m,HM⟩:∃ m:Nat,Hid (9<=m):=⟨9,XH _⟩;refine IW (P:=ZP) (n:=n) m (w:=w6) (gf:=211) (lb:=#[Z6 (ZX ⟨j.heap.size,0,ZY⟩),Z6 (ZX ⟨j.heap.size+1,0,ZY⟩),Z6 (ZX ⟨j.heap.size+1+1,0,ZY⟩)]) rfl (enters_of func211 (by kernel_rfl) rfl)
  (encs:=λC:Ck=>#[.agg (aY C)]) (λ_=>rfl) (fs (ab kept)) dY (FI w kept f a d.heap.size) (λs A B h hb=>h.mono hb (.inr ⟨by omega,by omega,by omega,by omega⟩)) (λs=>s=aT 8 C kept) (C,(ab kept).length)
  ?call qx (λB x a' A=>∃ o,B<=o/\aF A o x/\a'={ tmps:=#[.agg (aY C),Z7 Z8 (kept:Int),Z6 (ZX ⟨w.heap.size,0,ZY⟩),Z6 (ZX ⟨w.heap.size+1,0,ZY⟩),Z6 (ZX ⟨w.heap.size+1+1,0,ZY⟩),Z6 (ZX ⟨f,0,ZY⟩),Z6 (ZX ⟨a,0,ZY⟩),Z6 (ZX ⟨d.heap.size,0,ZY⟩),Z6 (ZX ⟨o,0,ZY⟩),u4,u5,u6,u7,u8,.func (.func 208) #[] #[Z6 (ZX ⟨a,0,ZY⟩)],.agg (aY C),Z7 Z8 (kept:Int),.func (.func 208) #[] #[Z6 (ZX ⟨a,0,ZY⟩)],.func (.func 211) #[] #[Z6 (ZX ⟨j.heap.size,0,ZY⟩),Z6 (ZX ⟨j.heap.size+1,0,ZY⟩),Z6 (ZX ⟨j.heap.size+1+1,0,ZY⟩)],.agg (aY x),ZZ,ZZ,ZZ,ZZ,ZZ,ZZ,ZZ,ZZ,ZZ,ZZ,ZZ,ZZ,ZZ,ZZ,ZZ],defers:=[] }) ?ax ?assign ?body ?done
 case call=>
  intro l J W k7 xm x1 x0 hY qz;refine (zj (ab kept) (w6.heap.size+2) a l J x1 (λs A hj=>?_) (by omega) hY (n-1) j.heap.size (j.heap.size+1) (j.heap.size+1+1) C kept _ W (qm.out.keep (k7.block _ (by omega))) (qn.out.keep (k7.block _ (by omega))) (qo.out.keep (k7.block _ (by omega))) hf U qz).mono ?_
  . obtain ⟨fi,hs⟩:=x0 s A hj;exact ⟨fi.least.cell,hs,hT.mono (by omega) fi.below⟩
  . rintro e W' ⟨hv,qy⟩;exact ⟨hv,_,rfl,qy⟩
 case ax=>
  rintro B x a' A A' ⟨o,h1,kz,h3⟩ x4;exact ⟨o,h1,kz.keep (x4.block o h1 kz.lt),h3⟩
 case assign=>
  intro l s x W K y q5 hK;have hz:=zeroCk;have h9:=bf dG;gi_wp2_with (refine jW rfl (Z1 8) (Z1 19) rfl W.heap.size x dG rfl rfl (aF.new W dG) ?_)
  exact hK _ _ ((bA _ _).grown (aR _ _ _) (by simp) (λk e=>by cases e;exact XH _)) ⟨W.heap.size,XH _,(aF.new W dG).setRow x,rfl⟩
 case body=>
  rintro l B s x a' X hl xi xe ⟨r,hr⟩ y q5 ⟨o,xd,qh,rfl⟩;have V:=y.below.size;have x7:l<X.heap.size:=(XI.1 hr).1;have k6:bW X (X.alloc (Z4 #[Z7 Z9 0] 3)):=bA _ _;have c3:=(y.mono k6 (.inl lR)).set.cell;have hc:bW X ((X.alloc (Z4 #[Z7 Z9 0] 3)).alloc (Z4 #[Z7 Z8 (kept:Int)] 124)):=k6.alloc (by simp) _;have q0:=(Bx.new X 3 (Z7 Z9 0)).alloc (Z4 #[Z7 Z8 (kept:Int)] 124);have kf:=(Bx.new (X.alloc (Z4 #[Z7 Z9 0] 3)) 124 (Z7 Z8 (kept:Int))).cell;have kk:((X.alloc (Z4 #[Z7 Z9 0] 3)).alloc (Z4 #[Z7 Z8 (kept:Int)] 124)).heap.size=X.heap.size+1+1:=by simp
  rw [World.size_alloc] at kf;have hx:=dC kept (X.alloc (Z4 #[Z7 Z9 0] 3));rw [World.size_alloc] at hx;have u:=hide y;have S:=hide qh;have R:=hide hc;have ko:=hide q0;have kv:=hide kf;have ky:=hide kk;have O:=hide hr;have kp:=hide hx;clear y qh k6 q0 kf kk hc hr V hx q9;gi_wp2;refine dH kp.out ?_;rintro e w' ⟨rfl,qf⟩;rw [<- qf] at R ko kv ky;clear kp c3 qf;gi_wp2;have x2:aJ w':=hT.mono (by omega) ((u.out.mono R.out (.inl lR)).below);have kk:=ky.out;have x9:w'.heap[l]?=ZX (.loop r):=(R.out.block l x7).trans O.out;have xf:=u.out.least;refine wpIn_rangeFunc_ownN (l₀:=l) (r₀:=r) rfl x9 (by have:=HM.out;omega) (gf:=153) (lb:=#[Z6 (ZX ⟨X.heap.size+1,0,ZY⟩)]) rfl trivial (enters_of func153 (by kernel_rfl) rfl)
   ((eS (m-1) (X.heap.size+1) kept U w' (by omega) kv.out (by omega) x2).inRound l) (λh k=>qZ h k) (re (by omega)) (Below.refl _ _) (λ_=>rfl)
   (λpre Y=>Ro X s x pre Y) (λc pre Y=>c=.exit 1/\bW X Y/\1<=cR x pre/\s.2<=cR x pre)
   (Ro.own (by omega)) (λc=>by
    rintro pre A Bw row ⟨g,q,z⟩ hg ke;exact ⟨g,q.grown hg (by have:=q.size;omega) (λk e=>by have:=(ke k e).1;omega),z⟩)
   ⟨R.out,ko.out,.inl rfl⟩
   (λi H _=>H={ tmps:=#[.agg (aY C),Z7 Z8 (kept:Int),Z6 (ZX ⟨w.heap.size,0,ZY⟩),Z6 (ZX ⟨w.heap.size+1,0,ZY⟩),Z6 (ZX ⟨w.heap.size+1+1,0,ZY⟩),Z6 (ZX ⟨f,0,ZY⟩),Z6 (ZX ⟨a,0,ZY⟩),Z6 (ZX ⟨d.heap.size,0,ZY⟩),Z6 (ZX ⟨o,0,ZY⟩),Z6 (ZX ⟨X.heap.size,0,ZY⟩),Z7 Z9 (i.1:Int),u6,u7,u8,.func (.func 208) #[] #[Z6 (ZX ⟨a,0,ZY⟩)],.agg (aY C),Z7 Z8 (kept:Int),.func (.func 208) #[] #[Z6 (ZX ⟨a,0,ZY⟩)],.func (.func 211) #[] #[Z6 (ZX ⟨j.heap.size,0,ZY⟩),Z6 (ZX ⟨j.heap.size+1,0,ZY⟩),Z6 (ZX ⟨j.heap.size+1+1,0,ZY⟩)],.agg (aY x),Z7 Z8 (kept:Int),.func (.func 153) #[] #[Z6 (ZX ⟨X.heap.size+1,0,ZY⟩)],Z7 Z9 (i.1:Int),ZZ,ZZ,ZZ,ZZ,ZZ,ZZ,ZZ,ZZ,ZZ,ZZ,ZZ,ZZ],defers:=[] })
   (λ_ _ _ _ _ _ hs _ _=>hs)
   ?assign2 ?body2 ?done2 ?stop2
  case assign2=>
   rintro l2 pre i Y K hi hK;unfold qY;gi_wp2;exact hK _ _ (KeepsFrom.refl _ _) (E3.refl _) hi rfl
  case body2=>
   rintro l2 pre i H Y _ _ ⟨g,q,z⟩ rfl x8;have h8:=S.out.lt;have q6:=S.out.keep (g.block o h8);have q7:=QQ x pre;have x6:(ab kept).length<=16:=(by rw [<- kN kept];exact qE kept);have qq:=hide g;have qs:=hide q;have qv:=hide z;have c9:=q.cell;have f9:=q.frozen;have qb:=wM o i.1 x Y q6 q5 i.2;have qe:=MT x pre i;have kx:=hide qe;have t:bW X (Y.setCell ⟨X.heap.size,0,ZY⟩ (Z7 Z9 ((cR x pre:Int)+1))):=g.setCell (p:=⟨X.heap.size,0,ZY⟩) lR _;have k0:=u.out.mono t (.inl lR);have Q:=k0.T9.cell;have F:=k0.least.cell;have hy:=q.set (Z7 Z9 ((cR x pre:Int)+1));have xo:=hy.cell;unfold fv at Q;have hq:=hide t;have qj:=hide hy;clear g q z qe t k0 hy q6;gi_wp2;refine dH qb ?_;clear qb;rintro e N ⟨rfl,kh⟩;subst kh;cases hn:cP x i.1 with
   | false=>
    have E:Hid (cR x (pre++[i])=cR x pre):=hide (by rw [kx.out,hn];simp);clear hn;gi_wp2;refine ⟨KeepsFrom.refl _ _,E3.refl _,qq.out,?_,?_⟩
    . rw [E.out];exact qs.out
    . rw [E.out];exact qv.out
   | true=>
    have E:Hid (cR x (pre++[i])=cR x pre+1):=hide (by rw [kx.out,hn];simp);clear hn;gi_wp2;refine dH (Ky (cR x pre+1) s.2 a _ (by omega) F) ?_;rintro e y1 ⟨rfl,ki⟩;have qa:KeepsFrom w'.heap.size N (N.setCell ⟨X.heap.size,0,ZY⟩ (Z7 Z9 ((cR x pre:Int)+1))):=(KeepsOthers.setCell _ _ _).from _;have ks:=hide qa;clear qa;subst ki;by_cases k9:cR x pre+1<s.2
    . rw [decide_eq_true k9];gi_wp2;refine ⟨ks.out,λ_=>hT.mono (by omega) (u.out.mono hq.out (.inl lR)).below,hq.out,?_,?_⟩
      . rw [E.out];exact qj.out
      . rw [E.out];exact .inr k9
    . rw [decide_eq_false k9];gi_wp2;refine ⟨ks.out,rfl,hq.out,?_,?_⟩
      . rw [E.out];omega
      . rw [E.out];omega
  case done2=>
   rintro ys Y xa ⟨g,q,z⟩;have q7:=Pe (x:=x) xa;rw [q7] at q z;have b:=u.out.mono g (.inl lR);have h8:=S.out.lt;have x3:=S.out.keep (g.block o h8);have q9:=kr.out;gi_wp2;refine DU f a o X.heap.size (iF (ab kept) x) x s.1 _ (by kernel_rfl) rfl rfl rfl rfl rfl x3 q b.Us b.least (by omega) ?_;intro a3 xh;have kg:fs (ab kept) s x=(x,iF (ab kept) x):=(by unfold fs;rw [if_pos z]);rw [kg];have M:=rp b.Us b.least;have qr:=rp b.Us b.T9;have xn:=rp b.Us b.set;have hd:=rp b.res b.least;have I:∀ k,k≠f->k≠a->k<Y.heap.size->((Y.drew.setRow f (aY x)).setCell ⟨a,0,ZY⟩ (Z7 Z9 (iF (ab kept) x:Int))).heap[k]?=Y.heap[k]?:=λk k1 k2 k3=>
    (Below.heap_setCell _ _ _ _ k2).trans ((aR Y.drew f (aY x)).block k k3 (λe=>k1 (by cases e;rfl)))
   have Z:Y.heap.size<=((Y.drew.setRow f (aY x)).setCell ⟨a,0,ZY⟩ (Z7 Z9 (iF (ab kept) x:Int))).heap.size:=(by simp [World.setCell,World.setRow]);have xk:=u.out.below.size;have xg:=g.size;have xv:w.heap.size<=f:=(by have:=T.out;omega);have xz:w.heap.size<=a:=(by have:=T.out;omega);refine ⟨⟨?_,?_,?_,?_,?_,?_⟩,?_⟩
   . exact (((show aF Y.drew f s.1 from b.Us).setRow x)).keep (Below.heap_setCell _ _ _ _ M)
   . exact ((show Bx Y.drew a _ from b.least).keep ((aR Y.drew f (aY x)).block a b.least.lt (λe=>M (by cases e;rfl)))).set _
   . exact b.T9.keep (I _ (Ne.symm qr) (by omega) b.T9.lt)
   . exact b.set.keep (I _ (Ne.symm xn) (by have:=T.out;omega) b.set.lt)
   . exact b.res.keep (I _ (by have:=T.out;omega) hd b.res.lt)
   . exact b.below.trans ⟨rfl,rfl,rfl,Z,λk U=>I k (by omega) (by omega) (by have:=b.below.size;omega)⟩
   . exact (bw.TF g).trans ⟨rfl,rfl,rfl,Z,λk k1 k2=>I k (by omega) (by omega) k2⟩
  case stop2=>
   rintro c pre Y kb ⟨rfl,g,q,z⟩;have xj:=MU (x:=x) kb;have kg:fs (ab kept) s x=s:=(by unfold fs;rw [if_neg (by omega)]);rw [kg];gi_wp2;exact ⟨u.out.mono g (.inl lR),bw.TF g⟩
 case done=>
  rintro D s X hD rfl y hK;have hb:=y.Us;have qc:=y.res;have u:=hide y;have h9:=bf dG;gi_wp2_with (first
   | (refine kM rfl (Z1 5) rfl f (aT 8 C kept).1 rfl hb ?_)
   | (refine jW rfl (Z1 4) (Z1 34) rfl (w.heap.size+1+1) (aT 8 C kept).1 dG rfl rfl qc ?_))
  have q4:(X.setRow (w.heap.size+1+1) (aY (aT 8 C kept).1)).heap[D]?=ZX (.deferred (ZX [])):=((aR X (w.heap.size+1+1) _).block D (XI.1 hK).1 (λe=>by cases e;omega)).trans hK;refine ⟨by simp,.inl ⟨_,_,rfl,run_takeDeferred q4,?_⟩⟩;have kc:aF ((X.setRow (w.heap.size+1+1) (aY (aT 8 C kept).1)).putObj D (.deferred ZY)) (w.heap.size+1+1) (aT 8 C kept).1:=(qc.setRow (aT 8 C kept).1).keep (World.putObj_heap_other (by omega));have x5:bW w ((X.setRow (w.heap.size+1+1) (aY (aT 8 C kept).1)).putObj D (.deferred ZY)):=
   Below.TO (u.out.below.grown (aR _ _ _) u.out.below.size (λk e=>by cases e;omega)) (by omega) (XI.1 q4).1 _
  exact ⟨.agg (aY (aT 8 C kept).1),results_cell_row results199 _ _ (w.heap.size+1+1) 319 (aY (aT 8 C kept).1) (0,0) _ rfl kc.heap underlying319 rfl (ez _),rfl,x5⟩
end
def MV (m:Nat->Nat->Nat) (q:Nat) (src:List Nat):Nat->Nat->Nat:=λr j=>if r=q/\j<src.length then src.getD j 0 else m r j
theorem Bh (y:o.guard=ZY) (d s:Operand)
 (ho:o.op=.call { callee:=.builtin .copy,args:=#[d,s],argTypes:=#[34,34] }) (b q:Nat) (v:ZT) (hd:a.eval d=Z5 (ZX ⟨b,q*16,ZY⟩) 16 16) (hs:a.eval s=v)
 (C:Ck) (src:List Nat) (hC:aF w b C) (hq:q<8) (hS:Bs w v src) (h8:src.length<=16)
 (h:∀ w',aF w' b ⟨MV C.m q src,C.told,C.count⟩->ZS b w w'->wpList ZP ops Q rest (a.put o.dst (goInt src.length)) w'):wpList ZP ops Q (o::rest) a w:=by
 obtain ⟨ao,c,rfl,I,J,K,r⟩:=hS;refine wpList_copy_splice y d s 34 34 ho 5 underlying34 (by kernel_rfl) (ZX ⟨b,q*16,ZY⟩) ao 16 16 src.length c hd hs b (q*16) _ 319 hC.heap (src.map (λx=>Value.int .u8 ((x:Nat):Int))) ?_ ?_ ?_ ?_ b w (Below.refl _ _) lR ?_
 . rw [XL];show src.length=min src.length 16;omega
 . intro l;rw [XL] at l;obtain ⟨H,off,rfl,B⟩:=r (by intro e;rw [e] at l;simp at l);refine ⟨rfl,_,rfl,λj u k=>?_⟩;have g:j<src.length:=by
    obtain ⟨q,_⟩:=List.getElem?_eq_some_iff.1 k;simpa using q
   rw [Addr.add_mid,B j g];simp [g] at k;simp [g,k]
 . simp;omega
 . intro u D;obtain ⟨x,_,rfl⟩:=XN.1 D;rfl
 . intro w' z t;have E:=z.out;rw [XL];refine h w' ⟨_,E,?_,λi hi=>?_⟩ t
   . rw [X2,length_splice _ _ _ (by simp;omega)];simp
   . unfold splice;rw [Yx];have p:∀ x,x<130->((XG 130).map (od C))[x]?=ZX (od C x):=λx F=>by rw [XV,XY F];rfl
     have A:((XG 130).map (od C)).length=130:=(by rw [XL,X3]);by_cases G:i<q*16
     . rw [Yh (by simp;omega),YM,if_pos G,p i hi];congr 1;unfold od;rw [if_pos (by omega),if_pos (by omega)];show _=Value.int .u8 ((MV C.m q src (i/16) (i%16):Nat):Int);unfold MV;rw [if_neg (by omega)]
     . have n:(((XG 130).map (od C)).take (q*16)).length=q*16:=(by rw [YO,A];omega);rw [Yr (by rw [n];omega),n];by_cases L:i<q*16+src.length
       . rw [Yh (by simp;omega)];have f:i-q*16<src.length:=(by omega);rw [XV,YS f];simp only [XP];congr 1;unfold od;rw [if_pos (by omega)];show _=Value.int .u8 ((MV C.m q src (i/16) (i%16):Nat):Int);unfold MV;rw [if_pos (by omega),show i%16=i-q*16 by omega,X1,YS f];rfl
       . rw [Yr (by simp;omega)];simp only [XL];rw [YN,show q*16+src.length+(i-q*16-src.length)=i by omega,p i hi];congr 1;unfold od;by_cases f:i<128
         . rw [if_pos f,if_pos f];show _=Value.int .u8 ((MV C.m q src (i/16) (i%16):Nat):Int);unfold MV;rw [if_neg (by omega)]
         . rw [if_neg f,if_neg f]
theorem DW (h:aF w b C) (q i v:Nat) (c:q<8) (hi:i<16):aF (w.setCell ⟨b,q*16+i,ZY⟩ (Z7 .u8 (v:Int))) b ⟨λr j=>if r=q/\j=i then v else C.m r j,C.told,C.count⟩:=
 (h.set (q*16+i) (Z7 .u8 (v:Int))).congr (λx d=>by
  unfold od;by_cases e:x=q*16+i
  . rw [if_pos e,if_pos (by omega)];show _=Value.int .u8 ((if x/16=q/\x%16=i then v else _:Nat):Int);rw [if_pos (by omega)]
  . rw [if_neg e];by_cases a:x<128
    . rw [if_pos a,if_pos a];show _=Value.int .u8 ((if x/16=q/\x%16=i then v else C.m (x/16) (x%16):Nat):Int);rw [if_neg (by omega)]
    . rw [if_neg a,if_neg a])
def mf (M:List (List Nat)) (i j:Nat):Nat:=(M.getD i []).getD j 0
theorem Kz (M:Nat->Nat->Nat) (D:Nat):ck0 M D 0=dG:=by
 unfold ck0 dG;congr 1
theorem KA (M:List (List Nat)) (D k:Nat) (c:(M.getD (D+k) []).length=D) :
 (⟨λr j=>if r=k/\j=D+k then 1 else MV (ck0 (mf M) D k).m k (M.getD (D+k) []) r j,0,k+1⟩:Ck)=ck0 (mf M) D (k+1):=by
 unfold ck0;congr 1;funext r j;show (if r=k/\j=D+k then 1 else (if r=k/\j<(M.getD (D+k) []).length then (M.getD (D+k) []).getD j 0 else (if r<k then (if j<D then mf M (D+r) j else if j=D+r then 1 else 0) else 0)))=(if r<k+1 then (if j<D then mf M (D+r) j else if j=D+r then 1 else 0) else 0);rw [c];by_cases e:r=k
 . subst e;by_cases a:j=D+r
   . simp [a];intro h;omega
   . by_cases b:j<D
     . simp [a,b,mf]
     . simp [a,b]
 . by_cases a:r<k
   . simp [e,a,show r<k+1 by omega]
   . simp [e,a,show ¬ r<k+1 by omega]
def SL (w:ZU) (M:List (List Nat)) (D:Nat) (i:ZT) (wr:ZU):Prop:=
 ∃ k:Nat,D+k<=M.length/\i=Z7 Z9 (k:Int)/\aF wr (w.heap.size+1) (ck0 (mf M) D k)/\aF wr w.heap.size dG/\bW w wr
theorem zk (b off c:Nat) (M:List (List Nat)) (D:Nat) (w:ZU) (k6:M.length<=c) (J:∀ i (hi:i<M.length),∃ u,w.cell? ⟨b,off+i,ZY⟩=ZX u/\Bs w u M[i]) (hD:1<=D) (kb:D<M.length) (ka:M.length<=16) (hP:M.length<=D+8) (E:∀ i,i<M.length->(M.getD i []).length=D) :
 ZR ZP 202 #[Z5 (ZX ⟨b,off,ZY⟩) M.length c,Z7 Z9 D] w λe w'=>e=Z3 (.agg (aY (ck0 (mf M) D (M.length-D))))/\bW w w':=by
 have hz:=zeroCk;have Q:=bf dG;have kc:(D:Int)<=(M.length:Int):=by omega
 have kf:c-D≠0:=by omega
 have k0:¬ c<=D:=by omega
 have k5:D<c:=by omega
 have L:=hide J;have C:=hide E;clear J E;have K:SL w M D (Z7 Z9 (0:Nat)) ((w.alloc (Z4 (aY dG) 319)).alloc (Z4 (aY dG) 319)):=by
  refine ⟨0,by omega,rfl,?_,(aF.new w dG).keep (Below.heap_alloc _ _ _ (by simp)),(bA _ _).alloc (by simp) _⟩;rw [Kz];have h:=aF.new (w.alloc (Z4 (aY dG) 319)) dG;rw [World.size_alloc] at h;exact h
 have F:=hide K;clear K;go_enter func202,ntmps202;go_wp2;clear hz Q;go_loopw [12] (λi wr=>SL w M D i wr) (λi _=>(M.length-D)-(intOf i).toNat)
 case atStart=>exact F.out
 case round=>
  clear F;rename ZU=>wo;obtain ⟨k,hk,rfl,z,A,f⟩:=hrel;by_cases x:D+k<M.length
  . have k7:(k:Int)<((M.length-D:Nat):Int):=(by omega);obtain ⟨u,B,H⟩:=L.out (D+k) x;have ki:wo.cell? ⟨b,off+D+k,ZY⟩=ZX u:=(by rw [Nat.add_assoc,f.cell (block_lt_of_cell B)];exact B);have G:=H.mono f;have n:=C.out (D+k) x;have o:M.getD (D+k) []=M[D+k]:=(by simp [x]);rw [o] at n;have y:=KA M D k (by rw [o];exact n);rw [o] at y;have kh:=λw'=>qw w' (w.heap.size+1) (k*16);have kg:(k:Int)<8:=(by omega);have ke:(D:Int)+(k:Int)<16:=(by omega);have kk:wrap64 ((D:Int)+(k:Int))=((D+k:Nat):Int):=(by unfold wrap64;omega);have k9:IntKind.i64.wrap ((D:Int)+(k:Int))=((D+k:Nat):Int):=(by rw [IntKind.wrap_i64];omega);have kj:wrap64 ((k:Int)+1)=((k+1:Nat):Int):=(by unfold wrap64;omega);have k8:IntKind.i64.wrap ((k:Int)+1)=((k+1:Nat):Int):=(by rw [IntKind.wrap_i64];omega);have V:=hide y;have g:=hide G;have t:=hide z;have l:=hide A;have S:=hide f;have W:=hide n;clear y G z A f H B C o n;generalize M[D+k]=row at *;go_wp2_with (refine Bh rfl (Z1 20) (Z1 21) rfl (w.heap.size+1) k _ rfl rfl _ row t.out (by omega) g.out (by have:=W.out;omega) ?_;intro w2 a d;have c1:=a.at k (D+k) (by omega) (by omega);have f1:=a.frozen (k*16+(D+k));have N:(w2.setCell ⟨w.heap.size+1,k*16+(D+k),ZY⟩ (Z7 .u8 1)).cell? ⟨w.heap.size+1,129,ZY⟩=ZX (Z7 Z9 (k:Int)):=(DW a k (D+k) 1 (by omega) (by omega)).Ui;have P:(w2.setCell ⟨w.heap.size+1,k*16+(D+k),ZY⟩ (Z7 .u8 1)).frozen? ⟨w.heap.size+1,129,ZY⟩=ZV:=(DW a k (D+k) 1 (by omega) (by omega)).frozen 129;have T:=hide a;have R:=hide d;clear a d);have a:=T.out;have d:=R.out;have Y:=DW a k (D+k) 1 (by omega) (by omega);have Z:=wP Y (k+1);have hx:=l.out.keep (d.block w.heap.size (by omega));have O:(⟨(⟨λr j=>if r=k/\j=D+k then 1 else MV (ck0 (mf M) D k).m k row r j,(ck0 (mf M) D k).told,(ck0 (mf M) D k).count⟩:Ck).m,(ck0 (mf M) D k).told,k+1⟩:Ck)=ck0 (mf M) D (k+1):=V.out;have hv:aF ((w2.setCell ⟨w.heap.size+1,k*16+(D+k),ZY⟩ (Z7 .u8 1)).setCell ⟨w.heap.size+1,129,ZY⟩ (Z7 Z9 ((k+1:Nat):Int))) (w.heap.size+1) (ck0 (mf M) D (k+1)):=(by rw [<- O];exact Z);have hy:aF ((w2.setCell ⟨w.heap.size+1,k*16+(D+k),ZY⟩ (Z7 .u8 1)).setCell ⟨w.heap.size+1,129,ZY⟩ (Z7 Z9 ((k+1:Nat):Int))) w.heap.size dG:=
     hx.keep ((Below.heap_setCell _ _ _ _ (by show w.heap.size≠w.heap.size+1;omega)).trans (Below.heap_setCell _ _ _ _ (by show w.heap.size≠w.heap.size+1;omega)))
    have X:bW w ((w2.setCell ⟨w.heap.size+1,k*16+(D+k),ZY⟩ (Z7 .u8 1)).setCell ⟨w.heap.size+1,129,ZY⟩ (Z7 Z9 ((k+1:Nat):Int))):=
     ((S.out.trans (d.mono (by omega))).setCell (p:=⟨w.heap.size+1,k*16+(D+k),ZY⟩) (by show w.heap.size<=w.heap.size+1;omega) _).setCell (p:=⟨w.heap.size+1,129,ZY⟩) (by show w.heap.size<=w.heap.size+1;omega) _
    have s:=hide3 hv hy X;go_roundw
    case rel=>exact ⟨k+1,by omega,by go_num,s.out.1,s.out.2.1,s.out.2.2⟩
    case measure=>simp [intOf];omega
  . have k7:¬ (k:Int)<((M.length-D:Nat):Int):=(by omega);have I:M.length-D=k:=(by omega);have U:=hide I;have g:=hide f;have t:=hide z;have l:=hide A;clear I;go_wp2_with (first
     | refine wpList_load_row rfl 319 (Z1 5) rfl (w.heap.size+1) rfl 319 (aY (ck0 (mf M) D k)) (0,0) _ t.out.heap underlying319 rfl (ez _) ?_
     | refine wpList_store_row rfl 319 (Z1 4) (Z1 35) rfl w.heap.size (aY (ck0 (mf M) D k)) rfl rfl 319 (aY dG) l.out.heap (ez _) (by rw [bf,bf]) (oW _) ?_)
    refine bodyPost_ret (v:=.agg (aY (ck0 (mf M) D k))) (results_cell_row results202 _ _ w.heap.size 319 (aY (ck0 (mf M) D k)) (0,0) _ rfl (l.out.setRow (ck0 (mf M) D k)).heap underlying319 rfl (ez _)) rfl ?_;rw [U.out];exact ⟨rfl,g.out.grown (aR _ _ _) g.out.size (λq e=>by cases e;exact XH _)⟩
def av (n lost:Nat):Nat:=lost &&& (2^n-1)
def bz (n lost:Nat):Nat:=(2^n-1) &&& (18446744073709551615-av n lost)
def wV (h:n<=16):2^n<=65536:=Nat.pow_le_pow_right (n:=2) (i:=n) (j:=16) (by decide) h
def jZ (n lost i:Nat):(av n lost).testBit i=(lost.testBit i&&decide (i<n)):=by unfold av;rw [YT,YU]
def oZ (lost:Nat) (h:n<=16):av n lost<65536:=by
 have a:=wV h;have b:av n lost<=2^n-1:=Nat.and_le_right;have c:0<2^n:=YD n;omega
def Bm (lost:Nat) (h:n<=16):bz n lost<65536:=by
 have a:=wV h;have b:bz n lost<=2^n-1:=Nat.and_le_left;have c:0<2^n:=YD n;omega
def j0 (lost i:Nat) (h:n<=16):(bz n lost).testBit i=(decide (i<n) && !lost.testBit i):=by
 have a:=oZ lost h;unfold bz;rw [YT,YU,show 18446744073709551615-av n lost=2^64-(av n lost+1) by omega,Nat.testBit_two_pow_sub_succ (by omega),jZ];by_cases hi:i<n
 . simp [hi,show i<64 by omega]
 . simp [hi]
theorem cM (h:n<=16):i∈ab (av n lost)↔i<n/\lost.testBit i=ZW:=by
 rw [bX,jZ];simp only [YV,decide_eq_true_eq];constructor
 . rintro ⟨_,a,b⟩;exact ⟨b,a⟩
 . rintro ⟨a,b⟩;exact ⟨by omega,b,a⟩
theorem pd (h:n<=16):i∈ab (bz n lost)↔i<n/\lost.testBit i=ZV:=by
 rw [bX,j0 lost i h];simp only [YV,decide_eq_true_eq,Bool.not_eq_true'];constructor
 . rintro ⟨_,a,b⟩;exact ⟨a,b⟩
 . rintro ⟨a,b⟩;exact ⟨by omega,a,b⟩
def nK (s:Nat):(ab s).Nodup:=List.Pairwise.filter _ List.nodup_range
theorem KF {T:List (Nat×Nat×List Nat)} (h:iV w B v T) (b:di T D M) (j:∀ r∈M,r.length=D) (k:M≠[]) :
 ∃ g c,v=Z5 (ZX ⟨g,0,ZY⟩) M.length c/\M.length<=c/\∀ i (hi:i<M.length),∃ u,w.cell? ⟨g,0+i,ZY⟩=ZX u/\Bs w u M[i]:=by
 have d:T.length=M.length:=by simpa using congrArg List.length b
 rcases h.own.2 with ⟨_,m⟩|⟨g,c,cur,rfl,_,_,n,_⟩
 . exact absurd (YW (by omega)) k
 . refine ⟨g,c,by rw [d],by omega,λi hi=>?_⟩;have a:i<T.length:=(by omega);refine ⟨lB T[i],by rw [Nat.zero_add];exact h.Uo a,?_⟩;have:=h.UB a;have f:T[i].2=(D,M[i]):=by
    have:=congrArg (λl=>l[i]?) b;simpa [a,hi] using this
   rw [f] at this;have e:(M[i]).take D=M[i]:=(by rw [<- j _ (XK hi),YX]);rw [e] at this;exact this
def Fj (D L G i:Nat) (hi:i<D):(aO D L G).getD i []=dK D i:=by
 unfold aO;rw [Ys,X1,Yh (by simpa using hi)];simp [hi]
theorem iQ (D L G:Nat) (b:D<=12) (c:G<=4):Gf.Code (mf (aO D L G)) D (L+G):=by
 refine ⟨λi j=>?_,λi hi j=>?_,λi j a=>?_⟩
 . unfold mf;by_cases hi:i<(aO D L G).length
   . have e:(aO D L G).getD i []=(aO D L G)[i]:=(by simp [hi]);rw [e];exact eG (oR D L G b c _ (XK hi)) j
   . have e:(aO D L G).getD i []=[]:=(by simp [hi]);rw [e];simp
 . unfold mf;rw [Fj D L G i hi];unfold dK;rw [X1,YY];by_cases e:i=j
   . subst e;simp [hi]
   . simp only [e,if_false];rw [if_neg (λh=>e h.symm)];by_cases a:j<D
     . simp [a]
     . simp [a]
 . unfold mf;by_cases hi:i<(aO D L G).length
   . have e:(aO D L G).getD i []=(aO D L G)[i]:=(by simp [hi]);have d:=mx D L G _ (XK hi);rw [e,X1,List.getElem?_eq_none (by omega)];rfl
   . have e:(aO D L G).getD i []=[]:=(by simp [hi]);rw [e];simp
def fw (D L G:Nat):Ck:=ck0 (mf (aO D L G)) D (L+G)
def zm (c:D<=12) (f:L<=4) (d:G<=4) {pre:List Nat} {C:Ck} (h:tells (fw D L G) pre=ZX C):dY C:=by
 rcases (iQ D L G c d).told pre with ⟨C',a,b⟩|⟨a,_⟩
 . have e:tells (fw D L G) pre=ZX C':=a;rw [h] at e;obtain rfl:=XZ e;exact ⟨b.byt,b.le,by have:C.count=L+G:=b.count;omega⟩
 . have e:tells (fw D L G) pre=ZY:=a;rw [h] at e;cases e
def PB (W:ZU) (n0 Bg:Nat) (regs:Int) (L:List St):Prop:=
 Bg<n0/\n0<=W.heap.size/\∃ v,W.heap[Bg]?=ZX (Z4 #[Z7 Z9 regs,v] 210 (0,0))/\W.ownsRow n0 284 4 v L.length (er .u8 L)
def Tryz.U1:(ZP.info? 284).map (λi=>(i.zero,i.size,i.bytes))=ZX (ZX (.agg #[Z7 .u8 0,Z7 Z9 0,Z7 Z9 0,Z7 .u8 0]),4,32):=by kernel_rfl
theorem zl (p:o.guard=ZY) (x y:Operand) (ho:o.op=.call { callee:=.builtin .append,args:=#[x,y],argTypes:=#[208,208] })
 (n0 q:Nat) (L:List St) (s:St) (v:ZT) (hx:a.eval x=v) (hy:a.eval y=Z5 (ZX ⟨q,0,ZY⟩) 1 1) (h3:w.ownsRow n0 284 4 v L.length (er .u8 L)) (hc:∀ j u,(Gk .u8 s)[j]?=ZX u->w.cell? ((⟨q,0,ZY⟩:Addr).add j)=ZX u) (h6:n0<=w.heap.size) (hL:L.length<=100000)
 (hK:∀ g' cap' w2,n0<=g'->w2.ownsRow n0 284 4 (Z5 (ZX ⟨g',0,ZY⟩) (L.length+1) cap') (L.length+1) (er .u8 (L++[s]))->w.grownBy w2 v.ownBlock->wpListIn F n ZP ops Q rest (a.put o.dst (Z5 (ZX ⟨g',0,ZY⟩) (L.length+1) cap')) w2):wpListIn F n ZP ops Q (o::rest) a w:=by
 obtain ⟨t,h,i,k,l⟩:=info_parts Tryz.U1;refine wpListIn_append_own w p x y 208 ho n0 284 t (.agg #[Z7 .u8 0,Z7 Z9 0,Z7 Z9 0,Z7 .u8 0]) 4 32 underlying208 h i k l rfl (by decide) v L.length (er .u8 L) hx h3 ⟨q,0,ZY⟩ 1 1 (Gk .u8 s) hy (by simp [Gk]) hc (λu c=>by simp [Gk] at c;rcases c with rfl|rfl|rfl|rfl<;>rfl) (by unfold maxLen;omega) (by omega) h6 ?_;intro z w2 b d _;obtain ⟨g',cap',rfl,f⟩:∃ g' cap',z=Z5 (ZX ⟨g',0,ZY⟩) (L.length+1) cap'/\n0<=g':=by
  rcases b.2 with ⟨_,A⟩|⟨g,cap,cur,r,m,_⟩
  . omega
  . exact ⟨g,cap,r,m⟩
 have e:er .u8 L++Gk .u8 s=er .u8 (L++[s]):=by rw [rj];simp [er]
 rw [e] at b;exact hK g' cap' w2 f b d
def jY {xs:List ZT} (h:w.ownsRow n0 t 4 v k xs) {q:Nat} (e:v.ownBlock=ZX q):n0<=q:=(h.lt q e).1
theorem PB.next {L:List St} {s:St} (h:Bg<n0) (x:n0<=W.heap.size) (n:W.heap[Bg]?=ZX (Z4 #[Z7 Z9 regs,v] 210 (0,0))) (f:W.ownsRow n0 284 4 v L.length (er .u8 L))
 (a:(W.alloc ob).grownBy w2 v.ownBlock) (u:n0<=g') (m:w2.ownsRow n0 284 4 (Z5 (ZX ⟨g',0,ZY⟩) (L.length+1) cap') (L.length+1) (er .u8 (L++[s]))) :
 PB (w2.setCell ⟨Bg,1,ZY⟩ (Z5 (ZX ⟨g',0,ZY⟩) (L.length+1) cap')) n0 Bg regs (L++[s])/\w2.cell? ⟨Bg,1,ZY⟩=ZX v/\w2.frozen? ⟨Bg,1,ZY⟩=ZV /\
  (∀ k,k<n0->k≠Bg->(w2.setCell ⟨Bg,1,ZY⟩ (Z5 (ZX ⟨g',0,ZY⟩) (L.length+1) cap')).heap[k]?=W.heap[k]?)/\KeepsOthers W (w2.setCell ⟨Bg,1,ZY⟩ (Z5 (ZX ⟨g',0,ZY⟩) (L.length+1) cap')) /\
  (w2.setCell ⟨Bg,1,ZY⟩ (Z5 (ZX ⟨g',0,ZY⟩) (L.length+1) cap')).os=W.os/\(w2.setCell ⟨Bg,1,ZY⟩ (Z5 (ZX ⟨g',0,ZY⟩) (L.length+1) cap')).tape=W.tape/\(w2.setCell ⟨Bg,1,ZY⟩ (Z5 (ZX ⟨g',0,ZY⟩) (L.length+1) cap')).output=W.output:=by
 have hold:∀ k,k<n0->w2.heap[k]?=W.heap[k]?:=λk b=>(a.block k (by simp;omega) (λe=>by have:=jY f e.symm;omega)).trans (oE W _ k (by omega));have d:=(hold Bg h).trans n;obtain ⟨_,c1,l,_⟩:=aG d;have w:W.heap.size<=w2.heap.size:=by have:=a.size;simp at this;omega
 have p:(w2.setCell ⟨Bg,1,ZY⟩ (Z5 (ZX ⟨g',0,ZY⟩) (L.length+1) cap')).heap[Bg]?=ZX (Z4 #[Z7 Z9 regs,Z5 (ZX ⟨g',0,ZY⟩) (L.length+1) cap'] 210 (0,0)):=by
  obtain ⟨r,b⟩:=XI.1 d;show (w2.heap.modify Bg _)[Bg]?=_;rw [X6 (by rw [Yq];exact r),YE,b];rfl
 refine ⟨⟨h,by simp [World.setCell];omega,_,p,?_⟩,c1,l,λk b t=>(Below.heap_setCell _ _ _ _ t).trans (hold k b),?_,a.os,a.tape,a.output⟩
 . have:=m.kept (dm w2 Bg 1 (Z5 (ZX ⟨g',0,ZY⟩) (L.length+1) cap')) (.inr (by simp [Value.ownBlock];omega));simpa using this
 . refine ((KeepsOthers.alloc W ob).trans (KeepsOthers.of_grownBy a λj o c i=>?_)).trans (KeepsOthers.setCell _ _ _);rcases (f.alloc ob).2 with ⟨rfl,_⟩|⟨g,cap,cur,rfl,_,q,_⟩
   . simp [Value.ownBlock] at c
   . obtain rfl:g=j:=(by simpa [Value.ownBlock] using c);rw [q] at i;cases i;rfl
theorem PB.own {L:List St} (h:PB X n0 Bg regs L) (m:n0<=B) (a:X.grownBy Y row) (c:∀ r,row=ZX r->B<=r/\∃ o:Obj,X.heap[r]?=ZX o/\o.isCells=ZV):PB Y n0 Bg regs L:=by
 obtain ⟨i,j,v,k,b⟩:=h;refine ⟨i,XJ j a.size,v,(a.block Bg (by omega) (λe=>by have:=(c Bg e.symm).1;omega)).trans k,b.kept a ?_⟩;rcases b.2 with ⟨rfl,_⟩|⟨g,cap,cur,rfl,_,f,_⟩
 . exact .inl rfl
 . refine .inr λd=>?_;obtain ⟨_,o,ho,l⟩:=c g (by simpa [Value.ownBlock] using d.symm);rw [f] at ho;cases ho;cases l
def lQ (C:Ck) (i:Nat):List St:=if cP C i=ZW then ⟨0,0,i,0⟩::((XG C.told).filter (λr=>decide (C.m r i≠0))).map (λr:Nat=>(⟨1,1+(r:Int),0,C.m r i⟩:St)) else []
def wrTo (C:Ck) (pre:List Nat):List St:=(pre.map (lQ C)).flatten
def wS (C:Ck) (pre:List Nat) (i:Nat):wrTo C (pre++[i])=wrTo C pre++lQ C i:=by unfold wrTo;simp
def gy (C:Ck) (i k:Nat):List St:=((XG k).filter (λr=>decide (C.m r i≠0))).map (λr:Nat=>(⟨1,1+(r:Int),0,C.m r i⟩:St))
def tE (C:Ck) (i:Nat):gy C i 0=[]:=rfl
def Bi (C:Ck) (i k:Nat) (h:C.m k i≠0):gy C i (k+1)=gy C i k++[⟨1,1+(k:Int),0,C.m k i⟩]:=by unfold gy;rw [Yt];simp [h]
def wT (C:Ck) (i k:Nat) (h:C.m k i=0):gy C i (k+1)=gy C i k:=by unfold gy;rw [Yt];simp [h]
def Bj (C:Ck) (i k:Nat):(gy C i k).length<=k:=by
 unfold gy;rw [XL];exact XJ (X9 _ _) (by simp)
def iy (h:cP C i=ZW):lQ C i=⟨0,0,i,0⟩::gy C i C.told:=by unfold lQ gy;rw [if_pos h]
def lS (h:cP C i=ZV):lQ C i=[]:=by unfold lQ;simp [h]
def KB (C:Ck) (i:Nat):(lQ C i).length<=C.told+1:=by
 cases h:cP C i
 . rw [lS h];simp
 . rw [iy h];have:=Bj C i C.told;simp;omega
theorem si (C:Ck):∀ pre:List Nat,(wrTo C pre).length<=pre.length*(C.told+1)
 | []=>by simp [wrTo]
 | i::pre=>by
  have a:=si C pre;have b:=KB C i;have e:wrTo C (i::pre)=lQ C i++wrTo C pre:=by unfold wrTo;simp
  rw [e,XO,X7,Nat.succ_mul];omega
def fF (pre:List Nat):List St:=(XG pre.length).map (λk:Nat=>(⟨2,(k:Int)+1,((pre.getD k 0:Nat):Int),0⟩:St))
theorem DX (pre:List Nat) (i:Nat):fF (pre++[i])=fF pre++[⟨2,(pre.length:Int)+1,i,0⟩]:=by
 unfold fF;rw [XO,YZ,Yt,X5];congr 1
 . apply XW;intro k a;have:=XT.1 a;simp [this,Yh]
 . simp
def fO (C:Ck) (gone kept:Nat):List St:=wrTo C (ab kept)++fF (ab gone)
def DY {B:Ck} {s:St} (h:s∈fO B gone kept):(∃ i∈ab kept,s=⟨0,0,(i:Int),0⟩)\/(∃ i∈ab kept,∃ r,r<B.told/\s=⟨1,1+(r:Int),0,B.m r i⟩)\/(∃ k,∃ c:k<(ab gone).length,s=⟨2,(k:Int)+1,((ab gone)[k]:Int),0⟩):=by
 unfold fO wrTo at h;rcases Yu.1 h with h|h
 . obtain ⟨l,e,a⟩:=YF.1 h;obtain ⟨i,hi,rfl⟩:=XN.1 e;cases hr:cP B i
   . rw [lS hr] at a;cases a
   . rw [iy hr] at a;rcases YG.1 a with rfl|a
     . exact .inl ⟨i,hi,rfl⟩
     . unfold gy at a;obtain ⟨r,d,rfl⟩:=XN.1 a;exact .inr (.inl ⟨i,hi,r,XT.1 (XM.1 d).1,rfl⟩)
 . unfold fF at h;obtain ⟨k,c,rfl⟩:=XN.1 h;have b:=XT.1 c;exact .inr (.inr ⟨k,b,by simp [b]⟩)
def Pi {B:Ck} (gone kept:Nat) (e:B.told<=8):(fO B gone kept).length<=160:=by
 have b:=si B (ab kept);have a:∀ s,(ab s).length<=16:=λs=>XJ (X9 _ _) (by simp);have c:(ab kept).length*(B.told+1)<=16*9:=YH (a kept) (by omega);have d:=a gone;unfold fO fF;simp only [XO,XL,X3];omega
theorem QR {B:Ck} (g:B.told=(ab gone).length) (b:B.told<=8) (f:∀ i∈ab kept,i<n) (d:∀ i∈ab gone,i<n):iK (1+((ab gone).length:Int)) (fO B gone kept) (n:Int):=by
 have h:=Pi gone kept b;refine ⟨⟨by omega,by omega,by omega⟩,λi hi=>?_⟩;rcases DY (XK hi) with ⟨j,a,e⟩|⟨j,a,r,l,e⟩|⟨k,c,e⟩
 . have:=f j a;rw [e];exact .inl ⟨.inl rfl,by show (0:Int)<=0;omega,by show (0:Int)<_;omega,by show (0:Int)<=(j:Int);omega,by show (j:Int)<_;omega⟩
 . rw [e];exact .inr ⟨rfl,by show (0:Int)<=1+(r:Int);omega,by show (1+(r:Int))<_;omega,by show (0:Int)<=0;omega,by show (0:Int)<_;omega,by show (1+(r:Int))≠0;omega⟩
 . have:=d _ (XK c);rw [e];exact .inl ⟨.inr rfl,by show (0:Int)<=(k:Int)+1;omega,by show ((k:Int)+1)<_;omega,by show (0:Int)<=((ab gone)[k]:Int);omega,by show ((ab gone)[k]:Int)<_;omega⟩
theorem M3 {α:Type} (L:List α) (f:α->List Nat) (v:Nat->Nat):oe (L.map f) 0 v↔∃ x∈L,v=lh (f x):=by
 unfold oe;constructor
 . rintro ⟨i,hi,_,rfl⟩;have a:i<L.length:=(by simpa using hi);exact ⟨L[i],XK a,by simp⟩
 . rintro ⟨x,b,rfl⟩;obtain ⟨i,hi,rfl⟩:=YI b;exact ⟨i,by simpa using hi,Yo _,by simp⟩
def Fk (x i:Nat):x/2^i%2=0↔x.testBit i=ZV:=by
 rw [Y3];simp
theorem Bn (M:List (List Nat)) (lost n:Nat) (h:n<=16):oe (cj M lost n) 0=Jp (mf M) n (λi=>i∉ab (av n lost)):=by
 funext v;apply propext;unfold cj;rw [M3];unfold Jp;constructor
 . rintro ⟨i,hi,rfl⟩;obtain ⟨b,c⟩:=XM.1 hi;refine ⟨i,XT.1 b,λa=>?_,rfl⟩;have:=(cM h).1 a;rw [(Fk lost i).1 (of_decide_eq_true c)] at this;exact absurd this.2 (by decide)
 . rintro ⟨i,hi,a,rfl⟩;refine ⟨i,XM.2 ⟨XT.2 hi,decide_eq_true ((Fk lost i).2 ?_)⟩,rfl⟩;cases hb:lost.testBit i
   . rfl
   . exact absurd ((cM h).2 ⟨hi,hb⟩) a
theorem tF (g:D<=12) (k:G<=4) (h:D+L+G<=16):qt D L G lost↔∃ C,tells (fw D L G) (ab (av (D+L+G) lost))=ZX C:=by
 have a:=iQ D L G g k;have e:D+(L+G)=D+L+G:=by omega
 unfold qt;rw [Bn _ _ _ h];constructor
 . intro j;rcases a.told (ab (av (D+L+G) lost)) with ⟨C,b,_⟩|⟨_,c⟩
   . exact ⟨C,b⟩
   . refine absurd ?_ (a.Vk (nK _) (λi hi=>by rw [e];exact ((cM h).1 hi).1) c);rw [e];exact j
 . rintro ⟨C,f⟩;rcases a.told (ab (av (D+L+G) lost)) with ⟨C',_,c⟩|⟨b,_⟩
   . have:=a.full c;rw [e] at this;exact this
   . have d:tells (fw D L G) (ab (av (D+L+G) lost))=ZY:=b;rw [f] at d;cases d
def pe (f:D<=12) (g:G<=4) {C:Ck} (d:tells (fw D L G) (ab (av (D+L+G) lost))=ZX C) :
 Ge (mf (aO D L G)) D (L+G) (ab (av (D+L+G) lost)) (aT 8 C (bz (D+L+G) lost)).1/\dU (ck0 (mf (aO D L G)) D (L+G)) (rJ (mf (aO D L G)) D (D+(L+G))) (ab (av (D+L+G) lost)) C:=by
 have e:=iQ D L G f g;rcases e.told (ab (av (D+L+G) lost)) with ⟨C',b,c⟩|⟨b,_⟩
 . have a:tells (fw D L G) (ab (av (D+L+G) lost))=ZX C':=b;rw [d] at a;obtain rfl:=XZ a;exact ⟨e.Vm c (yH 8 C _).1,c⟩
 . have a:tells (fw D L G) (ab (av (D+L+G) lost))=ZY:=b;rw [d] at a;cases a
def bG (D L G lost:Nat) (C:Ck):List St:=fO (aT 8 C (bz (D+L+G) lost)).1 (av (D+L+G) lost) (bz (D+L+G) lost)
section
attribute [local go_sem] Oper.semAt_some
structure CF (w:ZU) (D L G:Nat) (X:ZU):Prop where
 par:X.heap[w.heap.size]?=ZX (Z4 #[Z7 Z9 (D:Int),Z7 Z9 (L:Int),Z7 Z9 (G:Int)] 25 (0,0))
 res:aF X (w.heap.size+1) dG
 err:ZQ X (w.heap.size+1+1) 63 .nilIface
 below:bW w X
def CF.mono (h:CF w D L G X) (a:ZS B X Y) (b:w.heap.size+3<=B):CF w D L G Y:=
 ⟨(a.block _ (by omega)).trans h.par,h.res.keep (a.block _ (by omega)),(a.block _ (by omega)).trans h.err,h.below.trans (a.mono (by omega))⟩
def CF.own (h:CF w D L G X) (c:w.heap.size+3<=B) (a:X.grownBy Y row) (b:∀ r,row=ZX r->B<=r):CF w D L G Y:=
 h.mono (B:=w.heap.size+3) ⟨a.os,a.tape,a.output,a.size,λk d=>a.block k (by have:=h.err.lt;omega) (λe=>by have:=b k e.symm;omega)⟩ lR
def ft {x z:ZT} (h:X.heap[b]?=ZX (Z4 #[x,y,z] t (0,0))):X.cell? ⟨b,0,ZY⟩=ZX x/\X.cell? ⟨b,1,ZY⟩=ZX y/\X.cell? ⟨b,2,ZY⟩=ZX z:=by simp [World.cell?,h]
def Pj (D L G S:Nat) (w:ZU) (e:Ending) (w':ZU):Prop:=
 bW w w'/\((tells (fw D L G) (ab S)=ZY/\e=Z3 (Z0 #[.agg (aY dG),.iface 66 (Z7 Z9 3)])) \/
  (∃ C,tells (fw D L G) (ab S)=ZX C/\e=Z3 (Z0 #[.agg (aY C),.nilIface])))
def DZ (pre:List Sh):List Nat:=pre.map (·.1)
def G0 (pre:List Sh) (x:Sh):DZ (pre++[x])=DZ pre++[x.1]:=by unfold DZ;simp
def QS (w:ZU) (D L G Bc B:Nat) (pre:List Sh) (X:ZU):Prop:=CF w D L G X/\(∃ C,tells (fw D L G) (DZ pre)=ZX C/\aF X Bc C)/\B<=X.heap.size
def Rp (w:ZU) (D L G B:Nat) (c:Code) (pre:List Sh) (X:ZU):Prop:=c=.ret/\tells (fw D L G) (DZ pre)=ZY/\bW w X/\B<=X.heap.size /\
 aF X (w.heap.size+1) dG/\ZQ X (w.heap.size+1+1) 63 (.iface 66 (Z7 Z9 3))
def QS.own {Bc:Nat} (h:w.heap.size+3<=B) (i:Bc<B):OwnFrom B (QS w D L G Bc B):=by
 rintro pre X Y row ⟨d,⟨C,f,b⟩,g⟩ a c;exact ⟨d.own h a (λr e=>(c r e).1),⟨C,f,b.keep (a.block _ b.lt (λe=>by have:=(c _ e.symm).1;omega))⟩,XJ g a.size⟩
def Rp.own (m:w.heap.size+3<=B) (c:Code):OwnFrom B (Rp w D L G B c):=by
 rintro pre X Y row ⟨g,h,d,i,j,l⟩ a f;have b:∀ k,k<w.heap.size+3->Y.heap[k]?=X.heap[k]?:=λk b=>a.block k (by omega) (λe=>by have:=(f k e.symm).1;omega);exact ⟨g,h,d.grown a d.size (λk e=>by have:=(f k e).1;omega),XJ i a.size,j.keep (b _ (by omega)),(b _ (by omega)).trans l⟩
def ru (h:aF X b C) (cs:Array ZT):KeepsOthers X (X.setRow b cs):=
 KeepsOthers.of_grownBy (aR _ _ _) (λj o e ho=>by cases e;rw [h.heap] at ho;cases ho;rfl)
def D0 (h:aF w b C):(loadVar 319 ⟨b,0,ZY⟩).run ZP w=.ok (.agg (aY C)) w:=run_loadVar_row w b 319 319 (aY C) (0,0) _ h.heap underlying319 rfl (ez C)
theorem KG {Z:ZU} {D':Nat} {ev:ZT} {R:Ending->ZU->Prop} (c:a.defers=[{ target:=.collected D',args:=#[] }]) (h4:a.tmps.getD 4 ZZ=Z6 (ZX ⟨w.heap.size+1,0,ZY⟩)) (h5:a.tmps.getD 5 ZZ=Z6 (ZX ⟨w.heap.size+1+1,0,ZY⟩))
 (h1:aF Z (w.heap.size+1) C) (h0:ZQ Z (w.heap.size+1+1) 63 ev) (hK:Z.heap[D']?=ZX (.deferred (ZX []))) (hD:w.heap.size+3<=D')
 (hR:R (Z3 (Z0 #[.agg (aY C),ev])) (Z.putObj D' (.deferred ZY))):bodyPostM Fence.wide n ZP Tryz.f195 R .ret a Z:=by
 obtain ⟨d,i⟩:=a;simp only at c h4 h5;subst c;refine ⟨by simp,.inl ⟨_,_,rfl,run_takeDeferred hK,?_⟩⟩;have e:=D0 (show aF (Z.putObj D' (.deferred ZY)) (w.heap.size+1) C from h1.keep (World.putObj_heap_other (by omega)));have f:=(show ZQ (Z.putObj D' (.deferred ZY)) (w.heap.size+1+1) 63 ev from (World.putObj_heap_other (by omega)).trans h0).cell;have b:(loadVar 63 ⟨w.heap.size+1+1,0,ZY⟩).run ZP (Z.putObj D' (.deferred ZY))=.ok ev (Z.putObj D' (.deferred ZY)):=by simp [go_sem,f]
 refine ⟨Z0 #[.agg (aY C),ev],?_,hR⟩;have g:d[4]?.getD ZZ=Z6 (ZX ⟨w.heap.size+1,0,ZY⟩):=by simpa using h4
 have h:d[5]?.getD ZZ=Z6 (ZX ⟨w.heap.size+1+1,0,ZY⟩):=by simpa using h5
 simp [results,results195,asAddr,g,h,e,b]
theorem ln (D L G S:Nat) (hr:bU D L G=ZW) (qd:1<=D) (hD:D<=12) (hL:1<=L) (ka:L<=4) (hG:G<=4) (hv:D%L=0) (qi:D+L+G<=16) (hS:S<65536) (w:ZU) (hT:aJ w) (h2:3<=w.heap.size) :
 ZR ZP 195 #[.agg #[Z7 Z9 D,Z7 Z9 L,Z7 Z9 G],Z7 Z8 S] w λe w'=>Pj D L G S w e w':=by
 obtain ⟨n,HN⟩:∃ n:Nat,Hid (9<=n):=⟨9,XH _⟩;refine (callsIn_wide (n:=n)).1 ?_;refine callsIn_of_wp_marks func195 rfl trivial ?_ rfl;simp only [ntmps195,X2,X7,Ya,Yb,Yc,Yd,Ye,Yf,Yg,XU,XS];have hz:=zeroCk;have qg:=bf dG;gi_wp2;refine de (kA D L G hr hD hL ka hG hv _) ?_;rintro e w1 ⟨v,T,rfl,kb,hH,z⟩;have Y:(((w.alloc (Z4 #[Z7 Z9 (D:Int),Z7 Z9 (L:Int),Z7 Z9 (G:Int)] 25)).alloc (Z4 (aY dG) 319)).alloc (Z4 #[.nilIface] 63)).heap.size=w.heap.size+3:=by simp
 have kh:CF w D L G (((w.alloc (Z4 #[Z7 Z9 (D:Int),Z7 Z9 (L:Int),Z7 Z9 (G:Int)] 25)).alloc (Z4 (aY dG) 319)).alloc (Z4 #[.nilIface] 63)):=by
  obtain ⟨a1,a2,a3,a4⟩:=JI w (Z4 #[Z7 Z9 (D:Int),Z7 Z9 (L:Int),Z7 Z9 (G:Int)] 25) (Z4 (aY dG) 319) (Z4 #[.nilIface] 63);exact ⟨a2,aF.of_heap a3,a4,((bA w _).alloc (by simp) _).alloc (by simp;omega) _⟩
 try change ZS _ _ _ at z
 rw [Y] at z;have Q:=kh.mono z lR;have K:=z.size;try change ZS _ _ _ at K
 rw [Y] at K;have q6:=hide z;clear kh z Y;have hM:aO D L G≠[]:=λe=>by have:=dj D L G;rw [e] at this;simp at this;omega
 obtain ⟨g,c,rfl,hs,kg⟩:=KF kb hH (mx D L G) hM;obtain ⟨p0,p1,p2⟩:=ft Q.par;have ki:ZR ZP 202 #[Z5 (ZX ⟨g,0,ZY⟩) (aO D L G).length c,Z7 Z9 D] w1 λe w'=>e=Z3 (.agg (aY (fw D L G)))/\bW w1 w':=by
  have hc:=dj D L G;have h:=zk g 0 c (aO D L G) D w1 hs (λi hi=>kg i hi) qd (by omega) (by omega) (by omega) (λi hi=>by
   have e:(aO D L G).getD i []=(aO D L G)[i]:=(by simp [hi]);rw [e];exact mx D L G _ (XK hi))
  try change ZS _ _ _ at h
  rw [show (aO D L G).length-D=L+G by omega] at h;exact h
 have k6:=hide Q;clear kb hH Q kg;gi_wp2;refine de ki ?_;clear ki;rintro e a ⟨rfl,W⟩;have kr:=W.size;have h7:=k6.out.mono W (by omega);have k5:=bf (fw D L G);have kc:bW a ((a.alloc (Z4 (aY dG) 319)).setRow a.heap.size (aY (fw D L G))):=(bA _ _).grown (aR _ _ _) (by simp) (λk e=>by cases e;exact XH _);have ke:aF ((a.alloc (Z4 (aY dG) 319)).setRow a.heap.size (aY (fw D L G))) a.heap.size (fw D L G):=(aF.new a dG).setRow (fw D L G);have h8:=h7.mono kc (by omega);have kz:((a.alloc (Z4 (aY dG) 319)).setRow a.heap.size (aY (fw D L G))).heap.size=a.heap.size+1:=by simp [World.setRow]
 have F:=hide3 ke h8 kz;clear k6 q6 W h7 kc ke h8 kz;gi_wp2_with (refine jW rfl (Z1 8) (Z1 22) rfl a.heap.size (fw D L G) dG rfl rfl (aF.new a dG) ?_)
 obtain ⟨b,kv⟩:=nM ((a.alloc (Z4 (aY dG) 319)).setRow a.heap.size (aY (fw D L G)));rw [kv] at F ⊢;clear kv k5;refine de (dC S b) ?_;rintro e w' ⟨rfl,rfl⟩;have q0:(b.alloc (Z4 #[Z7 Z8 (S:Int)] 124)).heap.size=b.heap.size+1:=by simp
 have kf:(b.alloc (Z4 #[Z7 Z8 (S:Int)] 124)).cell? ⟨b.heap.size,0,ZY⟩=ZX (Z7 Z8 (S:Int)):=(Bx.new b 124 (Z7 Z8 (S:Int))).cell;have kk:QS w D L G a.heap.size (b.heap.size+1) [] (b.alloc (Z4 #[Z7 Z8 (S:Int)] 124)):=by
  have E:bW b (b.alloc (Z4 #[Z7 Z8 (S:Int)] 124)):=bA _ _;obtain ⟨t,u,l⟩:=F.out;exact ⟨u.mono E (by omega),⟨fw D L G,rfl,t.keep (E.block _ (by omega))⟩,by omega⟩
 obtain ⟨A,kx⟩:=nM (b.alloc (Z4 #[Z7 Z8 (S:Int)] 124));have hg:=F.out.2.2;have J:=hide4 q0 hg K kr;have I:=hide kf;have m:=hide kk;clear q0 kf kk F hg K kr p0 p1 p2;gi_wp2;try change ZS _ _ _ at J
 try change ZS _ _ _ at I
 try change ZS _ _ _ at m
 rw [kx] at J I m;clear kx;have qb:w.heap.size+3<=A.heap.size/\a.heap.size<A.heap.size/\A.heap.size=b.heap.size+1:=by obtain ⟨t,u,l,M⟩:=J.out;omega
 obtain ⟨k7,qa,U⟩:=qb;try change ZS _ _ _ at m
 rw [<- U] at m;have q7:=hide U;clear U;refine wpIn_rangeFunc_ownG rfl (by have:=HN.out;omega) (gf:=153) (lb:=#[Z6 (ZX ⟨b.heap.size,0,ZY⟩)]) rfl trivial (enters_of func153 (by kernel_rfl) rfl)
  (eS (n-1) b.heap.size S hS A (by have:=q7.out;omega) I.out (by omega) (hT.mono (by omega) m.out.1.below)) (λh k=>qZ h k) (re (by omega)) (Below.refl _ _) (λ_=>rfl)
  (QS w D L G a.heap.size A.heap.size) (Rp w D L G A.heap.size) (QS.own k7 qa) (Rp.own k7) m.out
  (λx=>{ tmps:=#[.agg #[Z7 Z9 (D:Int),Z7 Z9 (L:Int),Z7 Z9 (G:Int)],Z7 Z8 (S:Int),Z6 (ZX ⟨w.heap.size,0,ZY⟩),ZZ,Z6 (ZX ⟨w.heap.size+1,0,ZY⟩),Z6 (ZX ⟨w.heap.size+1+1,0,ZY⟩),Z5 (ZX ⟨g,0,ZY⟩) (aO D L G).length c,.nilIface,Z6 (ZX ⟨a.heap.size,0,ZY⟩),Z7 Z9 (x.1:Int),Z0 #[Z5 (ZX ⟨g,0,ZY⟩) (aO D L G).length c,.nilIface],.agg #[Z7 Z9 (D:Int),Z7 Z9 (L:Int),Z7 Z9 (G:Int)],Z0 #[Z5 (ZX ⟨g,0,ZY⟩) (aO D L G).length c,.nilIface],Z5 (ZX ⟨g,0,ZY⟩) (aO D L G).length c,.nilIface,.nilIface,Z2 ZV,ZZ,ZZ,Z5 (ZX ⟨g,0,ZY⟩) (aO D L G).length c,Z6 (ZX ⟨w.heap.size,0,ZY⟩),Z7 Z9 (D:Int),.agg (aY (fw D L G)),Z7 Z8 (S:Int),.func (.func 153) #[] #[Z6 (ZX ⟨b.heap.size,0,ZY⟩)],Z7 Z9 (x.1:Int),ZZ,ZZ,ZZ,ZZ,ZZ,ZZ],defers:=[] }) ?assign ?body ?done ?stop
 case assign=>
  intro l2 x X Kk hK;unfold qY;gi_wp2;exact hK
 case body=>
  rintro l2 pre x X ⟨hi,⟨C,j,y⟩,s⟩ hc;have ha:=zm hD ka hG j;have ks:=tC a.heap.size x.1 C X y ha x.2;have H:tells (fw D L G) (DZ (pre++[x]))=ku C x.1:=by rw [G0,iD,j];rfl
  have f:=hide hi;have Z:=hide s;clear s hc j y ha;have ce:=hi.err.cell;have fe:=hi.err.frozen;clear hi;gi_wp2;refine dH ks ?_;clear ks;rintro e w2 (⟨km,rfl,qh⟩|⟨C',ko,rfl,k8,kj⟩)
  . subst qh;have q9:=hide (H.trans km);clear H km;have d:ZQ (w2.setRow (w.heap.size+1) (aY dG)) (w.heap.size+1+1) 63 .nilIface:=((aR _ _ _).block _ f.out.err.lt (λe=>by have:=XZ e;omega)).trans f.out.err;have O:=d.cell;have P:=d.frozen;have q8:=hide d;clear d;gi_wp2_with (refine jW rfl (Z1 4) (Z1 29) rfl (w.heap.size+1) dG dG rfl rfl f.out.res ?_)
    have hi:=f.out;have V:bW w (w2.setRow (w.heap.size+1) (aY dG)):=hi.below.grown (aR _ _ _) hi.below.size (λq e=>by cases e;omega);refine ⟨?_,rfl,q9.out,?_,?_,?_,?_⟩
    . exact ((ru f.out.res _).trans (KeepsOthers.setCell _ _ _)).from _
    . exact V.setCell (p:=⟨w.heap.size+1+1,0,ZY⟩) (by show w.heap.size<=w.heap.size+1+1;omega) _
    . have:=Z.out;simpa [World.setCell,World.setRow] using this
    . exact (hi.res.setRow dG).keep (Below.heap_setCell _ _ _ _ (by show w.heap.size+1≠w.heap.size+1+1;omega))
    . exact q8.out.set _
  . have H2:=hide3 (H.trans ko) k8 kj;clear H ko k8 kj;gi_wp2;obtain ⟨t,u,l⟩:=H2.out;have h6:=f.out.own (B:=w.heap.size+3) lR l (λr e=>by cases e;obtain ⟨t,u,l,M⟩:=J.out;omega);exact ⟨⟨l.size,λk o hk ho _=>(l.block k (XI.1 ho).1 (λe=>by cases e;omega)).trans ho⟩,λ_=>hT.mono (by omega) h6.below,h6,⟨C',t,u⟩,XJ Z.out l.size⟩
 case done=>
  rintro N xs X qc ky ⟨hi,⟨C,j,y⟩,s⟩ hK;try change ZS _ _ _ at j
  rw [show DZ xs=ab S from ky] at j;have qj:N<X.heap.size:=(XI.1 hK).1;have d:ZQ (X.setRow (w.heap.size+1) (aY C)) (w.heap.size+1+1) 63 .nilIface:=((aR _ _ _).block _ hi.err.lt (λe=>by have:=XZ e;omega)).trans hi.err;have O:=d.cell;have P:=d.frozen;have f:=hide6 hi y s hK j d;clear hi y s hK j ky xs m I d;gi_wp2_with (first
   | refine kM rfl (Z1 8) rfl a.heap.size C rfl f.out.2.1 ?_
   | refine jW rfl (Z1 4) (Z1 31) rfl (w.heap.size+1) C dG rfl rfl f.out.1.res ?_)
  obtain ⟨hi,y,s,hK,j,d⟩:=f.out;have V:bW w (X.setRow (w.heap.size+1) (aY C)):=hi.below.grown (aR _ _ _) hi.below.size (λq e=>by cases e;omega);have qe:=V.setCell (p:=⟨w.heap.size+1+1,0,ZY⟩) (by show w.heap.size<=w.heap.size+1+1;omega) .nilIface;have qf:=(ru hi.res (aY C)).trans (KeepsOthers.setCell _ ⟨w.heap.size+1+1,0,ZY⟩ .nilIface);have k9:=qf.same N _ hK rfl;exact KG (w:=w) rfl rfl rfl ((hi.res.setRow C).keep (Below.heap_setCell _ _ _ _ (by show w.heap.size+1≠w.heap.size+1+1;omega))) (d.set _) k9 (by omega)
   ⟨Below.TO qe (by omega) (XI.1 k9).1 _,.inr ⟨C,j,rfl⟩⟩
 case stop=>
  rintro N cc pre X qc hy ⟨rfl,kp,E,s,hf,h9⟩ hK;have he:tells (fw D L G) (ab S)=ZY:=by
   obtain ⟨R,hR⟩:=hy;rw [<- hR];exact je _ _ _ kp
  have HH:=hide5 E hf h9 hK he;clear E hf h9 hK he kp;gi_wp2;obtain ⟨t,u,l,M,q5⟩:=HH.out;exact KG (w:=w) rfl rfl rfl u l M (by omega) ⟨Below.TO t (by omega) (XI.1 M).1 _,.inl ⟨q5,rfl⟩⟩
end
section
attribute [local go_sem] Oper.semAt_some
structure WI (w:ZU) (C:Ck) (regs:Int) (L:List St) (X:ZU):Prop where
 ck:aF X w.heap.size C
 res:X.heap[w.heap.size+1]?=ZX (Z4 #[Z7 Z9 0,Z5 ZY 0 0] 210 (0,0))
 pb:PB X (w.heap.size+3) (w.heap.size+1+1) regs L
 below:bW w X
theorem WI.own {L:List St} (h:WI w C regs L X) (d:w.heap.size+3<=B) (a:X.grownBy Y row) (c:∀ r,row=ZX r->B<=r/\∃ o:Obj,X.heap[r]?=ZX o/\o.isCells=ZV):WI w C regs L Y:=by
 have f:=h.pb.2.1;have b:∀ k,k<w.heap.size+3->Y.heap[k]?=X.heap[k]?:=λk b=>a.block k (by omega) (λe=>by have:=(c k e.symm).1;omega);exact ⟨h.ck.keep (b _ (by omega)),(b _ (by omega)).trans h.res,h.pb.own d a c,h.below.grown a h.below.size (λk e=>by have:=(c k e).1;omega)⟩
theorem WI.next {L:List St} {s:St} (h:WI w C regs L X) (d:X.heap[w.heap.size+1+1]?=ZX (Z4 #[Z7 Z9 regs,v] 210 (0,0))) (e:X.ownsRow (w.heap.size+3) 284 4 v L.length (er .u8 L))
 (g:(X.alloc ob).grownBy w2 v.ownBlock) (f:w.heap.size+3<=g') (c:w2.ownsRow (w.heap.size+3) 284 4 (Z5 (ZX ⟨g',0,ZY⟩) (L.length+1) cap') (L.length+1) (er .u8 (L++[s]))) :
 w2.cell? ⟨w.heap.size+1+1,1,ZY⟩=ZX v/\w2.frozen? ⟨w.heap.size+1+1,1,ZY⟩=ZV/\(WI w C regs (L++[s]) (w2.setCell ⟨w.heap.size+1+1,1,ZY⟩ (Z5 (ZX ⟨g',0,ZY⟩) (L.length+1) cap'))/\KeepsOthers X (w2.setCell ⟨w.heap.size+1+1,1,ZY⟩ (Z5 (ZX ⟨g',0,ZY⟩) (L.length+1) cap'))):=by
 obtain ⟨i,j,l,a,b,m,n,o⟩:=PB.next (n0:=w.heap.size+3) (Bg:=w.heap.size+1+1) (by omega) h.pb.2.1 d e g f c;refine ⟨j,l,⟨h.ck.keep (a _ (by omega) (by omega)),(a _ (by omega) (by omega)).trans h.res,i,h.below.trans ⟨m,n,o,?_,λk p=>a k (by omega) (by omega)⟩⟩,b⟩;exact b.size
def WI.told {L:List St} (h:WI w C regs L X):X.cell? ⟨w.heap.size,128,ZY⟩=ZX (Z7 Z9 (C.told:Int)):=h.ck.Uh
def Bk (X:ZU) (s:St):∀ j v,(Gk .u8 s)[j]?=ZX v->(X.alloc (Z4 #[Z7 .u8 (s.k:Int),Z7 Z9 s.a,Z7 Z9 s.b,Z7 .u8 (s.c:Int)] 284)).cell? ((⟨X.heap.size,0,ZY⟩:Addr).add j)=ZX v:=
 AF X X.heap.size rfl _ _ _ _ _
def GV (C:Ck) (pre:List Sh):List St:=wrTo C (pre.map (·.1))
def Fi (C:Ck) (pre:List Sh) (i k:Nat):List St:=GV C pre++[⟨0,0,(i:Int),0⟩]++gy C i k
theorem MW (C:Ck) (a:dY C) (pre:List Sh) (s:Nat) (h:pre.length<(ab s).length) (i k:Nat) (l:k<=C.told):(GV C pre).length<=200/\(Fi C pre i k).length<=300:=by
 have b:=si C (pre.map (·.1));have d:=Bj C i k;have e:(ab s).length<=16:=by rw [<- kN s];exact qE s
 have f:=a.le;have g:=a.T2;have c:(pre.map (·.1)).length*(C.told+1)<=16*9:=YH (by rw [XL];omega) (by omega);have j:(GV C pre).length<=144:=XJ b c;refine ⟨by omega,?_⟩;unfold Fi;simp only [XO,YZ];omega
def KC (C:Ck) (pre:List Sh) (i:Nat):Fi C pre i 0=GV C pre++[⟨0,0,(i:Int),0⟩]:=by unfold Fi;rw [tE,YQ]
def Pf (pre:List Sh) {i k:Nat} (h:C.m k i≠0):Fi C pre i (k+1)=Fi C pre i k++[⟨1,1+(k:Int),0,C.m k i⟩]:=by unfold Fi;rw [Bi C i k h,<- Ys]
def MX (pre:List Sh) {i k:Nat} (h:C.m k i=0):Fi C pre i (k+1)=Fi C pre i k:=by unfold Fi;rw [wT C i k h]
def MY {x:Sh} (h:cP C x.1=ZW):Fi C pre x.1 C.told=GV C (pre++[x]):=by
 unfold Fi GV;rw [X5,YJ,wS,iy h];simp
def Pg {x:Sh} (h:cP C x.1=ZV):GV C pre=GV C (pre++[x]):=by
 unfold GV;rw [X5,YJ,wS,lS h];simp
def GW (X:ZU) (n:Nat) (d:n=X.heap.size) (s:St):∀ j v,(Gk .u8 s)[j]?=ZX v->(X.alloc (Z4 #[Z7 .u8 (s.k:Int),Z7 Z9 s.a,Z7 Z9 s.b,Z7 .u8 (s.c:Int)] 284)).cell? ((⟨n,0,ZY⟩:Addr).add j)=ZX v:=
 AF X n d _ _ _ _ _
def MZ {s:Nat} (h:pre.map (·.1)=ab s):GV C pre=wrTo C (ab s):=by unfold GV;rw [h]
def wU (C:Ck) (kept:Nat) (pre:List Sh):List St:=wrTo C (ab kept)++fF (pre.map (·.1))
def M0 (C:Ck) (kept:Nat):wU C kept []=wrTo C (ab kept):=by unfold wU fF;simp
def KD (C:Ck) (kept:Nat) (pre:List Sh) (x:Sh):wU C kept (pre++[x])=wU C kept pre++[⟨2,(pre.length:Int)+1,(x.1:Int),0⟩]:=by
 unfold wU;rw [X5,YJ,DX,XL,<- Ys]
def M1 (h:pre.map (·.1)=ab gone):wU C kept pre=fO C gone kept:=by unfold wU fO;rw [h]
theorem Ph (C:Ck) (a:dY C) (kept:Nat) (pre:List Sh) (s:Nat) (h:pre.length<(ab s).length):(wU C kept pre).length<=300:=by
 have c:=si C (ab kept);have e:(ab s).length<=16:=by rw [<- kN s];exact qE s
 have b:(ab kept).length<=16:=by rw [<- kN kept];exact qE kept
 have f:=a.le;have g:=a.T2;have d:(ab kept).length*(C.told+1)<=16*9:=YH b (by omega);have i:(wrTo C (ab kept)).length<=144:=XJ c d;unfold wU fF;simp only [XO,XL,X3];omega
def KE {xs:List ZT} (h:X.ownsRow n0 284 4 v k xs) (b:ZQ X R 3 u):v.ownBlock≠ZX R:=by
 rcases h.2 with ⟨rfl,_⟩|⟨g,cap,cur,rfl,_,a,_⟩
 . intro e;cases e
 . intro e;obtain rfl:g=R:=(by simpa [Value.ownBlock] using e);rw [show X.heap[g]?=_ from b] at a;have:=XZ a;cases this
theorem WI.set {L:List St} {u':ZT} (h:WI w C regs L X) (g:w.heap.size+3<=R) (c:ZQ X R 3 u):WI w C regs L (X.setCell ⟨R,0,ZY⟩ u'):=by
 have a:∀ k,k≠R->(X.setCell ⟨R,0,ZY⟩ u').heap[k]?=X.heap[k]?:=λk a=>Below.heap_setCell _ _ _ _ a;obtain ⟨d,e,v,f,b⟩:=h.pb;exact ⟨h.ck.keep (a _ (by omega)),(a _ (by omega)).trans h.res,⟨d,by simpa [World.setCell] using e,v,(a _ (by omega)).trans f,b.kept (dm X R 0 u') (.inr (KE b c))⟩,h.below.setCell (p:=⟨R,0,ZY⟩) (by show w.heap.size<=R;omega) _⟩
structure WP (w:ZU) (C:Ck) (regs:Int) (kept R D:Nat) (pre:List Sh) (Y:ZU):Prop where
 wi:WI w C regs (wU C kept pre) Y
 box:ZQ Y R 3 (Z7 Z9 (pre.length:Int))
 mark:Y.heap[D]?=ZX (.deferred (ZX []))
theorem WP.own (h:WP w C regs kept R D pre X) (d:w.heap.size+3<=B) (g:R<B) (f:D<B) (b:X.grownBy Y row) (c:∀ r,row=ZX r->B<=r/\∃ o:Obj,X.heap[r]?=ZX o/\o.isCells=ZV):WP w C regs kept R D pre Y:=by
 have a:∀ k,k<B->k<X.heap.size->Y.heap[k]?=X.heap[k]?:=λk a i=>b.block k i (λe=>by have:=(c k e.symm).1;omega);exact ⟨h.wi.own d b c,(a R g h.box.lt).trans h.box,(a D f (XI.1 h.mark).1).trans h.mark⟩
theorem WP.next {x:Sh} (h:WP w C regs kept R D pre X) (j:w.heap.size+3<=R)
 (g:(X.setCell ⟨R,0,ZY⟩ (Z7 Z9 ((pre.length:Int)+1))).heap[w.heap.size+1+1]?=ZX (Z4 #[Z7 Z9 regs,v] 210 (0,0))) (a:(X.setCell ⟨R,0,ZY⟩ (Z7 Z9 ((pre.length:Int)+1))).ownsRow (w.heap.size+3) 284 4 v (wU C kept pre).length (er .u8 (wU C kept pre)))
 (d:((X.setCell ⟨R,0,ZY⟩ (Z7 Z9 ((pre.length:Int)+1))).alloc ob).grownBy w2 v.ownBlock) (i:w.heap.size+3<=g') (f:w2.ownsRow (w.heap.size+3) 284 4 (Z5 (ZX ⟨g',0,ZY⟩) ((wU C kept pre).length+1) cap') ((wU C kept pre).length+1) (er .u8 (wU C kept pre++[⟨2,(pre.length:Int)+1,(x.1:Int),0⟩]))) :
 w2.cell? ⟨w.heap.size+1+1,1,ZY⟩=ZX v/\w2.frozen? ⟨w.heap.size+1+1,1,ZY⟩=ZV/\(WP w C regs kept R D (pre++[x]) (w2.setCell ⟨w.heap.size+1+1,1,ZY⟩ (Z5 (ZX ⟨g',0,ZY⟩) ((wU C kept pre).length+1) cap'))/\KeepsOthers X (w2.setCell ⟨w.heap.size+1+1,1,ZY⟩ (Z5 (ZX ⟨g',0,ZY⟩) ((wU C kept pre).length+1) cap'))):=by
 have k:WI w C regs (wU C kept pre) (X.setCell ⟨R,0,ZY⟩ (Z7 Z9 ((pre.length:Int)+1))):=h.wi.set j h.box;have c:ZQ (X.setCell ⟨R,0,ZY⟩ (Z7 Z9 ((pre.length:Int)+1))) R 3 (Z7 Z9 ((pre.length:Int)+1)):=h.box.set _;obtain ⟨l,m,n,o⟩:=k.next g a d i f;have b:=(KeepsOthers.setCell X ⟨R,0,ZY⟩ (Z7 Z9 ((pre.length:Int)+1))).trans o;refine ⟨l,m,⟨by rw [KD];exact n,?_,b.same D _ h.mark rfl⟩,b⟩;have b2:ZQ w2 R 3 (Z7 Z9 ((pre.length:Int)+1)):=(c.alloc ob).kept d (λe=>KE a c e.symm);have b3:=(Below.heap_setCell w2 ⟨w.heap.size+1+1,1,ZY⟩ (Z5 (ZX ⟨g',0,ZY⟩) ((wU C kept pre).length+1) cap') R (by show R≠w.heap.size+1+1;omega)).trans b2;rw [XO];exact b3
def lj {x x':ZT} (h:Y.heap[b]?=ZX (Z4 #[x,y] t (0,0))):(Y.setCell ⟨b,0,ZY⟩ x').heap[b]?=ZX (Z4 #[x',y] t (0,0)):=by
 obtain ⟨a,c⟩:=XI.1 h;show (Y.heap.modify b _)[b]?=_;rw [X6 (by rw [Yq];exact a),YE,c];rfl
def ll {x y':ZT} (h:Y.heap[b]?=ZX (Z4 #[x,y] t (0,0))):(Y.setCell ⟨b,1,ZY⟩ y').heap[b]?=ZX (Z4 #[x,y'] t (0,0)):=by
 obtain ⟨a,c⟩:=XI.1 h;show (Y.heap.modify b _)[b]?=_;rw [X6 (by rw [Yq];exact a),YE,c];rfl
def fZ {base base':Nat} {e:TypeId} {size:Nat} {xs:List ZT} (h:w.ownsRow base e size v n xs) (f:base'<=base):w.ownsRow base' e size v n xs:=by
 refine ⟨h.1,?_⟩;rcases h.2 with b|⟨g,cap,cur,a,c,d⟩
 . exact .inl b
 . exact .inr ⟨g,cap,cur,a,XJ f c,d⟩
def GY:(ZP.info? 210).map (·.size)=ZX 2:=by kernel_rfl
theorem GZ (C:Ck) (gone kept:Nat) (w:ZU) (s:dY C) (hg:gone<65536) (hk:kept<65536) (T:aJ w) (h2:3<=w.heap.size) :
 ZR ZP 198 #[.agg (aY C),Z7 Z8 gone,Z7 Z8 kept] w λe w'=>∃ v,e=Z3 (.agg #[Z7 Z9 (1+((ab gone).length:Int)),v])/\bW w w'/\w'.ownsRow w.heap.size 284 4 v (fO C gone kept).length (er .u8 (fO C gone kept)):=by
 have qx:=bf C;have qf:(ab gone).length<=16:=by rw [<- kN gone];exact qE gone
 obtain ⟨n,HN⟩:∃ n:Nat,Hid (9<=n):=⟨9,XH _⟩;refine (callsIn_wide (n:=n)).1 ?_;refine callsIn_of_wp_marks func198 rfl trivial ?_ rfl;simp only [ntmps198,X2,X7,Ya,Yb,Yc,Yd,Ye,Yf,Yg,XU,XS];have q6:(((w.alloc (Z4 (aY C) 319)).alloc (Z4 #[Z7 Z9 0,Z5 ZY 0 0] 210)).alloc (Z4 #[Z7 Z9 (1+((ab gone).length:Int)),Z5 ZY 0 0] 210)).heap.size=w.heap.size+3:=by simp
 have ky:WI w C (1+((ab gone).length:Int)) [] (((w.alloc (Z4 (aY C) 319)).alloc (Z4 #[Z7 Z9 0,Z5 ZY 0 0] 210)).alloc (Z4 #[Z7 Z9 (1+((ab gone).length:Int)),Z5 ZY 0 0] 210)):=by
  obtain ⟨a1,a2,a3,a4⟩:=JI w (Z4 (aY C) 319) (Z4 #[Z7 Z9 0,Z5 ZY 0 0] 210) (Z4 #[Z7 Z9 (1+((ab gone).length:Int)),Z5 ZY 0 0] 210);refine ⟨(aF.new w C).keep (by rw [Below.heap_alloc _ _ _ (by simp;omega),Below.heap_alloc _ _ _ (by simp)]),a3,⟨by omega,by omega,_,a4,World.ownsRow_nil _ _ _ _⟩,((bA w _).alloc (by simp) _).alloc (by simp;omega) _⟩
 have L:=hide q6;have i:=hide ky;clear q6 ky;gi_wp2;refine de (AB gone hg _) ?_;rintro e w' ⟨rfl,E⟩;gi_wp2;obtain ⟨b,km⟩:=nM ((((w.alloc (Z4 (aY C) 319)).alloc (Z4 #[Z7 Z9 0,Z5 ZY 0 0] 210)).alloc (Z4 #[Z7 Z9 (1+((ab gone).length:Int)),Z5 ZY 0 0] 210)));rw [km] at L i;rw [km];clear km E w';refine de (dC kept b) ?_;rintro e w' ⟨rfl,rfl⟩;have q7:(b.alloc (Z4 #[Z7 Z8 (kept:Int)] 124)).heap.size=b.heap.size+1:=by simp
 have ks:(b.alloc (Z4 #[Z7 Z8 (kept:Int)] 124)).cell? ⟨b.heap.size,0,ZY⟩=ZX (Z7 Z8 (kept:Int)):=(Bx.new b 124 (Z7 Z8 (kept:Int))).cell;have qc:bW b (b.alloc (Z4 #[Z7 Z8 (kept:Int)] 124)):=bA _ _;have kz:WI w C (1+((ab gone).length:Int)) [] (b.alloc (Z4 #[Z7 Z8 (kept:Int)] 124)):=i.out.own (B:=b.heap.size) (row:=ZY) (by have:=L.out;omega) (World.grownBy_alloc _ _ _) (λr e=>by cases e);obtain ⟨w4,q4⟩:=nM (b.alloc (Z4 #[Z7 Z8 (kept:Int)] 124));have N:=hide q7;have ka:=hide ks;have k6:=hide kz;clear q7 ks qc kz i;gi_wp2;rw [q4] at N ka k6;clear q4;refine wpIn_rangeFunc_ownG rfl (by have:=HN.out;omega) (gf:=153) (lb:=#[Z6 (ZX ⟨b.heap.size,0,ZY⟩)]) rfl trivial (enters_of func153 (by kernel_rfl) rfl)
  (eS (n-1) b.heap.size kept hk w4 (by have:=N.out;omega) ka.out (by have:=N.out;have:=L.out;omega) (T.mono (by omega) k6.out.below)) (λh k=>qZ h k) (re (by have:=N.out;have:=L.out;omega)) (Below.refl _ _) (λ_=>rfl)
  (λpre X=>WI w C (1+((ab gone).length:Int)) (GV C pre) X/\w4.heap.size<=X.heap.size) (λ_ _ _=>False)
  (λpre X Y row F S hr=>⟨F.1.own (by have:=N.out;have:=L.out;omega) S hr,XJ F.2 S.size⟩) (λc pre X Y row F _ _=>F.elim) ⟨k6.out,XH _⟩
  (λx=>{ tmps:=#[.agg (aY C),Z7 Z8 (gone:Int),Z7 Z8 (kept:Int),Z6 (ZX ⟨w.heap.size,0,ZY⟩),ZZ,ZZ,Z6 (ZX ⟨w.heap.size+1,0,ZY⟩),Z6 (ZX ⟨w.heap.size+1+1,0,ZY⟩),Z7 Z9 (x.1:Int),ZZ,ZZ,ZZ,ZZ,Z7 Z8 (gone:Int),Z7 Z9 ((ab gone).length:Int),Z7 Z9 (1+((ab gone).length:Int)),.agg #[Z7 Z9 (1+((ab gone).length:Int)),Z5 ZY 0 0],Z7 Z8 (kept:Int),.func (.func 153) #[] #[Z6 (ZX ⟨b.heap.size,0,ZY⟩)],Z7 Z9 (x.1:Int),ZZ,ZZ,ZZ,ZZ,ZZ,ZZ,ZZ,ZZ,ZZ,ZZ,ZZ,ZZ,ZZ,ZZ,ZZ,ZZ,ZZ,ZZ,ZZ,ZZ,ZZ,ZZ,ZZ,ZZ,ZZ,ZZ,ZZ,ZZ,ZZ,ZZ,ZZ,ZZ,ZZ,ZZ,ZZ,ZZ,ZZ,ZZ,ZZ,ZZ,ZZ,ZZ,ZZ,ZZ,ZZ,ZZ,ZZ],defers:=[] }) ?assign ?body ?done ?stop
 case assign=>
  intro l2 x X Kk hK;unfold qY;gi_wp2;exact hK
 case body=>
  rintro l2 pre x X ⟨hi,V⟩ P;have q3:=wM w.heap.size x.1 C X hi.ck s x.2;obtain ⟨_,_,v,f,a⟩:=hi.pb;have I:w.heap.size+3<=X.heap.size:=hi.pb.2.1;obtain ⟨c0,c1,M,_⟩:=aG f;have ko:=x.2;have hL:=λk hk=>MW C s pre kept P x.1 k hk;have HH:=hide hi;have O:=hide f;have q:=hide a;have HL:=hide hL;have HX:=hide V;have Q:=hide I;clear hi f a hL V P I;gi_wp2;refine dH q3 ?_;clear q3;rintro e w' ⟨rfl,E⟩;subst E;cases k9:cP C x.1 with
  | false=>
   have HE:=hide (Pg (pre:=pre) k9);clear k9;gi_wp2;refine ⟨KeepsFrom.refl _ _,E3.refl _,?_,HX.out⟩;rw [<- HE.out];exact HH.out
  | true=>
   have HE:=hide (MY (pre:=pre) k9);clear k9;gi_wp2_with (
    refine zl rfl (Z1 24) (Z1 27) rfl (w.heap.size+3) w'.heap.size (GV C pre) ⟨0,0,(x.1:Int),0⟩ v rfl rfl (q.out.alloc _) (Bk w' ⟨0,0,(x.1:Int),0⟩) (by have:=Q.out;simp;omega) (by have:=(HL.out 0 (Yo _)).1;omega) ?_;
    rintro g' cap' w2 R G H;
    obtain ⟨c1,M,z⟩:=HH.out.next O.out q.out H R G;
    have ct:=z.1.told;
    have l:=hide z;
    clear z H G)
   rw [<- KC] at l;gi_loopw [32] (λp wr=>∃ k:Nat,p=Z7 Z9 (k:Int)/\k<=C.told/\WI w C (1+((ab gone).length:Int)) (Fi C pre x.1 k) wr/\KeepsOthers w' wr) (λp _=>C.told-(intOf p).toNat)
   case atStart=>exact ⟨0,rfl,Yo _,l.out.1,l.out.2⟩
   case round=>
    obtain ⟨k,rfl,qd,hi,y⟩:=hrel;have qj:=s.le;have qk:=s.T2;by_cases qs:k<C.told
    . have cm:=hi.ck.at k x.1 (by omega) ko;have hb:=s.byt k x.1;have ki:(k:Int)<C.told:=(by omega);have qo:(k:Int)<8:=(by omega);have qy:(x.1:Int)<16:=(by omega);by_cases h0:C.m k x.1=0
      . rw [h0] at cm;have i:=hide hi;have t:=hide y;clear hi y;gi_wp2;go_roundw
        case rel=>exact ⟨k+1,by go_num,by omega,by rw [MX pre h0];exact i.out,t.out⟩
        case measure=>simp [intOf];omega
      . have qv:((C.m k x.1:Nat):Int)≠0:=(by omega);obtain ⟨_,_,v,f,a⟩:=hi.pb;have I:w.heap.size+3<=wr.heap.size:=hi.pb.2.1;obtain ⟨c0,c1,M,_⟩:=aG f;have qn:=(HL.out k qd).2;have i:=hide hi;have t:=hide y;have O:=hide f;have q:=hide a;have Q:=hide I;clear hi y f a I;gi_wp2_with (
         refine zl rfl (Z1 44) (Z1 49) rfl (w.heap.size+3) wr.heap.size (Fi C pre x.1 k) ⟨1,1+(k:Int),0,C.m k x.1⟩ v rfl rfl (q.out.alloc _) (Bk wr ⟨1,1+(k:Int),0,C.m k x.1⟩) (by have:=Q.out;simp;omega) (by omega) ?_;
         rintro g' cap' w2 R G H;
         obtain ⟨c1,M,z⟩:=i.out.next O.out q.out H R G;
         have l:=hide z;
         clear z H G)
        go_roundw
        case rel=>exact ⟨k+1,by go_num,by omega,by rw [Pf pre h0];exact l.out.1,t.out.trans l.out.2⟩
        case measure=>simp [intOf];omega
    . have ki:¬ (k:Int)<C.told:=(by omega);obtain rfl:k=C.told:=(by omega);have i:=hide hi;have t:=hide y;clear hi y;gi_wp2;refine ⟨t.out.from _,λ_=>T.mono (by omega) i.out.below,?_,XJ HX.out t.out.size⟩;rw [<- HE.out];exact i.out
 case done=>
  rintro D xs X hD q5 ⟨hi,V⟩ hK;rw [MZ q5] at hi;have qp:w.heap.size+3<=D:=by have:=N.out;have:=L.out;omega
  have qb:D<X.heap.size:=(XI.1 hK).1;clear q5 xs ka k6 V;have i:=hide hi;have t:=hide hK;clear hi hK;gi_wp2;refine de (dC gone _) ?_;rintro e w' ⟨rfl,E⟩;have q8:w'.heap.size=X.heap.size+1+1:=by rw [E];simp
  have kv:w'.cell? ⟨X.heap.size+1,0,ZY⟩=ZX (Z7 Z8 (gone:Int)):=by
   have:=(Bx.new (X.alloc (Z4 #[Z7 Z9 0] 3)) 124 (Z7 Z8 (gone:Int))).cell;rw [World.size_alloc] at this;rw [E];exact this
  have kf:X.grownBy w' ZY:=by rw [E];exact AG (World.grownBy_alloc X _ ZY) _
  have q2:WP w C (1+((ab gone).length:Int)) kept X.heap.size D [] w':=by
   refine ⟨by rw [M0];exact i.out.own (B:=w.heap.size+3) lR kf (λr e=>by cases e),?_,(kf.block D qb (λe=>by cases e)).trans t.out⟩;rw [E];exact (Boxed.new X 3 (Z7 Z9 0)).alloc _
  have u:=hide q8;have q9:=hide kv;have kp:=hide q2;clear q8 kv q2 kf E i t;gi_wp2;refine wpIn_rangeFunc_ownG rfl (by have:=HN.out;omega) (gf:=153) (lb:=#[Z6 (ZX ⟨X.heap.size+1,0,ZY⟩)]) rfl trivial (enters_of func153 (by kernel_rfl) rfl)
   (eS (n-1) (X.heap.size+1) gone hg w' (by have:=u.out;omega) q9.out (by have:=u.out;omega) (T.mono (by omega) kp.out.wi.below)) (λh k=>qZ h k) (re (by have:=u.out;omega)) (Below.refl _ _) (λ_=>rfl)
   (λpre Y=>WP w C (1+((ab gone).length:Int)) kept X.heap.size D pre Y/\w'.heap.size<=Y.heap.size) (λ_ _ _=>False)
   (λpre A Y row F S hr=>⟨F.1.own (B:=w'.heap.size) (by have:=u.out;omega) (by have:=u.out;omega) (by have:=u.out;omega) S hr,XJ F.2 S.size⟩) (λc pre X Y row F _ _=>F.elim) ⟨kp.out,XH _⟩
   (λx=>{ tmps:=#[.agg (aY C),Z7 Z8 (gone:Int),Z7 Z8 (kept:Int),Z6 (ZX ⟨w.heap.size,0,ZY⟩),ZZ,ZZ,Z6 (ZX ⟨w.heap.size+1,0,ZY⟩),Z6 (ZX ⟨w.heap.size+1+1,0,ZY⟩),ZZ,ZZ,ZZ,Z6 (ZX ⟨X.heap.size,0,ZY⟩),Z7 Z9 (x.1:Int),Z7 Z8 (gone:Int),Z7 Z9 ((ab gone).length:Int),Z7 Z9 (1+((ab gone).length:Int)),.agg #[Z7 Z9 (1+((ab gone).length:Int)),Z5 ZY 0 0],Z7 Z8 (kept:Int),.func (.func 153) #[] #[Z6 (ZX ⟨b.heap.size,0,ZY⟩)],ZZ,ZZ,ZZ,ZZ,ZZ,ZZ,ZZ,ZZ,ZZ,ZZ,ZZ,ZZ,ZZ,ZZ,ZZ,ZZ,ZZ,ZZ,ZZ,ZZ,ZZ,ZZ,ZZ,ZZ,ZZ,ZZ,ZZ,ZZ,ZZ,ZZ,ZZ,ZZ,ZZ,ZZ,Z7 Z8 (gone:Int),.func (.func 153) #[] #[Z6 (ZX ⟨X.heap.size+1,0,ZY⟩)],Z7 Z9 (x.1:Int),ZZ,ZZ,ZZ,ZZ,ZZ,ZZ,ZZ,ZZ,ZZ,ZZ,ZZ],defers:=[] }) ?assign2 ?body2 ?done2 ?stop2
  case assign2=>
   intro l2 x Y Kk hK;unfold qY;gi_wp2;exact hK
  case body2=>
   rintro l2 pre x Y ⟨o,W⟩ P;have qq:=Ph C s kept pre gone P;have qg:pre.length<16:=(by omega);have kc:w.heap.size+3<=X.heap.size:=(by omega);have hs:=o.wi.set (u':=Z7 Z9 ((pre.length:Int)+1)) kc o.box;obtain ⟨_,_,v,f,a⟩:=hs.pb;have I:w.heap.size+3<=(Y.setCell ⟨X.heap.size,0,ZY⟩ (Z7 Z9 ((pre.length:Int)+1))).heap.size:=hs.pb.2.1;obtain ⟨c0,c1,M,_⟩:=aG f;have cb:=o.box.cell;have fb:=o.box.frozen;have qr:=(o.box.set (Z7 Z9 ((pre.length:Int)+1))).cell;have HP:=hide o;have O:=hide f;have q:=hide a;have Q:=hide I;have HY:=hide W;have qa:=hide kc;clear o f a I W hs P kc;gi_wp2_with (
    refine zl rfl (Z1 59) (Z1 63) rfl (w.heap.size+3) Y.heap.size (wU C kept pre) ⟨2,(pre.length:Int)+1,(x.1:Int),0⟩ v rfl rfl (q.out.alloc _) (GW _ Y.heap.size (by simp) ⟨2,(pre.length:Int)+1,(x.1:Int),0⟩) (by have:=Q.out;simp at this ⊢;omega) (by omega) ?_;
    rintro g' cap' w2 R G H;
    obtain ⟨c1,M,z⟩:=HP.out.next qa.out O.out q.out H R G;
    have l:=hide z;
    clear z H G)
   refine ⟨l.out.2.from _,λ_=>T.mono (by omega) l.out.1.wi.below,l.out.1,XJ HY.out l.out.2.size⟩
  case done2=>
   rintro K ys Y qm qi ⟨o,W⟩ k7;have J:=o.wi;rw [M1 qi] at J;have hm:=o.mark;obtain ⟨_,_,v,f,a⟩:=J.pb;obtain ⟨c0,c1,M,f0⟩:=aG f;obtain ⟨r0,r1,g1,g0⟩:=aG J.res;obtain ⟨ao,m,j,rfl⟩:∃ ao m j,v=.slice ao m j:=by
    rcases a.2 with ⟨rfl,_⟩|⟨g,cap,cur,rfl,_⟩
    . exact ⟨_,_,_,rfl⟩
    . exact ⟨_,_,_,rfl⟩
   have q:=hide4 J hm a k7;clear J hm a k7 o W f;gi_wp2;obtain ⟨J,hm,a,k7⟩:=q.out;have k5:((Y.setCell ⟨w.heap.size+1,0,ZY⟩ (Z7 Z9 (1+((ab gone).length:Int)))).setCell ⟨w.heap.size+1,1,ZY⟩ (.slice ao m j)).heap[w.heap.size+1]?=ZX (Z4 #[Z7 Z9 (1+((ab gone).length:Int)),.slice ao m j] 210 (0,0)):=
    ll (lj J.res)
   have y:=(KeepsOthers.setCell Y ⟨w.heap.size+1,0,ZY⟩ (Z7 Z9 (1+((ab gone).length:Int)))).trans (KeepsOthers.setCell _ ⟨w.heap.size+1,1,ZY⟩ (.slice ao m j));have kr:bW w ((Y.setCell ⟨w.heap.size+1,0,ZY⟩ (Z7 Z9 (1+((ab gone).length:Int)))).setCell ⟨w.heap.size+1,1,ZY⟩ (.slice ao m j)):=(J.below.setCell (p:=⟨w.heap.size+1,0,ZY⟩) (Yp _) _).setCell (p:=⟨w.heap.size+1,1,ZY⟩) (Yp _) _;have hq:((Y.setCell ⟨w.heap.size+1,0,ZY⟩ (Z7 Z9 (1+((ab gone).length:Int)))).setCell ⟨w.heap.size+1,1,ZY⟩ (.slice ao m j)).ownsRow (w.heap.size+3) 284 4 (.slice ao m j) (fO C gone kept).length (er .u8 (fO C gone kept)):=
    (a.kept (dm Y (w.heap.size+1) 0 _) (.inr λe=>by have:=jY a e;omega)).kept (dm _ (w.heap.size+1) 1 _) (.inr λe=>by have:=jY a e;omega)
   have k8:=y.same K _ k7 rfl;have ke:=y.same D _ hm rfl;have kb:D≠K:=(by have:=u.out;omega);have q0:=(XI.1 k8).1;have qe:=(XI.1 ke).1;have kj:K≠w.heap.size+1:=(by have:=u.out;omega);generalize ((Y.setCell ⟨w.heap.size+1,0,ZY⟩ (Z7 Z9 (1+((ab gone).length:Int)))).setCell ⟨w.heap.size+1,1,ZY⟩ (.slice ao m j))=Z at k5 kr hq k8 ke q0 qe ⊢;have hn:(Z.putObj K (.deferred ZY)).heap[D]?=ZX (.deferred (ZX [])):=(World.putObj_heap_other kb).trans ke;refine ⟨by simp,.inl ⟨_,_,rfl,run_takeDeferred k8,by simp,.inl ⟨_,_,rfl,run_takeDeferred hn,?_⟩⟩⟩;have qh:((Z.putObj K (.deferred ZY)).putObj D (.deferred ZY)).heap[w.heap.size+1]?=ZX (Z4 #[Z7 Z9 (1+((ab gone).length:Int)),.slice ao m j] 210 (0,0)):=((World.putObj_heap_other (by omega)).trans (World.putObj_heap_other (Ne.symm kj))).trans k5;have kg:=grownBy_putObj' Z K (.deferred ZY);have kh:=grownBy_putObj' (Z.putObj K (.deferred ZY)) D (.deferred ZY);have q1:∀ (U:ZU) (d:Nat),U.heap[d]?=ZX (.deferred (ZX []))->U.ownsRow (w.heap.size+3) 284 4 (.slice ao m j) (fO C gone kept).length (er .u8 (fO C gone kept))->(Value.slice ao m j).ownBlock≠ZX d:=by
    intro U d hd hU e;rcases hU.2 with ⟨e1,_⟩|⟨g,cap,cur,e1,_,kx,_⟩
    . cases e1;cases e
    . cases e1;obtain rfl:g=d:=(by simpa [Value.ownBlock] using e);rw [hd] at kx;cases kx
   have k0:=hq.kept kg (.inr (q1 _ _ k8 hq));have kk:=k0.kept kh (.inr (q1 _ _ hn k0));exact ⟨_,results_cell_row results198 _ _ (w.heap.size+1) 210 #[Z7 Z9 (1+((ab gone).length:Int)),.slice ao m j] (0,0) _ rfl qh underlying210 rfl GY,_,rfl,Below.TO (Below.TO kr (by have:=u.out;omega) q0 _) (by omega) (XI.1 hn).1 _,fZ kk (by omega)⟩
  case stop2=>
   rintro D c pre X _ _ s;exact s.elim
 case stop=>
  rintro D c pre X _ _ s;exact s.elim
end
structure CI (w:ZU) (D L G:Int) (X:ZU):Prop where
 par:X.heap[w.heap.size]?=ZX (Z4 #[Z7 Z9 D,Z7 Z9 L,Z7 Z9 G] 25 (0,0))
 res:X.heap[w.heap.size+1]?=ZX (Z4 #[Z7 Z9 0,Z5 ZY 0 0] 210 (0,0))
 below:bW w X
def CI.mono {D L G:Int} (h:CI w D L G X) (a:ZS B X Y) (b:w.heap.size+2<=B):CI w D L G Y:=
 ⟨(a.block _ (by omega)).trans h.par,(a.block _ (by omega)).trans h.res,h.below.trans (a.mono (by omega))⟩
def CI.new (w:ZU) (D L G:Int):CI w D L G ((w.alloc (Z4 #[Z7 Z9 D,Z7 Z9 L,Z7 Z9 G] 25)).alloc (Z4 #[Z7 Z9 0,Z5 ZY 0 0] 210)):=by
 refine ⟨?_,?_,(bA w _).alloc (by simp) _⟩
 . rw [Below.heap_alloc _ _ _ (by simp)];exact World.alloc_heap_new _ _
 . have:=World.alloc_heap_new (w.alloc (Z4 #[Z7 Z9 D,Z7 Z9 L,Z7 Z9 G] 25)) (Z4 #[Z7 Z9 0,Z5 ZY 0 0] 210);rwa [World.size_alloc] at this
def Pp (n:Nat):Nat:=2^n-1
def KN (lost n:Nat) (a:lost<18446744073709551616) (b:n<=16):bits .and .u64 (lost:Int) (Pp n:Int)=((av n lost:Nat):Int):=by
 have:=wV b;have c:0<2^n:=YD n;exact gj lost (2^n-1) a (by omega)
def KO (lost n:Nat) (a:n<=16):bits .andNot .u64 (Pp n:Int) ((av n lost:Nat):Int)=((bz n lost:Nat):Int):=by
 have b:=wV a;have c:=oZ lost a;exact u64_andNot_nat (2^n-1) (av n lost) (by omega) (by omega)
def Pr (D L G lost:Nat) (w:ZU) (e:Ending) (w':ZU):Prop:=
 bW w w'/\((tells (fw D L G) (ab (av (D+L+G) lost))=ZY/\e=Z3 (Z0 #[.agg #[Z7 Z9 0,Z5 ZY 0 0],.iface 66 (Z7 Z9 3)])) \/
  (∃ C v,tells (fw D L G) (ab (av (D+L+G) lost))=ZX C/\e=Z3 (Z0 #[.agg #[Z7 Z9 (1+((ab (av (D+L+G) lost)).length:Int)),v],.nilIface]) /\
   w'.ownsRow w.heap.size 284 4 v (fO (aT 8 C (bz (D+L+G) lost)).1 (av (D+L+G) lost) (bz (D+L+G) lost)).length (er .u8 (fO (aT 8 C (bz (D+L+G) lost)).1 (av (D+L+G) lost) (bz (D+L+G) lost)))))
def KP (k:Nat) (a:k<=16) (b:z=(k:Int)) (w:ZU) :
 ZR ZP 113 #[Z7 Z9 z] w λe w'=>e=Z3 (Z7 Z8 (Pp k:Int))/\w'=w:=by subst b;exact mu k a w
theorem vH (D L G lost:Nat) (hr:bU D L G=ZW) (kc:1<=D) (B:D<=12) (hL:1<=L) (U:L<=4) (E:G<=4) (hs:D%L=0) (c:D+L+G<=16) (hl:lost<18446744073709551616) (w:ZU) (F:aJ w) (h2:3<=w.heap.size) :
 ZR ZP 188 #[.agg #[Z7 Z9 D,Z7 Z9 L,Z7 Z9 G],Z7 Z8 lost] w λe w'=>Pr D L G lost w e w':=by
 have h:=CI.new w D L G;have j:((w.alloc (Z4 #[Z7 Z9 (D:Int),Z7 Z9 (L:Int),Z7 Z9 (G:Int)] 25)).alloc (Z4 #[Z7 Z9 0,Z5 ZY 0 0] 210)).heap.size=w.heap.size+2:=by simp
 obtain ⟨p0,p1,p2⟩:=ft h.par;have M:=hide2 h j;clear h j;go_enter func188,ntmps188;go_wp2_with fail;refine (pQ D L G _).mono ?_;rintro e w1 ⟨rfl,o⟩;obtain ⟨h,j⟩:=M.out;try change ZS _ _ _ at o
 rw [j] at o;have ke:=o.size;try change ZS _ _ _ at ke
 rw [j] at ke;have z:=h.mono o lR;obtain ⟨p0,p1,p2⟩:=ft z.par;have N:=hide z;clear M h j o z;go_wp2_with fail;refine (ep D L G _ (by omega) (by omega) (by omega)).mono ?_;rintro e w2 ⟨rfl,H⟩;have ki:=H.size;have A:=N.out.mono H (by omega);obtain ⟨p0,p1,p2⟩:=ft A.par;have q:=hide A;clear A H N;go_wp2_with fail;refine (KP (D+L+G) c (by omega) w2).mono ?_;rintro e K ⟨rfl,hy⟩;subst hy;have kg:=KN lost (D+L+G) hl c;go_wp2_with fail;refine (ln D L G (av (D+L+G) lost) hr kc B hL U E hs c (oZ lost c) K (F.mono (by omega) q.out.below) (by omega)).mono ?_;rintro e a ⟨u,hg⟩;have kj:=u.size;have s:=q.out.mono u (by omega);have hz:=zeroCk;have hx:=bf dG;rcases hg with ⟨x,rfl⟩|⟨C,t,rfl⟩
 . have S:=bf dG;have n:bW a ((a.alloc (Z4 (aY dG) 319)).setRow a.heap.size (aY dG)):=(bA _ _).grown (aR _ _ _) (by simp) (λk e=>by cases e;exact XH _);have d:=s.mono n (by omega);obtain ⟨r0,r1,g1,g0⟩:=aG d.res;have b:=hide2 d x;clear s d u n q x;go_wp2_with (refine wpList_store_row rfl 319 (Z1 8) (Z1 25) rfl a.heap.size (aY dG) rfl rfl 319 (aY dG) (aF.new a dG).heap (ez _) rfl (oW _) ?_);obtain ⟨hi,x⟩:=b.out;have y:=ll (y':=Z5 ZY 0 0) (lj (x':=Z7 Z9 0) hi.res);obtain ⟨n0,J,_⟩:=aG y;refine bodyPost_ret (v:=Z0 #[.agg #[Z7 Z9 0,Z5 ZY 0 0],.iface 66 (Z7 Z9 3)]) (by simp [results,results188,go_sem,n0,J]) rfl ?_;exact ⟨(hi.below.setCell (p:=⟨w.heap.size+1,0,ZY⟩) (by show w.heap.size<=w.heap.size+1;omega) _).setCell (p:=⟨w.heap.size+1,1,ZY⟩) (by show w.heap.size<=w.heap.size+1;omega) _,.inl ⟨x,rfl⟩⟩
 . have r:=(pe B E t).1;have R:=zm B U E t;have P:dY (aT 8 C (bz (D+L+G) lost)).1:=⟨r.byt,r.le,by have:=r.T2;omega⟩;have kh:=KO lost (D+L+G) c;have S:=bf C;have n:bW a ((a.alloc (Z4 (aY dG) 319)).setRow a.heap.size (aY C)):=(bA _ _).grown (aR _ _ _) (by simp) (λk e=>by cases e;exact XH _);have X:aF ((a.alloc (Z4 (aY dG) 319)).setRow a.heap.size (aY C)) a.heap.size C:=(aF.new a dG).setRow C;have d:=s.mono n (by omega);have kb:((a.alloc (Z4 (aY dG) 319)).setRow a.heap.size (aY C)).heap.size=a.heap.size+1:=(by simp [World.setRow]);have V:=F.mono (by omega) d.below;have b:=hide5 d X kb V t;have O:=hide2 R P;clear s d u n X kb V q t r R P;go_wp2_with (first
    | refine wpList_store_row rfl 319 (Z1 8) (Z1 25) rfl a.heap.size (aY C) rfl rfl 319 (aY dG) (aF.new a dG).heap (ez _) (by rw [bf,bf]) (oW _) ?_
    | refine wpList_load_row rfl 319 (Z1 8) rfl a.heap.size rfl 319 (aY C) (0,0) _ b.out.2.1.heap underlying319 rfl (ez _) ?_)
   obtain ⟨w5,Z⟩:=nM ((a.alloc (Z4 (aY dG) 319)).setRow a.heap.size (aY C));rw [Z] at b ⊢;clear Z S hx hz;refine (DV C (bz (D+L+G) lost) w5 O.out.1 (Bm lost c) b.out.2.2.2.1 (by have:=b.out.2.2.1;omega)).mono ?_;rintro e w7 ⟨rfl,I⟩;have kk:=I.size;have Y:=b.out.1.mono I (by have:=b.out.2.2.1;omega);have kf:a.heap.size+1<=w7.heap.size:=(by have:=b.out.2.2.1;omega);have T:=hide Y;clear Y I;go_wp2_with fail;refine (GZ (aT 8 C (bz (D+L+G) lost)).1 (av (D+L+G) lost) (bz (D+L+G) lost) w7 O.out.2 (oZ lost c) (Bm lost c) (F.mono (by omega) T.out.below) (by omega)).mono ?_;rintro e w8 ⟨v,rfl,W,l⟩;obtain ⟨ao,m,f,rfl⟩:∃ ao m f,v=.slice ao m f:=by
    rcases l.2 with ⟨rfl,_⟩|⟨g,cap,cur,rfl,_⟩
    . exact ⟨_,_,_,rfl⟩
    . exact ⟨_,_,_,rfl⟩
   have i:=T.out.mono W (by omega);obtain ⟨r0,r1,g1,g0⟩:=aG i.res;have H8:=hide2 i l;clear i l W;go_wp2;obtain ⟨i,l⟩:=H8.out;have y:=ll (y':=.slice ao m f) (lj (x':=Z7 Z9 (1+((ab (av (D+L+G) lost)).length:Int))) i.res);obtain ⟨n0,J,_⟩:=aG y;have Q:(Value.slice ao m f).ownBlock≠ZX (w.heap.size+1):=λe=>by have:=jY l e;omega
   have hv:=(l.kept (dm w8 (w.heap.size+1) 0 (Z7 Z9 (1+((ab (av (D+L+G) lost)).length:Int)))) (.inr Q)).kept (dm _ (w.heap.size+1) 1 (.slice ao m f)) (.inr Q);refine bodyPost_ret (v:=Z0 #[.agg #[Z7 Z9 (1+((ab (av (D+L+G) lost)).length:Int)),.slice ao m f],.nilIface]) (by simp [results,results188,go_sem,n0,J]) rfl ?_;exact ⟨(i.below.setCell (p:=⟨w.heap.size+1,0,ZY⟩) (by show w.heap.size<=w.heap.size+1;omega) _).setCell (p:=⟨w.heap.size+1,1,ZY⟩) (by show w.heap.size<=w.heap.size+1;omega) _,.inr ⟨C,_,b.out.2.2.2.2,rfl,fZ hv (by omega)⟩⟩
def bP (D L G lost:Int) (rd:Bool):ZT:=.agg #[Z7 Z9 D,Z7 Z9 L,Z7 Z9 G,Z7 Z8 lost,Z2 rd]
def pj (e:Bool) (D L G lost:Int) (rd:Bool) (w:ZU):(Instr.checkKey e 10000 228 (bP D L G lost rd)).run ZP w=.ok () w:=by kernel_rfl
theorem M8 (D L G lost:Int) (rd:Bool) (w:ZU):(Op.equal 228 (bP D L G lost rd) (bP D L G lost rd)).run ZP w=.ok ZW w:=by
 unfold bP Op.equal Op.maxDepth;go_simp
def tK {es:Array MapEntry} (h:w.heap[m]?=ZX (.map es n)):(getObj m).run ZP w=.ok (.map es n) w:=by simp [getObj,Sem.run,h]
def KQ {es:Array MapEntry} (h:w.heap[m]?=ZX (.map es n)) (o:Obj):(setObj m o).run ZP w=.ok () (w.putObj m o):=by simp [setObj,Sem.run,h,World.putObj]
def jG (w:ZU) (n:Nat) (D L G lost:Int) (rd:Bool) (regs:Int) (steps:ZT) (ne ol:ZT):Prop:=w.heap[n]?=ZX (Z4 (mY D L G lost rd regs steps ne ol) 262 (0,0))
def jG.lt {D L G lost:Int} {rd:Bool} {ol:ZT} (h:jG w n D L G lost rd regs steps ne ol):n<w.heap.size:=(XI.1 h).1
def jG.cells {D L G lost:Int} {rd:Bool} {ol:ZT} (h:jG w n D L G lost rd regs steps ne ol):w.cell? ⟨n,7,ZY⟩=ZX ne/\w.cell? ⟨n,8,ZY⟩=ZX ol/\w.frozen? ⟨n,7,ZY⟩=ZV/\w.frozen? ⟨n,8,ZY⟩=ZV:=by
 have a:w.heap[n]?=ZX (Z4 (mY D L G lost rd regs steps ne ol) 262 (0,0)):=h;simp [World.cell?,World.frozen?,a,mY]
def jG.UL {D L G lost:Int} {rd:Bool} {ol:ZT} (h:jG w n D L G lost rd regs steps ne ol) (x:ZT):jG (w.setCell ⟨n,7,ZY⟩ x) n D L G lost rd regs steps x ol:=aj (j:=7) h x
def jG.UA {D L G lost:Int} {rd:Bool} {ol:ZT} (h:jG w n D L G lost rd regs steps ne ol) (x:ZT):jG (w.setCell ⟨n,8,ZY⟩ x) n D L G lost rd regs steps ne x:=aj (j:=8) h x
def jG.keep {D L G lost:Int} {rd:Bool} {ol:ZT} (h:jG w n D L G lost rd regs steps ne ol) (e:w'.heap[n]?=w.heap[n]?):jG w' n D L G lost rd regs steps ne ol:=e.trans h
def ik (w:ZU) (b i j:Nat) (x y:ZT):aa (λk=>k=b) w ((w.setCell ⟨b,i,ZY⟩ x).setCell ⟨b,j,ZY⟩ y):=by
 have a:aa (λk=>k=b) w (w.setCell ⟨b,i,ZY⟩ x):=aa.setCell _ _ _ rfl;have c:aa (λk=>k=b) (w.setCell ⟨b,i,ZY⟩ x) ((w.setCell ⟨b,i,ZY⟩ x).setCell ⟨b,j,ZY⟩ y):=aa.setCell _ _ _ rfl;exact a.trans c
def QT (w:ZU) (sb n:Nat):Prop:=jG w sb 0 0 0 0 ZV 0 (Z5 ZY 0 0) (Z6 (ZX ⟨n,0,ZY⟩)) (Z6 (ZX ⟨n,0,ZY⟩))
def fG (w:ZU) (sb:Nat) (room:Int):Prop:=w.heap[sb+1+1]?=ZX (Z4 #[Z7 Z9 room,.map (ZX (sb+1)),Z6 (ZX ⟨sb,0,ZY⟩)] 265 (0,0))
def jG.value {D L G lost:Int} {rd:Bool} {ol:ZT} (h:jG w n D L G lost rd regs steps ne ol):w.cell? ⟨n,5,ZY⟩=ZX (Z7 Z9 regs)/\w.cell? ⟨n,6,ZY⟩=ZX steps:=by
 have a:w.heap[n]?=ZX (Z4 (mY D L G lost rd regs steps ne ol) 262 (0,0)):=h;simp [World.cell?,a,mY]
def ga (b:fG w sb room):w.cell? ⟨sb+1+1,0,ZY⟩=ZX (Z7 Z9 room)/\w.cell? ⟨sb+1+1,1,ZY⟩=ZX (.map (ZX (sb+1)))/\w.cell? ⟨sb+1+1,2,ZY⟩=ZX (Z6 (ZX ⟨sb,0,ZY⟩)):=by
 have a:w.heap[sb+1+1]?=_:=b;simp [World.cell?,a]
def aa.putObj (w:ZU) (m:Nat) (o:Obj) (h:S m):aa S w (w.putObj m o):=⟨rfl,rfl,rfl,by simp [World.putObj],λk _ a=>World.putObj_heap_other (λe=>a (e▸h))⟩
section
def lz (D:List (List Nat)) (R:List (List Nat)) (P:List St):List (List Nat):=P.foldl (λR s=>dE D s R) R
def tG (D R:List (List Nat)):lz D R []=R:=rfl
def G1 (D R:List (List Nat)) (s:St) (P:List St):lz D R (s::P)=lz D (dE D s R) P:=rfl
def lT (D R:List (List Nat)) (P Q:List St):lz D R (P++Q)=lz D (lz D R P) Q:=by unfold lz;rw [YB]
def tH (P:List St) (D a:List (List Nat)):∀ k,k<=P.length->bR P D a k=lz D a (P.take k)
 | 0,_=>by simp [bR,lz]
 | k+1,h=>by
  have b:k<P.length:=by omega
  show dE D (bL P k) (bR P D a k)=_;rw [tH P D a k (by omega),dL P k b,Y4 b,lT];rfl
def tI (P:List St) (D a:List (List Nat)):∀ k,k<=P.length->(∀ i (h:i<P.length),i<k->P[i].k≠2)->dn P D a k=[]
 | 0,_,_=>rfl
 | k+1,h,hn=>by
  have b:k<P.length:=by omega
  show gZ (bL P k) _ _=[];rw [tI P D a k (by omega) (λi hi c=>hn i hi (by omega)),dL P k b];unfold gZ;rw [if_neg (hn k b (by omega))]
def Bo (D R:List (List Nat)) {s:St} (h:s.k=2):dE D s R=R:=by
 unfold dE;rw [if_neg (by omega),if_neg (by omega)]
theorem tJ (A Q:List St) (D c:List (List Nat)) (g:∀ s∈A,s.k≠2) (j:∀ s∈Q,s.k=2):∀ k,k<=Q.length ->
 bR (A++Q) D c (A.length+k)=lz D c A/\dn (A++Q) D c (A.length+k)=(Q.take k).map (λs=>(s.b,(lz D c A).getD s.a.toNat []))
 | 0,_=>by
  refine ⟨?_,?_⟩
  . rw [Nat.add_zero,tH _ _ _ _ (by simp)];simp
  . rw [Nat.add_zero,tI _ _ _ _ (by simp) (λi hi d=>by rw [List.getElem_append_left d];exact g _ (XK d))];simp
 | k+1,h=>by
  obtain ⟨e,n⟩:=tJ A Q D c g j k (by omega);have l:k<Q.length:=by omega
  have hi:A.length+k<(A++Q).length:=by simp;omega
  have m:bL (A++Q) (A.length+k)=Q[k]:=by rw [dL _ _ hi,List.getElem_append_right (by omega)];simp
  have f:=j _ (XK l);refine ⟨?_,?_⟩
  . show dE D (bL (A++Q) (A.length+k)) (bR (A++Q) D c (A.length+k))=_;rw [m,e,Bo D _ f]
  . show gZ (bL (A++Q) (A.length+k)) (bR (A++Q) D c (A.length+k)) (dn (A++Q) D c (A.length+k))=_;rw [m,e,n];unfold gZ;rw [if_pos f,Y4 l,X5];rfl
def xl (f:Nat->Nat) (K:List Nat):Nat:=K.foldr (λi a=>f i^^^a) 0
def KH (f:Nat->Nat):xl f []=0:=rfl
def zn (f:Nat->Nat) (i:Nat) (K:List Nat):xl f (i::K)=f i^^^xl f K:=rfl
theorem Bp (f:Nat->Nat) (p:Nat->Bool):∀ n,xl f ((XG n).filter p)=xs (λi=>if p i=ZW then f i else 0) n
 | 0=>rfl
 | n+1=>by
  have b:∀ A B:List Nat,xl f (A++B)=xl f A^^^xl f B:=by
   intro A B;induction A with
   | nil=>rw [XU,KH,Nat.zero_xor]
   | cons a A ih=>rw [XS,zn,zn,ih,Nat.xor_assoc]
  rw [Yt,YC,b,Bp f p n];show _=xs _ n^^^(if p n=ZW then f n else 0);congr 1;by_cases h:p n=ZW
  . rw [if_pos h];simp [h,xl]
  . rw [if_neg h];simp [h,xl]
structure Rg (R:List (List Nat)) (T m:Nat) (v:Nat->Nat->Nat):Prop where
 len:R.length=1+T
 row:∀ r,r<T->R.getD (1+r) []=(XG m).map (v r)
def pf {R:List (List Nat)} {a:Nat} {x:List Nat} (c:a<R.length):(R.set a x).getD b []=if a=b then x else R.getD b []:=by
 rw [X1,YY];by_cases e:a=b
 . subst e;simp [c]
 . simp [e]
theorem D3 (m:Nat) (v:Nat->Nat) (y:List Nat) (c:Nat):iL ((XG m).map v) y c=(XG m).map (λq=>v q^^^gm c (y.getD q 0)):=by
 unfold iL;rw [XL,X3];apply XW;intro q a;have:=XT.1 a;simp [this]
theorem Bq (B:Ck) (D:List (List Nat)) (i T m:Nat) (y:List Nat) (v:Nat->Nat->Nat) {R:List (List Nat)} (h:Rg R T m v) (l:R.getD 0 []=y):∀ k,k<=T ->
 (lz D R (gy B i k)).getD 0 []=y/\Rg (lz D R (gy B i k)) T m (λr q=>if r<k then v r q^^^gm (B.m r i) (y.getD q 0) else v r q)
 | 0,_=>by rw [tE,tG];exact ⟨l,h.len,λr d=>by rw [h.row r d];simp⟩
 | k+1,hk=>by
  obtain ⟨f,a⟩:=Bq B D i T m y v h l k (by omega);by_cases g:B.m k i=0
  . rw [wT B i k g];refine ⟨f,a.len,λr d=>?_⟩;rw [a.row r d];apply XW;intro q _;by_cases c:r<k
    . rw [if_pos c,if_pos (by omega)]
    . by_cases e:r=k
      . subst e;rw [if_neg c,if_pos (by omega),g,bC,Yw]
      . rw [if_neg c,if_neg (by omega)]
  . rw [Bi B i k g,lT];generalize h5:lz D R (gy B i k)=b at f a;have n:lz D b [⟨1,1+(k:Int),0,B.m k i⟩]=b.set (1+k) (iL (b.getD (1+k) []) (b.getD 0 []) (B.m k i)):=by
     show dE D ⟨1,1+(k:Int),0,B.m k i⟩ b=_;unfold dE;have e:(1+(k:Int)).toNat=1+k:=(by omega);simp only [e];rw [if_neg (by decide),if_pos trivial];rfl
    have j:1+k<b.length:=(by rw [a.len];omega);rw [n];refine ⟨by rw [pf j,if_neg (by omega)];exact f,by rw [Y5];exact a.len,λr d=>?_⟩;rw [pf j,f];by_cases e:r=k
    . subst e;rw [if_pos rfl,a.row r d,D3];apply XW;intro q _;rw [if_neg (by omega),if_pos (by omega)]
    . rw [if_neg (by omega),a.row r d];apply XW;intro q _;by_cases c:r<k
      . rw [if_pos c,if_pos (by omega)]
      . rw [if_neg c,if_neg (by omega)]
theorem M4 (B:Ck) (D:List (List Nat)) (i m:Nat) (v:Nat->Nat->Nat) {R:List (List Nat)} (a:Rg R B.told m v):Rg (lz D R (lQ B i)) B.told m (λr q=>v r q^^^gm (B.m r i) ((D.getD i []).getD q 0)):=by
 cases hr:cP B i
 . rw [lS hr,tG];refine ⟨a.len,λr h=>?_⟩;rw [a.row r h];apply XW;intro q _;rw [gX.1 hr r h,bC,Yw]
 . rw [iy hr,G1];have b:0<R.length:=(by rw [a.len];omega);have e:dE D ⟨0,0,(i:Int),0⟩ R=R.set 0 (D.getD i []):=by
    unfold dE;rw [if_pos rfl];rfl
   rw [e];have d:Rg (R.set 0 (D.getD i [])) B.told m v:=⟨by rw [Y5];exact a.len,λr h=>by rw [pf b,if_neg (by omega)];exact a.row r h⟩;obtain ⟨_,c⟩:=Bq B D i B.told m (D.getD i []) v d (by rw [pf b,if_pos rfl]) B.told lR;refine ⟨c.len,λr h=>?_⟩;rw [c.row r h];apply XW;intro q _;rw [if_pos h]
theorem KI (B:Ck) (D:List (List Nat)) (m:Nat):∀ (K:List Nat) (v:Nat->Nat->Nat) (R:List (List Nat)),Rg R B.told m v->Rg (lz D R (wrTo B K)) B.told m (λr q=>v r q^^^xl (λi=>gm (B.m r i) ((D.getD i []).getD q 0)) K)
 | [],v,R,h=>by
  rw [show wrTo B []=[] from rfl,tG];exact ⟨h.len,λr a=>by rw [h.row r a];simp [KH]⟩
 | i::K,v,R,h=>by
  have e:wrTo B (i::K)=lQ B i++wrTo B K:=by unfold wrTo;simp
  rw [e,lT];have:=KI B D m K _ _ (M4 B D i m v h);refine ⟨this.len,λr a=>?_⟩;rw [this.row r a];apply XW;intro q _;rw [zn,Nat.xor_assoc]
def KJ (T m:Nat):Rg (eU (1+T) m) T m (λ_ _=>0):=by
 refine ⟨by simp [eU],λr a=>?_⟩;unfold eU;have:1+r<1+T:=by omega
 rw [X1,List.getElem?_replicate,if_pos this];simp [List.map_const']
def KK {P:List St} {D:List (List Nat)} (h:∀ s∈P,s.k=0->(D.getD s.b.toNat []).length=m):∀ k,k<=P.length->fl P D k=ZY\/fl P D k=ZX m
 | 0,_=>.inl rfl
 | k+1,hk=>by
  rcases KK h k (by omega) with e|e
  . by_cases a:(bL P k).k=0
    . rw [yP P D k e a];rw [dL P k (by omega)] at a ⊢;exact .inr (by rw [h _ (XK _) a])
    . rw [sW P D k a];exact .inl e
  . exact .inr (oH P D k m e)
def Br {P:List St} {D:List (List Nat)} (h:∀ s∈P,s.k=0->(D.getD s.b.toNat []).length=m) {k:Nat} (a:k<P.length) (c:P[k].k=0):fl P D (k+1)=ZX m:=by
 rcases KK h k (by omega) with e|e
 . rw [yP P D k e (by rw [dL P k a];exact c),dL P k a,h _ (XK a) c]
 . exact oH P D k m e
def IQ (S:List (List Nat)) (lost:Nat):List (List Nat):=(XG S.length).map (λi=>if lost.testBit i=ZW then [] else S.getD i [])
def zo (S:List (List Nat)) (lost i:Nat) (hi:i<S.length):(IQ S lost).getD i []=if lost.testBit i=ZW then [] else S.getD i []:=by simp [IQ,hi]
def KL (row:List Nat) (Dt:List (List Nat)) (q:Nat):∀ t,MF row Dt t q=xs (λj=>gm (row.getD j 0) ((Dt.getD j []).getD q 0)) t
 | 0=>rfl
 | t+1=>by
  show MF row Dt t q^^^gm (row.getD t 0) ((Dt.getD t []).getD q 0)=xs (λj=>gm (row.getD j 0) ((Dt.getD j []).getD q 0)) t^^^gm (row.getD t 0) ((Dt.getD t []).getD q 0);rw [KL row Dt q t]
def Pm (hi:i<M.length) (j:Nat):mf M i j=(M[i]).getD j 0:=by unfold mf;simp [hi]
theorem zq (M Dt:List (List Nat)) (m i:Nat) (hi:i<M.length):(dF M Dt m).getD i []=(XG m).map (λq=>xs (λj=>gm (mf M i j) ((Dt.getD j []).getD q 0)) Dt.length):=by
 have e:(dF M Dt m).getD i []=cQ M[i] Dt m Dt.length:=by simp [dF,hi]
 rw [e];unfold cQ;apply XW;intro q _;rw [KL];exact dJ _ (λj _=>by rw [Pm hi])
def zt (M Dt:List (List Nat)) (m:Nat):(dF M Dt m).length=M.length:=by simp [dF]
def ph:oG lost i↔lost.testBit i=ZW:=by
 unfold oG;rw [Y3];simp
section
variable {D L G lost m:Nat} {C:Ck} {Dt:List (List Nat)}
def lU (c:D+L+G<=16) {s:St} (d:s∈bG D L G lost C) (a:s.k=0):∃ i:Nat,s.b=(i:Int)/\i<D+L+G/\lost.testBit i=ZV:=by
 rcases DY d with ⟨i,hi,rfl⟩|⟨_,_,_,_,rfl⟩|⟨_,_,rfl⟩
 . exact ⟨i,rfl,(pd c).1 hi⟩
 . exact absurd a (Nat.one_ne_zero)
 . exact absurd a (Nat.succ_ne_zero 1)
def zu (c:D+L+G<=16):∀ s∈bG D L G lost C,s.k=0->((IQ (dF (aO D L G) Dt m) lost).getD s.b.toNat []).length=m:=by
 intro s f a;obtain ⟨i,d,hi,e⟩:=lU c f a;have g:(dF (aO D L G) Dt m).length=D+L+G:=by rw [zt,dj]
 rw [d,Y6,zo _ _ _ (by omega),if_neg (by rw [e];decide),zq _ _ _ _ (by rw [dj];exact hi)];simp
def M5 (b:D+L+G<=16) (h:m<=4096):gx (bG D L G lost C) (IQ (dF (aO D L G) Dt m) lost) lost:=by
 intro i hi a;rw [dL _ _ hi] at a ⊢;have d:=zu (m:=m) (Dt:=Dt) b _ (XK hi) a;obtain ⟨j,e,g,f⟩:=lU b (XK hi) a;refine ⟨λc=>?_,by rw [d];exact Br (zu b) hi a,by omega⟩;rw [e,Y6] at c;have:=ph.1 c;rw [f] at this;cases this
theorem D4 (b:D+L+G<=16) (a:0<iF (ab (bz (D+L+G) lost)) (aT 8 C (bz (D+L+G) lost)).1):eu (bG D L G lost C) (IQ (dF (aO D L G) Dt m) lost)=m:=by
 unfold iF at a;obtain ⟨i,hi⟩:=List.exists_mem_of_length_pos a;obtain ⟨c,d⟩:=XM.1 hi;have h:(⟨0,0,(i:Int),0⟩:St)∈bG D L G lost C:=by
  unfold bG fO wrTo;refine Y7 _ (YF.2 ⟨lQ _ i,XN.2 ⟨i,c,rfl⟩,?_⟩);rw [iy d];exact XX
 obtain ⟨k,g,e⟩:=YI h;have f:=Br (zu (m:=m) (Dt:=Dt) b) g (by rw [e]);have:=E7 _ _ _ _ f (bG D L G lost C).length (by omega);unfold eu;rw [this];rfl
theorem M6 (v:D<=12) (w:G<=4) (b:D+L+G<=16) (H:tells (fw D L G) (ab (av (D+L+G) lost))=ZX C) (o:Dt.length=D) (U:∀ l∈Dt,∀ x∈l,x<256) :
 ∃ O,dn (bG D L G lost C) (IQ (dF (aO D L G) Dt m) lost) (eU (1+(ab (av (D+L+G) lost)).length) (eu (bG D L G lost C) (IQ (dF (aO D L G) Dt m) lost))) (bG D L G lost C).length=O /\
  O.length=(ab (av (D+L+G) lost)).length/\∀ k (R:k<O.length) (c:k<(ab (av (D+L+G) lost)).length),O[k].1=(((ab (av (D+L+G) lost))[k]:Nat):Int)/\(0<iF (ab (bz (D+L+G) lost)) (aT 8 C (bz (D+L+G) lost)).1->O[k].2=(dF (aO D L G) Dt m).getD (ab (av (D+L+G) lost))[k] []):=by
 obtain ⟨n,_⟩:=pe v w H;have J:=iQ D L G v w;have e:D+(L+G)=D+L+G:=by omega
 have I:(bG D L G lost C).length=(wrTo (aT 8 C (bz (D+L+G) lost)).1 (ab (bz (D+L+G) lost))).length+(fF (ab (av (D+L+G) lost))).length:=by unfold bG fO;rw [XO]
 have M:(fF (ab (av (D+L+G) lost))).length=(ab (av (D+L+G) lost)).length:=by unfold fF;simp
 have Q:=λy=>tJ (wrTo (aT 8 C (bz (D+L+G) lost)).1 (ab (bz (D+L+G) lost))) (fF (ab (av (D+L+G) lost))) (IQ (dF (aO D L G) Dt m) lost) y (λs a=>by
  unfold wrTo at a;obtain ⟨l,S,a⟩:=YF.1 a;obtain ⟨i,hi,rfl⟩:=XN.1 S;cases hr:cP (aT 8 C (bz (D+L+G) lost)).1 i
  . rw [lS hr] at a;cases a
  . rw [iy hr] at a;rcases YG.1 a with rfl|a
    . exact (by decide:(0:Nat)≠2)
    . unfold gy at a;obtain ⟨r,_,rfl⟩:=XN.1 a;exact (by decide:(1:Nat)≠2)) (λs a=>by
  unfold fF at a;obtain ⟨k,_,rfl⟩:=XN.1 a;rfl) _ lR
 refine ⟨_,rfl,?_⟩;rw [I];have f:=(Q (eU (1+(ab (av (D+L+G) lost)).length) (eu (bG D L G lost C) (IQ (dF (aO D L G) Dt m) lost)))).2;rw [YX] at f;rw [show bG D L G lost C=wrTo (aT 8 C (bz (D+L+G) lost)).1 (ab (bz (D+L+G) lost))++fF (ab (av (D+L+G) lost)) from rfl] at f ⊢;rw [f];refine ⟨by simp [M],λk R c=>?_⟩;have W:k<(fF (ab (av (D+L+G) lost))).length:=by omega
 have F:(fF (ab (av (D+L+G) lost)))[k]=⟨2,(k:Int)+1,(((ab (av (D+L+G) lost))[k]:Nat):Int),0⟩:=by
  simp [fF,c]
 rw [List.getElem_map,F];refine ⟨rfl,λB=>?_⟩;have u:=D4 (m:=m) (Dt:=Dt) b B;rw [show bG D L G lost C=wrTo (aT 8 C (bz (D+L+G) lost)).1 (ab (bz (D+L+G) lost))++fF (ab (av (D+L+G) lost)) from rfl] at u;rw [u];have P:=KI (aT 8 C (bz (D+L+G) lost)).1 (IQ (dF (aO D L G) Dt m) lost) m (ab (bz (D+L+G) lost)) (λ_ _=>0) (eU (1+(ab (av (D+L+G) lost)).length) m) (by rw [n.told];exact KJ _ _);have E:=P.row k (by rw [n.told];exact c);have A:((k:Int)+1).toNat=1+k:=by omega
 show (lz _ _ _).getD ((k:Int)+1).toNat []=_;rw [A,E,zq _ _ _ _ (by rw [dj];exact ((cM b).1 (XK c)).1)];apply XW;intro q T;have N:=XT.1 T;have t:=n.sum J (λi hi=>by rw [e];exact ((cM b).1 hi).1) (λj=>(Dt.getD j []).getD q 0) (λj=>by
  show (Dt.getD j []).getD q 0<256;by_cases g:j<Dt.length
  . have z:Dt.getD j []=Dt[j]:=(by simp [g]);rw [z];exact eG (U _ (XK g)) q
  . simp [g]) k c
 rw [e] at t;rw [o,<- t,Nat.zero_xor];rw [show ab (bz (D+L+G) lost)=(XG 16).filter (λi=>(bz (D+L+G) lost).testBit i) from rfl,Bp];obtain ⟨d,K⟩:=Nat.exists_eq_add_of_le b;rw [K,yI];have V:xs (λi=>if (bz (D+L+G) lost).testBit (D+L+G+i)=ZW then gm ((aT 8 C (bz (D+L+G) lost)).1.m k (D+L+G+i)) (((IQ (dF (aO D L G) Dt m) lost).getD (D+L+G+i) []).getD q 0) else 0) d=0:=dg d (λi _=>by
  rw [if_neg];rw [j0 _ _ b,show decide (D+L+G+i<D+L+G)=ZV from decide_eq_false (by omega)];simp)
 rw [V,Yw];apply dJ;intro i hi;have X:(dF (aO D L G) Dt m).length=D+L+G:=by rw [zt,dj]
 rw [j0 _ _ b];have p:i∈ab (av (D+L+G) lost)↔lost.testBit i=ZW:=by
  rw [cM b];exact ⟨λh=>h.2,λh=>⟨hi,h⟩⟩
 cases hb:lost.testBit i
 . rw [if_pos (show (decide (i<D+L+G) && !false)=ZW by simp [hi]),if_neg (λh=>by rw [p,hb] at h;cases h),zo _ _ _ (by omega),if_neg (by rw [hb];decide),zq _ _ _ _ (by rw [dj];exact hi),o];congr 1;simp [N]
 . rw [if_neg (show ¬ (decide (i<D+L+G) && !true)=ZW by simp),if_pos (p.2 hb)]
end
theorem KM (d:D<=12) (e:G<=4) (b:D+L+G<=16) (c:tells (fw D L G) (ab (av (D+L+G) lost))=ZX C):∀ s∈bG D L G lost C,yN s:=by
 intro s h;have a:=(pe d e c).1;have k:=a.le;have l:=a.T2;rcases DY h with ⟨i,hi,rfl⟩|⟨i,_,r,n,rfl⟩|⟨j,g,rfl⟩
 . have:=((pd b).1 hi).1;exact ⟨by show 0<256;decide,by show -9223372036854775808<=(0:Int);omega,by show (0:Int)<=9223372036854775807;omega,by show -9223372036854775808<=(i:Int);omega,by show (i:Int)<=9223372036854775807;omega,by show 0<256;decide⟩
 . exact ⟨by show 1<256;decide,by show -9223372036854775808<=(1:Int)+(r:Int);omega,by show (1:Int)+(r:Int)<=9223372036854775807;omega,by show -9223372036854775808<=(0:Int);omega,by show (0:Int)<=9223372036854775807;omega,a.byt r i⟩
 . have m:(ab (av (D+L+G) lost)).length<=16:=XJ (X9 _ _) (by simp);have f:=((cM b).1 (XK g)).1;generalize (ab (av (D+L+G) lost))[j]=y at f;exact ⟨by show 2<256;decide,by show -9223372036854775808<=(j:Int)+1;omega,by show (j:Int)+1<=9223372036854775807;omega,by show -9223372036854775808<=(y:Int);omega,by show (y:Int)<=9223372036854775807;omega,by show 0<256;decide⟩
def Pn (d:D<=12) (h:L<=4) (e:G<=4) (b:D+L+G<=16) (c:tells (fw D L G) (ab (av (D+L+G) lost))=ZX C):iK (1+((ab (av (D+L+G) lost)).length:Int)) (bG D L G lost C) ((D+L+G:Nat):Int):=by
 have a:=(pe d e c).1;have f:=a.le;have g:=a.T2;exact QR a.told (by omega) (λi hi=>((pd b).1 hi).1) (λi hi=>((cM b).1 hi).1)
end
def Fl (s:Nat) (f:Nat->Bool):((ab s).filter f).length=cp (λi=>s.testBit i&&f i) 16:=by
 unfold ab;rw [List.filter_filter,wA];exact sQ 16 (λi _=>by rw [Bool.and_comm])
def Tu {g:Nat} (a:g<L) (j:Nat) (b:j<D):mf (aO D L G) (D+g) j=if g*(D/L)<=j/\j<(g+1)*(D/L) then 1 else 0:=by
 unfold mf aO;have e:((XG D).map (dK D)++(XG L).map (fa D L)++(XG G).map (cF D)).getD (D+g) []=fa D L g:=by
  rw [Ys,X1,Yr (by simp)];simp only [XL,X3,Y8];rw [Yh (by simpa using a)];simp [a]
 rw [e];unfold fa;simp [b]
def Tv (hi:i<G) (j:Nat) (a:j<D):mf (aO D L G) (D+L+i) j=gi ((D+i)^^^j):=by
 unfold mf aO;have e:((XG D).map (dK D)++(XG L).map (fa D L)++(XG G).map (cF D)).getD (D+L+i) []=cF D i:=by
  rw [X1,Yr (by simp)];simp only [XO,XL,X3,Y8];simp [hi]
 rw [e];unfold cF;simp [a]
theorem Po (n:1<=D) (o:D<=12) (p:G<=4) (k:D%L=0) (q:d<D+L+G):∃ j,j<D/\mf (aO D L G) d j≠0:=by
 by_cases a:d<D
 . refine ⟨d,a,?_⟩;unfold mf;rw [Fj D L G d a];unfold dK;simp [a]
 . by_cases m:d<D+L
   . obtain ⟨g,rfl⟩:∃ g,d=D+g:=⟨d-D,by omega⟩;have h:g<L:=(by omega);have c:D/L*L=D:=Nat.div_mul_cancel (Nat.dvd_of_mod_eq_zero k);have l:0<D/L:=Y9 λe=>by rw [e] at c;omega
     have f:g*(D/L)<D:=by
      have b:=Nat.mul_lt_mul_of_pos_right h l;rw [Nat.mul_comm L,c] at b;exact b
     refine ⟨g*(D/L),f,?_⟩;rw [Tu h _ f,if_pos ⟨XH _,by rw [Nat.add_mul];omega⟩];decide
   . obtain ⟨i,rfl⟩:∃ i,d=D+L+i:=⟨d-(D+L),by omega⟩;have hi:i<G:=(by omega);refine ⟨0,by omega,?_⟩;rw [Tv hi 0 (by omega),Yw];exact I3 (by omega) (by omega)
theorem M7 (v:1<=D) (c:D<=12) (g:G<=4) (u:D%L=0) (a:D+L+G<=16) (A:tells (fw D L G) (ab (av (D+L+G) lost))=ZX C) (o:d<D+L+G) (E:lost.testBit d=ZW):0<iF (ab (bz (D+L+G) lost)) (aT 8 C (bz (D+L+G) lost)).1:=by
 apply Y9;intro l;obtain ⟨s,_⟩:=pe c g A;have n:=iQ D L G c g;have e:D+(L+G)=D+L+G:=by omega
 obtain ⟨k,p,x⟩:=YI ((cM a).2 ⟨o,E⟩);obtain ⟨j,B,y⟩:=Po v c g u o;have z:∀ i,i∈ab (bz (D+L+G) lost)->cP (aT 8 C (bz (D+L+G) lost)).1 i=ZV:=λi hi=>by
  cases hr:cP (aT 8 C (bz (D+L+G) lost)).1 i
  . rfl
  . unfold iF at l;have:=YW l;have r:i∈(ab (bz (D+L+G) lost)).filter (cP (aT 8 C (bz (D+L+G) lost)).1):=XM.2 ⟨hi,hr⟩;rw [this] at r;cases r
 have b:=s.sum n (λi hi=>by rw [e];exact ((cM a).1 hi).1) (λq=>if q=j then 1 else 0) (λq=>by show (if q=j then 1 else 0)<256;split<;>decide) k p;rw [e,x] at b;have H:=dg (f:=λi=>if i∈ab (av (D+L+G) lost) then 0 else gm ((aT 8 C (bz (D+L+G) lost)).1.m k i) (xs (λq=>gm (mf (aO D L G) i q) (if q=j then 1 else 0)) D)) (D+L+G) (λi hi=>by
  by_cases h:i∈ab (av (D+L+G) lost)
  . rw [if_pos h]
  . have w:lost.testBit i=ZV:=by
     cases hb:lost.testBit i
     . rfl
     . exact absurd ((cM a).2 ⟨hi,hb⟩) h
    have:=gX.1 (z i ((pd a).2 ⟨hi,w⟩)) k (by rw [s.told];exact p);rw [if_neg h,this,bC])
 rw [H] at b;have t:=eZ (f:=λq=>gm (mf (aO D L G) d q) (if q=j then 1 else 0)) (k:=j) D B (λq _ F=>by rw [if_neg F,bm]);rw [t,if_pos rfl,cD _ (n.byt d j)] at b;exact y b.symm
theorem Fm (D L G:Int) {lost x:Int} (h:lost≠x) (w:ZU):(Op.equal 228 (bP D L G lost ZW) (bP D L G x ZW)).run ZP w=.ok ZV w:=by
 have a:(lost==x)=ZV:=by simp [h]
 unfold bP Op.equal Op.maxDepth;go_simp
def dN (D L G:Int) (es:List (Nat×Nat×Nat)):List MapEntry:=es.map λe=>{ key:=bP D L G (e.1:Nat) ZW,val:=Z6 (ZX ⟨e.2.1,0,ZY⟩),born:=e.2.2 }
def cV (es:List (Nat×Nat×Nat)):List Nat:=es.map (·.1)
def Bt (D L G:Int) (lost:Nat) (w:ZU):∀ (es:List (Nat×Nat×Nat)) (i:Nat),lost∉cV es->(Instr.findAsking 228 (bP D L G lost ZW) (dN D L G es) i).run ZP w=.ok ZY w
 | [],_,_=>by simp [dN,Instr.findAsking]
 | e::es,i,h=>by
  have c:((lost:Nat):Int)≠((e.1:Nat):Int):=λq=>by
   have b:lost=e.1:=(by omega);subst b;exact h (XX ..)
  have a:=Bt D L G lost w es (i+1) (λq=>h (XQ _ q));have d:=Fm D L G c w;unfold dN at a ⊢;simp only [X8,Instr.findAsking,Sem.run_bind,d,Result.andThen_ok];simpa using a
theorem KR (D L G:Int) (w:ZU):∀ (es:List (Nat×Nat×Nat)) (i k:Nat) (a:k<es.length),(cV es).Nodup->(Instr.findAsking 228 (bP D L G (es[k].1:Nat) ZW) (dN D L G es) i).run ZP w=.ok (ZX (i+k,Z6 (ZX ⟨es[k].2.1,0,ZY⟩))) w
 | [],_,_,a,_=>absurd a (by simp)
 | e::es,i,0,_,_=>by
  have b:=M8 D L G (e.1:Nat) ZW w;unfold dN;simp only [X8,Instr.findAsking,Sem.run_bind,List.getElem_cons_zero,b,Result.andThen_ok];simp
 | e::es,i,k+1,a,f=>by
  have c:k<es.length:=by simpa using a
  have g:((es[k].1:Nat):Int)≠((e.1:Nat):Int):=λq=>by
   have h:es[k].1=e.1:=(by omega);exact (XR.1 f).1 (XN.2 ⟨es[k],XK c,h⟩)
  have d:=KR D L G w es (i+1) k c (XR.1 f).2;have b:=Fm D L G g w;unfold dN at d ⊢;simp only [X8,Instr.findAsking,Sem.run_bind,List.getElem_cons_succ,b,Result.andThen_ok];rw [show i+(k+1)=i+1+k by omega];simpa using d
def Bu (k:ZT) (x:MapEntry) (es:List MapEntry) (f:Array Field) (i:Nat):Instr.findNow (.struct f) k (x::es) i=ZY:=by
 simp [Instr.findNow,Instr.sameNow]
def wW (D L G:Int) {lost:Nat} {es:List (Nat×Nat×Nat)} (h:lost∉cV es) (w:ZU):(Instr.findKey 228 (bP D L G lost ZW) (dN D L G es)).run ZP w=.ok ZY w:=by
 have a:=Bt D L G lost w es 0 h;cases es with
 | nil=>simp [dN,Instr.findKey,Instr.findNow,run_underlying underlying228]
 | cons e es=>
  unfold dN at a ⊢;simp only [X8] at a ⊢;simp only [Instr.findKey,Sem.run_bind,run_underlying underlying228,Result.andThen_ok,Bu];exact a
def Fo (D L G:Int) {es:List (Nat×Nat×Nat)} {k:Nat} (b:k<es.length) (c:(cV es).Nodup) (w:ZU):(Instr.findKey 228 (bP D L G (es[k].1:Nat) ZW) (dN D L G es)).run ZP w=.ok (ZX (k,Z6 (ZX ⟨es[k].2.1,0,ZY⟩))) w:=by
 have a:=KR D L G w es 0 k b c;rw [Nat.zero_add] at a;cases es with
 | nil=>exact absurd b (by simp)
 | cons e es=>
  unfold dN at a ⊢;simp only [X8] at a ⊢;simp only [Instr.findKey,Sem.run_bind,run_underlying underlying228,Result.andThen_ok,Bu];exact a
def KS {D L G:Int} (h:w.heap[m]?=ZX (.map (dN D L G es).toArray n)) {lost:Nat} (d:lost∉cV es):(Instr.lookup 263 (.map (ZX m)) (bP D L G lost ZW) ZW).run ZP w=.ok (Z0 #[.pointer ZY,Z2 ZV]) w:=by
 have a:=tK h;have b:=λe=>pj e D L G (lost:Nat) ZW w;have c:=wW D L G d w;simp [Instr.lookup,run_underlying underlying263,a,b,c]
def M9 {D L G:Int} (h:w.heap[m]?=ZX (.map (dN D L G es).toArray n)) {k:Nat} (d:k<es.length) (f:(cV es).Nodup):(Instr.lookup 263 (.map (ZX m)) (bP D L G (es[k].1:Nat) ZW) ZW).run ZP w=.ok (Z0 #[Z6 (ZX ⟨es[k].2.1,0,ZY⟩),Z2 ZW]) w:=by
 have a:=tK h;have b:=λe=>pj e D L G (es[k].1:Nat) ZW w;have c:=Fo D L G d f w;simp [Instr.lookup,run_underlying underlying263,a,b,c]
def Na {D L G:Int} (h:w.heap[m]?=ZX (.map (dN D L G es).toArray n)) {lost:Nat} (e:lost∉cV es) (nb:Nat):(Instr.mapUpdate 263 (.map (ZX m)) (bP D L G lost ZW) (Z6 (ZX ⟨nb,0,ZY⟩))).run ZP w=.ok () (w.putObj m (.map (dN D L G (es++[(lost,nb,n)])).toArray (n+1))):=by
 have a:=tK h;have b:=pj ZV D L G (lost:Nat) ZW w;have c:=wW D L G e w;have d:(dN D L G es).toArray.push { key:=bP D L G (lost:Nat) ZW,val:=Z6 (ZX ⟨nb,0,ZY⟩),born:=n }=(dN D L G (es++[(lost,nb,n)])).toArray:=by simp [dN]
 simp [Instr.mapUpdate,run_underlying underlying263,a,b,c,KQ h,d]
def wX (D L G:Int):∀ (es:List (Nat×Nat×Nat)) (k:Nat),(dN D L G es).eraseIdx k=dN D L G (es.eraseIdx k)
 | [],_=>rfl
 | _::_,0=>rfl
 | e::es,k+1=>by
  have h:=wX D L G es k;unfold dN at h ⊢;simp only [X8,List.eraseIdx_cons_succ,h]
def Pt {D L G:Int} (h:w.heap[m]?=ZX (.map (dN D L G es).toArray n)) {k:Nat} (d:k<es.length) (f:(cV es).Nodup) (t:TypeId):(Builtin.delete_ #[263,228] t #[.map (ZX m),bP D L G (es[k].1:Nat) ZW]).run ZP w=.ok (Z0 #[]) (w.putObj m (.map (dN D L G (es.eraseIdx k)).toArray n)):=by
 have a:=tK h;have b:=λe=>pj e D L G (es[k].1:Nat) ZW w;have c:=Fo D L G d f w;simp [Builtin.delete_,run_underlying underlying263,a,b,c,KQ h,wX]
def Nb {D L G:Int} (h:w.heap[m]?=ZX (.map (dN D L G es).toArray n)) (t:TypeId):(Builtin.len_ #[263] t #[.map (ZX m)]).run ZP w=.ok (Z7 Z9 (es.length:Nat)) w:=by
 have a:=tK h;simp [Builtin.len_,run_underlying underlying263,a,dN,goInt]
structure Fp where
 D:Int
 L:Int
 G:Int
 lost:Int
 rd:Bool
 regs:Int
 steps:ZT
def pN (w:ZU) (S:Nat->Prop) (cn:Nat->Fp) (nw ol:Nat->Nat):Prop:=∀ a,S a->jG w a (cn a).D (cn a).L (cn a).G (cn a).lost (cn a).rd (cn a).regs (cn a).steps (Z6 (ZX ⟨nw a,0,ZY⟩)) (Z6 (ZX ⟨ol a,0,ZY⟩))
def il (f:Nat->Nat) (a x:Nat):Nat->Nat:=λb=>if b=a then x else f b
def eC (f:Nat->Nat) (a x:Nat):il f a x a=x:=if_pos rfl
def eO {f:Nat->Nat} {a:Nat} (x:Nat) (h:b≠a):il f a x b=f b:=if_neg h
def pN.UL {cn:Nat->Fp} (h:pN w S cn nw ol) (a x:Nat):pN (w.setCell ⟨a,7,ZY⟩ (Z6 (ZX ⟨x,0,ZY⟩))) S cn (il nw a x) ol:=λb c=>by
 by_cases e:b=a
 . subst e;rw [eC];exact (h b c).UL _
 . rw [eO x e];exact (h b c).keep (blk_setCell_other _ _ _ _ e)
def pN.UA {cn:Nat->Fp} (h:pN w S cn nw ol) (a x:Nat):pN (w.setCell ⟨a,8,ZY⟩ (Z6 (ZX ⟨x,0,ZY⟩))) S cn nw (il ol a x):=λb c=>by
 by_cases e:b=a
 . subst e;rw [eC];exact (h b c).UA _
 . rw [eO x e];exact (h b c).keep (blk_setCell_other _ _ _ _ e)
def pN.keep {T:Nat->Prop} {cn:Nat->Fp} (h:pN w S cn nw ol) (d:aa T w w') (e:∀ a,S a->¬ T a):pN w' S cn nw ol:=λb c=>(h b c).keep (d.block b (h b c).lt (e b c))
theorem ry {cn:Nat->Fp} (h:pN w S cn nw ol) {n:Nat} (c:S n) (a:S (nw n)) (b:S (ol n)) :
 ZR ZP 185 #[Z6 (ZX ⟨n,0,ZY⟩)] w λe w'=>e=Z3 (Z0 #[])/\pN w' S cn (il nw (ol n) (nw n)) (il ol (nw n) (ol n))/\aa S w w':=by
 obtain ⟨d,f,_,_⟩:=(h n c).cells;obtain ⟨_,g,_,j⟩:=(h _ a).cells;obtain ⟨i,_,k,_⟩:=((h.UA (nw n) (ol n)) _ b).cells;have H:=hide3 ((h.UA (nw n) (ol n)).UL (ol n) (nw n)) a b;clear h a b c;generalize nw n=x at *;generalize ol n=y at *;generalize ol x=z at *;generalize nw y=l at *;go_enter func185,ntmps185;go_region;go_end0
 exact ⟨rfl,H.out.1,((aa.setCell _ _ _ H.out.2.1).trans (aa.setCell _ _ _ H.out.2.2)).trans (aa.drew _)⟩
theorem zv {cn:Nat->Fp} (k:fG w sb room) (h:pN w S cn nw ol) {n:Nat} (a:S n) (c:S sb) (ho:S (ol sb)) :
 ZR ZP 186 #[Z6 (ZX ⟨sb+1+1,0,ZY⟩),Z6 (ZX ⟨n,0,ZY⟩)] w λe w'=>e=Z3 (Z0 #[])/\pN w' S cn (il (il nw n sb) (ol sb) n) (il (il ol n (ol sb)) sb n)/\aa S w w':=by
 have r:=(ga k).2.2;obtain ⟨l,_,m,_⟩:=(h n a).cells;obtain ⟨_,q,_,_⟩:=(h sb c).cells;have d:=h.UL n sb;obtain ⟨_,o,_,p⟩:=(d n a).cells;have i:=d.UA n (ol sb);obtain ⟨w2,g⟩:=nM (((w.setCell ⟨n,7,ZY⟩ (Z6 (ZX ⟨sb,0,ZY⟩))).setCell ⟨n,8,ZY⟩ (Z6 (ZX ⟨ol sb,0,ZY⟩))).drew);have b:pN w2 S cn (il nw n sb) (il ol n (ol sb)):=by rw [<- g];exact i
 have j:aa S w w2:=by rw [<- g];exact ((aa.setCell _ _ _ a).trans (aa.setCell _ _ _ a)).trans (aa.drew _)
 obtain ⟨s,t,_,_⟩:=(b n a).cells;rw [eC] at s t;have f:=b.UA sb n;obtain ⟨_,u,_,t8⟩:=(b sb c).cells;obtain ⟨v,_,x,_⟩:=(f (ol sb) ho).cells;have H:=hide4 (f.UL (ol sb) n) j c ho;clear h d i b f k a c ho j;generalize ol sb=y at *;generalize il ol n y sb=z at *;generalize il nw n sb y=A at *;generalize nw n=B at *;generalize ol n=C at *;go_enter func186,ntmps186;go_wp2;go_region;clear g l m q o p r;go_wp2;go_region;go_end0
 exact ⟨rfl,H.out.1,H.out.2.1.trans (((aa.setCell _ _ _ H.out.2.2.1).trans (aa.setCell _ _ _ H.out.2.2.2)).trans (aa.drew _))⟩
def uW (nw ol:Nat->Nat):Nat->List Nat->Nat->Prop
 | a,[],b=>ol a=b/\nw b=a
 | a,n::ns,b=>(ol a=n/\nw n=a)/\uW nw ol n ns b
theorem uW.congr {nw' ol':Nat->Nat}:∀ {ns:List Nat} {a b:Nat},uW nw ol a ns b->(∀ x∈a::ns,ol' x=ol x)->(∀ x∈ns++[b],nw' x=nw x)->uW nw' ol' a ns b
 | [],a,b,h,c,d=>⟨(c a (XX ..)).trans h.1,(d b (by simp)).trans h.2⟩
 | n::ns,a,b,h,c,d=>⟨⟨(c a (XX ..)).trans h.1.1,(d n (by simp)).trans h.1.2⟩,uW.congr h.2 (λx e=>c x (XQ _ e)) (λx e=>d x (by rw [XS];exact XQ _ e))⟩
def uW.T4 {a:Nat} (h:uW nw ol a ns b):ol a=b/\ns=[]\/ol a∈ns:=by
 cases ns with
 | nil=>exact .inl ⟨h.1,rfl⟩
 | cons n ns=>exact .inr (by rw [h.1.1];exact XX ..)
def uW.last:∀ {ns:List Nat} {a b:Nat},uW nw ol a ns b->(c:ns≠[])->nw b=ns.getLast c
 | [],_,_,_,c=>absurd rfl c
 | [_],_,_,h,_=>h.2.2
 | _::m::ns,_,_,h,_=>by rw [List.getLast_cons (by simp)];exact uW.last h.2 (by simp)
theorem uW.put (h:uW nw ol sb ns sb) (d:(sb::ns).Nodup) (c:n∉sb::ns):uW (il (il nw n sb) (ol sb) n) (il (il ol n (ol sb)) sb n) sb (n::ns) sb:=by
 have b:n≠sb:=λe=>c (e▸XX ..);have j:n≠ol sb:=λe=>by
  rcases h.T4 with q|q
  . exact b (e.trans q.1)
  . exact c (XQ _ (e▸q))
 refine ⟨⟨eC _ _ _,by rw [eO _ j,eC]⟩,?_⟩;cases ns with
 | nil=>exact ⟨by rw [eO _ b,eC];exact h.1,by rw [h.1,eC]⟩
 | cons m ms=>
  have f:=h.1.1;refine ⟨⟨by rw [eO _ b,eC];exact f,by rw [f,eC]⟩,h.2.congr (λx a=>?_) (λx a=>?_)⟩
  . have g:x≠sb:=λe=>(XR.1 d).1 (e▸a);have i:x≠n:=λe=>c (XQ _ (e▸a));rw [eO _ g,eO _ i]
  . have k:x≠m:=λe=>by
     subst e;rcases Yu.1 a with q|q
     . exact (XR.1 (XR.1 d).2).1 q
     . rw [YK] at q;subst q;exact (XR.1 d).1 (XX ..)
    have l:x≠n:=λe=>by
     subst e;rcases Yu.1 a with q|q
     . exact c (XQ _ (XQ _ q))
     . rw [YK] at q;exact b q
    rw [f,eO _ k,eO _ l]
theorem uW.take {r:List Nat}:∀ {l:List Nat} {a b:Nat},uW nw ol a (l++n::r) b->(a::(l++n::r)).Nodup->b∉l++n::r->uW (il nw (ol n) (nw n)) (il ol (nw n) (ol n)) a (l++r) b/\nw n∈a::l/\(ol n∈r\/ol n=b)
 | [],a,b,h,j,i=>by
  have d:(ol a=n/\nw n=a)/\uW nw ol n r b:=h;obtain ⟨⟨_,t⟩,g⟩:=d;rw [t];refine ⟨?_,XX ..,g.T4.elim (λq=>.inr q.1) .inl⟩;cases r with
  | nil=>exact ⟨by rw [eC];exact g.1,by rw [g.1,eC]⟩
  | cons m rs=>
   have k:=g.1.1;have f:=(XR.1 (XR.1 j).2).2;refine ⟨⟨by rw [eC];exact k,by rw [k,eC]⟩,g.2.congr (λx o=>?_) (λx o=>?_)⟩
   . exact eO _ λe=>(XR.1 j).1 (by rw [<- e];exact XQ _ o)
   . rw [k];refine eO _ λe=>?_;subst e;rcases Yu.1 o with q|q
     . exact (XR.1 f).1 q
     . rw [YK] at q;subst q;exact i (by simp)
 | c::l,a,b,h,j,i=>by
  have d:(ol a=c/\nw c=a)/\uW nw ol c (l++n::r) b:=h;have f:=XR.1 j;obtain ⟨u,p,s⟩:=uW.take d.2 f.2 (λq=>i (XQ _ q));refine ⟨⟨⟨?_,?_⟩,u⟩,XQ _ p,s⟩
  . rw [eO _ λe=>f.1 (by
     rw [e];rcases YG.1 p with q|q
     . rw [q];exact XX ..
     . exact XQ _ (Y7 _ q))]
    exact d.1.1
  . rw [eO _ λe=>by
     rcases s with q|q
     . exact (XR.1 f.2).1 (by rw [e];exact List.mem_append_right _ (XQ _ q))
     . exact i (by rw [<- q,<- e];exact XX ..)]
    exact d.1.2
