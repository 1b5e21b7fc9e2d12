import Derived.Test.YthcgahldacpolaaGreatDoorM31
set_option maxRecDepth 100000
set_option maxHeartbeats 8000000
namespace Go.Proofs.YthcgahldacpolaaGreatDoor
open Go.RowKit
variable {a a':Act} {ops:Array Oper} {Q:Exit→Act→World→Prop} {F:Fence} {rest:List Oper} {l:List Value} {lo hi b n:Nat} {Dn:Nat→Bool} {m:Nat→Nat} {o:Oper} {w w1 w2 w':World}
section
open Go.Deep Gf
theorem pt_same (a:Act) (i:Nat) (v:Value) (h:i < a.tmps.size):(a.put (some i) v).eval (.tmp i)=v:=by simp [Act.put,Act.eval,h]
theorem pt_other (a:Act) (i j:Nat) (v:Value) (h:i≠j):(a.put (some i) v).eval (.tmp j)=a.eval (.tmp j):=by
 simp [Act.put,Act.eval,Array.getD_eq_getD_getElem?,h]
theorem pt_size (a:Act) (d:Option Nat) (v:Value):(a.put d v).tmps.size=a.tmps.size:=by
 cases d <;> simp [Act.put]
theorem pt_want (hg:o.guard=none):Region.wanted o (yielded ops a.tmps)=true:=by simp [Region.wanted,hg]
structure Kept (lo hi:Nat) (a a':Act):Prop where
 size:a'.tmps.size=a.tmps.size
 defers:a'.defers=a.defers
 slot:∀ s,s < lo∨hi≤s→a'.eval (.tmp s)=a.eval (.tmp s)
theorem Kept.refl (lo hi:Nat) (a:Act):Kept lo hi a a:=⟨rfl,rfl,fun _ _=>rfl⟩
theorem Kept.put (h:Kept lo hi a a') (d:Nat) (v:Value) (h1:lo≤d) (h2:d < hi):Kept lo hi a (a'.put (some d) v):=
 ⟨by rw [pt_size];exact h.size,h.defers,fun s hs=>by rw [pt_other _ _ _ _ (by omega)];exact h.slot s hs⟩
theorem Kept.none (h:Kept lo hi a a') (v:Value):Kept lo hi a (a'.put none v):=h
def BEx (w w1 w2:World) (Dn:Nat→Bool) (w':World):Prop:=w'=if Dn 25=true then (if Dn 29=true then w2 else w1) else w.drew
theorem BEx_upd (h:BEx w w1 w2 Dn w') (i:Nat) (h1:25≠i) (h2:29≠i):BEx w w1 w2 (upd Dn i) w':=by unfold BEx;rw [upd_ne h1,upd_ne h2];exact h
theorem BEx_same (h:BEx w w1 w2 Dn w') (hn:Dn 25=false):w'=w.drew:=by
 unfold BEx at h
 rwa [if_neg (by rw [hn];decide)] at h
def BFi (w w1:World) (Dn:Nat→Bool) (w':World):Prop:=w'=if Dn 14=true then w1 else w.drew
theorem BFi_upd (h:BFi w w1 Dn w') (i:Nat) (h1:14≠i):BFi w w1 (upd Dn i) w':=by unfold BFi;rw [upd_ne h1];exact h
theorem BFi_same (h:BFi w w1 Dn w') (hn:Dn 14=false):w'=w.drew:=by
 unfold BFi at h
 rwa [if_neg (by rw [hn];decide)] at h
theorem row_ld {o:Nat} (h:w.rangeAt b o (rowL m)):(Instr.loadAt 255 (.pointer (some ⟨b,o,none⟩))).run Tryz.prog w=.ok (.agg (rowL m).toArray) w:=run_loadAt_mid (P:=Tryz.prog) w b o 255 (rowL m) _ h Tryz.underlying255 rfl (by simpa using Tryz.sizeArr16 _)
theorem row_st {o:Nat} (h:w.there b o 16):(Instr.storeAt 255 (.pointer (some ⟨b,o,none⟩)) (.agg (rowL m).toArray)).run Tryz.prog w=.ok () (w.setCells b o (rowL m)):=run_storeAt_mid (P:=Tryz.prog) w b o 255 (rowL m).toArray (by simpa [rowL_len] using h) (by simpa using Tryz.sizeArr16 _) (rowL_one _)
noncomputable def RTl:Array Oper:=((Tryz.f145.body.bind (rgf · 4))).getD #[]
def shTl:List (Op×Option Nat×List Nat):=[(Op.move (.tmp 0),some 15,[]),
 (Op.move (.tmp 0),some 16,[]),
 (Op.nilCheck (.tmp 16),some 17,[1]),
 (Op.fieldAddr 273 (.tmp 17) 1,some 18,[2]),
 (Op.load 3 (.tmp 18),some 19,[3]),
 (Op.move (.tmp 0),some 20,[]),
 (Op.move (.tmp 5),some 21,[]),
 (Op.move (.tmp 0),some 22,[]),
 (Op.move (.tmp 5),some 23,[]),
 (Op.nilCheck (.tmp 22),some 24,[7]),
 (Op.fieldAddr 273 (.tmp 24) 0,some 25,[9]),
 (Op.indexAddr 271 (.tmp 25) (.tmp 23),some 26,[10,8]),
 (Op.load 255 (.tmp 26),some 27,[11]),
 (Op.move (.tmp 0),some 28,[]),
 (Op.move (.tmp 0),some 29,[]),
 (Op.nilCheck (.tmp 29),some 30,[14]),
 (Op.fieldAddr 273 (.tmp 30) 1,some 31,[15]),
 (Op.load 3 (.tmp 31),some 32,[16]),
 (Op.nilCheck (.tmp 28),some 33,[13]),
 (Op.fieldAddr 273 (.tmp 33) 0,some 34,[18]),
 (Op.indexAddr 271 (.tmp 34) (.tmp 32),some 35,[19,17]),
 (Op.load 255 (.tmp 35),some 36,[20]),
 (Op.nilCheck (.tmp 15),some 37,[0]),
 (Op.fieldAddr 273 (.tmp 37) 0,some 38,[22]),
 (Op.indexAddr 271 (.tmp 38) (.tmp 19),some 39,[23,4,0,1,2,3,4,7,8,9,10,11,12,17,21]),
 (Op.store 255 (.tmp 39) (.tmp 27),none,[24,12,0,1,2,3,4,7,8,9,10,11,12,17,21]),
 (Op.nilCheck (.tmp 20),some 40,[5]),
 (Op.fieldAddr 273 (.tmp 40) 0,some 41,[26]),
 (Op.indexAddr 271 (.tmp 41) (.tmp 21),some 42,[27,6,0,1,2,3,4,5,6,7,8,9,10,11,12,13,14,15,16,17,18,19,20,21,22,23,24,25]),
 (Op.store 255 (.tmp 42) (.tmp 36),none,[28,21,25,0,1,2,3,4,5,6,7,8,9,10,11,12,13,14,15,16,17,18,19,20,21,22,23,24,25])]
theorem RTl_shape:RegShape RTl 15 43 shTl:=regShape (by kernel_rfl) (by kernel_rfl)
def vsTl (b r t:Nat) (m:Nat→Nat→Nat):List Value:=[.pointer (some ⟨b,0,none⟩),.pointer (some ⟨b,0,none⟩),.pointer (some ⟨b,0,none⟩),.pointer (some ⟨b,128,none⟩),.int .i64 (t:Int),.pointer (some ⟨b,0,none⟩),.int .i64 (r:Int),.pointer (some ⟨b,0,none⟩),.int .i64 (r:Int),.pointer (some ⟨b,0,none⟩),.pointer (some ⟨b,0,none⟩),.pointer (some ⟨b,r*16,none⟩),.agg (rowL (m r)).toArray,.pointer (some ⟨b,0,none⟩),.pointer (some ⟨b,0,none⟩),.pointer (some ⟨b,0,none⟩),.pointer (some ⟨b,128,none⟩),.int .i64 (t:Int),.pointer (some ⟨b,0,none⟩),.pointer (some ⟨b,0,none⟩),.pointer (some ⟨b,t*16,none⟩),.agg (rowL (m t)).toArray,.pointer (some ⟨b,0,none⟩),.pointer (some ⟨b,0,none⟩),.pointer (some ⟨b,t*16,none⟩),undef,.pointer (some ⟨b,0,none⟩),.pointer (some ⟨b,0,none⟩),.pointer (some ⟨b,r*16,none⟩),undef]
theorem ck_exchange (b r t:Nat) (m:Nat→Nat→Nat) (hr:r < 8) (ht:t < 8) (c128:w.drew.cell? ⟨b,128,none⟩=some (.int .i64 (t:Int)))
 (gr:w.drew.rangeAt b (r*16) (rowL (m r))) (gt:w.drew.rangeAt b (t*16) (rowL (m t))) (tr:w.drew.there b (r*16) 16) (tt:w.drew.there b (t*16) 16) (h6:RTl=ops) (hj:a.tmps.size=64)
 (e0:a.eval (.tmp 0)=.pointer (some ⟨b,0,none⟩)) (e5:a.eval (.tmp 5)=.int .i64 (r:Int))
 (hQ:∀ a',Kept 15 43 a a'→Q .normal a' ((w.drew.setCells b (t*16) (rowL (m r))).setCells b (r*16) (rowL (m t)))):(Code.region 4 ops true).wp Tryz.prog Q a w:=by
 subst h6
 have hm:(r:Int) < 8:=by omega
 have hp:(t:Int) < 8:=by omega
 refine region_factsS (by kernel_rfl) RTl_shape a w (by omega) (fun i u _=>u=(vsTl b r t m).getD i undef) (BEx w (w.drew.setCells b (t*16) (rowL (m r))) ((w.drew.setCells b (t*16) (rowL (m r))).setCells b (r*16) (rowL (m t)))) rfl ?_ ?_
 · intro i hi
   match i,hi with
   | 0,_=>
    intro o a' w' Dn hg ho h1 hk h3 h4 h0 hB h2
    have u0:a'.eval (.tmp 0)=.pointer (some ⟨b,0,none⟩):=(hk.slot 0 (by omega)).trans e0
    exact op_val (run_op_move ho u0 w') h1 ⟨BEx_upd hB 0 (by decide) (by decide),rfl,kq⟩
   | 1,_=>
    intro o a' w' Dn hg ho h1 hk h3 h4 h0 hB h2
    have u0:a'.eval (.tmp 0)=.pointer (some ⟨b,0,none⟩):=(hk.slot 0 (by omega)).trans e0
    exact op_val (run_op_move ho u0 w') h1 ⟨BEx_upd hB 1 (by decide) (by decide),rfl,kq⟩
   | 2,_=>
    intro o a' w' Dn hg ho h1 hk h3 h4 h0 hB h2
    have u0:a'.eval (.tmp 16)=.pointer (some ⟨b,0,none⟩):=h2 1 (h0 1 (by decide))
    exact op_val (run_op_nil ho u0 w') h1 ⟨BEx_upd hB 2 (by decide) (by decide),rfl,kq⟩
   | 3,_=>
    intro o a' w' Dn hg ho h1 hk h3 h4 h0 hB h2
    have u0:a'.eval (.tmp 17)=.pointer (some ⟨b,0,none⟩):=h2 2 (h0 2 (by decide))
    exact op_val (v:=.pointer (some ⟨b,128,none⟩)) (by simp only [execOp,show o.op=Op.fieldAddr 273 (.tmp 17) 1 from ho,u0];go_simp) h1 ⟨BEx_upd hB 3 (by decide) (by decide),rfl,kq⟩
   | 4,_=>
    intro o a' w' Dn hg ho h1 hk h3 h4 h0 hB h2
    have u0:a'.eval (.tmp 18)=.pointer (some ⟨b,128,none⟩):=h2 3 (h0 3 (by decide))
    have h5:Dn 25=false:=by
     cases e:Dn 25 with
     | false=>rfl
     | true=>exact absurd ((h4 25 e).2 4 (by decide)) (by rw [h3];decide)
    have cc:w'.cell? ⟨b,128,none⟩=some (.int .i64 (t:Int)):=by rw [BEx_same hB h5];exact c128
    exact op_val (v:=.int .i64 (t:Int)) (by simp only [execOp,show o.op=Op.load 3 (.tmp 18) from ho,u0];go_simp) h1 ⟨BEx_upd hB 4 (by decide) (by decide),rfl,kq⟩
   | 5,_=>
    intro o a' w' Dn hg ho h1 hk h3 h4 h0 hB h2
    have u0:a'.eval (.tmp 0)=.pointer (some ⟨b,0,none⟩):=(hk.slot 0 (by omega)).trans e0
    exact op_val (run_op_move ho u0 w') h1 ⟨BEx_upd hB 5 (by decide) (by decide),rfl,kq⟩
   | 6,_=>
    intro o a' w' Dn hg ho h1 hk h3 h4 h0 hB h2
    have u0:a'.eval (.tmp 5)=.int .i64 (r:Int):=(hk.slot 5 (by omega)).trans e5
    exact op_val (run_op_move ho u0 w') h1 ⟨BEx_upd hB 6 (by decide) (by decide),rfl,kq⟩
   | 7,_=>
    intro o a' w' Dn hg ho h1 hk h3 h4 h0 hB h2
    have u0:a'.eval (.tmp 0)=.pointer (some ⟨b,0,none⟩):=(hk.slot 0 (by omega)).trans e0
    exact op_val (run_op_move ho u0 w') h1 ⟨BEx_upd hB 7 (by decide) (by decide),rfl,kq⟩
   | 8,_=>
    intro o a' w' Dn hg ho h1 hk h3 h4 h0 hB h2
    have u0:a'.eval (.tmp 5)=.int .i64 (r:Int):=(hk.slot 5 (by omega)).trans e5
    exact op_val (run_op_move ho u0 w') h1 ⟨BEx_upd hB 8 (by decide) (by decide),rfl,kq⟩
   | 9,_=>
    intro o a' w' Dn hg ho h1 hk h3 h4 h0 hB h2
    have u0:a'.eval (.tmp 22)=.pointer (some ⟨b,0,none⟩):=h2 7 (h0 7 (by decide))
    exact op_val (run_op_nil ho u0 w') h1 ⟨BEx_upd hB 9 (by decide) (by decide),rfl,kq⟩
   | 10,_=>
    intro o a' w' Dn hg ho h1 hk h3 h4 h0 hB h2
    have u0:a'.eval (.tmp 24)=.pointer (some ⟨b,0,none⟩):=h2 9 (h0 9 (by decide))
    exact op_val (v:=.pointer (some ⟨b,0,none⟩)) (by simp only [execOp,show o.op=Op.fieldAddr 273 (.tmp 24) 0 from ho,u0];go_simp) h1 ⟨BEx_upd hB 10 (by decide) (by decide),rfl,kq⟩
   | 11,_=>
    intro o a' w' Dn hg ho h1 hk h3 h4 h0 hB h2
    have u0:a'.eval (.tmp 25)=.pointer (some ⟨b,0,none⟩):=h2 10 (h0 10 (by decide))
    have u1:a'.eval (.tmp 23)=.int .i64 (r:Int):=h2 8 (h0 8 (by decide))
    exact op_val (v:=.pointer (some ⟨b,r*16,none⟩)) (by simp only [execOp,show o.op=Op.indexAddr 271 (.tmp 25) (.tmp 23) from ho,u0,u1];go_simp) h1 ⟨BEx_upd hB 11 (by decide) (by decide),rfl,kq⟩
   | 12,_=>
    intro o a' w' Dn hg ho h1 hk h3 h4 h0 hB h2
    have u0:a'.eval (.tmp 26)=.pointer (some ⟨b,r*16,none⟩):=h2 11 (h0 11 (by decide))
    have h5:Dn 25=false:=by
     cases e:Dn 25 with
     | false=>rfl
     | true=>exact absurd ((h4 25 e).2 12 (by decide)) (by rw [h3];decide)
    have h7:=BEx_same hB h5
    have h8:=row_ld (w:=w') (by rw [h7];exact gr)
    exact op_val (v:=.agg (rowL (m r)).toArray) (by simp [execOp,show o.op=Op.load 255 (.tmp 26) from ho,u0,h8]) h1 ⟨BEx_upd hB 12 (by decide) (by decide),rfl,kq⟩
   | 13,_=>
    intro o a' w' Dn hg ho h1 hk h3 h4 h0 hB h2
    have u0:a'.eval (.tmp 0)=.pointer (some ⟨b,0,none⟩):=(hk.slot 0 (by omega)).trans e0
    exact op_val (run_op_move ho u0 w') h1 ⟨BEx_upd hB 13 (by decide) (by decide),rfl,kq⟩
   | 14,_=>
    intro o a' w' Dn hg ho h1 hk h3 h4 h0 hB h2
    have u0:a'.eval (.tmp 0)=.pointer (some ⟨b,0,none⟩):=(hk.slot 0 (by omega)).trans e0
    exact op_val (run_op_move ho u0 w') h1 ⟨BEx_upd hB 14 (by decide) (by decide),rfl,kq⟩
   | 15,_=>
    intro o a' w' Dn hg ho h1 hk h3 h4 h0 hB h2
    have u0:a'.eval (.tmp 29)=.pointer (some ⟨b,0,none⟩):=h2 14 (h0 14 (by decide))
    exact op_val (run_op_nil ho u0 w') h1 ⟨BEx_upd hB 15 (by decide) (by decide),rfl,kq⟩
   | 16,_=>
    intro o a' w' Dn hg ho h1 hk h3 h4 h0 hB h2
    have u0:a'.eval (.tmp 30)=.pointer (some ⟨b,0,none⟩):=h2 15 (h0 15 (by decide))
    exact op_val (v:=.pointer (some ⟨b,128,none⟩)) (by simp only [execOp,show o.op=Op.fieldAddr 273 (.tmp 30) 1 from ho,u0];go_simp) h1 ⟨BEx_upd hB 16 (by decide) (by decide),rfl,kq⟩
   | 17,_=>
    intro o a' w' Dn hg ho h1 hk h3 h4 h0 hB h2
    have u0:a'.eval (.tmp 31)=.pointer (some ⟨b,128,none⟩):=h2 16 (h0 16 (by decide))
    have h5:Dn 25=false:=by
     cases e:Dn 25 with
     | false=>rfl
     | true=>exact absurd ((h4 25 e).2 17 (by decide)) (by rw [h3];decide)
    have cc:w'.cell? ⟨b,128,none⟩=some (.int .i64 (t:Int)):=by rw [BEx_same hB h5];exact c128
    exact op_val (v:=.int .i64 (t:Int)) (by simp only [execOp,show o.op=Op.load 3 (.tmp 31) from ho,u0];go_simp) h1 ⟨BEx_upd hB 17 (by decide) (by decide),rfl,kq⟩
   | 18,_=>
    intro o a' w' Dn hg ho h1 hk h3 h4 h0 hB h2
    have u0:a'.eval (.tmp 28)=.pointer (some ⟨b,0,none⟩):=h2 13 (h0 13 (by decide))
    exact op_val (run_op_nil ho u0 w') h1 ⟨BEx_upd hB 18 (by decide) (by decide),rfl,kq⟩
   | 19,_=>
    intro o a' w' Dn hg ho h1 hk h3 h4 h0 hB h2
    have u0:a'.eval (.tmp 33)=.pointer (some ⟨b,0,none⟩):=h2 18 (h0 18 (by decide))
    exact op_val (v:=.pointer (some ⟨b,0,none⟩)) (by simp only [execOp,show o.op=Op.fieldAddr 273 (.tmp 33) 0 from ho,u0];go_simp) h1 ⟨BEx_upd hB 19 (by decide) (by decide),rfl,kq⟩
   | 20,_=>
    intro o a' w' Dn hg ho h1 hk h3 h4 h0 hB h2
    have u0:a'.eval (.tmp 34)=.pointer (some ⟨b,0,none⟩):=h2 19 (h0 19 (by decide))
    have u1:a'.eval (.tmp 32)=.int .i64 (t:Int):=h2 17 (h0 17 (by decide))
    exact op_val (v:=.pointer (some ⟨b,t*16,none⟩)) (by simp only [execOp,show o.op=Op.indexAddr 271 (.tmp 34) (.tmp 32) from ho,u0,u1];go_simp) h1 ⟨BEx_upd hB 20 (by decide) (by decide),rfl,kq⟩
   | 21,_=>
    intro o a' w' Dn hg ho h1 hk h3 h4 h0 hB h2
    have u0:a'.eval (.tmp 35)=.pointer (some ⟨b,t*16,none⟩):=h2 20 (h0 20 (by decide))
    have h5:Dn 25=false:=by
     cases e:Dn 25 with
     | false=>rfl
     | true=>exact absurd ((h4 25 e).2 21 (by decide)) (by rw [h3];decide)
    have h7:=BEx_same hB h5
    have h8:=row_ld (w:=w') (by rw [h7];exact gt)
    exact op_val (v:=.agg (rowL (m t)).toArray) (by simp [execOp,show o.op=Op.load 255 (.tmp 35) from ho,u0,h8]) h1 ⟨BEx_upd hB 21 (by decide) (by decide),rfl,kq⟩
   | 22,_=>
    intro o a' w' Dn hg ho h1 hk h3 h4 h0 hB h2
    have u0:a'.eval (.tmp 15)=.pointer (some ⟨b,0,none⟩):=h2 0 (h0 0 (by decide))
    exact op_val (run_op_nil ho u0 w') h1 ⟨BEx_upd hB 22 (by decide) (by decide),rfl,kq⟩
   | 23,_=>
    intro o a' w' Dn hg ho h1 hk h3 h4 h0 hB h2
    have u0:a'.eval (.tmp 37)=.pointer (some ⟨b,0,none⟩):=h2 22 (h0 22 (by decide))
    exact op_val (v:=.pointer (some ⟨b,0,none⟩)) (by simp only [execOp,show o.op=Op.fieldAddr 273 (.tmp 37) 0 from ho,u0];go_simp) h1 ⟨BEx_upd hB 23 (by decide) (by decide),rfl,kq⟩
   | 24,_=>
    intro o a' w' Dn hg ho h1 hk h3 h4 h0 hB h2
    have u0:a'.eval (.tmp 38)=.pointer (some ⟨b,0,none⟩):=h2 23 (h0 23 (by decide))
    have u1:a'.eval (.tmp 19)=.int .i64 (t:Int):=h2 4 (h0 4 (by decide))
    exact op_val (v:=.pointer (some ⟨b,t*16,none⟩)) (by simp only [execOp,show o.op=Op.indexAddr 271 (.tmp 38) (.tmp 19) from ho,u0,u1];go_simp) h1 ⟨BEx_upd hB 24 (by decide) (by decide),rfl,kq⟩
   | 25,_=>
    intro o a' w' Dn hg ho h1 hk h3 h4 h0 hB h2
    have u0:a'.eval (.tmp 39)=.pointer (some ⟨b,t*16,none⟩):=h2 24 (h0 24 (by decide))
    have u1:a'.eval (.tmp 27)=.agg (rowL (m r)).toArray:=h2 12 (h0 12 (by decide))
    have hw:=BEx_same hB h3
    subst hw
    have h9:=row_st (m:=m r) tt
    refine op_skip (w':=(w.drew.setCells b (t*16) (rowL (m r)))) (by simp [execOp,show o.op=Op.store 255 (.tmp 39) (.tmp 27) from ho,u0,u1,h9]) ⟨?_,rfl,kq⟩
    have hh:Dn 29=false:=by
     cases e:Dn 29 with
     | false=>rfl
     | true=>exact absurd ((h4 29 e).2 25 (by decide)) (by rw [h3];decide)
    unfold BEx
    rw [if_pos upd_eq,upd_ne (by decide),if_neg (by rw [hh];decide)]
   | 26,_=>
    intro o a' w' Dn hg ho h1 hk h3 h4 h0 hB h2
    have u0:a'.eval (.tmp 20)=.pointer (some ⟨b,0,none⟩):=h2 5 (h0 5 (by decide))
    exact op_val (run_op_nil ho u0 w') h1 ⟨BEx_upd hB 26 (by decide) (by decide),rfl,kq⟩
   | 27,_=>
    intro o a' w' Dn hg ho h1 hk h3 h4 h0 hB h2
    have u0:a'.eval (.tmp 40)=.pointer (some ⟨b,0,none⟩):=h2 26 (h0 26 (by decide))
    exact op_val (v:=.pointer (some ⟨b,0,none⟩)) (by simp only [execOp,show o.op=Op.fieldAddr 273 (.tmp 40) 0 from ho,u0];go_simp) h1 ⟨BEx_upd hB 27 (by decide) (by decide),rfl,kq⟩
   | 28,_=>
    intro o a' w' Dn hg ho h1 hk h3 h4 h0 hB h2
    have u0:a'.eval (.tmp 41)=.pointer (some ⟨b,0,none⟩):=h2 27 (h0 27 (by decide))
    have u1:a'.eval (.tmp 21)=.int .i64 (r:Int):=h2 6 (h0 6 (by decide))
    exact op_val (v:=.pointer (some ⟨b,r*16,none⟩)) (by simp only [execOp,show o.op=Op.indexAddr 271 (.tmp 41) (.tmp 21) from ho,u0,u1];go_simp) h1 ⟨BEx_upd hB 28 (by decide) (by decide),rfl,kq⟩
   | 29,_=>
    intro o a' w' Dn hg ho h1 hk h3 h4 h0 hB h2
    have u0:a'.eval (.tmp 42)=.pointer (some ⟨b,r*16,none⟩):=h2 28 (h0 28 (by decide))
    have u1:a'.eval (.tmp 36)=.agg (rowL (m t)).toArray:=h2 21 (h0 21 (by decide))
    have hc:=h0 25 (by decide)
    have hw:w'=(w.drew.setCells b (t*16) (rowL (m r))):=by
     have:=hB
     unfold BEx at this
     rwa [if_pos hc,if_neg (by rw [h3];decide)] at this
    have h9:=row_st (w:=w') (m:=m t) (b:=b) (o:=r*16) (by rw [hw];exact World.there_setCells tr _ _ _)
    refine op_skip (w':=w'.setCells b (r*16) (rowL (m t))) (by simp [execOp,show o.op=Op.store 255 (.tmp 42) (.tmp 36) from ho,u0,u1,h9]) ⟨?_,rfl,kq⟩
    unfold BEx
    rw [upd_ne (by decide),if_pos hc,if_pos upd_eq,hw]
   | n+30,hn=>exact absurd hn (by show ¬ n+30 < 30;omega)
 · rintro a' w' ha he ⟨Dn,hf,hB⟩ h2
   unfold BEx at hB
   rw [if_pos (hf 25 (by decide)),if_pos (hf 29 (by decide))] at hB
   rw [hB]
   exact hQ a' ⟨ha.size,ha.defers,ha.slot⟩
noncomputable def RLv:Array Oper:=((Tryz.f171.body.bind (rgf · 6))).getD #[]
def shLv:List (Op×Option Nat×List Nat):=[(Op.move (.tmp 0),some 26,[]),
 (Op.move (.tmp 5),some 27,[]),
 (Op.move (.tmp 0),some 28,[]),
 (Op.move (.tmp 0),some 29,[]),
 (Op.nilCheck (.tmp 29),some 30,[3]),
 (Op.fieldAddr 273 (.tmp 30) 2,some 31,[4]),
 (Op.load 3 (.tmp 31),some 32,[5]),
 (Op.nilCheck (.tmp 28),some 33,[2]),
 (Op.fieldAddr 273 (.tmp 33) 0,some 34,[7]),
 (Op.indexAddr 271 (.tmp 34) (.tmp 32),some 35,[8,6]),
 (Op.load 255 (.tmp 35),some 36,[9]),
 (Op.nilCheck (.tmp 26),some 37,[0]),
 (Op.fieldAddr 273 (.tmp 37) 0,some 38,[11]),
 (Op.indexAddr 271 (.tmp 38) (.tmp 27),some 39,[12,1,0,1,2,3,4,5,6,7,8,9,10]),
 (Op.store 255 (.tmp 39) (.tmp 36),none,[13,10,0,1,2,3,4,5,6,7,8,9,10])]
theorem RLv_shape:RegShape RLv 26 40 shLv:=regShape (by kernel_rfl) (by kernel_rfl)
def vsLv (b r t:Nat) (m:Nat→Nat→Nat):List Value:=[.pointer (some ⟨b,0,none⟩),.int .i64 (r:Int),.pointer (some ⟨b,0,none⟩),.pointer (some ⟨b,0,none⟩),.pointer (some ⟨b,0,none⟩),.pointer (some ⟨b,129,none⟩),.int .i64 (t:Int),.pointer (some ⟨b,0,none⟩),.pointer (some ⟨b,0,none⟩),.pointer (some ⟨b,t*16,none⟩),.agg (rowL (m t)).toArray,.pointer (some ⟨b,0,none⟩),.pointer (some ⟨b,0,none⟩),.pointer (some ⟨b,r*16,none⟩),undef]
theorem ck_fill (b r t:Nat) (m:Nat→Nat→Nat) (hr:r < 8) (ht:t < 8) (c129:w.drew.cell? ⟨b,129,none⟩=some (.int .i64 (t:Int)))
 (gt:w.drew.rangeAt b (t*16) (rowL (m t))) (tr:w.drew.there b (r*16) 16) (h5:RLv=ops) (hf:a.tmps.size=40)
 (e0:a.eval (.tmp 0)=.pointer (some ⟨b,0,none⟩)) (e5:a.eval (.tmp 5)=.int .i64 (r:Int))
 (hQ:∀ a',Kept 26 40 a a'→Q .normal a' (w.drew.setCells b (r*16) (rowL (m t)))):(Code.region 6 ops true).wp Tryz.prog Q a w:=by
 subst h5
 have hh:(r:Int) < 8:=by omega
 have hj:(t:Int) < 8:=by omega
 refine region_factsS (by kernel_rfl) RLv_shape a w (by omega) (fun i u _=>u=(vsLv b r t m).getD i undef) (BFi w (w.drew.setCells b (r*16) (rowL (m t)))) rfl ?_ ?_
 · intro i hi
   match i,hi with
   | 0,_=>
    intro o a' w' Dn hg ho h0 hk h3 h4 h1 hB h2
    have u0:a'.eval (.tmp 0)=.pointer (some ⟨b,0,none⟩):=(hk.slot 0 (by omega)).trans e0
    exact op_val (run_op_move ho u0 w') h0 ⟨BFi_upd hB 0 (by decide),rfl,kq⟩
   | 1,_=>
    intro o a' w' Dn hg ho h0 hk h3 h4 h1 hB h2
    have u0:a'.eval (.tmp 5)=.int .i64 (r:Int):=(hk.slot 5 (by omega)).trans e5
    exact op_val (run_op_move ho u0 w') h0 ⟨BFi_upd hB 1 (by decide),rfl,kq⟩
   | 2,_=>
    intro o a' w' Dn hg ho h0 hk h3 h4 h1 hB h2
    have u0:a'.eval (.tmp 0)=.pointer (some ⟨b,0,none⟩):=(hk.slot 0 (by omega)).trans e0
    exact op_val (run_op_move ho u0 w') h0 ⟨BFi_upd hB 2 (by decide),rfl,kq⟩
   | 3,_=>
    intro o a' w' Dn hg ho h0 hk h3 h4 h1 hB h2
    have u0:a'.eval (.tmp 0)=.pointer (some ⟨b,0,none⟩):=(hk.slot 0 (by omega)).trans e0
    exact op_val (run_op_move ho u0 w') h0 ⟨BFi_upd hB 3 (by decide),rfl,kq⟩
   | 4,_=>
    intro o a' w' Dn hg ho h0 hk h3 h4 h1 hB h2
    have u0:a'.eval (.tmp 29)=.pointer (some ⟨b,0,none⟩):=h2 3 (h1 3 (by decide))
    exact op_val (run_op_nil ho u0 w') h0 ⟨BFi_upd hB 4 (by decide),rfl,kq⟩
   | 5,_=>
    intro o a' w' Dn hg ho h0 hk h3 h4 h1 hB h2
    have u0:a'.eval (.tmp 30)=.pointer (some ⟨b,0,none⟩):=h2 4 (h1 4 (by decide))
    exact op_val (v:=.pointer (some ⟨b,129,none⟩)) (by simp only [execOp,show o.op=Op.fieldAddr 273 (.tmp 30) 2 from ho,u0];go_simp) h0 ⟨BFi_upd hB 5 (by decide),rfl,kq⟩
   | 6,_=>
    intro o a' w' Dn hg ho h0 hk h3 h4 h1 hB h2
    have u0:a'.eval (.tmp 31)=.pointer (some ⟨b,129,none⟩):=h2 5 (h1 5 (by decide))
    have h6:Dn 14=false:=by
     cases e:Dn 14 with
     | false=>rfl
     | true=>exact absurd ((h4 14 e).2 6 (by decide)) (by rw [h3];decide)
    have cc:w'.cell? ⟨b,129,none⟩=some (.int .i64 (t:Int)):=by rw [BFi_same hB h6];exact c129
    exact op_val (v:=.int .i64 (t:Int)) (by simp only [execOp,show o.op=Op.load 3 (.tmp 31) from ho,u0];go_simp) h0 ⟨BFi_upd hB 6 (by decide),rfl,kq⟩
   | 7,_=>
    intro o a' w' Dn hg ho h0 hk h3 h4 h1 hB h2
    have u0:a'.eval (.tmp 28)=.pointer (some ⟨b,0,none⟩):=h2 2 (h1 2 (by decide))
    exact op_val (run_op_nil ho u0 w') h0 ⟨BFi_upd hB 7 (by decide),rfl,kq⟩
   | 8,_=>
    intro o a' w' Dn hg ho h0 hk h3 h4 h1 hB h2
    have u0:a'.eval (.tmp 33)=.pointer (some ⟨b,0,none⟩):=h2 7 (h1 7 (by decide))
    exact op_val (v:=.pointer (some ⟨b,0,none⟩)) (by simp only [execOp,show o.op=Op.fieldAddr 273 (.tmp 33) 0 from ho,u0];go_simp) h0 ⟨BFi_upd hB 8 (by decide),rfl,kq⟩
   | 9,_=>
    intro o a' w' Dn hg ho h0 hk h3 h4 h1 hB h2
    have u0:a'.eval (.tmp 34)=.pointer (some ⟨b,0,none⟩):=h2 8 (h1 8 (by decide))
    have u1:a'.eval (.tmp 32)=.int .i64 (t:Int):=h2 6 (h1 6 (by decide))
    exact op_val (v:=.pointer (some ⟨b,t*16,none⟩)) (by simp only [execOp,show o.op=Op.indexAddr 271 (.tmp 34) (.tmp 32) from ho,u0,u1];go_simp) h0 ⟨BFi_upd hB 9 (by decide),rfl,kq⟩
   | 10,_=>
    intro o a' w' Dn hg ho h0 hk h3 h4 h1 hB h2
    have u0:a'.eval (.tmp 35)=.pointer (some ⟨b,t*16,none⟩):=h2 9 (h1 9 (by decide))
    have h6:Dn 14=false:=by
     cases e:Dn 14 with
     | false=>rfl
     | true=>exact absurd ((h4 14 e).2 10 (by decide)) (by rw [h3];decide)
    have h9:=BFi_same hB h6
    have ha:=row_ld (w:=w') (by rw [h9];exact gt)
    exact op_val (v:=.agg (rowL (m t)).toArray) (by simp [execOp,show o.op=Op.load 255 (.tmp 35) from ho,u0,ha]) h0 ⟨BFi_upd hB 10 (by decide),rfl,kq⟩
   | 11,_=>
    intro o a' w' Dn hg ho h0 hk h3 h4 h1 hB h2
    have u0:a'.eval (.tmp 26)=.pointer (some ⟨b,0,none⟩):=h2 0 (h1 0 (by decide))
    exact op_val (run_op_nil ho u0 w') h0 ⟨BFi_upd hB 11 (by decide),rfl,kq⟩
   | 12,_=>
    intro o a' w' Dn hg ho h0 hk h3 h4 h1 hB h2
    have u0:a'.eval (.tmp 37)=.pointer (some ⟨b,0,none⟩):=h2 11 (h1 11 (by decide))
    exact op_val (v:=.pointer (some ⟨b,0,none⟩)) (by simp only [execOp,show o.op=Op.fieldAddr 273 (.tmp 37) 0 from ho,u0];go_simp) h0 ⟨BFi_upd hB 12 (by decide),rfl,kq⟩
   | 13,_=>
    intro o a' w' Dn hg ho h0 hk h3 h4 h1 hB h2
    have u0:a'.eval (.tmp 38)=.pointer (some ⟨b,0,none⟩):=h2 12 (h1 12 (by decide))
    have u1:a'.eval (.tmp 27)=.int .i64 (r:Int):=h2 1 (h1 1 (by decide))
    exact op_val (v:=.pointer (some ⟨b,r*16,none⟩)) (by simp only [execOp,show o.op=Op.indexAddr 271 (.tmp 38) (.tmp 27) from ho,u0,u1];go_simp) h0 ⟨BFi_upd hB 13 (by decide),rfl,kq⟩
   | 14,_=>
    intro o a' w' Dn hg ho h0 hk h3 h4 h1 hB h2
    have u0:a'.eval (.tmp 39)=.pointer (some ⟨b,r*16,none⟩):=h2 13 (h1 13 (by decide))
    have u1:a'.eval (.tmp 36)=.agg (rowL (m t)).toArray:=h2 10 (h1 10 (by decide))
    have hw:=BFi_same hB h3
    subst hw
    have hc:=row_st (m:=m t) tr
    refine op_skip (w':=(w.drew.setCells b (r*16) (rowL (m t)))) (by simp [execOp,show o.op=Op.store 255 (.tmp 39) (.tmp 36) from ho,u0,u1,hc]) ⟨?_,rfl,kq⟩
    unfold BFi
    rw [if_pos upd_eq]
   | n+15,hn=>exact absurd hn (by show ¬ n+15 < 15;omega)
 · rintro a' w' h7 h8 ⟨Dn,he,hB⟩ h2
   unfold BFi at hB
   rw [if_pos (he 14 (by decide))] at hB
   rw [hB]
   exact hQ a' ⟨h7.size,h7.defers,h7.slot⟩
end
theorem Kept.split (hk:Kept lo hi a a') (h1:lo≤hi) (h2:hi≤a.tmps.size) :
 ∃ l:List Value,l.length=hi - lo∧a'={ tmps:=(a.tmps.toList.take lo ++ (l ++ a.tmps.toList.drop hi)).toArray,defers:=a.defers }:=by
 have h0:∀ (x:Act) (s:Nat),s < x.tmps.size→x.tmps[s]?=some (x.eval (.tmp s)):=fun x s hs=>by
  simp [Act.eval,Array.getD_eq_getD_getElem?,hs]
 refine ⟨(a'.tmps.toList.drop lo).take (hi - lo),?_,?_⟩
 · have:=hk.size
   simp;omega
 · obtain ⟨t',d'⟩:=a'
   have hs:=hk.size
   have hd:=hk.defers
   simp only at hs hd
   subst hd
   congr 1
   apply Array.ext_getElem?
   intro i
   simp only [List.getElem?_toArray,List.getElem?_append,List.getElem?_take,List.getElem?_drop,List.length_take,List.length_drop,Array.length_toList,Array.getElem?_toList]
   by_cases c1:i < lo
   · rw [if_pos (by omega),if_pos c1]
     have e:=hk.slot i (.inl c1)
     have x1:=h0 ⟨t',a.defers⟩ i (by show i < t'.size;omega)
     have x2:=h0 a i (by omega)
     simp only at x1
     rw [x1,x2,e]
   · by_cases c2:i < hi
     · rw [if_neg (by omega),if_pos (by omega),if_pos (by omega),show lo+(i - min lo a.tmps.size)=i by omega]
     · rw [if_neg (by omega),if_neg (by omega)]
       have ei:hi+(i - min lo a.tmps.size - min (hi - lo) (t'.size - lo))=i:=by omega
       rw [ei]
       by_cases c3:i < a.tmps.size
       · have e:=hk.slot i (.inr (by omega))
         have x1:=h0 ⟨t',a.defers⟩ i (by show i < t'.size;omega)
         have x2:=h0 a i c3
         simp only at x1
         rw [x1,x2,e]
       · rw [Array.getElem?_eq_none (by omega),Array.getElem?_eq_none (by omega)]
theorem len9 (h:l.length=9):∃ u0 u1 u2 u3 u4 u5 u6 u7 u8,l=[u0,u1,u2,u3,u4,u5,u6,u7,u8]:=by
 match l,h with
 | [u0,u1,u2,u3,u4,u5,u6,u7,u8],_=>exact ⟨u0,u1,u2,u3,u4,u5,u6,u7,u8,rfl⟩
theorem len14 (h:l.length=14):∃ u0 u1 u2 u3 u4 u5 u6 u7 u8 u9 u10 u11 u12 u13,l=[u0,u1,u2,u3,u4,u5,u6,u7,u8,u9,u10,u11,u12,u13]:=by
 match l,h with
 | [u0,u1,u2,u3,u4,u5,u6,u7,u8,u9,u10,u11,u12,u13],_=>exact ⟨u0,u1,u2,u3,u4,u5,u6,u7,u8,u9,u10,u11,u12,u13,rfl⟩
theorem len28 (h:l.length=28):∃ u0 u1 u2 u3 u4 u5 u6 u7 u8 u9 u10 u11 u12 u13 u14 u15 u16 u17 u18 u19 u20 u21 u22 u23 u24 u25 u26 u27,l=[u0,u1,u2,u3,u4,u5,u6,u7,u8,u9,u10,u11,u12,u13,u14,u15,u16,u17,u18,u19,u20,u21,u22,u23,u24,u25,u26,u27]:=by
 match l,h with
 | [u0,u1,u2,u3,u4,u5,u6,u7,u8,u9,u10,u11,u12,u13,u14,u15,u16,u17,u18,u19,u20,u21,u22,u23,u24,u25,u26,u27],_=>exact ⟨u0,u1,u2,u3,u4,u5,u6,u7,u8,u9,u10,u11,u12,u13,u14,u15,u16,u17,u18,u19,u20,u21,u22,u23,u24,u25,u26,u27,rfl⟩
section
open Go.Deep Gf
theorem ckLeave_any (b i:Nat) (C:Ck) (w:World) (hC:CkAt w b C) (hf:CkFit C) (hi:i < 16) :
 Calls Tryz.prog 171 #[.pointer (some ⟨b,0,none⟩),.int .i64 i] w fun e w'=>
  (leave C i=none∧e=.returned (.bool false)∧w'=w)∨(∃ C',leave C i=some C'∧e=.returned (.bool true)∧CkAt w' b C'∧w.grownBy w' (some b)):=by
 go_enter Tryz.func171,Tryz.ntmps171
 go_wp2_with fail
 refine (spare_any b i C w hC hf hi).mono ?_
 rintro e w1 ⟨rfl,hw⟩
 subst hw
 cases h2:spareAt C i with
 | none=>
  have HN:Hid (leave C i=none):=hide (by unfold leave;rw [h2];rfl)
  simp only [spV]
  clear h2
  go_wp2
  go_ret
  exact .inl ⟨HN.out,rfl,rfl⟩
 | some r=>
  obtain ⟨r1,r2,r3⟩:=spareAt_some h2
  have HN:Hid (leave C i=some (leaveAt C i r)):=hide (by unfold leave;rw [h2];rfl)
  have h6:=hf.most
  simp only [spV]
  clear h2
  go_wp2_with fail
  refine (ckOff_any b r i C _ hC hf (by omega) hi).mono ?_
  rintro e w2 ⟨rfl,h3,h4⟩
  have cc:=h3.countC
  have ff:=h3.frozen 129
  have h7:(offC C C.count r i).count=C.count:=rfl
  rw [h7] at cc
  have h1:=count_set h3 (C.count - 1)
  have h0:=grown_set h4 129 (.int .i64 ((C.count - 1:Nat):Int))
  have hc:wrap64 ((C.count:Int) - 1)=((C.count - 1:Nat):Int):=by unfold wrap64;omega
  have h5:IntKind.i64.wrap ((C.count:Int) - 1)=((C.count - 1:Nat):Int):=by rw [IntKind.wrap_i64];omega
  obtain ⟨w3,h8⟩:∃ w3,w2.setCell ⟨b,129,none⟩ (.int .i64 ((C.count - 1:Nat):Int))=w3:=⟨_,rfl⟩
  rw [h8] at h1 h0
  have he:=hide h3
  have hg:=hide h4
  have hh:=hide h1
  have hj:=hide h0
  have c9:=h1.countC
  have HR:=hide (put_row (show CkAt w3.drew b _ from h1) r (by omega) ((offC C C.count r i).m (C.count - 1)))
  have h9:Hid (w1.grownBy (w3.drew.setCells b (r*16) (rowL ((offC C C.count r i).m (C.count - 1)))) (some b)):=hide (ck_grown _ _ _ _ ⟨h0.os,h0.tape,h0.output,h0.size,h0.block⟩)
  have HL:=hide (rowL_range (show CkAt w3.drew b _ from h1) (C.count - 1) (by omega))
  have HT:=hide (ck_there (show CkAt w3.drew b _ from h1) r (by omega))
  clear h3 h4 h1 h0 hC
  go_wp2
  clear h8 cc ff hc h5 h7 he hg hh hj
  refine ck_fill b r (C.count - 1) (offC C C.count r i).m (by omega) (by omega) c9 HL.out HT.out (by kernel_rfl) rfl rfl rfl ?_
  intro a' hk
  obtain ⟨l,hl,rfl⟩:=hk.split (by decide) (by simp)
  clear hk
  obtain ⟨u0,u1,u2,u3,u4,u5,u6,u7,u8,u9,u10,u11,u12,u13,rfl⟩:=len14 hl
  clear hl
  simp only [List.take_succ_cons,List.take_zero,List.drop_succ_cons,List.cons_append,List.nil_append,List.drop_nil,List.append_nil]
  obtain ⟨w4,ha⟩:∃ w4,w3.drew.setCells b (r*16) (rowL ((offC C C.count r i).m (C.count - 1)))=w4:=⟨_,rfl⟩
  rw [ha] at HR h9 ⊢
  clear ha
  go_wp2
  go_ret
  exact .inr ⟨_,HN.out,rfl,HR.out,h9.out⟩
theorem swap_put (m:Nat→Nat→Nat) (t r:Nat):putF (putF m t (m r)) r (m t)=swapF m t r:=by
 funext k
 unfold putF swapF
 by_cases h1:k=r
 · rw [if_pos h1]
   by_cases h2:k=t
   · rw [if_pos h2,← h1,← h2]
   · rw [if_neg h2,if_pos h1]
 · rw [if_neg h1]
   by_cases h2:k=t
   · rw [if_pos h2,if_pos h2]
   · rw [if_neg h2,if_neg h2,if_neg h1]
theorem ckTell_any (b i:Nat) (C:Ck) (w:World) (hC:CkAt w b C) (hf:CkFit C) (hi:i < 16) :
 Calls Tryz.prog 145 #[.pointer (some ⟨b,0,none⟩),.int .i64 i] w fun e w'=>
  (tell C i=none∧e=.returned (.bool false)∧w'=w)∨(∃ C',tell C i=some C'∧e=.returned (.bool true)∧CkAt w' b C'∧w.grownBy w' (some b)):=by
 go_enter Tryz.func145,Tryz.ntmps145
 go_wp2_with fail
 refine (spare_any b i C w hC hf hi).mono ?_
 rintro e w1 ⟨rfl,hw⟩
 subst hw
 cases h0:spareAt C i with
 | none=>
  have HN:Hid (tell C i=none):=hide (by unfold tell;rw [h0];rfl)
  simp only [spV]
  clear h0
  go_wp2
  go_ret
  exact .inl ⟨HN.out,rfl,rfl⟩
 | some r=>
  obtain ⟨r1,r2,r3⟩:=spareAt_some h0
  have HN:Hid (tell C i=some (tellAt C i r)):=hide (by unfold tell;rw [h0];rfl)
  have h9:=hf.most
  simp only [spV]
  clear h0
  have c8:=hC.toldC
  have h1:=put_row (put_row (show CkAt w1.drew b _ from hC) C.told (by omega) (C.m r)) r (by omega) (C.m C.told)
  have e1:(⟨putF (putF C.m C.told (C.m r)) r (C.m C.told),C.told,C.count⟩:Ck)=⟨swapF C.m C.told r,C.told,C.count⟩:=by rw [swap_put]
  have h2:CkAt ((w1.drew.setCells b (C.told*16) (rowL (C.m r))).setCells b (r*16) (rowL (C.m C.told))) b ⟨swapF C.m C.told r,C.told,C.count⟩:=by rw [← e1];exact h1
  have hg:w1.grownBy ((w1.drew.setCells b (C.told*16) (rowL (C.m r))).setCells b (r*16) (rowL (C.m C.told))) (some b):=
   ck_grown _ _ _ _ (ck_grown _ _ _ _ ⟨rfl,rfl,rfl,Nat.le_refl _,fun _ _ _=>rfl⟩)
  have h5:=hide h2
  have h7:=hide hg
  have HL:=hide (rowL_range (show CkAt w1.drew b _ from hC) r (by omega))
  have ha:=hide (rowL_range (show CkAt w1.drew b _ from hC) C.told (by omega))
  have HT:=hide (ck_there (show CkAt w1.drew b _ from hC) r (by omega))
  have hc:=hide (ck_there (show CkAt w1.drew b _ from hC) C.told (by omega))
  clear h1 e1 h2 hg hC
  go_wp2
  refine ck_exchange b r C.told C.m (by omega) (by omega) c8 HL.out ha.out HT.out hc.out (by kernel_rfl) rfl rfl rfl ?_
  intro a' hk
  obtain ⟨l,hl,rfl⟩:=hk.split (by decide) (by simp)
  clear hk HL ha HT hc
  obtain ⟨u0,u1,u2,u3,u4,u5,u6,u7,u8,u9,u10,u11,u12,u13,u14,u15,u16,u17,u18,u19,u20,u21,u22,u23,u24,u25,u26,u27,rfl⟩:=len28 hl
  clear hl
  simp only [List.take_succ_cons,List.take_zero,List.drop_succ_cons,List.drop_zero,List.cons_append,List.nil_append]
  obtain ⟨w2,he⟩:∃ w2,(w1.drew.setCells b (C.told*16) (rowL (C.m r))).setCells b (r*16) (rowL (C.m C.told))=w2:=⟨_,rfl⟩
  rw [he] at h5 h7 ⊢
  clear he c8
  have c8:=h5.out.toldC
  have hr:CkFit ⟨swapF C.m C.told r,C.told,C.count⟩:=⟨swap_byte hf.byt,hf.le,hf.most⟩
  go_wp2_with fail
  refine (ckScale_any b C.told i _ _ h5.out hr (by omega) hi).mono ?_
  rintro e w3 ⟨rfl,h8,hh⟩
  have hs:CkFit ⟨scaleF (swapF C.m C.told r) C.told i,C.told,C.count⟩:=⟨scale_byte (swap_byte hf.byt),hf.le,hf.most⟩
  have h3:=grown_trans h7.out hh
  have c8':=h8.toldC
  have hj:=hide h8
  have hm:=hide h3
  clear h8 hh h3 c8 h5 h7
  go_wp2_with fail
  refine (ckOff_any b C.told i _ _ hj.out hs (by omega) hi).mono ?_
  rintro e w4 ⟨rfl,h6,hn⟩
  have h4:=grown_trans hm.out hn
  have hp:=told_set h6 (C.told+1)
  have hq:=grown_set h4 128 (.int .i64 ((C.told+1:Nat):Int))
  have c9:=h6.toldC
  have f9:=h6.frozen 128
  have c9':w4.cell? ⟨b,128,none⟩=some (.int .i64 (C.told:Int)):=c9
  have k0:wrap64 ((C.told:Int)+1)=((C.told+1:Nat):Int):=by unfold wrap64;omega
  have hx:IntKind.i64.wrap ((C.told:Int)+1)=((C.told+1:Nat):Int):=by rw [IntKind.wrap_i64];omega
  have hy:=hide hp
  have hz:=hide hq
  clear h6 hn h4 hp hq c9 c8' hj hm
  go_wp2
  go_ret
  exact .inr ⟨_,HN.out,rfl,hy.out,hz.out⟩
end
section
open Go.Deep Gf
def ckA (C:Ck):Array Value:=((List.range 130).map (ckV C)).toArray
theorem ckA_size (C:Ck):(ckA C).size=130:=by unfold ckA;rw [List.size_toArray,List.length_map,List.length_range]
theorem ckA_get (C:Ck) (i:Nat) (hi:i < 130):(ckA C)[i]?=some (ckV C i):=by
 unfold ckA;rw [List.getElem?_toArray,List.getElem?_map,List.getElem?_range hi];rfl
theorem Tryz.infoCk:(Tryz.prog.info? 273).map (fun i=>i.size)=some 130:=by kernel_rfl
theorem ckA_info (C:Ck):(Tryz.prog.info? 273).map (fun i=>i.size)=some (ckA C).size:=by rw [ckA_size];exact Tryz.infoCk
theorem ckV_one (C:Ck) (i:Nat):(ckV C i).oneCell'=true:=by
 unfold ckV;split
 · rfl
 · split <;> rfl
theorem ckA_one (C:Ck):(ckA C).all (fun v=>v.oneCell')=true:=by
 rw [Array.all_eq_true]
 intro i hi
 have:=ckA_get C i (by rw [← ckA_size C];exact hi)
 rw [Array.getElem?_eq_getElem hi] at this
 rw [Option.some.inj this];exact ckV_one C i
theorem CkAt.heap {C:Ck} (h:CkAt w b C):w.heap[b]?=some (.cells (ckA C) 273 (0,0)):=by
 obtain ⟨c,hc,hs,hg⟩:=h
 have e:c=ckA C:=by
  apply Array.ext
  · rw [hs,ckA_size]
  · intro i h1 h2
    have q1:=hg i (by omega)
    have q2:=ckA_get C i (by omega)
    rw [Array.getElem?_eq_getElem h1] at q1
    rw [Array.getElem?_eq_getElem h2] at q2
    rw [Option.some.inj q1,Option.some.inj q2]
 rw [← e];exact hc
theorem CkAt.of_heap {C:Ck} (h:w.heap[b]?=some (.cells (ckA C) 273 (0,0))):CkAt w b C:=⟨_,h,ckA_size C,fun i hi=>ckA_get C i hi⟩
theorem CkAt.new (w:World) (C:Ck):CkAt (w.alloc (.cells (ckA C) 273)) w.heap.size C:=CkAt.of_heap (World.alloc_heap_new w _)
theorem CkAt.lt {C:Ck} (h:CkAt w b C):b < w.heap.size:=(Array.getElem?_eq_some_iff.1 h.heap).1
theorem CkAt.keep {C:Ck} (h:CkAt w b C) (e:w'.heap[b]?=w.heap[b]?):CkAt w' b C:=CkAt.of_heap (e.trans h.heap)
theorem CkAt.setRow {C':Ck} (C:Ck) (h:CkAt w b C'):CkAt (w.setRow b (ckA C)) b C:=CkAt.of_heap (setRow_heap w b (ckA C') (ckA C) _ _ h.heap)
theorem grown_setRow (w:World) (b:Nat) (cs:Array Value):w.grownBy (w.setRow b cs) (some b):=
 ⟨rfl,rfl,rfl,by simp,fun k _ h0=>by
  have:b≠k:=fun e=>h0 (by rw [e])
  simp [World.setRow,Array.getElem?_modify,this]⟩
theorem ck_loadAt {C:Ck} (h:CkAt w b C):(Instr.loadAt 273 (.pointer (some ⟨b,0,none⟩))).run Tryz.prog w=.ok (.agg (ckA C)) w:=by
 simp only [Instr.loadAt,Instr.sureAddr,Sem.run_bind,Sem.run_pure,Result.andThen_ok,run_loadVar_row w b 273 273 (ckA C) (0,0) _ h.heap Tryz.underlying273 rfl (ckA_info C)]
theorem ck_storeAt {C':Ck} (C:Ck) (h:CkAt w b C'):(Instr.storeAt 273 (.pointer (some ⟨b,0,none⟩)) (.agg (ckA C))).run Tryz.prog w=.ok () (w.setRow b (ckA C)):=by
 simp only [Instr.storeAt,Instr.sureAddr,Sem.run_bind,Sem.run_pure,Result.andThen_ok,run_storeVar_row w b 273 273 (ckA C') (ckA C) h.heap (ckA_info C) (by rw [ckA_size,ckA_size]) (ckA_one C)]
theorem in_load (hg:o.guard=none) (x:Operand) (ho:o.op=.load 273 x) (b:Nat) (C:Ck)
 (hx:a.eval x=.pointer (some ⟨b,0,none⟩)) (hC:CkAt w b C) (h:wpListIn F n Tryz.prog ops Q rest (a.put o.dst (.agg (ckA C))) w):wpListIn F n Tryz.prog ops Q (o :: rest) a w:=by
 refine wpListIn_plain hg fun K hK=>?_
 unfold Oper.wpIn
 refine ⟨by simp [Oper.about,ho],?_⟩
 rw [Oper.semAt_plain F _ _ (by rw [ho];intro c h0;cases h0)]
 simp [execOp,ho,hx,ck_loadAt hC,Result.andThen]
 exact hK _ _ h
theorem in_store (hg:o.guard=none) (x y:Operand) (ho:o.op=.store 273 x y) (b:Nat) (C C':Ck)
 (hx:a.eval x=.pointer (some ⟨b,0,none⟩)) (hy:a.eval y=.agg (ckA C)) (hC:CkAt w b C') (h:wpListIn F n Tryz.prog ops Q rest (a.put o.dst undef) (w.setRow b (ckA C))):wpListIn F n Tryz.prog ops Q (o :: rest) a w:=by
 refine wpListIn_plain hg fun K hK=>?_
 unfold Oper.wpIn
 refine ⟨by simp [Oper.about,ho],?_⟩
 rw [Oper.semAt_plain F _ _ (by rw [ho];intro c h0;cases h0)]
 simp [execOp,ho,hx,hy,ck_storeAt C hC,Result.andThen]
 exact hK _ _ h
def ckZ:Ck:=⟨fun _ _=>0,0,0⟩
theorem Tryz.zeroCk:(Tryz.prog.info? 273).map (fun i=>(i.zero,i.size,i.bytes))=some (some (.agg (ckA ckZ)),130,144):=by kernel_rfl
theorem zeroCk (w:World):(zeroValue 273).run Tryz.prog w=.ok (.agg (ckA ckZ)) w:=by
 obtain ⟨i0,h0,h1,_,_⟩:=info_parts Tryz.zeroCk
 simp [zeroValue,typeInfo,Sem.run_bind,h0,h1]
theorem CkAt.mono {B:Nat} {C:Ck} (h:CkAt w b C) (hb:Below B w w') (hB:b < B):CkAt w' b C:=h.keep (hb.block b hB)
end
end Go.Proofs.YthcgahldacpolaaGreatDoor
