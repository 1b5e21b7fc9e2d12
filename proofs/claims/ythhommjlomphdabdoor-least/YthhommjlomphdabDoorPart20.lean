import Derived.Test.YthhommjlomphdabDoorCompile
import Derived.Test.YthhommjlomphdabDoorPart17
import Derived.Test.YthhommjlomphdabDoorPart19
import Derived.Test.YthhommjlomphdabDoorPart08
import Derived.Lib.SliceRun
import Derived.Deep.RegionHeld3
import Derived.Deep.Cut
import Derived.Deep.CutRange
import Derived.Test.YthhommjlomphdabDoorPart18
import Derived.Test.YthhommjlomphdabDoorPart12
import Derived.Lib.LaidTab
/-
  The law's word 'compiled'. (Written by a small program: its three cases share their beginning.)
-/
namespace Go.Proofs.YthhommjlomphdabDoor
open Go.RowKit Go.Deep Gf

attribute [local go_sem] Oper.semAt_some
theorem neq_nil (wx : World) : (binOp .neq 25 (.slice none 0 0) (.slice none 0 0)).run Tryd.prog wx = .ok (.bool false) wx := by
  simp only [binOp]
  simp [Op.equal, Op.maxDepth, Lib.run_equalIn_slice_nil wx 9999 25 50 none 0 0 0 0 Tryd.underlying25]
/-- the params, the result and the program, where the walk has laid them -/
structure CQ (w w1 : World) (D L G rg : Int) (v : Value) (X : World) : Prop where
  par : X.heap[w.heap.size]? = some (.cells #[.int .i64 D, .int .i64 L, .int .i64 G] 23 (0, 0))
  res : X.heap[w.heap.size + 1]? = some (.cells #[.int .i64 0, .slice none 0 0] 27 (0, 0))
  prg : X.heap[w1.heap.size]? = some (.cells #[.int .i64 rg, v] 27 (0, 0))
  bel : Below w.heap.size w X
  siz : w1.heap.size < X.heap.size
  lo : w.heap.size + 2 ≤ w1.heap.size
  frm : Below w1.heap.size w1 X
theorem CQ.mono {w w1 X Y : World} {B : Nat} {D L G rg : Int} {v : Value} (h : CQ w w1 D L G rg v X) (hb : Below B X Y) (hB : w1.heap.size < B) : CQ w w1 D L G rg v Y := by
  have h6 := h.lo
  have h5 := h.siz
  have := hb.size
  exact ⟨(hb.block _ (by omega)).trans h.par, (hb.block _ (by omega)).trans h.res, (hb.block _ hB).trans h.prg, h.bel.trans (hb.mono (by omega)), by omega, h6, h.frm.trans (hb.mono (by omega))⟩
theorem CQ.al {w w1 X : World} {D L G rg : Int} {v : Value} (h : CQ w w1 D L G rg v X) (o : Obj) : CQ w w1 D L G rg v (X.alloc o) := h.mono ((Below.refl X.heap.size X).alloc (Nat.le_refl _) o) h.siz
theorem cq_start (w : World) (D L G : Int) : ((w.alloc (.cells #[.int .i64 D, .int .i64 L, .int .i64 G] 23)).alloc (.cells #[.int .i64 0, .slice none 0 0] 27)).heap.size = w.heap.size + 2 ∧ Below w.heap.size w ((w.alloc (.cells #[.int .i64 D, .int .i64 L, .int .i64 G] 23)).alloc (.cells #[.int .i64 0, .slice none 0 0] 27)) :=
  ⟨by simp, ((Below.refl _ w).alloc (Nat.le_refl _) _).alloc (by simp) _⟩
theorem cq_made {w w1 : World} {D L G : Int} (hb : Below ((w.alloc (.cells #[.int .i64 D, .int .i64 L, .int .i64 G] 23)).alloc (.cells #[.int .i64 0, .slice none 0 0] 27)).heap.size ((w.alloc (.cells #[.int .i64 D, .int .i64 L, .int .i64 G] 23)).alloc (.cells #[.int .i64 0, .slice none 0 0] 27)) w1) (rg : Int) (v : Value) : CQ w w1 D L G rg v (w1.alloc (.cells #[.int .i64 rg, v] 27)) := by
  obtain ⟨hz, hb0⟩ := cq_start w D L G
  have hres : ((w.alloc (.cells #[.int .i64 D, .int .i64 L, .int .i64 G] 23)).alloc (.cells #[.int .i64 0, .slice none 0 0] 27)).heap[w.heap.size + 1]? = some (.cells #[.int .i64 0, .slice none 0 0] 27 (0, 0)) := by
    have := World.alloc_heap_new (w.alloc (.cells #[.int .i64 D, .int .i64 L, .int .i64 G] 23)) (.cells #[.int .i64 0, .slice none 0 0] 27)
    rwa [World.size_alloc] at this
  have hpar : ((w.alloc (.cells #[.int .i64 D, .int .i64 L, .int .i64 G] 23)).alloc (.cells #[.int .i64 0, .slice none 0 0] 27)).heap[w.heap.size]? = some (.cells #[.int .i64 D, .int .i64 L, .int .i64 G] 23 (0, 0)) :=
    (((Below.refl _ (w.alloc (.cells #[.int .i64 D, .int .i64 L, .int .i64 G] 23))).alloc (Nat.le_refl _) (.cells #[.int .i64 0, .slice none 0 0] 27)).block w.heap.size (by simp)).trans (World.alloc_heap_new w _)
  rw [hz] at hb
  have hs := hb.size
  have ha := (Below.refl w1.heap.size w1).alloc (Nat.le_refl _) (.cells #[.int .i64 rg, v] 27)
  exact ⟨(ha.block _ (by omega)).trans ((hb.block _ (by omega)).trans hpar), (ha.block _ (by omega)).trans ((hb.block _ (by omega)).trans hres), World.alloc_heap_new w1 _, (hb0.trans (hb.mono (by omega))).trans (ha.mono (by omega)), by simp, by omega, ha⟩
set_option maxRecDepth 100000 in
set_option maxHeartbeats 4000000 in
theorem compiled_wrong (D L G : Int) (lost : Nat) (hr : rightB D L G = false) (w : World) (hg : globalLaid w) :
    Calls Tryd.prog 5 #[.agg #[.int .i64 D, .int .i64 L, .int .i64 G], .int .u64 lost] w fun e w' => e = .returned (.tuple #[.agg #[.int .i64 0, .slice none 0 0], .bool false, .bool false]) ∧ Below w.heap.size w w' := by
  obtain ⟨hz0, hb0⟩ := cq_start w D L G
  go_enter Tryd.func5, Tryd.ntmps5
  go_wp2_with fail
  refine (scompile_wrong D L G lost hr _).mono ?_
  rintro e w1 ⟨rfl, hb1⟩
  have hc1 := cq_made hb1 (0) (.slice none 0 0)
  have HC1 := hide hc1
  clear hc1 hb0
  go_wp2_with fail
  refine (tell_errno 1 _ ((HC1.out.bel.cell (block_lt_of_cell hg)).trans hg)).mono ?_
  rintro e w2 ⟨rfl, hb2⟩
  have hc2 := HC1.out.mono hb2 HC1.out.siz
  obtain ⟨p0, p1, p2⟩ := par_cells hc2.par
  have HC2 := hide hc2
  clear hc2 hb2 HC1
  go_wp2_with fail
  refine (theirs_any D L G _).mono ?_
  rintro e w3 ⟨rfl, hb3⟩
  have hc3 := HC2.out.mono hb3 HC2.out.siz
  have HC3 := hide hc3
  clear hc3 hb3 HC2 p0 p1 p2
  go_wp2_with fail
  refine (rright_any D L G _).mono ?_
  rintro e w4 ⟨rfl, hb4⟩
  have hc4 := (HC3.out.al (.cells #[.int .i64 D, .int .i64 L, .int .i64 G] 32)).mono hb4 (HC3.out.al (.cells #[.int .i64 D, .int .i64 L, .int .i64 G] 32)).siz
  have hl3 := HC3.out.siz
  rw [nblk_alloc] at hb4
  obtain ⟨u0, u1, u2⟩ := box_cells hb4
  have hs4 := hb4.size
  rw [nblk_alloc] at hs4
  have hlo := HC3.out.lo
  obtain ⟨q0, q1, _⟩ := obj_cells hc4.prg
  obtain ⟨z0, z1, zf1, zf0⟩ := obj_cells hc4.res
  have HC4 := hide hc4
  clear hc4 hb4 HC3
  rw [hr]
  have hnn := neq_nil
  have hne : w.heap.size + 1 ≠ w1.heap.size := by omega
  have hne' : w1.heap.size ≠ w.heap.size + 1 := by omega
  go_upto_region 6 with fail
  go_region_held3 (fun w' => w'.cell? ⟨w1.heap.size, 0, none⟩ = some (.int .i64 0) ∧ w'.cell? ⟨w1.heap.size, 1, none⟩ = some (.slice none 0 0)) (first | exact ⟨q0, q1⟩ | go_keep) (fail)
  go_wp2
  obtain ⟨n0, n1, _⟩ := obj_cells (set2b (y' := .slice none 0 0) (set2a (x' := .int .i64 0) HC4.out.res))
  refine bodyPost_ret (v := .tuple #[.agg #[.int .i64 0, .slice none 0 0], .bool false, .bool false]) (by simp [results, Tryd.results5, go_sem, n0, n1]) rfl ?_
  exact ⟨rfl, ((HC4.out.bel.setCell (p := ⟨w.heap.size + 1, 0, none⟩) (by show w.heap.size ≤ w.heap.size + 1; omega) _).setCell (p := ⟨w.heap.size + 1, 1, none⟩) (by show w.heap.size ≤ w.heap.size + 1; omega) _).drew⟩
set_option maxRecDepth 100000 in
set_option maxHeartbeats 4000000 in
theorem compiled_no (D L G lost : Nat) (hr : rightB D L G = true) (hD1 : 1 ≤ D) (hD : D ≤ 12) (hL : 1 ≤ L) (hL4 : L ≤ 4) (hG : G ≤ 4) (hdiv : D % L = 0) (h16 : D + L + G ≤ 16) (hl : lost < 18446744073709551616) (hC : tells (cks D L G) (mems (goneN (D + L + G) lost)) = none) (w : World) (hg : globalLaid w) (hT : tabLaid w) (h2 : 2 ≤ w.heap.size) :
    Calls Tryd.prog 5 #[.agg #[.int .i64 D, .int .i64 L, .int .i64 G], .int .u64 lost] w fun e w' => e = .returned (.tuple #[.agg #[.int .i64 0, .slice none 0 0], .bool false, .bool false]) ∧ Below w.heap.size w w' := by
  obtain ⟨hz0, hb0⟩ := cq_start w D L G
  go_enter Tryd.func5, Tryd.ntmps5
  go_wp2_with fail
  refine (scompile_right D L G lost hr hD1 hD hL hL4 hG hdiv h16 hl _ (hT.mono (by omega) hb0) (by rw [hz0]; omega)).mono ?_
  rintro e w1 ⟨hb1, hcs⟩
  obtain rfl : e = .returned (.tuple #[.agg #[.int .i64 0, .slice none 0 0], .iface 41 (.int .i64 3)]) := by
    rcases hcs with ⟨_, h⟩ | ⟨C', v, hs, _⟩
    · exact h
    · rw [hC] at hs; cases hs
  clear hcs
  have hc1 := cq_made hb1 (0) (.slice none 0 0)
  have HC1 := hide hc1
  clear hc1 hb0
  go_wp2_with fail
  refine (tell_errno 3 _ ((HC1.out.bel.cell (block_lt_of_cell hg)).trans hg)).mono ?_
  rintro e w2 ⟨rfl, hb2⟩
  have hc2 := HC1.out.mono hb2 HC1.out.siz
  obtain ⟨p0, p1, p2⟩ := par_cells hc2.par
  have HC2 := hide hc2
  clear hc2 hb2 HC1
  go_wp2_with fail
  refine (theirs_any D L G _).mono ?_
  rintro e w3 ⟨rfl, hb3⟩
  have hc3 := HC2.out.mono hb3 HC2.out.siz
  have HC3 := hide hc3
  clear hc3 hb3 HC2 p0 p1 p2
  go_wp2_with fail
  refine (rright_any D L G _).mono ?_
  rintro e w4 ⟨rfl, hb4⟩
  have hc4 := (HC3.out.al (.cells #[.int .i64 D, .int .i64 L, .int .i64 G] 32)).mono hb4 (HC3.out.al (.cells #[.int .i64 D, .int .i64 L, .int .i64 G] 32)).siz
  have hl3 := HC3.out.siz
  rw [nblk_alloc] at hb4
  obtain ⟨u0, u1, u2⟩ := box_cells hb4
  have hs4 := hb4.size
  rw [nblk_alloc] at hs4
  have hlo := HC3.out.lo
  obtain ⟨q0, q1, _⟩ := obj_cells hc4.prg
  obtain ⟨z0, z1, zf1, zf0⟩ := obj_cells hc4.res
  have HC4 := hide hc4
  clear hc4 hb4 HC3
  rw [hr]
  clear z0 z1 zf0 zf1 q0 q1
  go_wp2_with fail
  refine (rdecodable_right D L G lost hr hD hL hL4 hG hdiv hl _).mono ?_
  rintro e w5 ⟨r, rfl, hrt, hb5⟩
  have hrf : r = false := by
    cases r
    · rfl
    · obtain ⟨C, h⟩ := (told_tells hD hG h16).1 (hrt.1 rfl)
      rw [hC] at h; cases h
  subst hrf
  have HC4 : Hid (CQ w w1 D L G 0 (.slice none 0 0) w5) := hide (HC4.out.mono hb5 HC4.out.siz)
  obtain ⟨q0, q1, _⟩ := obj_cells HC4.out.prg
  obtain ⟨z0, z1, zf1, zf0⟩ := obj_cells HC4.out.res
  clear hrt hb5 u0 u1 u2
  have hnn := neq_nil
  have hne : w.heap.size + 1 ≠ w1.heap.size := by omega
  have hne' : w1.heap.size ≠ w.heap.size + 1 := by omega
  go_upto_region 9 with fail
  go_region_held3 (fun w' => w'.cell? ⟨w1.heap.size, 0, none⟩ = some (.int .i64 0) ∧ w'.cell? ⟨w1.heap.size, 1, none⟩ = some (.slice none 0 0)) (first | exact ⟨q0, q1⟩ | go_keep) (fail)
  go_wp2
  obtain ⟨n0, n1, _⟩ := obj_cells (set2b (y' := .slice none 0 0) (set2a (x' := .int .i64 0) HC4.out.res))
  refine bodyPost_ret (v := .tuple #[.agg #[.int .i64 0, .slice none 0 0], .bool false, .bool false]) (by simp [results, Tryd.results5, go_sem, n0, n1]) rfl ?_
  exact ⟨rfl, ((HC4.out.bel.setCell (p := ⟨w.heap.size + 1, 0, none⟩) (by show w.heap.size ≤ w.heap.size + 1; omega) _).setCell (p := ⟨w.heap.size + 1, 1, none⟩) (by show w.heap.size ≤ w.heap.size + 1; omega) _).drew⟩
set_option maxRecDepth 100000 in
set_option maxHeartbeats 8000000 in
theorem compiled_yes (D L G lost : Nat) (hr : rightB D L G = true) (hD1 : 1 ≤ D) (hD : D ≤ 12) (hL : 1 ≤ L) (hL4 : L ≤ 4) (hG : G ≤ 4) (hdiv : D % L = 0) (h16 : D + L + G ≤ 16) (hl : lost < 18446744073709551616) (C : Ck) (hC : tells (cks D L G) (mems (goneN (D + L + G) lost)) = some C) (w : World) (hT : tabLaid w) (h2 : 2 ≤ w.heap.size) :
    Calls Tryd.prog 5 #[.agg #[.int .i64 D, .int .i64 L, .int .i64 G], .int .u64 lost] w fun e w' => ∃ ao m cc, e = .returned (.tuple #[.agg #[.int .i64 (1 + ((mems (goneN (D + L + G) lost)).length : Int)), .slice ao m cc], .bool true, .bool false]) ∧ Ps .u8 w' (.slice ao m cc) (cmpP D L G lost C) ∧ Below w.heap.size w w' := by
  have hplan : (fewestS 8 C (keptN (D + L + G) lost)).1.told ≤ 8 := by
    have hp := (plan_of hD hG hC).1
    have h1 := hp.le
    have h2 := hp.most
    omega
  have HP : Hid ((cmpP D L G lost C).length ≤ 160) := hide (wr_len _ _ hplan)
  have hok : okProg (1 + ((mems (goneN (D + L + G) lost)).length : Int)) (cmpP D L G lost C) ((D + L + G : Nat) : Int) := wr_ok (plan_of hD hG hC).1.told hplan (fun i hi => ((mem_kept h16).1 hi).1) (fun i hi => ((mem_gone h16).1 hi).1)
  obtain ⟨S, hS, hbit, hSlt⟩ := ld_all (fewestS 8 C (keptN (D + L + G) lost)).1 (goneN (D + L + G) lost) (keptN (D + L + G) lost)
  have hSg : S &&& goneN (D + L + G) lost = 0 := by
    apply Nat.eq_of_testBit_eq
    intro i
    rw [Nat.testBit_and, hbit, goneN_bit, Nat.zero_testBit]
    by_cases hk : i ∈ mems (keptN (D + L + G) lost)
    · simp [((mem_kept h16).1 hk).2]
    · simp [hk]
  have hand := and_u64 S (goneN (D + L + G) lost) (by omega) (by have := goneN_lt lost h16; omega)
  rw [hSg] at hand
  have HS := hide hS
  have HTW : Hid (Told D L G lost) := hide ((told_tells hD hG h16).2 ⟨C, hC⟩)
  obtain ⟨R, hR⟩ : ∃ R : Int, 1 + ((mems (goneN (D + L + G) lost)).length : Int) = R := ⟨_, rfl⟩
  rw [hR]
  rw [hR] at hok
  clear hbit hSg hplan hS
  obtain ⟨hz0, hb0⟩ := cq_start w D L G
  go_enter Tryd.func5, Tryd.ntmps5
  go_wp2_with fail
  refine (scompile_right D L G lost hr hD1 hD hL hL4 hG hdiv h16 hl _ (hT.mono (by omega) hb0) (by rw [hz0]; omega)).mono ?_
  rintro e w1 ⟨hb1, hcs⟩
  obtain ⟨v, rfl, how⟩ : ∃ v, e = .returned (.tuple #[.agg #[.int .i64 R, v], .nilIface]) ∧ w1.ownsRow ((w.alloc (.cells #[.int .i64 D, .int .i64 L, .int .i64 G] 23)).alloc (.cells #[.int .i64 0, .slice none 0 0] 27)).heap.size 50 4 v (cmpP D L G lost C).length (stcs .u8 (cmpP D L G lost C)) := by
    rcases hcs with ⟨hno, _⟩ | ⟨C', v, hs, h1, h2⟩
    · rw [hC] at hno; cases hno
    · rw [hC] at hs
      obtain rfl := Option.some.inj hs
      rw [hR] at h1
      exact ⟨v, h1, h2⟩
  have hps : Ps .u8 w1 v (cmpP D L G lost C) := owns_ps how (by have := HP.out; omega)
  obtain ⟨ao, m, cc, rfl⟩ : ∃ ao m cc, v = .slice ao m cc := by
    rcases how.2 with ⟨rfl, _⟩ | ⟨g, cap, cur, rfl, _⟩
    · exact ⟨_, _, _, rfl⟩
    · exact ⟨_, _, _, rfl⟩
  have HPS := hide hps
  rw [hz0] at how
  have HOW := hide how
  clear how hps hcs
  have hc1 := cq_made hb1 (R) (.slice ao m cc)
  have HC1 := hide hc1
  clear hc1 hb0
  go_wp2_with fail
  refine (tell_nil _).mono ?_
  rintro e w2 ⟨rfl, hb2⟩
  have hc2 := HC1.out.mono hb2 HC1.out.siz
  obtain ⟨p0, p1, p2⟩ := par_cells hc2.par
  have HC2 := hide hc2
  clear hc2 hb2 HC1
  go_wp2_with fail
  refine (theirs_any D L G _).mono ?_
  rintro e w3 ⟨rfl, hb3⟩
  have hc3 := HC2.out.mono hb3 HC2.out.siz
  have HC3 := hide hc3
  clear hc3 hb3 HC2 p0 p1 p2
  go_wp2_with fail
  refine (rright_any D L G _).mono ?_
  rintro e w4 ⟨rfl, hb4⟩
  have hc4 := (HC3.out.al (.cells #[.int .i64 D, .int .i64 L, .int .i64 G] 32)).mono hb4 (HC3.out.al (.cells #[.int .i64 D, .int .i64 L, .int .i64 G] 32)).siz
  have hl3 := HC3.out.siz
  rw [nblk_alloc] at hb4
  obtain ⟨u0, u1, u2⟩ := box_cells hb4
  have hs4 := hb4.size
  rw [nblk_alloc] at hs4
  have hlo := HC3.out.lo
  obtain ⟨q0, q1, _⟩ := obj_cells hc4.prg
  obtain ⟨z0, z1, zf1, zf0⟩ := obj_cells hc4.res
  have HC4 := hide hc4
  clear hc4 hb4 HC3
  rw [hr]
  clear z0 z1 zf0 zf1 q0 q1
  go_wp2_with fail
  refine (rdecodable_right D L G lost hr hD hL hL4 hG hdiv hl _).mono ?_
  rintro e w5 ⟨r, rfl, hrt, hb5⟩
  have hrf : r = true := hrt.2 HTW.out
  subst hrf
  have hs5 := hb5.size
  have HC5 : Hid (CQ w w1 D L G R (.slice ao m cc) w5) := hide (HC4.out.mono hb5 HC4.out.siz)
  obtain ⟨q0, q1, _⟩ := obj_cells HC5.out.prg
  have hl1 := HC5.out.siz
  have u0 := (hb5.cell (p := ⟨w3.heap.size, 0, none⟩) (by show w3.heap.size < _; omega)).trans u0
  have u1 := (hb5.cell (p := ⟨w3.heap.size, 1, none⟩) (by show w3.heap.size < _; omega)).trans u1
  have u2 := (hb5.cell (p := ⟨w3.heap.size, 2, none⟩) (by show w3.heap.size < _; omega)).trans u2
  obtain ⟨n, hn⟩ : ∃ n : Nat, n = D + L + G := ⟨_, rfl⟩
  have hshd : ∀ W, Calls Tryd.prog 12 #[.agg #[.int .i64 (D : Int), .int .i64 (L : Int), .int .i64 (G : Int)]] W fun e W' => e = .returned (.int .i64 (n : Int)) ∧ Below W.heap.size W W' := by
    intro W
    refine (rshards_any D L G W (by omega) (by omega) (by omega)).mono ?_
    rintro e W' ⟨rfl, hb⟩
    exact ⟨by rw [hn]; rfl, hb⟩
  have hchk : ∀ W, Below w5.heap.size w5 W → Calls Tryd.prog 14 #[.agg #[.int .i64 R, .slice ao m cc], .int .i64 (n : Int)] W fun e W' => e = .returned .nilIface ∧ Below W.heap.size W W' := by
    intro W hbW
    refine (scheck_any R n _ (cmpP D L G lost C) W (HPS.out.mono (HC5.out.frm.trans (hbW.mono (by omega))))).mono ?_
    rintro e W' ⟨h1, _, hb⟩
    exact ⟨h1 (by rw [hn]; exact hok), hb⟩
  rw [← hn] at hand
  have hn16 : n ≤ 16 := by omega
  have HN := hide hn
  clear hrt hb5 HC4 hok HTW hn
  go_upto_region 10 with fail
  go_cut [13] from 63 to 66 (fun v wx => v = .nilIface ∧ Below w5.heap.size w5 wx)
  case first =>
    go_region_with (first
      | (go_at_call 12; refine (hshd _).mono ?_; rintro e wc ⟨rfl, hbc⟩; have hb5c : Below w5.heap.size w5 wc := ((Below.refl _ w5).drew).trans hbc; have q07 := (hb5c.cell (p := ⟨w1.heap.size, 0, none⟩) hl1).trans q0; have q17 := (hb5c.cell (p := ⟨w1.heap.size, 1, none⟩) hl1).trans q1)
      | (go_at_call 14; refine (hchk _ hb5c).mono ?_; rintro e wd ⟨rfl, hbd⟩))
    all_goals (go_wp2_with fail; go_meet; case rel => exact ⟨rfl, hb5c.trans (hbd.mono hb5c.size)⟩)
  case rest =>
    obtain ⟨rfl, hb6⟩ := hcut
    rename World => w6
    have hs6 := hb6.size
    have HC6 : Hid (CQ w w1 D L G R (.slice ao m cc) w6) := hide (HC5.out.mono hb6 hl1)
    obtain ⟨q0, q1, _⟩ := obj_cells HC6.out.prg
    have u0 := (hb6.cell (p := ⟨w3.heap.size, 0, none⟩) (by show w3.heap.size < _; omega)).trans u0
    have u1 := (hb6.cell (p := ⟨w3.heap.size, 1, none⟩) (by show w3.heap.size < _; omega)).trans u1
    have u2 := (hb6.cell (p := ⟨w3.heap.size, 2, none⟩) (by show w3.heap.size < _; omega)).trans u2
    have hla := loaded_any R (.slice ao m cc) (cmpP D L G lost C) w6 (HPS.out.mono HC6.out.frm) (by have := HP.out; omega) (fun t ht => wr_kind ht)
    rw [show ldAll (cmpP D L G lost C) = (S, _, false) from HS.out] at hla
    simp only at hla
    generalize cntR (mems (keptN (D + L + G) lost)) (fewestS 8 C (keptN (D + L + G) lost)).1 = q at hla
    clear HC5 hb6 hchk
    go_wp2_with fail
    refine hla.mono ?_
    clear hla
    rintro e w7 ⟨rfl, hb7⟩
    have hs7 := hb7.size
    have HC7 : Hid (CQ w w1 D L G R (.slice ao m cc) w7) := hide (HC6.out.mono hb7 HC6.out.siz)
    have u0 := (hb7.cell (p := ⟨w3.heap.size, 0, none⟩) (by show w3.heap.size < _; omega)).trans u0
    have u1 := (hb7.cell (p := ⟨w3.heap.size, 1, none⟩) (by show w3.heap.size < _; omega)).trans u1
    have u2 := (hb7.cell (p := ⟨w3.heap.size, 2, none⟩) (by show w3.heap.size < _; omega)).trans u2
    clear q0 q1 hb7 HC6
    go_wp2_with fail
    refine (hshd _).mono ?_
    rintro e w8 ⟨rfl, hb8⟩
    have HC8 : Hid (CQ w w1 D L G R (.slice ao m cc) w8) := hide (HC7.out.mono hb8 HC7.out.siz)
    obtain ⟨q0, q1, _⟩ := obj_cells HC8.out.prg
    obtain ⟨z0, z1, zf1, zf0⟩ := obj_cells HC8.out.res
    have hsl : IntKind.u64.wrap ((2 : Int) ^ n) = (pw n : Int) := shl_u64 n (by omega)
    have hpk := pw_key n hn16
    have hgk := gone_key lost n hl hn16
    have hn64 : (n : Int) < 64 := by omega
    have hne : w.heap.size + 1 ≠ w1.heap.size := by omega
    have hne' : w1.heap.size ≠ w.heap.size + 1 := by omega
    have hl8 := HC8.out.siz
    clear hb8 HC7 u0 u1 u2 hshd
    go_upto_region 14 with fail
    go_region_held3 (fun w' => w'.cell? ⟨w1.heap.size, 0, none⟩ = some (.int .i64 R) ∧ w'.cell? ⟨w1.heap.size, 1, none⟩ = some (.slice ao m cc)) (first | exact ⟨q0, q1⟩ | exact ⟨qb0, qb1⟩ | go_keep) ((go_at_call 11; refine (tell_nil _).mono ?_; rintro e wb ⟨rfl, hbb⟩; have hb8b : Below w8.heap.size w8 wb := ((Below.refl _ w8).drew).trans hbb; have qb0 := (hb8b.cell (p := ⟨w1.heap.size, 0, none⟩) hl8).trans q0; have qb1 := (hb8b.cell (p := ⟨w1.heap.size, 1, none⟩) hl8).trans q1; have hcb := HC8.out.mono hb8b hl8; obtain ⟨zb0, zb1, zbf1, zbf0⟩ := obj_cells hcb.res))
    go_wp2
    have how := ownsRow_below HOW.out hcb.frm
    obtain ⟨n0, n1, _⟩ := obj_cells (set2b (y' := .slice ao m cc) (set2a (x' := .int .i64 R) hcb.res))
    have h7ne : (Value.slice ao m cc).ownBlock ≠ some (w.heap.size + 1) := fun e => by have := own_from how e; omega
    have how2 := (how.kept (grown_set' wb (w.heap.size + 1) 0 (.int .i64 R)) (.inr h7ne)).kept (grown_set' _ (w.heap.size + 1) 1 (.slice ao m cc)) (.inr h7ne)
    refine bodyPost_ret (v := .tuple #[.agg #[.int .i64 R, .slice ao m cc], .bool true, .bool false]) (by simp [results, Tryd.results5, go_sem, n0, n1]) rfl ?_
    exact ⟨ao, m, cc, rfl, owns_ps how2 (by have := HP.out; omega), (hcb.bel.setCell (p := ⟨w.heap.size + 1, 0, none⟩) (by show w.heap.size ≤ w.heap.size + 1; omega) _).setCell (p := ⟨w.heap.size + 1, 1, none⟩) (by show w.heap.size ≤ w.heap.size + 1; omega) _⟩
end Go.Proofs.YthhommjlomphdabDoor
/-
  The law that no program loads fewer.
-/
namespace Go.Proofs.YthhommjlomphdabDoor
open Go.RowKit Go.Deep Gf

attribute [local go_sem] Oper.semAt_some
set_option maxRecDepth 100000 in
set_option maxHeartbeats 1000000 in
theorem least_none (D L G : Int) (lost : Nat) (w : World)
    (hc : Calls Tryd.prog 5 #[.agg #[.int .i64 D, .int .i64 L, .int .i64 G], .int .u64 lost] (w.alloc (.cells #[.int .i64 D, .int .i64 L, .int .i64 G] 23)) fun e w' => e = .returned (.tuple #[.agg #[.int .i64 0, .slice none 0 0], .bool false, .bool false]) ∧ Below (w.alloc (.cells #[.int .i64 D, .int .i64 L, .int .i64 G] 23)).heap.size (w.alloc (.cells #[.int .i64 D, .int .i64 L, .int .i64 G] 23)) w') :
    Calls Tryd.prog 3 #[.agg #[.int .i64 D, .int .i64 L, .int .i64 G], .int .u64 lost] w fun e w' => e = .returned (.bool true) ∧ Below w.heap.size w w' := by
  go_enter Tryd.func3, Tryd.ntmps3
  go_wp2_with fail
  refine hc.mono ?_
  rintro e w1 ⟨rfl, hb1⟩
  rw [nblk_alloc] at hb1
  have hs1 := hb1.size
  rw [nblk_alloc] at hs1
  have hbw1 : Below w.heap.size w w1 := ((Below.refl _ _).alloc (Nat.le_refl _) _).trans (hb1.mono (by omega))
  clear hb1 hc
  go_wp2
  go_ret
  exact ⟨rfl, hbw1.alloc (by omega) _⟩
set_option maxRecDepth 100000 in
set_option maxHeartbeats 2000000 in
theorem least_some (D L G lost : Nat) (hr : rightB D L G = true) (hD1 : 1 ≤ D) (hD : D ≤ 12) (hL : 1 ≤ L) (hL4 : L ≤ 4) (hG : G ≤ 4) (hdiv : D % L = 0) (h16 : D + L + G ≤ 16) (hl : lost < 18446744073709551616) (C : Ck) (hC : tells (cks D L G) (mems (goneN (D + L + G) lost)) = some C) (w : World) (hT : tabLaid w) (h2 : 2 ≤ w.heap.size) :
    Calls Tryd.prog 3 #[.agg #[.int .i64 D, .int .i64 L, .int .i64 G], .int .u64 lost] w fun e w' => e = .returned (.bool true) ∧ Below w.heap.size w w' := by
  have hb0 : Below w.heap.size w (w.alloc (.cells #[.int .i64 D, .int .i64 L, .int .i64 G] 23)) := (Below.refl _ _).alloc (Nat.le_refl _) _
  have hc := compiled_yes D L G lost hr hD1 hD hL hL4 hG hdiv h16 hl C hC _ (hT.mono (by omega) hb0) (by rw [nblk_alloc]; omega)
  have hplan : (fewestS 8 C (keptN (D + L + G) lost)).1.told ≤ 8 := by
    have hp := (plan_of hD hG hC).1
    have h1 := hp.le
    have h2 := hp.most
    omega
  have HP : Hid ((cmpP D L G lost C).length ≤ 160) := hide (wr_len _ _ hplan)
  obtain ⟨S, hS, _, _⟩ := ld_all (fewestS 8 C (keptN (D + L + G) lost)).1 (goneN (D + L + G) lost) (keptN (D + L + G) lost)
  obtain ⟨S', hup⟩ := least_up hD hG h16 hC
  have hq16 : cntOf D L G lost C ≤ 16 := Nat.le_trans (List.length_filter_le _ _) (Nat.le_trans (List.length_filter_le _ _) (by simp))
  have hls := fun W => rleast_any D L G lost (cntOf D L G lost C) S' hr hD1 hD hL hL4 hG hdiv h16 hl hq16 hup (fun s h1 h2 => least_low hD hL4 hG h16 hC h1 h2) W
  have HS : Hid (ldAll (cmpP D L G lost C) = (S, cntOf D L G lost C, false)) := hide hS
  generalize cntOf D L G lost C = q at *
  clear hS hplan hup hb0
  go_enter Tryd.func3, Tryd.ntmps3
  go_wp2_with fail
  refine hc.mono ?_
  rintro e w1 ⟨ao, m, cc, rfl, hps, hb1⟩
  rw [nblk_alloc] at hb1
  have hs1 := hb1.size
  rw [nblk_alloc] at hs1
  obtain ⟨p0, p1, p2⟩ := box_cells hb1
  have hbw1 : Below w.heap.size w w1 := ((Below.refl _ _).alloc (Nat.le_refl _) _).trans (hb1.mono (by omega))
  generalize 1 + ((mems (goneN (D + L + G) lost)).length : Int) = R
  have ha := (Below.refl w1.heap.size w1).alloc (Nat.le_refl _) (.cells #[.int .i64 R, .slice ao m cc] 27)
  have hla := loaded_any R (.slice ao m cc) (cmpP D L G lost C) _ (hps.mono ha) (by have := HP.out; omega) (fun t ht => wr_kind ht)
  rw [HS.out] at hla
  simp only at hla
  have HA := hide ha
  clear hb1 hc hps ha
  go_wp2_with fail
  refine hla.mono ?_
  clear hla
  rintro e w2 ⟨rfl, hb2⟩
  rw [nblk_alloc] at hb2
  have hb12 : Below w1.heap.size w1 w2 := HA.out.trans (hb2.mono (by omega))
  have hs2 := hb12.size
  have p0 := (hb12.cell (p := ⟨w.heap.size, 0, none⟩) (by show w.heap.size < _; omega)).trans p0
  have p1 := (hb12.cell (p := ⟨w.heap.size, 1, none⟩) (by show w.heap.size < _; omega)).trans p1
  have p2 := (hb12.cell (p := ⟨w.heap.size, 2, none⟩) (by show w.heap.size < _; omega)).trans p2
  have hbw2 := hbw1.trans (hb12.mono (by omega))
  clear hb2 hb12 HA hbw1
  go_wp2_with fail
  refine (theirs_any D L G _).mono ?_
  rintro e w3 ⟨rfl, hb3⟩
  have hs3 := hb3.size
  have hbw3 := hbw2.trans (hb3.mono (by omega))
  clear hb3 hbw2 p0 p1 p2
  go_wp2_with fail
  refine (hls _).mono ?_
  rintro e w4 ⟨rfl, hb4⟩
  rw [nblk_alloc] at hb4
  have hbw4 := (hbw3.alloc (by omega) (.cells #[.int .i64 D, .int .i64 L, .int .i64 G] 32)).trans (hb4.mono (by omega))
  clear hb4 hls
  go_wp2
  go_ret
  exact ⟨rfl, hbw4⟩
theorem least_any (D L G : Int) (lost : Nat) (hl : lost < 18446744073709551616) (w : World) (hg : globalLaid w) (hT : tabLaid w) (h2 : 2 ≤ w.heap.size) :
    Calls Tryd.prog 3 #[.agg #[.int .i64 D, .int .i64 L, .int .i64 G], .int .u64 lost] w fun e w' => e = .returned (.bool true) ∧ Below w.heap.size w w' := by
  have hb0 : Below w.heap.size w (w.alloc (.cells #[.int .i64 D, .int .i64 L, .int .i64 G] 23)) := (Below.refl _ _).alloc (Nat.le_refl _) _
  have hg0 : globalLaid (w.alloc (.cells #[.int .i64 D, .int .i64 L, .int .i64 G] 23)) := (hb0.cell (block_lt_of_cell hg)).trans hg
  have hT0 := hT.mono (by omega) hb0
  have h20 : 2 ≤ (w.alloc (.cells #[.int .i64 D, .int .i64 L, .int .i64 G] 23)).heap.size := by rw [nblk_alloc]; omega
  cases hr : rightB D L G with
  | false => exact least_none D L G lost w (compiled_wrong D L G lost hr _ hg0)
  | true =>
    obtain ⟨d, l, g, rfl, rfl, rfl, h1, h3, h4, h5, h6, h7, h8⟩ := right_nats hr
    cases hC : tells (cks d l g) (mems (goneN (d + l + g) lost)) with
    | none => exact least_none d l g lost w (compiled_no d l g lost hr h1 h3 h4 h5 h6 h7 h8 hl hC _ hg0 hT0 h20)
    | some C => exact least_some d l g lost hr h1 h3 h4 h5 h6 h7 h8 hl C hC w hT h2
end Go.Proofs.YthhommjlomphdabDoor
/-
  Two package-level variables: the one that errors.As reads, and the table that math/bits reads.
-/
namespace Go.Proofs.YthhommjlomphdabDoor
open Go.ChangeShapes Go.WideShapes Go.RowKit

abbrev laids : List (String × DataW Unit) := [("math/bits.deBruijn64tab", Rows.laid_math_bits_deBruijn64tab), ("errors.errorType", Rows.laid_errors_errorType)]
/-- the table's numbers -/
def tabZ : List Int := (List.range 64).map fun j => ((Lib.deBruijn64tab.getD j 0 : Nat) : Int)
theorem Tryd.bt : Tryd.prog.globalNamed "math/bits.deBruijn64tab" = some 1 := by kernel_rfl
theorem Tryd.btType : (Tryd.prog.globals[1]?).map (·.type) = some 120 := by kernel_rfl
theorem Tryd.btCells : Tryd.prog.cellsOf 120 = 64 := by kernel_rfl
theorem Tryd.byteCells : Tryd.prog.cellsOf 5 = 1 := by kernel_rfl
theorem tab_data : (Rows.laid_math_bits_deBruijn64tab : DataW Unit) = Lib.tabData .u8 tabZ := by rfl
theorem both_of_laid {W : World} (h : laidMetH Tryd.prog laids W) : globalLaid W ∧ tabLaid W ∧ 2 ≤ W.heap.size := by
  have h' : laidMet Tryd.prog [("math/bits.deBruijn64tab", Rows.laid_math_bits_deBruijn64tab)] W ∧ handlesMet Tryd.prog [("errors.errorType", Rows.laid_errors_errorType)] W := h
  have hg : globalLaid W := handle_of_laid (show laidMetH Tryd.prog [("errors.errorType", Rows.laid_errors_errorType)] W from ⟨⟨[], rfl, List.nodup_nil, fun b off hb => by cases hb⟩, h'.2⟩)
  have hd := h'.1
  rw [tab_data] at hd
  have ht := Lib.tabIs_of_head Tryd.bt Tryd.btType Tryd.underlying120 Tryd.underlying5 Tryd.byteCells Tryd.btCells hd
  have htl : tabLaid W := fun j hj => by
    have := ht.cell Tryd.bt j (by simpa [tabZ] using hj)
    rw [this]
    unfold tabZ
    simp [hj]
  refine ⟨hg, htl, ?_⟩
  have := block_lt_of_cell (htl 0 (by decide))
  exact this
/-- a world that meets it -/
noncomputable def laidWorld (os : Os) : World :=
  { World.holding Tryd.prog os ⟨#[], #[], []⟩ with heap := ((World.holding Tryd.prog os ⟨#[], #[], []⟩).heap.modify 0 fun | .cells _ t frozen => .cells #[.iface 99 (.agg #[.pointer (some ⟨2, 38, none⟩)])] t frozen | o => o).modify 1 fun | .cells _ t frozen => .cells (tabZ.map fun z => Value.int .u8 z).toArray t frozen | o => o }
theorem laidWorld2_met (os : Os) (args : Array Value) : laidMetH Tryd.prog laids ((laidWorld os).forCall (fun _ _ => 0) ⟨#[], args, []⟩).memory :=
  laidMetH_of_parts (laidMet_of_run' 8 (by kernel_rfl) (by kernel_rfl)) (by kernel_rfl)
end Go.Proofs.YthhommjlomphdabDoor
