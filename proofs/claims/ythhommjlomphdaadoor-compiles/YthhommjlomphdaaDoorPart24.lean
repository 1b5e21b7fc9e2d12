import Derived.Test.YthhommjlomphdaaDoorPart22
import Derived.Test.YthhommjlomphdaaDoorPart17
import Derived.Test.YthhommjlomphdaaDoorPart23
import Derived.Test.YthhommjlomphdaaDoorPart08
import Derived.Lib.SliceRun
import Derived.Deep.RegionHeld3
import Derived.Deep.Cut
import Derived.Deep.CutRange
import Derived.Test.YthhommjlomphdaaDoorPart15
/-
  The law Checks: its walk.
-/
namespace Go.Proofs.YthhommjlomphdaaDoor
open Go.RowKit Go.Deep

set_option maxRecDepth 100000 in
set_option maxHeartbeats 1000000 in
theorem scheck_any (regs shards : Int) (v : Value) (P : List St) (w : World) (h : Ps .u8 w v P) :
    Calls Tryd.prog 23 #[.agg #[.int .i64 regs, v], .int .i64 shards] w fun r w' => ChPost regs P shards w r w' := by
  have hb0 : Below w.heap.size w (w.alloc (.cells #[.int .i64 regs, v] 49)) := (Below.refl _ _).alloc (Nat.le_refl _) _
  have h0 := h.mono hb0
  obtain ⟨ao, c, rfl⟩ := h.slice
  clear h
  go_enter Tryd.func23, Tryd.ntmps23
  go_wp2_with fail
  refine (check_any regs shards _ P _ h0).mono ?_
  rintro r w1 ⟨h1, h2, hb1⟩
  rw [nblk_alloc] at hb1
  have hbw := hb0.trans (hb1.mono (by omega))
  by_cases hp : okProg regs P shards
  · obtain rfl := h1 hp
    have HP := hide hp
    clear h1 h2 hp
    go_wp2
    go_ret
    exact ⟨fun _ => rfl, fun h => absurd HP.out h, hbw⟩
  · obtain rfl := h2 hp
    have HP := hide hp
    clear h1 h2 hp
    go_wp2
    go_ret
    exact ⟨fun h => absurd h HP.out, fun _ => rfl, hbw⟩
set_option maxRecDepth 100000 in
set_option maxHeartbeats 1000000 in
theorem checks_big (regs shards : Int) (ao : Option Addr) (len cap : Nat) (w : World) (hbig : 5000 < len) :
    Calls Tryd.prog 6 #[.agg #[.int .i64 regs, .slice ao len cap], .int .i64 shards] w fun e w' => e = .returned (.bool true) ∧ Below w.heap.size w w' := by
  go_enter Tryd.func6, Tryd.ntmps6
  have hb2 : (5000 : Int) < (len : Int) := by omega
  go_wp2
  go_ret
  exact ⟨rfl, (Below.refl _ _).alloc (Nat.le_refl _) _⟩
set_option maxRecDepth 100000 in
set_option maxHeartbeats 4000000 in
theorem checks_fit (regs shards : Int) (v : Value) (P : List St) (w : World) (h : Ps .u8 w v P) (hl : P.length ≤ 5000) (hP : ∀ s ∈ P, okInts s) (hg : globalLaid w) :
    Calls Tryd.prog 6 #[.agg #[.int .i64 regs, v], .int .i64 shards] w fun e w' => e = .returned (.bool true) ∧ Below w.heap.size w w' := by
  have hlt0 : 0 < w.heap.size := block_lt_of_cell hg
  have hb0 : Below w.heap.size w (w.alloc (.cells #[.int .i64 regs, v] 49)) := (Below.refl _ _).alloc (Nat.le_refl _) _
  have hP2 : ∀ s ∈ P, s.k < 256 := fun s hs => (hP s hs).1
  have HP := hide hP2
  have H := hide h
  have h0 := h.mono hb0
  obtain ⟨ao, c, rfl⟩ := h.slice
  clear h hP hP2
  have hlI : ¬ (5000 : Int) < (P.length : Int) := by omega
  go_enter Tryd.func6, Tryd.ntmps6
  go_wp2_with fail
  refine (scheck_any regs shards _ P _ h0).mono ?_
  rintro r w1 ⟨h1, h2, hb1⟩
  rw [nblk_alloc] at hb1
  obtain ⟨p0, p1⟩ := box2 hb1 rfl
  have hs1 := hb1.size
  rw [nblk_alloc] at hs1
  have hbw1 := hb0.trans (hb1.mono (by omega))
  have hg1 : globalLaid w1 := by
    unfold globalLaid at *
    rw [hbw1.cell hlt0]; exact hg
  by_cases hp : okProg regs P shards
  · obtain rfl := h1 hp
    have HPR := hide hp
    clear h1 h2 hp hb1 h0 hb0
    go_wp2_with fail
    refine (tell_nil _).mono ?_
    rintro e w2 ⟨rfl, hb2⟩
    have hs2 := hb2.size
    have q0 := (hb2.cell (block_lt_of_cell p0)).trans p0
    have q1 := (hb2.cell (block_lt_of_cell p1)).trans p1
    have hbw2 := hbw1.trans (hb2.mono (by omega))
    clear hb2 p0 p1 hbw1
    go_wp2_with fail
    refine (program_any regs _ P _ (H.out.mono hbw2) hl HP.out).mono ?_
    rintro e w3 ⟨v3, rfl, hv3, hb3⟩
    have hs3 := hb3.size
    have hbw3 := hbw2.trans (hb3.mono (by omega))
    obtain ⟨a3, c3, rfl⟩ := hv3.slice
    have H3 := hide hv3
    have hbw4 := hbw3.alloc (by omega) (.cells #[.int .i64 regs, .slice a3 P.length c3] 53)
    clear hv3 q0 q1 hb3 hbw2
    go_wp2_with fail
    refine (rcheck_any regs shards _ P _ (H3.out.mono ((Below.refl _ _).alloc (Nat.le_refl _) _))).mono ?_
    rintro e w5 ⟨h5, _, hb5⟩
    obtain rfl := h5 HPR.out
    rw [nblk_alloc] at hb5
    have hbw5 := hbw4.trans (hb5.mono (by omega))
    clear h5 hb5
    go_wp2_with (go_at_call 15; refine (num_any _ _).mono ?_; rintro e w' ⟨rfl, rfl⟩)
    go_ret
    exact ⟨rfl, hbw5⟩
  · obtain rfl := h2 hp
    have HPR := hide hp
    clear h1 h2 hp hb1 h0 hb0
    go_wp2_with fail
    refine (tell_errno 4 _ hg1).mono ?_
    rintro e w2 ⟨rfl, hb2⟩
    have hs2 := hb2.size
    have q0 := (hb2.cell (block_lt_of_cell p0)).trans p0
    have q1 := (hb2.cell (block_lt_of_cell p1)).trans p1
    have hbw2 := hbw1.trans (hb2.mono (by omega))
    clear hb2 p0 p1 hbw1
    go_wp2_with fail
    refine (program_any regs _ P _ (H.out.mono hbw2) hl HP.out).mono ?_
    rintro e w3 ⟨v3, rfl, hv3, hb3⟩
    have hs3 := hb3.size
    have hbw3 := hbw2.trans (hb3.mono (by omega))
    obtain ⟨a3, c3, rfl⟩ := hv3.slice
    have H3 := hide hv3
    have hbw4 := hbw3.alloc (by omega) (.cells #[.int .i64 regs, .slice a3 P.length c3] 53)
    clear hv3 q0 q1 hb3 hbw2
    go_wp2_with fail
    refine (rcheck_any regs shards _ P _ (H3.out.mono ((Below.refl _ _).alloc (Nat.le_refl _) _))).mono ?_
    rintro e w5 ⟨_, h5, hb5⟩
    obtain rfl := h5 HPR.out
    rw [nblk_alloc] at hb5
    have hbw5 := hbw4.trans (hb5.mono (by omega))
    clear h5 hb5
    go_wp2_with (go_at_call 15; refine (num_any _ _).mono ?_; rintro e w' ⟨rfl, rfl⟩)
    go_ret
    exact ⟨rfl, hbw5⟩
end Go.Proofs.YthhommjlomphdaaDoor
/-
  The law's word 'compiled'. (Written by a small program: its three cases share their beginning.)
-/
namespace Go.Proofs.YthhommjlomphdaaDoor
open Go.RowKit Go.Deep Gf

attribute [local go_sem] Oper.semAt_some
theorem neq_nil (wx : World) : (binOp .neq 47 (.slice none 0 0) (.slice none 0 0)).run Tryd.prog wx = .ok (.bool false) wx := by
  simp only [binOp]
  simp [Op.equal, Op.maxDepth, Lib.run_equalIn_slice_nil wx 9999 47 92 none 0 0 0 0 Tryd.underlying47]
/-- the params, the result and the program, where the walk has laid them -/
structure CQ (w w1 : World) (D L G rg : Int) (v : Value) (X : World) : Prop where
  par : X.heap[w.heap.size]? = some (.cells #[.int .i64 D, .int .i64 L, .int .i64 G] 23 (0, 0))
  res : X.heap[w.heap.size + 1]? = some (.cells #[.int .i64 0, .slice none 0 0] 49 (0, 0))
  prg : X.heap[w1.heap.size]? = some (.cells #[.int .i64 rg, v] 49 (0, 0))
  bel : Below w.heap.size w X
  siz : w1.heap.size < X.heap.size
  lo : w.heap.size + 2 ≤ w1.heap.size
  frm : Below w1.heap.size w1 X
theorem CQ.mono {w w1 X Y : World} {B : Nat} {D L G rg : Int} {v : Value} (h : CQ w w1 D L G rg v X) (hb : Below B X Y) (hB : w1.heap.size < B) : CQ w w1 D L G rg v Y := by
  have h6 := h.lo
  have h5 := h.siz
  have := hb.size
  exact ⟨(hb.block _ (by omega)).trans h.par, (hb.block _ (by omega)).trans h.res, (hb.block _ hB).trans h.prg, h.bel.trans (hb.mono (by omega)), by omega, h6, h.frm.trans (hb.mono (by omega))⟩
theorem CQ.al {w w1 X : World} {D L G rg : Int} {v : Value} (h : CQ w w1 D L G rg v X) (o : Obj) : CQ w w1 D L G rg v (X.alloc o) := h.mono ((Below.refl X.heap.size X).alloc (Nat.le_refl _) o) h.siz
theorem cq_start (w : World) (D L G : Int) : ((w.alloc (.cells #[.int .i64 D, .int .i64 L, .int .i64 G] 23)).alloc (.cells #[.int .i64 0, .slice none 0 0] 49)).heap.size = w.heap.size + 2 ∧ Below w.heap.size w ((w.alloc (.cells #[.int .i64 D, .int .i64 L, .int .i64 G] 23)).alloc (.cells #[.int .i64 0, .slice none 0 0] 49)) :=
  ⟨by simp, ((Below.refl _ w).alloc (Nat.le_refl _) _).alloc (by simp) _⟩
theorem cq_made {w w1 : World} {D L G : Int} (hb : Below ((w.alloc (.cells #[.int .i64 D, .int .i64 L, .int .i64 G] 23)).alloc (.cells #[.int .i64 0, .slice none 0 0] 49)).heap.size ((w.alloc (.cells #[.int .i64 D, .int .i64 L, .int .i64 G] 23)).alloc (.cells #[.int .i64 0, .slice none 0 0] 49)) w1) (rg : Int) (v : Value) : CQ w w1 D L G rg v (w1.alloc (.cells #[.int .i64 rg, v] 49)) := by
  obtain ⟨hz, hb0⟩ := cq_start w D L G
  have hres : ((w.alloc (.cells #[.int .i64 D, .int .i64 L, .int .i64 G] 23)).alloc (.cells #[.int .i64 0, .slice none 0 0] 49)).heap[w.heap.size + 1]? = some (.cells #[.int .i64 0, .slice none 0 0] 49 (0, 0)) := by
    have := World.alloc_heap_new (w.alloc (.cells #[.int .i64 D, .int .i64 L, .int .i64 G] 23)) (.cells #[.int .i64 0, .slice none 0 0] 49)
    rwa [World.size_alloc] at this
  have hpar : ((w.alloc (.cells #[.int .i64 D, .int .i64 L, .int .i64 G] 23)).alloc (.cells #[.int .i64 0, .slice none 0 0] 49)).heap[w.heap.size]? = some (.cells #[.int .i64 D, .int .i64 L, .int .i64 G] 23 (0, 0)) :=
    (((Below.refl _ (w.alloc (.cells #[.int .i64 D, .int .i64 L, .int .i64 G] 23))).alloc (Nat.le_refl _) (.cells #[.int .i64 0, .slice none 0 0] 49)).block w.heap.size (by simp)).trans (World.alloc_heap_new w _)
  rw [hz] at hb
  have hs := hb.size
  have ha := (Below.refl w1.heap.size w1).alloc (Nat.le_refl _) (.cells #[.int .i64 rg, v] 49)
  exact ⟨(ha.block _ (by omega)).trans ((hb.block _ (by omega)).trans hpar), (ha.block _ (by omega)).trans ((hb.block _ (by omega)).trans hres), World.alloc_heap_new w1 _, (hb0.trans (hb.mono (by omega))).trans (ha.mono (by omega)), by simp, by omega, ha⟩
set_option maxRecDepth 100000 in
set_option maxHeartbeats 4000000 in
theorem compiled_wrong (D L G : Int) (lost : Nat) (hr : rightB D L G = false) (w : World) (hg : globalLaid w) :
    Calls Tryd.prog 34 #[.agg #[.int .i64 D, .int .i64 L, .int .i64 G], .int .u64 lost] w fun e w' => e = .returned (.tuple #[.agg #[.int .i64 0, .slice none 0 0], .bool false, .bool false]) ∧ Below w.heap.size w w' := by
  obtain ⟨hz0, hb0⟩ := cq_start w D L G
  go_enter Tryd.func34, Tryd.ntmps34
  go_wp2_with fail
  refine (scompile_wrong D L G lost hr _).mono ?_
  rintro e w1 ⟨rfl, hb1⟩
  have hc1 := cq_made hb1 (0) (.slice none 0 0)
  have HC1 := hide hc1
  clear hc1 hb0
  go_wp2_with fail
  refine (tell_errno 1 _ ((HC1.out.bel.cell (block_lt_of_cell hg)).trans hg)).mono ?_
  rintro e w2 ⟨rfl, hb2⟩
  have hc2 := HC1.out.mono hb2 HC1.out.siz
  obtain ⟨p0, p1, p2⟩ := par_cells hc2.par
  have HC2 := hide hc2
  clear hc2 hb2 HC1
  go_wp2_with fail
  refine (theirs_any D L G _).mono ?_
  rintro e w3 ⟨rfl, hb3⟩
  have hc3 := HC2.out.mono hb3 HC2.out.siz
  have HC3 := hide hc3
  clear hc3 hb3 HC2 p0 p1 p2
  go_wp2_with fail
  refine (rright_any D L G _).mono ?_
  rintro e w4 ⟨rfl, hb4⟩
  have hc4 := (HC3.out.al (.cells #[.int .i64 D, .int .i64 L, .int .i64 G] 31)).mono hb4 (HC3.out.al (.cells #[.int .i64 D, .int .i64 L, .int .i64 G] 31)).siz
  have hl3 := HC3.out.siz
  rw [nblk_alloc] at hb4
  obtain ⟨u0, u1, u2⟩ := box_cells hb4
  have hs4 := hb4.size
  rw [nblk_alloc] at hs4
  have hlo := HC3.out.lo
  obtain ⟨q0, q1, _⟩ := obj_cells hc4.prg
  obtain ⟨z0, z1, zf1, zf0⟩ := obj_cells hc4.res
  have HC4 := hide hc4
  clear hc4 hb4 HC3
  rw [hr]
  have hnn := neq_nil
  have hne : w.heap.size + 1 ≠ w1.heap.size := by omega
  have hne' : w1.heap.size ≠ w.heap.size + 1 := by omega
  go_upto_region 6 with fail
  go_region_held3 (fun w' => w'.cell? ⟨w1.heap.size, 0, none⟩ = some (.int .i64 0) ∧ w'.cell? ⟨w1.heap.size, 1, none⟩ = some (.slice none 0 0)) (first | exact ⟨q0, q1⟩ | go_keep) (fail)
  go_wp2
  obtain ⟨n0, n1, _⟩ := obj_cells (set2b (y' := .slice none 0 0) (set2a (x' := .int .i64 0) HC4.out.res))
  refine bodyPost_ret (v := .tuple #[.agg #[.int .i64 0, .slice none 0 0], .bool false, .bool false]) (by simp [results, Tryd.results34, go_sem, n0, n1]) rfl ?_
  exact ⟨rfl, ((HC4.out.bel.setCell (p := ⟨w.heap.size + 1, 0, none⟩) (by show w.heap.size ≤ w.heap.size + 1; omega) _).setCell (p := ⟨w.heap.size + 1, 1, none⟩) (by show w.heap.size ≤ w.heap.size + 1; omega) _).drew⟩
set_option maxRecDepth 100000 in
set_option maxHeartbeats 4000000 in
theorem compiled_no (D L G lost : Nat) (hr : rightB D L G = true) (hD1 : 1 ≤ D) (hD : D ≤ 12) (hL : 1 ≤ L) (hL4 : L ≤ 4) (hG : G ≤ 4) (hdiv : D % L = 0) (h16 : D + L + G ≤ 16) (hl : lost < 18446744073709551616) (hC : tells (cks D L G) (mems (goneN (D + L + G) lost)) = none) (w : World) (hg : globalLaid w) (hT : tabLaid w) (h2 : 2 ≤ w.heap.size) :
    Calls Tryd.prog 34 #[.agg #[.int .i64 D, .int .i64 L, .int .i64 G], .int .u64 lost] w fun e w' => e = .returned (.tuple #[.agg #[.int .i64 0, .slice none 0 0], .bool false, .bool false]) ∧ Below w.heap.size w w' := by
  obtain ⟨hz0, hb0⟩ := cq_start w D L G
  go_enter Tryd.func34, Tryd.ntmps34
  go_wp2_with fail
  refine (scompile_right D L G lost hr hD1 hD hL hL4 hG hdiv h16 hl _ (hT.mono (by omega) hb0) (by rw [hz0]; omega)).mono ?_
  rintro e w1 ⟨hb1, hcs⟩
  obtain rfl : e = .returned (.tuple #[.agg #[.int .i64 0, .slice none 0 0], .iface 29 (.int .i64 3)]) := by
    rcases hcs with ⟨_, h⟩ | ⟨C', v, hs, _⟩
    · exact h
    · rw [hC] at hs; cases hs
  clear hcs
  have hc1 := cq_made hb1 (0) (.slice none 0 0)
  have HC1 := hide hc1
  clear hc1 hb0
  go_wp2_with fail
  refine (tell_errno 3 _ ((HC1.out.bel.cell (block_lt_of_cell hg)).trans hg)).mono ?_
  rintro e w2 ⟨rfl, hb2⟩
  have hc2 := HC1.out.mono hb2 HC1.out.siz
  obtain ⟨p0, p1, p2⟩ := par_cells hc2.par
  have HC2 := hide hc2
  clear hc2 hb2 HC1
  go_wp2_with fail
  refine (theirs_any D L G _).mono ?_
  rintro e w3 ⟨rfl, hb3⟩
  have hc3 := HC2.out.mono hb3 HC2.out.siz
  have HC3 := hide hc3
  clear hc3 hb3 HC2 p0 p1 p2
  go_wp2_with fail
  refine (rright_any D L G _).mono ?_
  rintro e w4 ⟨rfl, hb4⟩
  have hc4 := (HC3.out.al (.cells #[.int .i64 D, .int .i64 L, .int .i64 G] 31)).mono hb4 (HC3.out.al (.cells #[.int .i64 D, .int .i64 L, .int .i64 G] 31)).siz
  have hl3 := HC3.out.siz
  rw [nblk_alloc] at hb4
  obtain ⟨u0, u1, u2⟩ := box_cells hb4
  have hs4 := hb4.size
  rw [nblk_alloc] at hs4
  have hlo := HC3.out.lo
  obtain ⟨q0, q1, _⟩ := obj_cells hc4.prg
  obtain ⟨z0, z1, zf1, zf0⟩ := obj_cells hc4.res
  have HC4 := hide hc4
  clear hc4 hb4 HC3
  rw [hr]
  clear z0 z1 zf0 zf1 q0 q1
  go_wp2_with fail
  refine (rdecodable_right D L G lost hr hD hL hL4 hG hdiv hl _).mono ?_
  rintro e w5 ⟨r, rfl, hrt, hb5⟩
  have hrf : r = false := by
    cases r
    · rfl
    · obtain ⟨C, h⟩ := (told_tells hD hG h16).1 (hrt.1 rfl)
      rw [hC] at h; cases h
  subst hrf
  have HC4 : Hid (CQ w w1 D L G 0 (.slice none 0 0) w5) := hide (HC4.out.mono hb5 HC4.out.siz)
  obtain ⟨q0, q1, _⟩ := obj_cells HC4.out.prg
  obtain ⟨z0, z1, zf1, zf0⟩ := obj_cells HC4.out.res
  clear hrt hb5 u0 u1 u2
  have hnn := neq_nil
  have hne : w.heap.size + 1 ≠ w1.heap.size := by omega
  have hne' : w1.heap.size ≠ w.heap.size + 1 := by omega
  go_upto_region 9 with fail
  go_region_held3 (fun w' => w'.cell? ⟨w1.heap.size, 0, none⟩ = some (.int .i64 0) ∧ w'.cell? ⟨w1.heap.size, 1, none⟩ = some (.slice none 0 0)) (first | exact ⟨q0, q1⟩ | go_keep) (fail)
  go_wp2
  obtain ⟨n0, n1, _⟩ := obj_cells (set2b (y' := .slice none 0 0) (set2a (x' := .int .i64 0) HC4.out.res))
  refine bodyPost_ret (v := .tuple #[.agg #[.int .i64 0, .slice none 0 0], .bool false, .bool false]) (by simp [results, Tryd.results34, go_sem, n0, n1]) rfl ?_
  exact ⟨rfl, ((HC4.out.bel.setCell (p := ⟨w.heap.size + 1, 0, none⟩) (by show w.heap.size ≤ w.heap.size + 1; omega) _).setCell (p := ⟨w.heap.size + 1, 1, none⟩) (by show w.heap.size ≤ w.heap.size + 1; omega) _).drew⟩
set_option maxRecDepth 100000 in
set_option maxHeartbeats 8000000 in
theorem compiled_yes (D L G lost : Nat) (hr : rightB D L G = true) (hD1 : 1 ≤ D) (hD : D ≤ 12) (hL : 1 ≤ L) (hL4 : L ≤ 4) (hG : G ≤ 4) (hdiv : D % L = 0) (h16 : D + L + G ≤ 16) (hl : lost < 18446744073709551616) (C : Ck) (hC : tells (cks D L G) (mems (goneN (D + L + G) lost)) = some C) (w : World) (hT : tabLaid w) (h2 : 2 ≤ w.heap.size) :
    Calls Tryd.prog 34 #[.agg #[.int .i64 D, .int .i64 L, .int .i64 G], .int .u64 lost] w fun e w' => ∃ ao m cc, e = .returned (.tuple #[.agg #[.int .i64 (1 + ((mems (goneN (D + L + G) lost)).length : Int)), .slice ao m cc], .bool true, .bool false]) ∧ Ps .u8 w' (.slice ao m cc) (cmpP D L G lost C) ∧ Below w.heap.size w w' := by
  have hplan : (fewestS 8 C (keptN (D + L + G) lost)).1.told ≤ 8 := by
    have hp := (plan_of hD hG hC).1
    have h1 := hp.le
    have h2 := hp.most
    omega
  have HP : Hid ((cmpP D L G lost C).length ≤ 160) := hide (wr_len _ _ hplan)
  have hok : okProg (1 + ((mems (goneN (D + L + G) lost)).length : Int)) (cmpP D L G lost C) ((D + L + G : Nat) : Int) := wr_ok (plan_of hD hG hC).1.told hplan (fun i hi => ((mem_kept h16).1 hi).1) (fun i hi => ((mem_gone h16).1 hi).1)
  obtain ⟨S, hS, hbit, hSlt⟩ := ld_all (fewestS 8 C (keptN (D + L + G) lost)).1 (goneN (D + L + G) lost) (keptN (D + L + G) lost)
  have hSg : S &&& goneN (D + L + G) lost = 0 := by
    apply Nat.eq_of_testBit_eq
    intro i
    rw [Nat.testBit_and, hbit, goneN_bit, Nat.zero_testBit]
    by_cases hk : i ∈ mems (keptN (D + L + G) lost)
    · simp [((mem_kept h16).1 hk).2]
    · simp [hk]
  have hand := and_u64 S (goneN (D + L + G) lost) (by omega) (by have := goneN_lt lost h16; omega)
  rw [hSg] at hand
  have HS := hide hS
  have HTW : Hid (Told D L G lost) := hide ((told_tells hD hG h16).2 ⟨C, hC⟩)
  obtain ⟨R, hR⟩ : ∃ R : Int, 1 + ((mems (goneN (D + L + G) lost)).length : Int) = R := ⟨_, rfl⟩
  rw [hR]
  rw [hR] at hok
  clear hbit hSg hplan hS
  obtain ⟨hz0, hb0⟩ := cq_start w D L G
  go_enter Tryd.func34, Tryd.ntmps34
  go_wp2_with fail
  refine (scompile_right D L G lost hr hD1 hD hL hL4 hG hdiv h16 hl _ (hT.mono (by omega) hb0) (by rw [hz0]; omega)).mono ?_
  rintro e w1 ⟨hb1, hcs⟩
  obtain ⟨v, rfl, how⟩ : ∃ v, e = .returned (.tuple #[.agg #[.int .i64 R, v], .nilIface]) ∧ w1.ownsRow ((w.alloc (.cells #[.int .i64 D, .int .i64 L, .int .i64 G] 23)).alloc (.cells #[.int .i64 0, .slice none 0 0] 49)).heap.size 92 4 v (cmpP D L G lost C).length (stcs .u8 (cmpP D L G lost C)) := by
    rcases hcs with ⟨hno, _⟩ | ⟨C', v, hs, h1, h2⟩
    · rw [hC] at hno; cases hno
    · rw [hC] at hs
      obtain rfl := Option.some.inj hs
      rw [hR] at h1
      exact ⟨v, h1, h2⟩
  have hps : Ps .u8 w1 v (cmpP D L G lost C) := owns_ps how (by have := HP.out; omega)
  obtain ⟨ao, m, cc, rfl⟩ : ∃ ao m cc, v = .slice ao m cc := by
    rcases how.2 with ⟨rfl, _⟩ | ⟨g, cap, cur, rfl, _⟩
    · exact ⟨_, _, _, rfl⟩
    · exact ⟨_, _, _, rfl⟩
  have HPS := hide hps
  rw [hz0] at how
  have HOW := hide how
  clear how hps hcs
  have hc1 := cq_made hb1 (R) (.slice ao m cc)
  have HC1 := hide hc1
  clear hc1 hb0
  go_wp2_with fail
  refine (tell_nil _).mono ?_
  rintro e w2 ⟨rfl, hb2⟩
  have hc2 := HC1.out.mono hb2 HC1.out.siz
  obtain ⟨p0, p1, p2⟩ := par_cells hc2.par
  have HC2 := hide hc2
  clear hc2 hb2 HC1
  go_wp2_with fail
  refine (theirs_any D L G _).mono ?_
  rintro e w3 ⟨rfl, hb3⟩
  have hc3 := HC2.out.mono hb3 HC2.out.siz
  have HC3 := hide hc3
  clear hc3 hb3 HC2 p0 p1 p2
  go_wp2_with fail
  refine (rright_any D L G _).mono ?_
  rintro e w4 ⟨rfl, hb4⟩
  have hc4 := (HC3.out.al (.cells #[.int .i64 D, .int .i64 L, .int .i64 G] 31)).mono hb4 (HC3.out.al (.cells #[.int .i64 D, .int .i64 L, .int .i64 G] 31)).siz
  have hl3 := HC3.out.siz
  rw [nblk_alloc] at hb4
  obtain ⟨u0, u1, u2⟩ := box_cells hb4
  have hs4 := hb4.size
  rw [nblk_alloc] at hs4
  have hlo := HC3.out.lo
  obtain ⟨q0, q1, _⟩ := obj_cells hc4.prg
  obtain ⟨z0, z1, zf1, zf0⟩ := obj_cells hc4.res
  have HC4 := hide hc4
  clear hc4 hb4 HC3
  rw [hr]
  clear z0 z1 zf0 zf1 q0 q1
  go_wp2_with fail
  refine (rdecodable_right D L G lost hr hD hL hL4 hG hdiv hl _).mono ?_
  rintro e w5 ⟨r, rfl, hrt, hb5⟩
  have hrf : r = true := hrt.2 HTW.out
  subst hrf
  have hs5 := hb5.size
  have HC5 : Hid (CQ w w1 D L G R (.slice ao m cc) w5) := hide (HC4.out.mono hb5 HC4.out.siz)
  obtain ⟨q0, q1, _⟩ := obj_cells HC5.out.prg
  have hl1 := HC5.out.siz
  have u0 := (hb5.cell (p := ⟨w3.heap.size, 0, none⟩) (by show w3.heap.size < _; omega)).trans u0
  have u1 := (hb5.cell (p := ⟨w3.heap.size, 1, none⟩) (by show w3.heap.size < _; omega)).trans u1
  have u2 := (hb5.cell (p := ⟨w3.heap.size, 2, none⟩) (by show w3.heap.size < _; omega)).trans u2
  obtain ⟨n, hn⟩ : ∃ n : Nat, n = D + L + G := ⟨_, rfl⟩
  have hshd : ∀ W, Calls Tryd.prog 22 #[.agg #[.int .i64 (D : Int), .int .i64 (L : Int), .int .i64 (G : Int)]] W fun e W' => e = .returned (.int .i64 (n : Int)) ∧ Below W.heap.size W W' := by
    intro W
    refine (rshards_any D L G W (by omega) (by omega) (by omega)).mono ?_
    rintro e W' ⟨rfl, hb⟩
    exact ⟨by rw [hn]; rfl, hb⟩
  have hchk : ∀ W, Below w5.heap.size w5 W → Calls Tryd.prog 23 #[.agg #[.int .i64 R, .slice ao m cc], .int .i64 (n : Int)] W fun e W' => e = .returned .nilIface ∧ Below W.heap.size W W' := by
    intro W hbW
    refine (scheck_any R n _ (cmpP D L G lost C) W (HPS.out.mono (HC5.out.frm.trans (hbW.mono (by omega))))).mono ?_
    rintro e W' ⟨h1, _, hb⟩
    exact ⟨h1 (by rw [hn]; exact hok), hb⟩
  rw [← hn] at hand
  have hn16 : n ≤ 16 := by omega
  have HN := hide hn
  clear hrt hb5 HC4 hok HTW hn
  go_upto_region 10 with fail
  go_cut [13] from 63 to 66 (fun v wx => v = .nilIface ∧ Below w5.heap.size w5 wx)
  case first =>
    go_region_with (first
      | (go_at_call 22; refine (hshd _).mono ?_; rintro e wc ⟨rfl, hbc⟩; have hb5c : Below w5.heap.size w5 wc := ((Below.refl _ w5).drew).trans hbc; have q07 := (hb5c.cell (p := ⟨w1.heap.size, 0, none⟩) hl1).trans q0; have q17 := (hb5c.cell (p := ⟨w1.heap.size, 1, none⟩) hl1).trans q1)
      | (go_at_call 23; refine (hchk _ hb5c).mono ?_; rintro e wd ⟨rfl, hbd⟩))
    all_goals (go_wp2_with fail; go_meet; case rel => exact ⟨rfl, hb5c.trans (hbd.mono hb5c.size)⟩)
  case rest =>
    obtain ⟨rfl, hb6⟩ := hcut
    rename World => w6
    have hs6 := hb6.size
    have HC6 : Hid (CQ w w1 D L G R (.slice ao m cc) w6) := hide (HC5.out.mono hb6 hl1)
    obtain ⟨q0, q1, _⟩ := obj_cells HC6.out.prg
    have u0 := (hb6.cell (p := ⟨w3.heap.size, 0, none⟩) (by show w3.heap.size < _; omega)).trans u0
    have u1 := (hb6.cell (p := ⟨w3.heap.size, 1, none⟩) (by show w3.heap.size < _; omega)).trans u1
    have u2 := (hb6.cell (p := ⟨w3.heap.size, 2, none⟩) (by show w3.heap.size < _; omega)).trans u2
    have hla := loaded_any R (.slice ao m cc) (cmpP D L G lost C) w6 (HPS.out.mono HC6.out.frm) (by have := HP.out; omega) (fun t ht => wr_kind ht)
    rw [show ldAll (cmpP D L G lost C) = (S, _, false) from HS.out] at hla
    simp only at hla
    generalize cntR (mems (keptN (D + L + G) lost)) (fewestS 8 C (keptN (D + L + G) lost)).1 = q at hla
    clear HC5 hb6 hchk
    go_wp2_with fail
    refine hla.mono ?_
    clear hla
    rintro e w7 ⟨rfl, hb7⟩
    have hs7 := hb7.size
    have HC7 : Hid (CQ w w1 D L G R (.slice ao m cc) w7) := hide (HC6.out.mono hb7 HC6.out.siz)
    have u0 := (hb7.cell (p := ⟨w3.heap.size, 0, none⟩) (by show w3.heap.size < _; omega)).trans u0
    have u1 := (hb7.cell (p := ⟨w3.heap.size, 1, none⟩) (by show w3.heap.size < _; omega)).trans u1
    have u2 := (hb7.cell (p := ⟨w3.heap.size, 2, none⟩) (by show w3.heap.size < _; omega)).trans u2
    clear q0 q1 hb7 HC6
    go_wp2_with fail
    refine (hshd _).mono ?_
    rintro e w8 ⟨rfl, hb8⟩
    have HC8 : Hid (CQ w w1 D L G R (.slice ao m cc) w8) := hide (HC7.out.mono hb8 HC7.out.siz)
    obtain ⟨q0, q1, _⟩ := obj_cells HC8.out.prg
    obtain ⟨z0, z1, zf1, zf0⟩ := obj_cells HC8.out.res
    have hsl : IntKind.u64.wrap ((2 : Int) ^ n) = (pw n : Int) := shl_u64 n (by omega)
    have hpk := pw_key n hn16
    have hgk := gone_key lost n hl hn16
    have hn64 : (n : Int) < 64 := by omega
    have hne : w.heap.size + 1 ≠ w1.heap.size := by omega
    have hne' : w1.heap.size ≠ w.heap.size + 1 := by omega
    have hl8 := HC8.out.siz
    clear hb8 HC7 u0 u1 u2 hshd
    go_upto_region 14 with fail
    go_region_held3 (fun w' => w'.cell? ⟨w1.heap.size, 0, none⟩ = some (.int .i64 R) ∧ w'.cell? ⟨w1.heap.size, 1, none⟩ = some (.slice ao m cc)) (first | exact ⟨q0, q1⟩ | exact ⟨qb0, qb1⟩ | go_keep) ((go_at_call 11; refine (tell_nil _).mono ?_; rintro e wb ⟨rfl, hbb⟩; have hb8b : Below w8.heap.size w8 wb := ((Below.refl _ w8).drew).trans hbb; have qb0 := (hb8b.cell (p := ⟨w1.heap.size, 0, none⟩) hl8).trans q0; have qb1 := (hb8b.cell (p := ⟨w1.heap.size, 1, none⟩) hl8).trans q1; have hcb := HC8.out.mono hb8b hl8; obtain ⟨zb0, zb1, zbf1, zbf0⟩ := obj_cells hcb.res))
    go_wp2
    have how := ownsRow_below HOW.out hcb.frm
    obtain ⟨n0, n1, _⟩ := obj_cells (set2b (y' := .slice ao m cc) (set2a (x' := .int .i64 R) hcb.res))
    have h7ne : (Value.slice ao m cc).ownBlock ≠ some (w.heap.size + 1) := fun e => by have := own_from how e; omega
    have how2 := (how.kept (grown_set' wb (w.heap.size + 1) 0 (.int .i64 R)) (.inr h7ne)).kept (grown_set' _ (w.heap.size + 1) 1 (.slice ao m cc)) (.inr h7ne)
    refine bodyPost_ret (v := .tuple #[.agg #[.int .i64 R, .slice ao m cc], .bool true, .bool false]) (by simp [results, Tryd.results34, go_sem, n0, n1]) rfl ?_
    exact ⟨ao, m, cc, rfl, owns_ps how2 (by have := HP.out; omega), (hcb.bel.setCell (p := ⟨w.heap.size + 1, 0, none⟩) (by show w.heap.size ≤ w.heap.size + 1; omega) _).setCell (p := ⟨w.heap.size + 1, 1, none⟩) (by show w.heap.size ≤ w.heap.size + 1; omega) _⟩
end Go.Proofs.YthhommjlomphdaaDoor
/-
  The law's comparison of two programs.
-/
namespace Go.Proofs.YthhommjlomphdaaDoor
open Go.RowKit Go.Deep

def SpR (w : World) (P : List St) (i : Value) (wr : World) : Prop := ∃ k : Nat, k ≤ P.length ∧ i = .int .i64 k ∧ Below w.heap.size w wr
set_option maxRecDepth 100000 in
set_option maxHeartbeats 4000000 in
theorem sameProgram_any (regs : Int) (v v' : Value) (P : List St) (w : World) (h : Ps .u8 w v P) (h' : Ps .i64 w v' P) (hP : ∀ s ∈ P, okInts s) :
    Calls Tryd.prog 37 #[.agg #[.int .i64 regs, v], .agg #[.int .i64 regs, v']] w fun r w' => r = .returned (.bool true) ∧ Below w.heap.size w w' := by
  obtain ⟨ao, c, rfl⟩ := h.slice
  obtain ⟨ao', c', rfl⟩ := h'.slice
  have t0 : (regs != regs) = false := by simp
  have t1 : ((P.length : Int) != (P.length : Int)) = false := by simp
  obtain ⟨w2, hw2, hs2, hx, hy, hb2⟩ : ∃ w2, (w.alloc (.cells #[.int .i64 regs, .slice ao P.length c] 49)).alloc (.cells #[.int .i64 regs, .slice ao' P.length c'] 53) = w2 ∧ w2.heap.size = w.heap.size + 2 ∧
      w2.heap[w.heap.size]? = some (.cells #[.int .i64 regs, .slice ao P.length c] 49 (0, 0)) ∧ w2.heap[w.heap.size + 1]? = some (.cells #[.int .i64 regs, .slice ao' P.length c'] 53 (0, 0)) ∧ Below w.heap.size w w2 := by
    refine ⟨_, rfl, by simp only [nblk_alloc], ?_, ?_, ((Below.refl _ _).alloc (Nat.le_refl _) _).alloc (by simp) _⟩
    · rw [heap_old _ _ _ (by rw [nblk_alloc]; omega)]; exact heap_alloc_last w _
    · have := heap_alloc_last (w.alloc (.cells #[.int .i64 regs, .slice ao P.length c] 49)) (.cells #[.int .i64 regs, .slice ao' P.length c'] 53)
      rwa [nblk_alloc] at this
  obtain ⟨p0, p1, _, _⟩ := obj_cells hx
  obtain ⟨q0, q1, _, _⟩ := obj_cells hy
  go_enter Tryd.func37, Tryd.ntmps37
  go_wp2
  clear hw2
  go_loopw [5] (fun i wr => SpR w2 P i wr) (fun i _ => P.length - (intOf i).toNat)
  case atStart => exact ⟨0, Nat.zero_le _, rfl, Below.refl _ _⟩
  case round =>
    rename World => wo
    obtain ⟨k, hk, rfl, hbo⟩ := hrel
    have hso := hbo.size
    have m0 := (hbo.cell (block_lt_of_cell p0)).trans p0
    have m1 := (hbo.cell (block_lt_of_cell p1)).trans p1
    have n0 := (hbo.cell (block_lt_of_cell q0)).trans q0
    have n1 := (hbo.cell (block_lt_of_cell q1)).trans q1
    have hbwo := hb2.trans (hbo.mono (by omega))
    by_cases hlt : k < P.length
    · rcases (h.mono hbwo).cases with ⟨rfl, _⟩ | ⟨b, off, cc, e, hbd, hc⟩
      · simp at hlt
      simp at e
      obtain ⟨rfl, rfl⟩ := e
      rcases (h'.mono hbwo).cases with ⟨rfl, _⟩ | ⟨b', off', cc', e, _, hc'⟩
      · simp at hlt
      simp at e
      obtain ⟨rfl, rfl⟩ := e
      obtain ⟨d0, d1, d2, d3⟩ := hc k hlt
      obtain ⟨f0, f1, f2, f3⟩ := hc' k hlt
      have al := (Below.refl wo.heap.size wo).alloc (Nat.le_refl _) (.cells #[.int .u8 P[k].k, .int .i64 P[k].a, .int .i64 P[k].b, .int .u8 P[k].c] 92)
      have g0 := (al.cell (block_lt_of_cell f0)).trans f0
      have g1 := (al.cell (block_lt_of_cell f1)).trans f1
      have g2 := (al.cell (block_lt_of_cell f2)).trans f2
      have g3 := (al.cell (block_lt_of_cell f3)).trans f3
      have o1 := (al.cell (block_lt_of_cell n1)).trans n1
      have hbo3 := (hbo.alloc hso (.cells #[.int .u8 P[k].k, .int .i64 P[k].a, .int .i64 P[k].b, .int .u8 P[k].c] 92)).alloc (by rw [nblk_alloc]; omega) (.cells #[.int .i64 P[k].k, .int .i64 P[k].a, .int .i64 P[k].b, .int .u8 P[k].c] 94)
      have hsk := (hP _ (List.getElem_mem hlt)).1
      have t2 : (((P[k].k : Nat) : Int) != (P[k].k : Int)) = false := by simp
      have t3 : (P[k].a != P[k].a) = false := by simp
      have t4 : (P[k].b != P[k].b) = false := by simp
      have t5 : (((P[k].c : Nat) : Int) != (P[k].c : Int)) = false := by simp
      have HC := hide hc
      have HC' := hide hc'
      clear hc hc' al h h' hP f0 f1 f2 f3
      go_wp2
      go_roundw
      case rel => exact ⟨k + 1, by omega, by go_num, hbo3⟩
      case measure => simp [intOf]; omega
    · clear h h' hP
      have hkk : k = P.length := by omega
      subst hkk
      go_wp2
      go_ret
      exact ⟨rfl, hbwo⟩
end Go.Proofs.YthhommjlomphdaaDoor
