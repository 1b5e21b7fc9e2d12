/-
  The law Checks: its walk.
-/
import Derived.Test.YthhommjlomphdaaDoorRefCheck
import Derived.Test.YthhommjlomphdaaDoorLaid
namespace Go.Proofs.YthhommjlomphdaaDoor
open Go.RowKit Go.Deep

set_option maxRecDepth 100000 in
set_option maxHeartbeats 1000000 in
theorem scheck_any (regs shards : Int) (v : Value) (P : List St) (w : World) (h : Ps .u8 w v P) :
    Calls Tryd.prog 23 #[.agg #[.int .i64 regs, v], .int .i64 shards] w fun r w' => ChPost regs P shards w r w' := by
  have hb0 : Below w.heap.size w (w.alloc (.cells #[.int .i64 regs, v] 49)) := (Below.refl _ _).alloc (Nat.le_refl _) _
  have h0 := h.mono hb0
  obtain ⟨ao, c, rfl⟩ := h.slice
  clear h
  go_enter Tryd.func23, Tryd.ntmps23
  go_wp2_with fail
  refine (check_any regs shards _ P _ h0).mono ?_
  rintro r w1 ⟨h1, h2, hb1⟩
  rw [nblk_alloc] at hb1
  have hbw := hb0.trans (hb1.mono (by omega))
  by_cases hp : okProg regs P shards
  · obtain rfl := h1 hp
    have HP := hide hp
    clear h1 h2 hp
    go_wp2
    go_ret
    exact ⟨fun _ => rfl, fun h => absurd HP.out h, hbw⟩
  · obtain rfl := h2 hp
    have HP := hide hp
    clear h1 h2 hp
    go_wp2
    go_ret
    exact ⟨fun h => absurd h HP.out, fun _ => rfl, hbw⟩
set_option maxRecDepth 100000 in
set_option maxHeartbeats 1000000 in
theorem checks_big (regs shards : Int) (ao : Option Addr) (len cap : Nat) (w : World) (hbig : 5000 < len) :
    Calls Tryd.prog 6 #[.agg #[.int .i64 regs, .slice ao len cap], .int .i64 shards] w fun e w' => e = .returned (.bool true) ∧ Below w.heap.size w w' := by
  go_enter Tryd.func6, Tryd.ntmps6
  have hb2 : (5000 : Int) < (len : Int) := by omega
  go_wp2
  go_ret
  exact ⟨rfl, (Below.refl _ _).alloc (Nat.le_refl _) _⟩
set_option maxRecDepth 100000 in
set_option maxHeartbeats 4000000 in
theorem checks_fit (regs shards : Int) (v : Value) (P : List St) (w : World) (h : Ps .u8 w v P) (hl : P.length ≤ 5000) (hP : ∀ s ∈ P, okInts s) (hg : globalLaid w) :
    Calls Tryd.prog 6 #[.agg #[.int .i64 regs, v], .int .i64 shards] w fun e w' => e = .returned (.bool true) ∧ Below w.heap.size w w' := by
  have hlt0 : 0 < w.heap.size := block_lt_of_cell hg
  have hb0 : Below w.heap.size w (w.alloc (.cells #[.int .i64 regs, v] 49)) := (Below.refl _ _).alloc (Nat.le_refl _) _
  have hP2 : ∀ s ∈ P, s.k < 256 := fun s hs => (hP s hs).1
  have HP := hide hP2
  have H := hide h
  have h0 := h.mono hb0
  obtain ⟨ao, c, rfl⟩ := h.slice
  clear h hP hP2
  have hlI : ¬ (5000 : Int) < (P.length : Int) := by omega
  go_enter Tryd.func6, Tryd.ntmps6
  go_wp2_with fail
  refine (scheck_any regs shards _ P _ h0).mono ?_
  rintro r w1 ⟨h1, h2, hb1⟩
  rw [nblk_alloc] at hb1
  obtain ⟨p0, p1⟩ := box2 hb1 rfl
  have hs1 := hb1.size
  rw [nblk_alloc] at hs1
  have hbw1 := hb0.trans (hb1.mono (by omega))
  have hg1 : globalLaid w1 := by
    unfold globalLaid at *
    rw [hbw1.cell hlt0]; exact hg
  by_cases hp : okProg regs P shards
  · obtain rfl := h1 hp
    have HPR := hide hp
    clear h1 h2 hp hb1 h0 hb0
    go_wp2_with fail
    refine (tell_nil _).mono ?_
    rintro e w2 ⟨rfl, hb2⟩
    have hs2 := hb2.size
    have q0 := (hb2.cell (block_lt_of_cell p0)).trans p0
    have q1 := (hb2.cell (block_lt_of_cell p1)).trans p1
    have hbw2 := hbw1.trans (hb2.mono (by omega))
    clear hb2 p0 p1 hbw1
    go_wp2_with fail
    refine (program_any regs _ P _ (H.out.mono hbw2) hl HP.out).mono ?_
    rintro e w3 ⟨v3, rfl, hv3, hb3⟩
    have hs3 := hb3.size
    have hbw3 := hbw2.trans (hb3.mono (by omega))
    obtain ⟨a3, c3, rfl⟩ := hv3.slice
    have H3 := hide hv3
    have hbw4 := hbw3.alloc (by omega) (.cells #[.int .i64 regs, .slice a3 P.length c3] 53)
    clear hv3 q0 q1 hb3 hbw2
    go_wp2_with fail
    refine (rcheck_any regs shards _ P _ (H3.out.mono ((Below.refl _ _).alloc (Nat.le_refl _) _))).mono ?_
    rintro e w5 ⟨h5, _, hb5⟩
    obtain rfl := h5 HPR.out
    rw [nblk_alloc] at hb5
    have hbw5 := hbw4.trans (hb5.mono (by omega))
    clear h5 hb5
    go_wp2_with (go_at_call 15; refine (num_any _ _).mono ?_; rintro e w' ⟨rfl, rfl⟩)
    go_ret
    exact ⟨rfl, hbw5⟩
  · obtain rfl := h2 hp
    have HPR := hide hp
    clear h1 h2 hp hb1 h0 hb0
    go_wp2_with fail
    refine (tell_errno 4 _ hg1).mono ?_
    rintro e w2 ⟨rfl, hb2⟩
    have hs2 := hb2.size
    have q0 := (hb2.cell (block_lt_of_cell p0)).trans p0
    have q1 := (hb2.cell (block_lt_of_cell p1)).trans p1
    have hbw2 := hbw1.trans (hb2.mono (by omega))
    clear hb2 p0 p1 hbw1
    go_wp2_with fail
    refine (program_any regs _ P _ (H.out.mono hbw2) hl HP.out).mono ?_
    rintro e w3 ⟨v3, rfl, hv3, hb3⟩
    have hs3 := hb3.size
    have hbw3 := hbw2.trans (hb3.mono (by omega))
    obtain ⟨a3, c3, rfl⟩ := hv3.slice
    have H3 := hide hv3
    have hbw4 := hbw3.alloc (by omega) (.cells #[.int .i64 regs, .slice a3 P.length c3] 53)
    clear hv3 q0 q1 hb3 hbw2
    go_wp2_with fail
    refine (rcheck_any regs shards _ P _ (H3.out.mono ((Below.refl _ _).alloc (Nat.le_refl _) _))).mono ?_
    rintro e w5 ⟨_, h5, hb5⟩
    obtain rfl := h5 HPR.out
    rw [nblk_alloc] at hb5
    have hbw5 := hbw4.trans (hb5.mono (by omega))
    clear h5 hb5
    go_wp2_with (go_at_call 15; refine (num_any _ _).mono ?_; rintro e w' ⟨rfl, rfl⟩)
    go_ret
    exact ⟨rfl, hbw5⟩
end Go.Proofs.YthhommjlomphdaaDoor
