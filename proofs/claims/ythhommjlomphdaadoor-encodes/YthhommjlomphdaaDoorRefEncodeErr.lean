/-
  The document's Encode, where it answers an error.
-/
import Derived.Test.YthhommjlomphdaaDoorEncode
namespace Go.Proofs.YthhommjlomphdaaDoor
open Go.RowKit Go.Deep Gf

set_option maxRecDepth 100000 in
set_option maxHeartbeats 4000000 in
theorem rencode_wrong (D L G : Int) (hr : rightB D L G = false) (vd : Value) (w : World) :
    Calls Tryd.prog 20 #[.agg #[.int .i64 D, .int .i64 L, .int .i64 G], vd] w fun e w' => e = .returned (.tuple #[.slice none 0 0, .int .i64 1]) ∧ Below w.heap.size w w' := by
  go_enter Tryd.func20, Tryd.ntmps20
  go_wp2_with fail
  refine (rmatrix_wrong D L G hr _).mono ?_
  rintro e wa ⟨rfl, hba⟩
  rw [nblk_alloc] at hba
  go_wp2
  go_ret2
  exact ⟨rfl, ((Below.refl _ _).alloc (Nat.le_refl _) _).trans (hba.mono (by omega))⟩
set_option maxRecDepth 100000 in
set_option maxHeartbeats 4000000 in
theorem rencode_unfit (D L G : Nat) (hr : rightB D L G = true) (hD1 : 1 ≤ D) (hD : D ≤ 12) (hL : 1 ≤ L) (hL4 : L ≤ 4) (hG : G ≤ 4) (hdiv : D % L = 0) (vd : Value) (Dt : List (List Nat)) (w : World) (hd : Rd w vd Dt) (hun : ¬ (Dt.length = D ∧ Fit Dt)) :
    Calls Tryd.prog 20 #[.agg #[.int .i64 D, .int .i64 L, .int .i64 G], vd] w fun e w' => e = .returned (.tuple #[.slice none 0 0, .int .i64 2]) ∧ Below w.heap.size w w' := by
  by_cases hlen : Dt.length = D
  · have hnn : (((Dt.length : Nat) : Int) != (D : Int)) = false := by rw [hlen]; simp
    have hpos : 0 < Dt.length := by omega
    have HF : Hid (¬ Fit Dt) := fun h => hun ⟨hlen, h⟩
    rcases hd.cases with ⟨rfl, _⟩ | ⟨b, off, c, rfl, hl, hc⟩
    · simp at hpos
    obtain ⟨u0, hu0, hB0⟩ := hc 0 hpos
    obtain ⟨ao0, c0, rfl, l1, l2, _, _⟩ := hB0
    have hg0 : (Dt.getD 0 []).length = (Dt[0]).length := by simp [hpos]
    have hlen0 : (Dt[0]).length ≤ 140737488355328 := by omega
    rw [← hg0] at hu0 hlen0
    rw [Nat.add_zero] at hu0
    have HC := hide hc
    clear hun hlen hc l1 l2 hg0
    go_enter Tryd.func20, Tryd.ntmps20
    go_wp2_with fail
    refine (rmatrix_right D L G hr hD hL hL4 hG hdiv _).mono ?_
    rintro e wa ⟨v, T, rfl, hT, hH, hba⟩
    rw [nblk_alloc] at hT hba
    obtain ⟨p0, p1, p2⟩ := box_cells hba
    have hbwa : Below w.heap.size w wa := ((Below.refl _ _).alloc (Nat.le_refl _) _).trans (hba.mono (by omega))
    have hu0' : wa.cell? ⟨b, off, none⟩ = some (.slice ao0 (Dt.getD 0 []).length c0) := by rw [hbwa.cell (block_lt_of_cell hu0)]; exact hu0
    obtain ⟨mo, mcap, rfl, hmo⟩ := hT.slice
    clear hT hH hmo hu0
    generalize hn : (Dt.getD 0 []).length = n at *
    have HN := hide hn
    clear hn
    go_wp2
    go_loop [9] (fun i => EvR Dt i) (fun i => Dt.length - (intOf i).toNat)
    case atStart => exact ⟨0, Nat.zero_le _, rfl, fun j hj h => absurd h (by omega)⟩
    case round =>
      obtain ⟨k, hk, rfl, hok⟩ := hrel
      by_cases hlt : k < Dt.length
      · obtain ⟨u, hu, hBs⟩ := HC.out k hlt
        obtain ⟨fo, fc, rfl, q1, q2, _, _⟩ := hBs
        have hlk : (Dt[k]).length ≤ 140737488355328 := by omega
        have hu' : wa.cell? ⟨b, off + k, none⟩ = some (.slice fo (Dt[k]).length fc) := by rw [hbwa.cell (block_lt_of_cell hu)]; exact hu
        have HK : Hid (okRow Dt Dt[k] ↔ (Dt[k]).length = n ∧ (Dt[k]).length ≤ 4096) := by unfold okRow; rw [HN.out]; exact Iff.rfl
        have HO : Hid (okRow Dt Dt[k] → ∀ j (hj : j < Dt.length), j < k + 1 → okRow Dt Dt[j]) := by
          intro h1 j hj hjk
          by_cases e : j = k
          · subst e; exact h1
          · exact hok j hj (by omega)
        clear hu hok q1 q2
        generalize Dt[k] = dk at *
        by_cases h2 : dk.length = n
        · have t1 : (((dk.length : Nat) : Int) != (n : Int)) = false := by rw [h2]; simp
          by_cases h3 : n ≤ 4096
          · have t2 : ¬ (4096 : Int) < (n : Int) := by omega
            have HO2 := hide (HO.out (HK.out.2 ⟨h2, by omega⟩))
            clear h2 HK HO
            go_wp2
            go_round
            case rel => exact ⟨k + 1, by omega, by go_num, HO2.out⟩
            case measure => simp [intOf]; omega
          · have t2 : (4096 : Int) < (n : Int) := by omega
            clear h2 HK HO
            go_wp2
            go_ret2
            exact ⟨rfl, hbwa⟩
        · have t1 : (((dk.length : Nat) : Int) != (n : Int)) = true := by rw [bne_iff_ne]; omega
          clear h2 HK HO
          go_wp2
          go_ret2
          exact ⟨rfl, hbwa⟩
      · exact absurd (fun i hi => hok i hi (by omega)) HF.out
  · have hnn : (((Dt.length : Nat) : Int) != (D : Int)) = true := by rw [bne_iff_ne]; omega
    obtain ⟨ao, c, rfl, hl, hcc⟩ := hd
    clear hun hlen hcc
    go_enter Tryd.func20, Tryd.ntmps20
    go_wp2_with fail
    refine (rmatrix_right D L G hr hD hL hL4 hG hdiv _).mono ?_
    rintro e wa ⟨v, T, rfl, hT, hH, hba⟩
    rw [nblk_alloc] at hT hba
    obtain ⟨p0, p1, p2⟩ := box_cells hba
    have hbwa : Below w.heap.size w wa := ((Below.refl _ _).alloc (Nat.le_refl _) _).trans (hba.mono (by omega))
    obtain ⟨mo, mcap, rfl, hmo⟩ := hT.slice
    clear hT hH hmo
    go_wp2
    go_ret2
    exact ⟨rfl, hbwa⟩
theorem rencode_err (D L G x : Int) (vd : Value) (Dt : List (List Nat)) (w : World) (hd : Rd w vd Dt) (he : errOf D L G Dt x) :
    Calls Tryd.prog 20 #[.agg #[.int .i64 D, .int .i64 L, .int .i64 G], vd] w fun e w' => e = .returned (.tuple #[.slice none 0 0, .int .i64 x]) ∧ Below w.heap.size w w' := by
  rcases he with ⟨h, rfl⟩ | ⟨h, hn, rfl⟩
  · exact rencode_wrong D L G h vd w
  · obtain ⟨d, l, g, rfl, rfl, rfl, q1, q2, q3, q4, q5, q6, q7⟩ := right_nat h
    exact rencode_unfit d l g h q1 q2 q3 q4 q5 q6 vd Dt w hd (fun ⟨a, b⟩ => hn ⟨by omega, b⟩)
end Go.Proofs.YthhommjlomphdaaDoor
