/-
  The walks of the document's Mul and Inv.
-/
import Derived.Test.YthhommjlomphdaaDoorFieldWalks
namespace Go.Proofs.YthhommjlomphdaaDoor
open Go.RowKit Gf
theorem nat_u8 {x : Int} (h : (Lit.int .u8 x).wf = true) : ∃ n : Nat, n < 256 ∧ x = (n : Int) := by
  have := bounds_u8 h
  exact ⟨x.toNat, by omega, by omega⟩
theorem bit_test (b k : Nat) (hb : b < 65536) : (bits .and .i64 ((b : Int) / 2 ^ k) 1 == 1) = decide (b / 2 ^ k % 2 = 1) := by
  have h : b / 2 ^ k < 2 ^ 62 := Nat.lt_of_le_of_lt (Nat.div_le_self _ _) (Nat.lt_trans hb (by decide))
  have e := i64_and (b / 2 ^ k) 1 h (by decide)
  rw [and1] at e
  have c : ((b / 2 ^ k : Nat) : Int) = (b : Int) / 2 ^ k := by simp
  rw [c, show ((1 : Nat) : Int) = 1 from rfl] at e
  rw [e, Bool.eq_iff_iff]
  simp
  omega
theorem pm_yes (a b k : Nat) (ha : a < 256) (hk : k < 8) (h : b / 2 ^ k % 2 = 1) :
    bits .xor .i64 (pm a b k : Int) (wrap64 ((a : Int) * 2 ^ k)) = (pm a b (k + 1) : Int) := by
  have h2 : 2 ^ k ≤ 2 ^ 7 := Nat.pow_le_pow_right (by decide) (by omega)
  have h3 : a * 2 ^ k ≤ 256 * 2 ^ 7 := Nat.mul_le_mul (by omega) h2
  have hp := pm_lt a b ha k (by omega)
  have e : wrap64 ((a : Int) * 2 ^ k) = ((a * 2 ^ k : Nat) : Int) := by
    have : ((a * 2 ^ k : Nat) : Int) = (a : Int) * 2 ^ k := by simp
    rw [← this]; unfold wrap64; omega
  rw [e, i64_xor _ _ (by omega) (by omega)]
  simp only [pm, h, if_true]
theorem pm_no (a b k : Nat) (h : ¬ b / 2 ^ k % 2 = 1) : (pm a b k : Int) = (pm a b (k + 1) : Int) := by
  simp only [pm, h, if_false]
theorem rd_lt (k p : Nat) (hk : k ≤ 6) (hp : p < 65536) : (if p / 2 ^ (k + 8) % 2 = 1 then p ^^^ (285 * 2 ^ k) else p) < 65536 := by
  split
  · refine Nat.xor_lt_two_pow (n := 16) hp ?_
    have h2 : 2 ^ k ≤ 2 ^ 6 := Nat.pow_le_pow_right (by decide) hk
    omega
  · exact hp
theorem rd_yes (k p : Nat) (hk : k ≤ 6) (hp : p < 65536) (h : p / 2 ^ (k + 8) % 2 = 1) :
    bits .xor .i64 (p : Int) (wrap64 (285 * 2 ^ k)) = ((if p / 2 ^ (k + 8) % 2 = 1 then p ^^^ (285 * 2 ^ k) else p : Nat) : Int) := by
  have h2 : 2 ^ k ≤ 2 ^ 6 := Nat.pow_le_pow_right (by decide) hk
  have e : wrap64 (285 * 2 ^ k) = ((285 * 2 ^ k : Nat) : Int) := by
    have : ((285 * 2 ^ k : Nat) : Int) = 285 * 2 ^ k := by simp
    rw [← this]; unfold wrap64; omega
  rw [if_pos h, e, i64_xor _ _ (by omega) (by omega)]
set_option maxRecDepth 100000 in
set_option maxHeartbeats 1000000 in
theorem rmul_any (a b : Nat) (ha : a < 256) (hb : b < 256) (w : World) :
    Calls Tryd.prog 44 #[.int .u8 a, .int .u8 b] w fun e w' => e = .returned (.int .u8 (gm a b)) ∧ w' = w := by
  have ha' : (a : Int) < 256 := by omega
  have hb' : (b : Int) < 256 := by omega
  go_enter Tryd.func44, Tryd.ntmps44
  go_wp2
  go_loop [5, 7] (fun s t => ∃ k : Nat, k ≤ 8 ∧ s = .int .i64 (pm a b k) ∧ t = .int .i64 k) (fun _ t => 8 - (intOf t).toNat)
  case atStart => exact ⟨0, by decide, rfl, rfl⟩
  case round =>
    obtain ⟨k, hk, rfl, rfl⟩ := hrel
    have hp := pm_lt a b ha k hk
    by_cases hlt : k < 8
    · have ht := bit_test b k (by omega)
      by_cases hc : b / 2 ^ k % 2 = 1
      · rw [decide_eq_true hc] at ht
        have hy := pm_yes a b k ha hlt hc
        clear hc
        go_wp2
        go_round
        case rel => exact ⟨k + 1, by omega, rfl, by go_num⟩
        case measure => simp [intOf]; omega
      · rw [decide_eq_false hc] at ht
        have HC : Hid (¬ b / 2 ^ k % 2 = 1) := hc
        clear hc
        go_wp2
        go_round
        case rel => exact ⟨k + 1, by omega, by rw [pm_no a b k HC.out], by go_num⟩
        case measure => simp [intOf]; omega
    · have hk8 : k = 8 := by omega
      subst hk8
      have hE := @ref_eq a b ha hb
      have HE : Hid (rd 7 (pm a b 8) = gm a b) := hE
      clear hE
      generalize pm a b 8 = p at *
      go_wp2
      go_loop [5, 8] (fun s t => ∃ j p : Nat, j ≤ 7 ∧ p < 65536 ∧ Hid (rd j p = gm a b) ∧ s = .int .i64 p ∧ t = .int .i64 ((j + 7 : Nat) : Int)) (fun _ t => (intOf t).toNat)
      case atStart => exact ⟨7, p, by decide, hp, HE, rfl, rfl⟩
      case round =>
        obtain ⟨j, q, hj, hq, hg, rfl, rfl⟩ := hrel
        cases j with
        | zero =>
          have hl := @gm_lt a b ha
          go_wp2
          go_ret
          exact ⟨ret_int (by have := hg.out; simp only [rd] at this; omega), rfl⟩
        | succ j =>
          have hl := rd_lt j q (by omega) hq
          have ht := bit_test q (j + 1 + 7) hq
          have hg2 : Hid (rd j (if q / 2 ^ (j + 8) % 2 = 1 then q ^^^ (285 * 2 ^ j) else q) = gm a b) := hg.out
          by_cases hc : q / 2 ^ (j + 8) % 2 = 1
          · rw [show j + 8 = j + 1 + 7 from rfl] at hc
            rw [decide_eq_true hc] at ht
            have hy := rd_yes j q (by omega) hq hc
            have HY := hide hy
            have HL := hide hl
            clear hc hy hl
            go_wp2
            go_round
            case rel => exact ⟨j, _, by omega, HL.out, hg2, by rw [HY.out], by go_num⟩
            case measure => simp [intOf]; omega
          · have HL : Hid (rd j q = gm a b) := by have := hg2.out; rw [if_neg hc] at this; exact this
            rw [show j + 8 = j + 1 + 7 from rfl] at hc
            rw [decide_eq_false hc] at ht
            clear hc hl
            go_wp2
            go_round
            case rel => exact ⟨j, q, by omega, hq, HL, rfl, by go_num⟩
            case measure => simp [intOf]; omega

set_option maxRecDepth 100000 in
set_option maxHeartbeats 1000000 in
theorem rinv_any (a : Nat) (ha : a < 256) (w : World) :
    Calls Tryd.prog 40 #[.int .u8 a] w fun e w' => e = .returned (.int .u8 (gi a)) ∧ w' = w := by
  go_enter Tryd.func40, Tryd.ntmps40
  go_wp2
  go_loop [3] (fun s => ∃ k : Nat, 1 ≤ k ∧ k ≤ 256 ∧ Hid (∀ c, 1 ≤ c → c < k → gm a c ≠ 1) ∧ s = .int .i64 k) (fun s => 256 - (intOf s).toNat)
  case atStart => exact ⟨1, by decide, by decide, (fun c h1 h2 => absurd h1 (by omega)), rfl⟩
  case round =>
    obtain ⟨k, hk1, hk, hn, rfl⟩ := hrel
    by_cases hlt : k < 256
    · have hmod : (k : Int) % 256 = (k : Int) := by omega
      by_cases hc : gm a k = 1
      · have hk' := gi_unique ha hlt hc
        have HK := hide hk'
        have ht : ((gm a k : Int) == 1) = true := by rw [hc]; rfl
        clear hk' hc
        go_wp2_with (go_at_call 44; refine (rmul_any a k ha hlt _).mono ?_; rintro e w' ⟨rfl, rfl⟩)
        go_ret
        exact ⟨ret_int (by rw [← HK.out]), rfl⟩
      · have hn2 : Hid (∀ c, 1 ≤ c → c < k + 1 → gm a c ≠ 1) := by
          intro c h1 h2
          by_cases e : c = k
          · rw [e]; exact hc
          · exact hn.out c h1 (by omega)
        have ht : ((gm a k : Int) == 1) = false := by rw [beq_eq_false_iff_ne]; omega
        clear hc hn
        go_wp2_with (go_at_call 44; refine (rmul_any a k ha hlt _).mono ?_; rintro e w' ⟨rfl, rfl⟩)
        go_round
        case rel => exact ⟨k + 1, by omega, by omega, hn2, by go_num⟩
        case measure => simp [intOf]; omega
    · have h0 : Hid (0 = gi a) := by
        by_cases e : a = 0
        · rw [e, gi_zero]; exact (rfl : (0 : Nat) = 0)
        · have g := gm_gi a ha e
          have hl := gi_lt ha
          refine absurd g (hn.out (gi a) ?_ (by omega))
          rcases Nat.eq_zero_or_pos (gi a) with z | z
          · rw [z, gm_zero] at g; exact absurd g (by decide)
          · exact z
      clear hn
      go_wp2
      go_ret
      exact ⟨ret_int (by rw [← h0.out]; rfl), rfl⟩
end Go.Proofs.YthhommjlomphdaaDoor
