/-
  The walks of Mul and Inv, the program's and the document's.
-/
import Derived.Test.YthhommjlomphdaaDoorRows
import Derived.Test.YthhommjlomphdaaDoorField
import Derived.WalkKit
import Derived.ProofKit
import Derived.OpenShut
import Derived.WalkSpells
import Derived.Laws.BitsLemmas
namespace Go.Proofs.YthhommjlomphdaaDoor
open Go.RowKit Gf

theorem hide {p : Prop} (h : p) : Hid p := h
theorem ret_int {k : IntKind} {a b : Int} (h : a = b) : Ending.returned (.int k a) = .returned (.int k b) := by rw [h]
theorem u8_and (a b : Nat) (ha : a < 256) (hb : b < 256) : bits .and .u8 (a : Int) (b : Int) = ((a &&& b : Nat) : Int) :=
  (bits_nat .u8 8 (by decide) wraps_u8 a b ha hb).1
theorem u8_xor (a b : Nat) (ha : a < 256) (hb : b < 256) : bits .xor .u8 (a : Int) (b : Int) = ((a ^^^ b : Nat) : Int) := by
  have ha' : a % 2 ^ IntKind.u8.bits = a := Nat.mod_eq_of_lt ha
  have hb' : b % 2 ^ IntKind.u8.bits = b := Nat.mod_eq_of_lt hb
  simp only [bits, BitVec.ofInt_natCast, BitVec.toNat_xor, BitVec.toNat_ofNat, ha', hb']
  have := xlt ha hb
  exact wraps_u8 _ (Int.natCast_nonneg _) (by omega)
theorem wraps_i64 (n : Int) (h₀ : 0 ≤ n) (h₁ : n < 2 ^ 62) : IntKind.i64.wrap n = n := by rw [IntKind.wrap_i64]; omega
theorem i64_and (a b : Nat) (ha : a < 2 ^ 62) (hb : b < 2 ^ 62) : bits .and .i64 (a : Int) (b : Int) = ((a &&& b : Nat) : Int) :=
  (bits_nat .i64 62 (by decide) wraps_i64 a b ha hb).1
theorem i64_xor (a b : Nat) (ha : a < 2 ^ 62) (hb : b < 2 ^ 62) : bits .xor .i64 (a : Int) (b : Int) = ((a ^^^ b : Nat) : Int) := by
  have hp : (2 : Nat) ^ 62 < 2 ^ IntKind.i64.bits := by decide
  have ha' : a % 2 ^ IntKind.i64.bits = a := Nat.mod_eq_of_lt (Nat.lt_trans ha hp)
  have hb' : b % 2 ^ IntKind.i64.bits = b := Nat.mod_eq_of_lt (Nat.lt_trans hb hp)
  simp only [bits, BitVec.ofInt_natCast, BitVec.toNat_xor, BitVec.toNat_ofNat, ha', hb']
  have := Nat.xor_lt_two_pow (n := 62) ha hb
  exact wraps_i64 _ (Int.natCast_nonneg _) (by exact_mod_cast this)
theorem and128 : ∀ a, a < 256 → ((a &&& 128 = 0) ↔ a < 128) := by decide +kernel
theorem test128 (a : Nat) (h : a < 256) : (bits .and .u8 (a : Int) 128 != 0) = decide (128 ≤ a) := by
  have e := u8_and a 128 h (by decide)
  rw [show ((128 : Nat) : Int) = 128 from rfl] at e
  rw [e]
  have := and128 a h
  rw [Bool.eq_iff_iff]
  simp
  omega
theorem and1 (a : Nat) : a &&& 1 = a % 2 := Nat.and_one_is_mod a
theorem test1 (a : Nat) (h : a < 256) : (bits .and .u8 (a : Int) 1 != 0) = decide (a % 2 = 1) := by
  have e := u8_and a 1 h (by decide)
  rw [show ((1 : Nat) : Int) = 1 from rfl] at e
  rw [e, and1]
  rw [Bool.eq_iff_iff]
  simp
  omega

theorem tx_hi {a : Nat} (h : a < 256) (ht : 128 ≤ a) : bits .xor .u8 ((a : Int) * 2 % 256) 29 = (tx a : Int) := by
  have e : ((a : Int) * 2 % 256) = ((2 * a - 256 : Nat) : Int) := by omega
  rw [e, show (29 : Int) = ((29 : Nat) : Int) from rfl, u8_xor _ _ (by omega) (by decide)]
  unfold tx; rw [if_neg (by omega)]
theorem tx_lo {a : Nat} (ht : a < 128) : (a : Int) * 2 = (tx a : Int) := by
  unfold tx; rw [if_pos ht]; omega
set_option maxRecDepth 100000 in
theorem timesX_any (a : Nat) (h : a < 256) (w : World) :
    Calls Tryd.prog 102 #[.int .u8 a] w fun e w' => e = .returned (.int .u8 (tx a)) ∧ w' = w := by
  have ht := test128 a h
  by_cases hc : 128 ≤ a
  · rw [decide_eq_true hc] at ht
    go_enter Tryd.func102, Tryd.ntmps102
    go_wp2
    go_ret
    exact ⟨ret_int (tx_hi h hc), rfl⟩
  · rw [decide_eq_false hc] at ht
    go_enter Tryd.func102, Tryd.ntmps102
    go_wp2
    go_ret
    exact ⟨ret_int (tx_lo (by omega)), rfl⟩

theorem gmf_zero (n : Nat) : ∀ a p, gmf n a 0 p = p := by
  induction n with
  | zero => intro a p; rfl
  | succ n ih => intro a p; simp only [gmf]; exact ih _ _
set_option maxRecDepth 100000 in
set_option maxHeartbeats 1000000 in
theorem mul_any (a b : Nat) (ha : a < 256) (hb : b < 256) (w : World) :
    Calls Tryd.prog 92 #[.int .u8 a, .int .u8 b] w fun e w' => e = .returned (.int .u8 (gm a b)) ∧ w' = w := by
  go_enter Tryd.func92, Tryd.ntmps92
  go_wp2
  go_loop [0, 1, 5] (fun s t u => ∃ n x y z : Nat, x < 256 ∧ y < 256 ∧ z < 256 ∧ y < 2 ^ n ∧ Hid (gmf n x y z = gm a b) ∧ s = .int .u8 x ∧ t = .int .u8 y ∧ u = .int .u8 z) (fun _ t _ => (intOf t).toNat)
  case atStart => exact ⟨8, a, b, 0, ha, hb, by decide, hb, rfl, rfl, rfl, rfl⟩
  case round =>
    obtain ⟨n, x, y, z, hx, hy, hz, hn, hg, rfl, rfl, rfl⟩ := hrel
    by_cases hy0 : y = 0
    · subst hy0
      go_wp2
      go_ret
      exact ⟨ret_int (by rw [← hg.out, gmf_zero]), rfl⟩
    · have hyn : ((y : Int) != 0) = true := by rw [bne_iff_ne]; omega
      have ht := test1 y hy
      cases n with
      | zero => exact absurd hn (by simp; omega)
      | succ n =>
      have hn2 : y / 2 < 2 ^ n := by rw [Nat.pow_succ] at hn; omega
      by_cases hc : y % 2 = 1
      · rw [decide_eq_true hc] at ht
        have hg2 : Hid (gmf n (tx x) (y / 2) (z ^^^ x) = gm a b) := by have := hg.out; simp only [gmf] at this; rw [if_pos hc] at this; exact this
        have hxz := u8_xor z x hz hx
        go_wp2_with (go_at_call 102; refine (timesX_any _ hx _).mono ?_; rintro e w' ⟨rfl, rfl⟩)
        go_round
        case rel => exact ⟨n, tx x, y / 2, z ^^^ x, tx_lt hx, by omega, xlt hz hx, hn2, hg2, rfl, by go_num, rfl⟩
        case measure => simp [intOf]; omega
      · rw [decide_eq_false hc] at ht
        have hg2 : Hid (gmf n (tx x) (y / 2) z = gm a b) := by have := hg.out; simp only [gmf] at this; rw [if_neg hc] at this; exact this
        go_wp2_with (go_at_call 102; refine (timesX_any _ hx _).mono ?_; rintro e w' ⟨rfl, rfl⟩)
        go_round
        case rel => exact ⟨n, tx x, y / 2, z, tx_lt hx, by omega, hz, hn2, hg2, rfl, by go_num, rfl⟩
        case measure => simp [intOf]; omega

theorem gif_step (n p v : Nat) : gif (n + 1) p v = gif n (gm p p) (gm v (gm p p)) := rfl
set_option maxRecDepth 100000 in
set_option maxHeartbeats 1000000 in
theorem inv_any (a : Nat) (ha : a < 256) (w : World) :
    Calls Tryd.prog 76 #[.int .u8 a] w fun e w' => e = .returned (.int .u8 (gi a)) ∧ w' = w := by
  go_enter Tryd.func76, Tryd.ntmps76
  go_wp2
  go_loop [3, 4, 6] (fun s t u => ∃ k p v : Nat, k ≤ 7 ∧ p < 256 ∧ v < 256 ∧ Hid (gif (7 - k) p v = gi a) ∧ s = .int .u8 v ∧ t = .int .u8 p ∧ u = .int .i64 k) (fun _ _ u => 7 - (intOf u).toNat)
  case atStart => exact ⟨0, a, 1, by decide, ha, by decide, rfl, rfl, rfl, rfl⟩
  case round =>
    obtain ⟨k, p, v, hk, hp, hv, hg, rfl, rfl, rfl⟩ := hrel
    by_cases hlt : k < 7
    · have hg2 : Hid (gif (7 - (k + 1)) (gm p p) (gm v (gm p p)) = gi a) := by
        have := hg.out; rw [show 7 - k = (7 - (k + 1)) + 1 from by omega, gif_step] at this; exact this
      go_wp2_with fail
      refine (mul_any p p hp hp _).mono ?_
      rintro e w' ⟨rfl, rfl⟩
      go_wp2_with fail
      refine (mul_any v (gm p p) hv (gm_lt _ hp) _).mono ?_
      rintro e w' ⟨rfl, rfl⟩
      go_wp2_with fail
      go_round
      case rel => exact ⟨k + 1, gm p p, gm v (gm p p), by omega, gm_lt _ hp, gm_lt _ hv, hg2, rfl, rfl, by go_num⟩
      case measure => simp [intOf]; omega
    · have hk7 : k = 7 := by omega
      subst hk7
      go_wp2
      go_ret
      exact ⟨ret_int (by rw [← hg.out]; rfl), rfl⟩
end Go.Proofs.YthhommjlomphdaaDoor
