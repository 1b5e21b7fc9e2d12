/-
  Sets of shards: the program's own functions on them.
-/
import Derived.Test.YtbgiechfhfeaeabDoorPlanBits
import Derived.Laws.BitsAllLaws
namespace Go.Proofs.YtbgiechfhfeaeabDoor
open Go.RowKit Gf

theorem pow_lt64 {k : Nat} (h : k < 64) : 2 ^ k < 18446744073709551616 := Nat.lt_of_lt_of_le (Nat.pow_lt_pow_right (by decide) h) (Nat.le_refl _)
theorem first_key (k : Nat) (h : k ≤ 16) : IntKind.u64.wrap (IntKind.u64.wrap (2 ^ k) - 1) = ((2 ^ k - 1 : Nat) : Int) := by
  have h1 := pow_lt64 (k := k) (by omega)
  have h2 : 0 < 2 ^ k := Nat.two_pow_pos k
  have e : ((2 : Int) ^ k) = ((2 ^ k : Nat) : Int) := by rw [Int.natCast_pow]; rfl
  rw [e, IntKind.wrap_u64, IntKind.wrap_u64]
  omega
set_option maxHeartbeats 1000000 in
theorem first_any (k : Nat) (hk : k ≤ 16) (w : World) :
    Calls Tryd.prog 25 #[.int .i64 k] w fun e w' => e = .returned (.int .u64 ((2 ^ k - 1 : Nat) : Int)) ∧ w' = w := by
  have key := first_key k hk
  go_enter Tryd.func25, Tryd.ntmps25
  go_wp2
  go_ret
  exact ⟨rfl, rfl⟩
theorem and_u64 (a b : Nat) (ha : a < 18446744073709551616) (hb : b < 18446744073709551616) : bits .and .u64 (a : Int) (b : Int) = ((a &&& b : Nat) : Int) := bits_and_u64_nat a b ha hb
theorem k1 (x : Nat) (hx : x < 65536) : IntKind.u64.wrap (bits .and .u64 ((x : Int) / 2) 6148914691236517205 + bits .and .u64 (x : Int) 6148914691236517205) = ((sw1 x : Nat) : Int) ∧ sw1 x < 131072 := by
  have e : (x : Int) / 2 = ((x / 2 : Nat) : Int) := by omega
  have h1 := and_u64 (x / 2) 6148914691236517205 (by omega) (by decide)
  have h2 := and_u64 x 6148914691236517205 (by omega) (by decide)
  have b1 := Nat.and_le_left (n := x / 2) (m := 6148914691236517205)
  have b2 := Nat.and_le_left (n := x) (m := 6148914691236517205)
  unfold sw1
  rw [e]
  refine ⟨?_, by omega⟩
  have h1' : bits .and .u64 ((x / 2 : Nat) : Int) 6148914691236517205 = ((x / 2 &&& 6148914691236517205 : Nat) : Int) := h1
  have h2' : bits .and .u64 (x : Int) 6148914691236517205 = ((x &&& 6148914691236517205 : Nat) : Int) := h2
  rw [h1', h2', IntKind.wrap_u64]
  generalize (x / 2 &&& 6148914691236517205) = a at *
  generalize (x &&& 6148914691236517205) = b at *
  omega
theorem k2 (x : Nat) (hx : x < 131072) : IntKind.u64.wrap (bits .and .u64 ((x : Int) / 4) 3689348814741910323 + bits .and .u64 (x : Int) 3689348814741910323) = ((sw2 x : Nat) : Int) ∧ sw2 x < 262144 := by
  have e : (x : Int) / 4 = ((x / 4 : Nat) : Int) := by omega
  have h1 := and_u64 (x / 4) 3689348814741910323 (by omega) (by decide)
  have h2 := and_u64 x 3689348814741910323 (by omega) (by decide)
  have b1 := Nat.and_le_left (n := x / 4) (m := 3689348814741910323)
  have b2 := Nat.and_le_left (n := x) (m := 3689348814741910323)
  unfold sw2
  rw [e]
  refine ⟨?_, by omega⟩
  have h1' : bits .and .u64 ((x / 4 : Nat) : Int) 3689348814741910323 = ((x / 4 &&& 3689348814741910323 : Nat) : Int) := h1
  have h2' : bits .and .u64 (x : Int) 3689348814741910323 = ((x &&& 3689348814741910323 : Nat) : Int) := h2
  rw [h1', h2', IntKind.wrap_u64]
  generalize (x / 4 &&& 3689348814741910323) = a at *
  generalize (x &&& 3689348814741910323) = b at *
  omega
theorem k3 (x : Nat) (hx : x < 262144) : bits .and .u64 (IntKind.u64.wrap ((x : Int) / 16 + (x : Int))) 1085102592571150095 = ((sw3 x : Nat) : Int) := by
  have e : IntKind.u64.wrap ((x : Int) / 16 + (x : Int)) = ((x / 16 + x : Nat) : Int) := by rw [IntKind.wrap_u64]; omega
  rw [e]
  exact and_u64 (x / 16 + x) 1085102592571150095 (by omega) (by decide)
theorem k4 (x c : Nat) (hx : x < 1048576) : IntKind.u64.wrap ((x : Int) + (x : Int) / (c : Int)) = ((x + x / c : Nat) : Int) := by
  have := Nat.div_le_self x c
  have e : (x : Int) / (c : Int) = ((x / c : Nat) : Int) := (Int.natCast_ediv x c).symm
  rw [IntKind.wrap_u64, e]
  generalize x / c = d at *
  omega
theorem and127 (x : Nat) : x &&& 127 = x % 128 := Nat.and_two_pow_sub_one_eq_mod x 7
set_option maxHeartbeats 1000000 in
theorem ones_any (x : Nat) (hx : x < 65536) (w : World) :
    Calls Tryd.prog 59 #[.int .u64 x] w fun e w' => e = .returned (.int .i64 ((mems x).length : Nat)) ∧ w' = w := by
  obtain ⟨a1, b1⟩ := k1 x hx
  obtain ⟨a2, b2⟩ := k2 _ b1
  have a3 := k3 _ b2
  have hs := sw_eq hx
  have p1 := pb_lt (x / 256)
  have p2 := pb_lt (x % 256)
  have hlen := mems_len x
  have e : sw3 (sw2 (sw1 x)) = pb (x / 256) * 256 + pb (x % 256) := hs
  generalize pb (x / 256) = p at *
  generalize pb (x % 256) = q at *
  have a4 := k4 (p * 256 + q) 256 (by omega)
  have e4 : p * 256 + q + (p * 256 + q) / 256 = p * 257 + q := by omega
  have a5 := k4 (p * 257 + q) 65536 (by omega)
  have e5 : p * 257 + q + (p * 257 + q) / 65536 = p * 257 + q := by rw [Nat.div_eq_of_lt (by omega), Nat.add_zero]
  have a6 := k4 (p * 257 + q) 4294967296 (by omega)
  have e6 : p * 257 + q + (p * 257 + q) / 4294967296 = p * 257 + q := by rw [Nat.div_eq_of_lt (by omega), Nat.add_zero]
  rw [e4] at a4
  rw [e5] at a5
  rw [e6] at a6
  have a7 := i64_and (p * 257 + q) 127 (by omega) (by decide)
  rw [and127, show (p * 257 + q) % 128 = p + q by omega, ← hlen] at a7
  have a8 : wrap64 ((p * 257 + q : Nat) : Int) = ((p * 257 + q : Nat) : Int) := by unfold wrap64; omega
  rw [e] at a3
  clear e hs hlen e4 e5 e6
  have H := hide (And.intro a1 (And.intro a2 (And.intro a3 (And.intro a4 (And.intro a5 (And.intro a6 (And.intro a7 a8)))))))
  clear a1 a2 a3 a4 a5 a6 a7 a8
  go_enter Tryd.func59, Tryd.ntmps59
  go_wp2
  obtain ⟨a1, a2, a3, a4, a5, a6, a7, a8⟩ := H.out
  simp only [a1]
  simp only [a2]
  simp only [a3]
  have a4' : IntKind.u64.wrap (((p * 256 + q : Nat) : Int) + ((p * 256 + q : Nat) : Int) / 256) = ((p * 257 + q : Nat) : Int) := a4
  have a5' : IntKind.u64.wrap (((p * 257 + q : Nat) : Int) + ((p * 257 + q : Nat) : Int) / 65536) = ((p * 257 + q : Nat) : Int) := a5
  have a6' : IntKind.u64.wrap (((p * 257 + q : Nat) : Int) + ((p * 257 + q : Nat) : Int) / 4294967296) = ((p * 257 + q : Nat) : Int) := a6
  have a7' : bits .and .i64 ((p * 257 + q : Nat) : Int) 127 = (((mems x).length : Nat) : Int) := a7
  simp only [a4', a5', a6', a8, a7']
  go_ret
  exact ⟨rfl, rfl⟩
set_option maxHeartbeats 1000000 in
theorem size_any (x : Nat) (hx : x < 65536) (w : World) :
    Calls Tryd.prog 48 #[.int .u64 x] w fun e w' => e = .returned (.int .i64 ((mems x).length : Nat)) ∧ w' = w := by
  go_enter Tryd.func48, Tryd.ntmps48
  go_wp2_with fail
  refine (ones_any x hx _).mono ?_
  rintro e w' ⟨rfl, rfl⟩
  go_wp2
  go_ret
  exact ⟨rfl, rfl⟩
theorem behind_key (x k : Nat) (hx : x < 65536) (hk : k ≤ 16) : bits .andNot .u64 (x : Int) ((2 ^ k - 1 : Nat) : Int) = ((x / 2 ^ k * 2 ^ k : Nat) : Int) := by
  have h1 := pow_lt64 (k := k) (by omega)
  have h2 : 0 < 2 ^ k := Nat.two_pow_pos k
  have h := u64_andNot_nat x (2 ^ k - 1) (by omega) (by omega)
  rw [h]
  congr 1
  apply Nat.eq_of_testBit_eq
  intro j
  rw [Nat.testBit_and, Nat.testBit_mul_two_pow, show 18446744073709551615 - (2 ^ k - 1) = 2 ^ 64 - (2 ^ k - 1 + 1) by omega, Nat.testBit_two_pow_sub_succ (by omega), Nat.testBit_two_pow_sub_one, Nat.testBit_div_two_pow]
  by_cases hj : k ≤ j
  · rw [show j - k + k = j by omega]
    by_cases h64 : j < 64
    · simp [hj, h64, show ¬ j < k by omega]
    · have : x.testBit j = false := Nat.testBit_lt_two_pow (Nat.lt_of_lt_of_le hx (Nat.pow_le_pow_right (n := 2) (i := 16) (by decide) (by omega)))
      simp [this]
  · simp [hj, show j < k by omega]
set_option maxHeartbeats 1000000 in
theorem behind_any (x k : Nat) (hx : x < 65536) (hk : k < 16) (w : World) :
    Calls Tryd.prog 66 #[.int .u64 x, .int .i64 k] w fun e w' => e = .returned (.int .u64 (behindN x k : Nat)) ∧ w' = w := by
  have key := behind_key x (k + 1) hx (by omega)
  have hw : wrap64 ((k : Int) + 1) = ((k + 1 : Nat) : Int) := by unfold wrap64; omega
  have hw2 : IntKind.i64.wrap ((k : Int) + 1) = ((k + 1 : Nat) : Int) := by rw [IntKind.wrap_i64]; omega
  have H := hide key
  clear key
  go_enter Tryd.func66, Tryd.ntmps66
  go_wp2_with fail
  refine (first_any (k + 1) (by omega) _).mono ?_
  rintro e w' ⟨rfl, rfl⟩
  go_wp2
  rw [H.out]
  go_ret
  exact ⟨rfl, rfl⟩
end Go.Proofs.YtbgiechfhfeaeabDoor
