/-
  Sets of shards as numbers: the least one, the others, how many there are.
-/
import Derived.Test.YtbgiechfhfeaeabDoorSearchMath
import Derived.Test.YtbgiechfhfeaeabDoorFieldWalks
import Derived.Lib.TrailingZeros
import Derived.Laws.Bits64b
namespace Go.Proofs.YtbgiechfhfeaeabDoor
open Go.RowKit Gf

/-- the table of math/bits, where the program has it -/
def tabLaid (w : World) : Prop := ∀ j, j < 64 → w.cell? ⟨1, j, none⟩ = some (.int .u8 ((Lib.deBruijn64tab.getD j 0 : Nat) : Int))
theorem tabLaid.mono {w w' : World} {B : Nat} (h : tabLaid w) (hB : 1 < B) (hb : Below B w w') : tabLaid w' := fun j hj => (hb.cell (p := ⟨1, j, none⟩) hB).trans (h j hj)
theorem tz_key (x a : Nat) (hx : x < 18446744073709551616) (hx0 : x ≠ 0) (hlow : x &&& (18446744073709551616 - x) = a) :
    IntKind.u64.wrap (bits BinOp.and IntKind.u64 (x : Int) (IntKind.u64.wrap (-(x : Int))) * 285870213051353865) / 288230376151711744 = ((a * 285870213051353865 % 18446744073709551616 / 288230376151711744 : Nat) : Int) := by
  have e1 : IntKind.u64.wrap (-(x : Int)) = ((18446744073709551616 - x : Nat) : Int) := by rw [IntKind.wrap_u64]; omega
  rw [e1, bits_and_u64_nat x _ hx (by omega), hlow, IntKind.wrap_u64]
  omega
/-- the least shard of a set -/
def low (x : Nat) : Nat := Lib.ctzFrom 64 x
theorem low_spec {x : Nat} (h0 : x ≠ 0) (hx : x < 65536) : ∃ m, x = 2 ^ low x * (2 * m + 1) ∧ low x < 64 := Lib.ctzFrom_spec 64 x (by omega) (by omega)
set_option maxHeartbeats 1000000 in
theorem tz_core (x k idx : Nat) (w : World) (hx0 : ((x : Int) == 0) = false)
    (key : IntKind.u64.wrap (bits BinOp.and IntKind.u64 (x : Int) (IntKind.u64.wrap (-(x : Int))) * 285870213051353865) / 288230376151711744 = (idx : Int))
    (hi : idx < 64) (hk : k < 64) (hcell : w.cell? ⟨1, idx, none⟩ = some (.int .u8 k)) :
    Calls Tryd.prog 44 #[.int .u64 x] w fun e w' => e = .returned (.int .i64 k) ∧ w' = w := by
  go_enter Tryd.func44, Tryd.ntmps44
  go_wp2_with (simp only [key])
  go_ret
  exact ⟨rfl, rfl⟩
theorem tz_any (x : Nat) (h0 : x ≠ 0) (hx : x < 65536) (w : World) (hT : tabLaid w) :
    Calls Tryd.prog 44 #[.int .u64 x] w fun e w' => e = .returned (.int .i64 (low x)) ∧ w' = w := by
  obtain ⟨m, hm, hk⟩ := low_spec h0 hx
  have hlow : x &&& (18446744073709551616 - x) = 2 ^ low x := by
    have := Lib.and_neg 64 (low x) m (by rw [← hm]; omega)
    rw [← hm] at this; exact this
  obtain ⟨hi, htab⟩ := Lib.deBruijn64_at _ hk
  have hcell := hT _ hi
  rw [htab] at hcell
  exact tz_core x _ _ w (by simp; omega) (tz_key x _ (by omega) h0 hlow) hi hk hcell
/-- the others -/
theorem low_and {x : Nat} (h0 : x ≠ 0) (hx : x < 65536) : x &&& (x - 1) = behindN x (low x) := by
  obtain ⟨m, hm, _⟩ := low_spec h0 hx
  generalize low x = k at hm
  have hp : 0 < 2 ^ k := Nat.two_pow_pos k
  have hpp : 2 ^ (k + 1) = 2 * 2 ^ k := by rw [Nat.pow_succ]; omega
  have e1 : x = 2 ^ (k + 1) * m + 2 ^ k := by rw [hm, hpp, Nat.mul_add, Nat.mul_one, Nat.mul_comm 2 (2 ^ k), Nat.mul_assoc]
  have e2 : x - 1 = 2 ^ (k + 1) * m + (2 ^ k - 1) := by omega
  apply Nat.eq_of_testBit_eq
  intro j
  rw [Nat.testBit_and, e2, behindN_bit]
  have e3 := Nat.testBit_two_pow_mul_add m (i := k + 1) (b := 2 ^ k) (by omega) j
  have e4 := Nat.testBit_two_pow_mul_add m (i := k + 1) (b := 2 ^ k - 1) (by omega) j
  rw [e4, e1, e3]
  by_cases hj : j < k + 1
  · rw [if_pos hj, if_pos hj, Nat.testBit_two_pow, Nat.testBit_two_pow_sub_one]
    have h1 : decide (k < j) = false := by simp; omega
    rw [h1, Bool.false_and]
    by_cases e : k = j
    · simp [e]
    · simp [e]
  · rw [if_neg hj, if_neg hj]
    have h1 : decide (k < j) = true := by simp; omega
    rw [h1, Bool.true_and, Bool.and_self]
theorem low_bit {x : Nat} (h0 : x ≠ 0) (hx : x < 65536) : x.testBit (low x) = true ∧ ∀ j, j < low x → x.testBit j = false := by
  obtain ⟨m, hm, _⟩ := low_spec h0 hx
  generalize low x = k at hm
  have hp : 0 < 2 ^ k := Nat.two_pow_pos k
  have hpp : 2 ^ (k + 1) = 2 * 2 ^ k := by rw [Nat.pow_succ]; omega
  have e1 : x = 2 ^ (k + 1) * m + 2 ^ k := by rw [hm, hpp, Nat.mul_add, Nat.mul_one, Nat.mul_comm 2 (2 ^ k), Nat.mul_assoc]
  have e3 := fun j => Nat.testBit_two_pow_mul_add m (i := k + 1) (b := 2 ^ k) (by omega) j
  constructor
  · rw [e1, e3, if_pos (by omega), Nat.testBit_two_pow_self]
  · intro j hj
    rw [e1, e3, if_pos (by omega), Nat.testBit_two_pow]
    simp; omega
theorem low_lt {x : Nat} (h0 : x ≠ 0) (hx : x < 65536) : low x < 16 := by
  refine Nat.lt_of_not_le fun h => ?_
  have := Nat.testBit_lt_two_pow (x := x) (i := low x) (Nat.lt_of_lt_of_le hx (Nat.pow_le_pow_right (n := 2) (by decide) h))
  rw [(low_bit h0 hx).1] at this; cases this
theorem mems_low {x : Nat} (h0 : x ≠ 0) (hx : x < 65536) : mems x = low x :: mems (behindN x (low x)) := by
  have hm : low x ∈ mems x := mem_mems.2 ⟨low_lt h0 hx, (low_bit h0 hx).1⟩
  obtain ⟨pre, R, e⟩ := List.append_of_mem hm
  rw [mems_behind e]
  have hs := mems_sorted x
  rw [e] at hs
  cases pre with
  | nil => exact e
  | cons a pre =>
    have h1 := (List.pairwise_append.1 hs).2.2 a (by simp) (low x) (by simp)
    have h2 := (mem_mems.1 (show a ∈ mems x by rw [e]; simp)).2
    rw [(low_bit h0 hx).2 a h1] at h2; cases h2
theorem behind_lt (x k : Nat) (hx : x < 65536) : behindN x k < 65536 := by
  unfold behindN; exact Nat.lt_of_le_of_lt (Nat.div_mul_le_self _ _) hx
theorem mems_zero : mems 0 = [] := by decide

/-! ### how many there are -/
def sw1 (x : Nat) : Nat := (x / 2 &&& 6148914691236517205) + (x &&& 6148914691236517205)
def sw2 (x : Nat) : Nat := (x / 4 &&& 3689348814741910323) + (x &&& 3689348814741910323)
def sw3 (x : Nat) : Nat := (x / 16 + x) &&& 1085102592571150095
def sw (x : Nat) : Nat := sw3 (sw2 (sw1 x))
def pb (b : Nat) : Nat := b % 2 + b / 2 % 2 + b / 4 % 2 + b / 8 % 2 + b / 16 % 2 + b / 32 % 2 + b / 64 % 2 + b / 128 % 2
def tst (n : Nat) : Nat → Bool
  | 0 => true
  | k + 1 => (sw (n * 256 + k) == pb n * 256 + pb k) && tst n k
def tsts : Nat → Bool
  | 0 => true
  | n + 1 => tst n 256 && tsts n
theorem pops : tsts 256 = true := by decide +kernel
theorem tst_at {n : Nat} : ∀ {k}, tst n k = true → ∀ j, j < k → sw (n * 256 + j) = pb n * 256 + pb j
  | 0, _, j, h => absurd h (by omega)
  | k + 1, h, j, hj => by
    obtain ⟨h1, h2⟩ := Bool.and_eq_true_iff.1 h
    by_cases e : j = k
    · rw [e]; exact eq_of_beq h1
    · exact tst_at h2 j (by omega)
theorem tsts_at : ∀ {n}, tsts n = true → ∀ i, i < n → tst i 256 = true
  | 0, _, i, h => absurd h (by omega)
  | n + 1, h, i, hi => by
    obtain ⟨h1, h2⟩ := Bool.and_eq_true_iff.1 h
    by_cases e : i = n
    · rw [e]; exact h1
    · exact tsts_at h2 i (by omega)
theorem sw_eq {x : Nat} (hx : x < 65536) : sw x = pb (x / 256) * 256 + pb (x % 256) := by
  have := tst_at (tsts_at pops (x / 256) (by omega)) (x % 256) (by omega)
  rwa [show x / 256 * 256 + x % 256 = x by omega] at this
theorem bit_eq (x i : Nat) : (if x.testBit i = true then 1 else 0) = x / 2 ^ i % 2 := by
  rw [Nat.testBit_eq_decide_div_mod_eq]
  by_cases h : x / 2 ^ i % 2 = 1
  · simp [h]
  · have := Nat.mod_two_eq_zero_or_one (x / 2 ^ i)
    simp [h]; omega
theorem pb_lt (b : Nat) : pb b ≤ 8 := by unfold pb; omega
theorem mems_len (x : Nat) : (mems x).length = pb (x / 256) + pb (x % 256) := by
  have h : ∀ n, ((List.range n).filter (fun i => x.testBit i)).length = ((List.range n).map (fun i => x / 2 ^ i % 2)).sum := by
    intro n
    induction n with
    | zero => rfl
    | succ n ih =>
      rw [List.range_succ, List.filter_append, List.length_append, ih, List.map_append, List.sum_append]
      have e := bit_eq x n
      have e1 : ([n].map (fun i => x / 2 ^ i % 2)).sum = x / 2 ^ n % 2 := by simp
      rw [e1, ← e]
      by_cases e : x.testBit n = true
      · simp [e]
      · simp [e]
  unfold mems pb
  rw [h]
  have e16 : List.range 16 = [0, 1, 2, 3, 4, 5, 6, 7, 8, 9, 10, 11, 12, 13, 14, 15] := by decide
  rw [e16]
  simp only [List.map_cons, List.map_nil, List.sum_cons, List.sum_nil, Nat.reducePow, Nat.div_one]
  have h0 : x % 256 % 2 = x % 2 := by omega
  have h1 : x % 256 / 2 % 2 = x / 2 % 2 := by omega
  have h2 : x % 256 / 4 % 2 = x / 4 % 2 := by omega
  have h3 : x % 256 / 8 % 2 = x / 8 % 2 := by omega
  have h4 : x % 256 / 16 % 2 = x / 16 % 2 := by omega
  have h5 : x % 256 / 32 % 2 = x / 32 % 2 := by omega
  have h6 : x % 256 / 64 % 2 = x / 64 % 2 := by omega
  have h7 : x % 256 / 128 % 2 = x / 128 % 2 := by omega
  rw [h0, h1, h2, h3, h4, h5, h6, h7]
  clear h0 h1 h2 h3 h4 h5 h6 h7 h e16
  simp only [Nat.div_div_eq_div_mul, Nat.reduceMul]
  generalize x % 2 = a0; generalize x / 2 % 2 = a1; generalize x / 4 % 2 = a2; generalize x / 8 % 2 = a3; generalize x / 16 % 2 = a4; generalize x / 32 % 2 = a5; generalize x / 64 % 2 = a6; generalize x / 128 % 2 = a7
  generalize x / 256 % 2 = b0; generalize x / 512 % 2 = b1; generalize x / 1024 % 2 = b2; generalize x / 2048 % 2 = b3; generalize x / 4096 % 2 = b4; generalize x / 8192 % 2 = b5; generalize x / 16384 % 2 = b6; generalize x / 32768 % 2 = b7
  omega
end Go.Proofs.YtbgiechfhfeaeabDoor
