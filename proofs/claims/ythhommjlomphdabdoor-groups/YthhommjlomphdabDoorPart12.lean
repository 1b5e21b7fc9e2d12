import Derived.Test.YthhommjlomphdabDoorSearchMath
import Derived.Test.YthhommjlomphdabDoorPart03
import Derived.Lib.TrailingZeros
import Derived.Laws.Bits64b
import Derived.Laws.BitsAllLaws
import Derived.Test.YthhommjlomphdabDoorPart11
/-
  Sets of shards as numbers: the least one, the others, how many there are.
-/
namespace Go.Proofs.YthhommjlomphdabDoor
open Go.RowKit Gf

/-- the table of math/bits, where the program has it -/
def tabLaid (w : World) : Prop := ∀ j, j < 64 → w.cell? ⟨1, j, none⟩ = some (.int .u8 ((Lib.deBruijn64tab.getD j 0 : Nat) : Int))
theorem tabLaid.mono {w w' : World} {B : Nat} (h : tabLaid w) (hB : 1 < B) (hb : Below B w w') : tabLaid w' := fun j hj => (hb.cell (p := ⟨1, j, none⟩) hB).trans (h j hj)
theorem tz_key (x a : Nat) (hx : x < 18446744073709551616) (hx0 : x ≠ 0) (hlow : x &&& (18446744073709551616 - x) = a) :
    IntKind.u64.wrap (bits BinOp.and IntKind.u64 (x : Int) (IntKind.u64.wrap (-(x : Int))) * 285870213051353865) / 288230376151711744 = ((a * 285870213051353865 % 18446744073709551616 / 288230376151711744 : Nat) : Int) := by
  have e1 : IntKind.u64.wrap (-(x : Int)) = ((18446744073709551616 - x : Nat) : Int) := by rw [IntKind.wrap_u64]; omega
  rw [e1, bits_and_u64_nat x _ hx (by omega), hlow, IntKind.wrap_u64]
  omega
/-- the least shard of a set -/
def low (x : Nat) : Nat := Lib.ctzFrom 64 x
theorem low_spec {x : Nat} (h0 : x ≠ 0) (hx : x < 65536) : ∃ m, x = 2 ^ low x * (2 * m + 1) ∧ low x < 64 := Lib.ctzFrom_spec 64 x (by omega) (by omega)
set_option maxHeartbeats 1000000 in
theorem tz_core (x k idx : Nat) (w : World) (hx0 : ((x : Int) == 0) = false)
    (key : IntKind.u64.wrap (bits BinOp.and IntKind.u64 (x : Int) (IntKind.u64.wrap (-(x : Int))) * 285870213051353865) / 288230376151711744 = (idx : Int))
    (hi : idx < 64) (hk : k < 64) (hcell : w.cell? ⟨1, idx, none⟩ = some (.int .u8 k)) :
    Calls Tryd.prog 53 #[.int .u64 x] w fun e w' => e = .returned (.int .i64 k) ∧ w' = w := by
  go_enter Tryd.func53, Tryd.ntmps53
  go_wp2_with (simp only [key])
  go_ret
  exact ⟨rfl, rfl⟩
theorem tz_any (x : Nat) (h0 : x ≠ 0) (hx : x < 65536) (w : World) (hT : tabLaid w) :
    Calls Tryd.prog 53 #[.int .u64 x] w fun e w' => e = .returned (.int .i64 (low x)) ∧ w' = w := by
  obtain ⟨m, hm, hk⟩ := low_spec h0 hx
  have hlow : x &&& (18446744073709551616 - x) = 2 ^ low x := by
    have := Lib.and_neg 64 (low x) m (by rw [← hm]; omega)
    rw [← hm] at this; exact this
  obtain ⟨hi, htab⟩ := Lib.deBruijn64_at _ hk
  have hcell := hT _ hi
  rw [htab] at hcell
  exact tz_core x _ _ w (by simp; omega) (tz_key x _ (by omega) h0 hlow) hi hk hcell
/-- the others -/
theorem low_and {x : Nat} (h0 : x ≠ 0) (hx : x < 65536) : x &&& (x - 1) = behindN x (low x) := by
  obtain ⟨m, hm, _⟩ := low_spec h0 hx
  generalize low x = k at hm
  have hp : 0 < 2 ^ k := Nat.two_pow_pos k
  have hpp : 2 ^ (k + 1) = 2 * 2 ^ k := by rw [Nat.pow_succ]; omega
  have e1 : x = 2 ^ (k + 1) * m + 2 ^ k := by rw [hm, hpp, Nat.mul_add, Nat.mul_one, Nat.mul_comm 2 (2 ^ k), Nat.mul_assoc]
  have e2 : x - 1 = 2 ^ (k + 1) * m + (2 ^ k - 1) := by omega
  apply Nat.eq_of_testBit_eq
  intro j
  rw [Nat.testBit_and, e2, behindN_bit]
  have e3 := Nat.testBit_two_pow_mul_add m (i := k + 1) (b := 2 ^ k) (by omega) j
  have e4 := Nat.testBit_two_pow_mul_add m (i := k + 1) (b := 2 ^ k - 1) (by omega) j
  rw [e4, e1, e3]
  by_cases hj : j < k + 1
  · rw [if_pos hj, if_pos hj, Nat.testBit_two_pow, Nat.testBit_two_pow_sub_one]
    have h1 : decide (k < j) = false := by simp; omega
    rw [h1, Bool.false_and]
    by_cases e : k = j
    · simp [e]
    · simp [e]
  · rw [if_neg hj, if_neg hj]
    have h1 : decide (k < j) = true := by simp; omega
    rw [h1, Bool.true_and, Bool.and_self]
theorem low_bit {x : Nat} (h0 : x ≠ 0) (hx : x < 65536) : x.testBit (low x) = true ∧ ∀ j, j < low x → x.testBit j = false := by
  obtain ⟨m, hm, _⟩ := low_spec h0 hx
  generalize low x = k at hm
  have hp : 0 < 2 ^ k := Nat.two_pow_pos k
  have hpp : 2 ^ (k + 1) = 2 * 2 ^ k := by rw [Nat.pow_succ]; omega
  have e1 : x = 2 ^ (k + 1) * m + 2 ^ k := by rw [hm, hpp, Nat.mul_add, Nat.mul_one, Nat.mul_comm 2 (2 ^ k), Nat.mul_assoc]
  have e3 := fun j => Nat.testBit_two_pow_mul_add m (i := k + 1) (b := 2 ^ k) (by omega) j
  constructor
  · rw [e1, e3, if_pos (by omega), Nat.testBit_two_pow_self]
  · intro j hj
    rw [e1, e3, if_pos (by omega), Nat.testBit_two_pow]
    simp; omega
theorem low_lt {x : Nat} (h0 : x ≠ 0) (hx : x < 65536) : low x < 16 := by
  refine Nat.lt_of_not_le fun h => ?_
  have := Nat.testBit_lt_two_pow (x := x) (i := low x) (Nat.lt_of_lt_of_le hx (Nat.pow_le_pow_right (n := 2) (by decide) h))
  rw [(low_bit h0 hx).1] at this; cases this
theorem mems_low {x : Nat} (h0 : x ≠ 0) (hx : x < 65536) : mems x = low x :: mems (behindN x (low x)) := by
  have hm : low x ∈ mems x := mem_mems.2 ⟨low_lt h0 hx, (low_bit h0 hx).1⟩
  obtain ⟨pre, R, e⟩ := List.append_of_mem hm
  rw [mems_behind e]
  have hs := mems_sorted x
  rw [e] at hs
  cases pre with
  | nil => exact e
  | cons a pre =>
    have h1 := (List.pairwise_append.1 hs).2.2 a (by simp) (low x) (by simp)
    have h2 := (mem_mems.1 (show a ∈ mems x by rw [e]; simp)).2
    rw [(low_bit h0 hx).2 a h1] at h2; cases h2
theorem behind_lt (x k : Nat) (hx : x < 65536) : behindN x k < 65536 := by
  unfold behindN; exact Nat.lt_of_le_of_lt (Nat.div_mul_le_self _ _) hx
theorem mems_zero : mems 0 = [] := by decide

/-! ### how many there are -/
def sw1 (x : Nat) : Nat := (x / 2 &&& 6148914691236517205) + (x &&& 6148914691236517205)
def sw2 (x : Nat) : Nat := (x / 4 &&& 3689348814741910323) + (x &&& 3689348814741910323)
def sw3 (x : Nat) : Nat := (x / 16 + x) &&& 1085102592571150095
def sw (x : Nat) : Nat := sw3 (sw2 (sw1 x))
def pb (b : Nat) : Nat := b % 2 + b / 2 % 2 + b / 4 % 2 + b / 8 % 2 + b / 16 % 2 + b / 32 % 2 + b / 64 % 2 + b / 128 % 2
def tst (n : Nat) : Nat → Bool
  | 0 => true
  | k + 1 => (sw (n * 256 + k) == pb n * 256 + pb k) && tst n k
def tsts : Nat → Bool
  | 0 => true
  | n + 1 => tst n 256 && tsts n
theorem pops : tsts 256 = true := by decide +kernel
theorem tst_at {n : Nat} : ∀ {k}, tst n k = true → ∀ j, j < k → sw (n * 256 + j) = pb n * 256 + pb j
  | 0, _, j, h => absurd h (by omega)
  | k + 1, h, j, hj => by
    obtain ⟨h1, h2⟩ := Bool.and_eq_true_iff.1 h
    by_cases e : j = k
    · rw [e]; exact eq_of_beq h1
    · exact tst_at h2 j (by omega)
theorem tsts_at : ∀ {n}, tsts n = true → ∀ i, i < n → tst i 256 = true
  | 0, _, i, h => absurd h (by omega)
  | n + 1, h, i, hi => by
    obtain ⟨h1, h2⟩ := Bool.and_eq_true_iff.1 h
    by_cases e : i = n
    · rw [e]; exact h1
    · exact tsts_at h2 i (by omega)
theorem sw_eq {x : Nat} (hx : x < 65536) : sw x = pb (x / 256) * 256 + pb (x % 256) := by
  have := tst_at (tsts_at pops (x / 256) (by omega)) (x % 256) (by omega)
  rwa [show x / 256 * 256 + x % 256 = x by omega] at this
theorem bit_eq (x i : Nat) : (if x.testBit i = true then 1 else 0) = x / 2 ^ i % 2 := by
  rw [Nat.testBit_eq_decide_div_mod_eq]
  by_cases h : x / 2 ^ i % 2 = 1
  · simp [h]
  · have := Nat.mod_two_eq_zero_or_one (x / 2 ^ i)
    simp [h]; omega
theorem pb_lt (b : Nat) : pb b ≤ 8 := by unfold pb; omega
theorem mems_len (x : Nat) : (mems x).length = pb (x / 256) + pb (x % 256) := by
  have h : ∀ n, ((List.range n).filter (fun i => x.testBit i)).length = ((List.range n).map (fun i => x / 2 ^ i % 2)).sum := by
    intro n
    induction n with
    | zero => rfl
    | succ n ih =>
      rw [List.range_succ, List.filter_append, List.length_append, ih, List.map_append, List.sum_append]
      have e := bit_eq x n
      have e1 : ([n].map (fun i => x / 2 ^ i % 2)).sum = x / 2 ^ n % 2 := by simp
      rw [e1, ← e]
      by_cases e : x.testBit n = true
      · simp [e]
      · simp [e]
  unfold mems pb
  rw [h]
  have e16 : List.range 16 = [0, 1, 2, 3, 4, 5, 6, 7, 8, 9, 10, 11, 12, 13, 14, 15] := by decide
  rw [e16]
  simp only [List.map_cons, List.map_nil, List.sum_cons, List.sum_nil, Nat.reducePow, Nat.div_one]
  have h0 : x % 256 % 2 = x % 2 := by omega
  have h1 : x % 256 / 2 % 2 = x / 2 % 2 := by omega
  have h2 : x % 256 / 4 % 2 = x / 4 % 2 := by omega
  have h3 : x % 256 / 8 % 2 = x / 8 % 2 := by omega
  have h4 : x % 256 / 16 % 2 = x / 16 % 2 := by omega
  have h5 : x % 256 / 32 % 2 = x / 32 % 2 := by omega
  have h6 : x % 256 / 64 % 2 = x / 64 % 2 := by omega
  have h7 : x % 256 / 128 % 2 = x / 128 % 2 := by omega
  rw [h0, h1, h2, h3, h4, h5, h6, h7]
  clear h0 h1 h2 h3 h4 h5 h6 h7 h e16
  simp only [Nat.div_div_eq_div_mul, Nat.reduceMul]
  generalize x % 2 = a0; generalize x / 2 % 2 = a1; generalize x / 4 % 2 = a2; generalize x / 8 % 2 = a3; generalize x / 16 % 2 = a4; generalize x / 32 % 2 = a5; generalize x / 64 % 2 = a6; generalize x / 128 % 2 = a7
  generalize x / 256 % 2 = b0; generalize x / 512 % 2 = b1; generalize x / 1024 % 2 = b2; generalize x / 2048 % 2 = b3; generalize x / 4096 % 2 = b4; generalize x / 8192 % 2 = b5; generalize x / 16384 % 2 = b6; generalize x / 32768 % 2 = b7
  omega
end Go.Proofs.YthhommjlomphdabDoor
/-
  Sets of shards: the program's own functions on them.
-/
namespace Go.Proofs.YthhommjlomphdabDoor
open Go.RowKit Gf

theorem pow_lt64 {k : Nat} (h : k < 64) : 2 ^ k < 18446744073709551616 := Nat.lt_of_lt_of_le (Nat.pow_lt_pow_right (by decide) h) (Nat.le_refl _)
theorem first_key (k : Nat) (h : k ≤ 16) : IntKind.u64.wrap (IntKind.u64.wrap (2 ^ k) - 1) = ((2 ^ k - 1 : Nat) : Int) := by
  have h1 := pow_lt64 (k := k) (by omega)
  have h2 : 0 < 2 ^ k := Nat.two_pow_pos k
  have e : ((2 : Int) ^ k) = ((2 ^ k : Nat) : Int) := by rw [Int.natCast_pow]; rfl
  rw [e, IntKind.wrap_u64, IntKind.wrap_u64]
  omega
set_option maxHeartbeats 1000000 in
theorem first_any (k : Nat) (hk : k ≤ 16) (w : World) :
    Calls Tryd.prog 25 #[.int .i64 k] w fun e w' => e = .returned (.int .u64 ((2 ^ k - 1 : Nat) : Int)) ∧ w' = w := by
  have key := first_key k hk
  go_enter Tryd.func25, Tryd.ntmps25
  go_wp2
  go_ret
  exact ⟨rfl, rfl⟩
theorem and_u64 (a b : Nat) (ha : a < 18446744073709551616) (hb : b < 18446744073709551616) : bits .and .u64 (a : Int) (b : Int) = ((a &&& b : Nat) : Int) := bits_and_u64_nat a b ha hb
theorem k1 (x : Nat) (hx : x < 65536) : IntKind.u64.wrap (bits .and .u64 ((x : Int) / 2) 6148914691236517205 + bits .and .u64 (x : Int) 6148914691236517205) = ((sw1 x : Nat) : Int) ∧ sw1 x < 131072 := by
  have e : (x : Int) / 2 = ((x / 2 : Nat) : Int) := by omega
  have h1 := and_u64 (x / 2) 6148914691236517205 (by omega) (by decide)
  have h2 := and_u64 x 6148914691236517205 (by omega) (by decide)
  have b1 := Nat.and_le_left (n := x / 2) (m := 6148914691236517205)
  have b2 := Nat.and_le_left (n := x) (m := 6148914691236517205)
  unfold sw1
  rw [e]
  refine ⟨?_, by omega⟩
  have h1' : bits .and .u64 ((x / 2 : Nat) : Int) 6148914691236517205 = ((x / 2 &&& 6148914691236517205 : Nat) : Int) := h1
  have h2' : bits .and .u64 (x : Int) 6148914691236517205 = ((x &&& 6148914691236517205 : Nat) : Int) := h2
  rw [h1', h2', IntKind.wrap_u64]
  generalize (x / 2 &&& 6148914691236517205) = a at *
  generalize (x &&& 6148914691236517205) = b at *
  omega
theorem k2 (x : Nat) (hx : x < 131072) : IntKind.u64.wrap (bits .and .u64 ((x : Int) / 4) 3689348814741910323 + bits .and .u64 (x : Int) 3689348814741910323) = ((sw2 x : Nat) : Int) ∧ sw2 x < 262144 := by
  have e : (x : Int) / 4 = ((x / 4 : Nat) : Int) := by omega
  have h1 := and_u64 (x / 4) 3689348814741910323 (by omega) (by decide)
  have h2 := and_u64 x 3689348814741910323 (by omega) (by decide)
  have b1 := Nat.and_le_left (n := x / 4) (m := 3689348814741910323)
  have b2 := Nat.and_le_left (n := x) (m := 3689348814741910323)
  unfold sw2
  rw [e]
  refine ⟨?_, by omega⟩
  have h1' : bits .and .u64 ((x / 4 : Nat) : Int) 3689348814741910323 = ((x / 4 &&& 3689348814741910323 : Nat) : Int) := h1
  have h2' : bits .and .u64 (x : Int) 3689348814741910323 = ((x &&& 3689348814741910323 : Nat) : Int) := h2
  rw [h1', h2', IntKind.wrap_u64]
  generalize (x / 4 &&& 3689348814741910323) = a at *
  generalize (x &&& 3689348814741910323) = b at *
  omega
theorem k3 (x : Nat) (hx : x < 262144) : bits .and .u64 (IntKind.u64.wrap ((x : Int) / 16 + (x : Int))) 1085102592571150095 = ((sw3 x : Nat) : Int) := by
  have e : IntKind.u64.wrap ((x : Int) / 16 + (x : Int)) = ((x / 16 + x : Nat) : Int) := by rw [IntKind.wrap_u64]; omega
  rw [e]
  exact and_u64 (x / 16 + x) 1085102592571150095 (by omega) (by decide)
theorem k4 (x c : Nat) (hx : x < 1048576) : IntKind.u64.wrap ((x : Int) + (x : Int) / (c : Int)) = ((x + x / c : Nat) : Int) := by
  have := Nat.div_le_self x c
  have e : (x : Int) / (c : Int) = ((x / c : Nat) : Int) := (Int.natCast_ediv x c).symm
  rw [IntKind.wrap_u64, e]
  generalize x / c = d at *
  omega
theorem and127 (x : Nat) : x &&& 127 = x % 128 := Nat.and_two_pow_sub_one_eq_mod x 7
set_option maxHeartbeats 1000000 in
theorem ones_any (x : Nat) (hx : x < 65536) (w : World) :
    Calls Tryd.prog 57 #[.int .u64 x] w fun e w' => e = .returned (.int .i64 ((mems x).length : Nat)) ∧ w' = w := by
  obtain ⟨a1, b1⟩ := k1 x hx
  obtain ⟨a2, b2⟩ := k2 _ b1
  have a3 := k3 _ b2
  have hs := sw_eq hx
  have p1 := pb_lt (x / 256)
  have p2 := pb_lt (x % 256)
  have hlen := mems_len x
  have e : sw3 (sw2 (sw1 x)) = pb (x / 256) * 256 + pb (x % 256) := hs
  generalize pb (x / 256) = p at *
  generalize pb (x % 256) = q at *
  have a4 := k4 (p * 256 + q) 256 (by omega)
  have e4 : p * 256 + q + (p * 256 + q) / 256 = p * 257 + q := by omega
  have a5 := k4 (p * 257 + q) 65536 (by omega)
  have e5 : p * 257 + q + (p * 257 + q) / 65536 = p * 257 + q := by rw [Nat.div_eq_of_lt (by omega), Nat.add_zero]
  have a6 := k4 (p * 257 + q) 4294967296 (by omega)
  have e6 : p * 257 + q + (p * 257 + q) / 4294967296 = p * 257 + q := by rw [Nat.div_eq_of_lt (by omega), Nat.add_zero]
  rw [e4] at a4
  rw [e5] at a5
  rw [e6] at a6
  have a7 := i64_and (p * 257 + q) 127 (by omega) (by decide)
  rw [and127, show (p * 257 + q) % 128 = p + q by omega, ← hlen] at a7
  have a8 : wrap64 ((p * 257 + q : Nat) : Int) = ((p * 257 + q : Nat) : Int) := by unfold wrap64; omega
  rw [e] at a3
  clear e hs hlen e4 e5 e6
  have H := hide (And.intro a1 (And.intro a2 (And.intro a3 (And.intro a4 (And.intro a5 (And.intro a6 (And.intro a7 a8)))))))
  clear a1 a2 a3 a4 a5 a6 a7 a8
  go_enter Tryd.func57, Tryd.ntmps57
  go_wp2
  obtain ⟨a1, a2, a3, a4, a5, a6, a7, a8⟩ := H.out
  simp only [a1]
  simp only [a2]
  simp only [a3]
  have a4' : IntKind.u64.wrap (((p * 256 + q : Nat) : Int) + ((p * 256 + q : Nat) : Int) / 256) = ((p * 257 + q : Nat) : Int) := a4
  have a5' : IntKind.u64.wrap (((p * 257 + q : Nat) : Int) + ((p * 257 + q : Nat) : Int) / 65536) = ((p * 257 + q : Nat) : Int) := a5
  have a6' : IntKind.u64.wrap (((p * 257 + q : Nat) : Int) + ((p * 257 + q : Nat) : Int) / 4294967296) = ((p * 257 + q : Nat) : Int) := a6
  have a7' : bits .and .i64 ((p * 257 + q : Nat) : Int) 127 = (((mems x).length : Nat) : Int) := a7
  simp only [a4', a5', a6', a8, a7']
  go_ret
  exact ⟨rfl, rfl⟩
set_option maxHeartbeats 1000000 in
theorem size_any (x : Nat) (hx : x < 65536) (w : World) :
    Calls Tryd.prog 41 #[.int .u64 x] w fun e w' => e = .returned (.int .i64 ((mems x).length : Nat)) ∧ w' = w := by
  go_enter Tryd.func41, Tryd.ntmps41
  go_wp2_with fail
  refine (ones_any x hx _).mono ?_
  rintro e w' ⟨rfl, rfl⟩
  go_wp2
  go_ret
  exact ⟨rfl, rfl⟩
theorem behind_key (x k : Nat) (hx : x < 65536) (hk : k ≤ 16) : bits .andNot .u64 (x : Int) ((2 ^ k - 1 : Nat) : Int) = ((x / 2 ^ k * 2 ^ k : Nat) : Int) := by
  have h1 := pow_lt64 (k := k) (by omega)
  have h2 : 0 < 2 ^ k := Nat.two_pow_pos k
  have h := u64_andNot_nat x (2 ^ k - 1) (by omega) (by omega)
  rw [h]
  congr 1
  apply Nat.eq_of_testBit_eq
  intro j
  rw [Nat.testBit_and, Nat.testBit_mul_two_pow, show 18446744073709551615 - (2 ^ k - 1) = 2 ^ 64 - (2 ^ k - 1 + 1) by omega, Nat.testBit_two_pow_sub_succ (by omega), Nat.testBit_two_pow_sub_one, Nat.testBit_div_two_pow]
  by_cases hj : k ≤ j
  · rw [show j - k + k = j by omega]
    by_cases h64 : j < 64
    · simp [hj, h64, show ¬ j < k by omega]
    · have : x.testBit j = false := Nat.testBit_lt_two_pow (Nat.lt_of_lt_of_le hx (Nat.pow_le_pow_right (n := 2) (i := 16) (by decide) (by omega)))
      simp [this]
  · simp [hj, show j < k by omega]
set_option maxHeartbeats 1000000 in
theorem behind_any (x k : Nat) (hx : x < 65536) (hk : k < 16) (w : World) :
    Calls Tryd.prog 64 #[.int .u64 x, .int .i64 k] w fun e w' => e = .returned (.int .u64 (behindN x k : Nat)) ∧ w' = w := by
  have key := behind_key x (k + 1) hx (by omega)
  have hw : wrap64 ((k : Int) + 1) = ((k + 1 : Nat) : Int) := by unfold wrap64; omega
  have hw2 : IntKind.i64.wrap ((k : Int) + 1) = ((k + 1 : Nat) : Int) := by rw [IntKind.wrap_i64]; omega
  have H := hide key
  clear key
  go_enter Tryd.func64, Tryd.ntmps64
  go_wp2_with fail
  refine (first_any (k + 1) (by omega) _).mono ?_
  rintro e w' ⟨rfl, rfl⟩
  go_wp2
  rw [H.out]
  go_ret
  exact ⟨rfl, rfl⟩
end Go.Proofs.YthhommjlomphdabDoor
/-
  The shards of a set, one after another: the program's iterator, and its contract.
-/
namespace Go.Proofs.YthhommjlomphdabDoor
open Go.RowKit Go.Shelf Gf

attribute [local go_sem] Oper.semAt_some
theorem behind_small {q : Nat} (h0 : q ≠ 0) (hq : q < 65536) : behindN q (low q) < q := by
  refine Nat.lt_of_le_of_ne (Nat.div_mul_le_self _ _) fun e => ?_
  have h1 := behindN_bit q (low q) (low q)
  rw [e, (low_bit h0 hq).1] at h1
  simp at h1
/-- a shard -/
abbrev Sh := { x : Nat // x < 16 }
def encSh (x : Sh) : Array Value := #[.int .i64 (x.1 : Int)]
/-- the shards of a set, as such -/
def shs (s : Nat) : List Sh := (mems s).filterMap (fun i => if h : i < 16 then some ⟨i, h⟩ else none)
theorem shs_val (s : Nat) : (shs s).map (·.1) = mems s := by
  unfold shs
  have h : ∀ L : List Nat, (∀ i ∈ L, i < 16) → (L.filterMap (fun i => if h : i < 16 then some (⟨i, h⟩ : Sh) else none)).map (·.1) = L := by
    intro L
    induction L with
    | nil => intro _; rfl
    | cons a L ih =>
      intro hL
      have ha := hL a List.mem_cons_self
      rw [List.filterMap_cons_some (b := (⟨a, ha⟩ : Sh)) (by simp [ha]), List.map_cons, ih (fun i hi => hL i (List.mem_cons_of_mem _ hi))]
  exact h _ (fun i hi => (mem_mems.1 hi).1)
set_option maxHeartbeats 1000000 in
/-- s.members(): the set lies in a block of its own -/
theorem members_any (s : Nat) (w : World) :
    Calls Tryd.prog 39 #[.int .u64 s] w fun e w' => e = .returned (.func (.func 52) #[] #[.pointer (some ⟨w.heap.size, 0, none⟩)]) ∧ w' = w.alloc (.cells #[.int .u64 s] 63) := by
  go_enter Tryd.func39, Tryd.ntmps39
  go_wp2
  go_ret
  exact ⟨rfl, rfl⟩
set_option maxRecDepth 100000 in
set_option maxHeartbeats 1000000 in
theorem members1_in (n : Nat) (l Bs s : Nat) (hs : s < 65536) (J Jx : List Sh → World → Prop)
    (hY : ∀ pre x W, J pre W → pre.length < (mems s).length → YieldAt Fence.wide (n - 1) Tryd.prog l (encSh x) W fun e W' =>
      (e = .returned (.bool true) ∧ J (pre ++ [x]) W' ∧ (tabLaid W → tabLaid W')) ∨ (e = .returned (.bool false) ∧ Jx (pre ++ [x]) W'))
    (W : World) (hB : W.cell? ⟨Bs, 0, none⟩ = some (.int .u64 s)) (hT : tabLaid W) (h0 : J [] W) :
    CallsIn Fence.wide n Tryd.prog 52 #[.func (.yield l) #[] #[], .pointer (some ⟨Bs, 0, none⟩)] W fun e W' => (∃ v, e = .returned v) ∧
      ((∃ ys, ys.map (·.1) = mems s ∧ J ys W') ∨ (∃ pre, pre.map (·.1) <+: mems s ∧ Jx pre W')) := by
  refine callsIn_of_wp Tryd.func52 rfl trivial ?_ rfl
  simp only [Tryd.ntmps52, List.size_toArray, List.length_cons, List.length_nil, Nat.reduceAdd, Nat.reduceSub, Array.replicate_succ, Array.replicate_zero, List.push_toArray, List.append_toArray, List.nil_append, List.cons_append]
  gi_wp2
  gi_loopw [3] (fun p wr => ∃ (pre : List Sh) (q : Nat), p = .int .u64 q ∧ q < 65536 ∧ mems s = pre.map (·.1) ++ mems q ∧ J pre wr ∧ tabLaid wr)
    (fun p _ => (intOf p).toNat)
  case atStart =>
    exact ⟨[], s, rfl, hs, rfl, h0, hT⟩
  case round =>
    obtain ⟨pre, q, rfl, hq, hx, hJs, hTr⟩ := hrel
    by_cases hq0 : q = 0
    · subst hq0
      gi_wp2
      go_end0
      exact ⟨⟨_, rfl⟩, .inl ⟨pre, by rw [hx, mems_zero, List.append_nil], hJs⟩⟩
    · have hne : ((q : Int) != 0) = true := by simp; omega
      have hlt := low_lt hq0 hq
      obtain ⟨fn, tmps, assign, body, hy, hR⟩ := hY pre ⟨low q, hlt⟩ wr hJs (by rw [hx, mems_low hq0 hq]; simp)
      unfold encSh at hy
      gi_wp2
      refine at_wide (tz_any q hq0 hq wr hTr) ?_
      rintro e w' ⟨rfl, rfl⟩
      gi_wp2
      refine ⟨fun h => (by cases h), hR.mono ?_⟩
      rintro e W3 (⟨rfl, hJ3, hT3⟩ | ⟨rfl, hJx3⟩)
      · have hw : IntKind.u64.wrap ((q : Int) - 1) = ((q - 1 : Nat) : Int) := by rw [IntKind.wrap_u64]; omega
        have ha := and_u64 q (q - 1) (by omega) (by omega)
        rw [low_and hq0 hq] at ha
        gi_wp2
        go_roundw
        case rel => exact ⟨pre ++ [⟨low q, hlt⟩], behindN q (low q), rfl, behind_lt _ _ hq, by rw [hx, mems_low hq0 hq]; simp, hJ3, hT3 hTr⟩
        case measure => have := behind_small hq0 hq; simp only [intOf]; omega
      · gi_wp2
        refine bodyPost_ret (results_none rfl _ _ _) rfl ?_
        exact ⟨⟨_, rfl⟩, .inr ⟨pre ++ [⟨low q, hlt⟩], by rw [hx, mems_low hq0 hq]; simp, hJx3⟩⟩
/-- what a round must leave: the table of math/bits -/
def KpT (W W' : World) : Prop := tabLaid W → tabLaid W'
theorem kpT_t {A B C : World} (h : KpT A B) (k : KpT B C) : KpT A C := fun x => k (h x)
theorem kpT_b {w : World} (hw : 2 ≤ w.heap.size) (W : World) (l : Nat) (o o' : Obj) (hl : w.heap.size ≤ l) (h : W.heap[l]? = some o) (_ : o.isCells = false) (_ : o.isWalk = false) : KpT W (W.putObj l o') := fun hT =>
  hT.mono (B := 2) (by decide) (Below.putObj' (Below.refl _ W) (by omega) (Array.getElem?_eq_some_iff.1 h).1 _)
theorem KpT.of_below {B : Nat} {W W' : World} (hB : 2 ≤ B) (h : Below B W W') : KpT W W' := fun hT => hT.mono (by omega) h
theorem KpT.refl (W : World) : KpT W W := fun h => h
/-- the contract -/
theorem members_stops (n Bs s : Nat) (hs : s < 65536) (w : World) (hB : Bs < w.heap.size) (hc : w.cell? ⟨Bs, 0, none⟩ = some (.int .u64 s)) (h2 : 2 ≤ w.heap.size) (hT : tabLaid w) :
    SeqStopsK Fence.wide n Tryd.prog 52 #[.pointer (some ⟨Bs, 0, none⟩)] encSh KpT (fun ys => ys.map (·.1) = mems s) (fun pre => pre.map (·.1) <+: mems s) (mems s).length w := fun l J Jx W hW _ _ hY h0 =>
  members1_in n l Bs s hs J Jx hY W ((hW.cell (p := ⟨Bs, 0, none⟩) hB).trans hc) (hT.mono (by omega) hW) h0
end Go.Proofs.YthhommjlomphdabDoor
