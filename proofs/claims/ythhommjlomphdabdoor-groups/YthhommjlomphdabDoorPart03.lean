import Derived.Test.YthhommjlomphdabDoorRows
import Derived.Test.YthhommjlomphdabDoorPart01
import Derived.WalkKit
import Derived.ProofKit
import Derived.OpenShut
import Derived.WalkSpells
import Derived.Laws.BitsLemmas
import Derived.Test.YthhommjlomphdabDoorPart02
import Derived.Deep.QuietTactic
import Derived.BigQuiet
/-
  The walks of Mul and Inv, the program's and the document's.
-/
namespace Go.Proofs.YthhommjlomphdabDoor
open Go.RowKit Gf

theorem hide {p : Prop} (h : p) : Hid p := h
theorem ret_int {k : IntKind} {a b : Int} (h : a = b) : Ending.returned (.int k a) = .returned (.int k b) := by rw [h]
theorem u8_and (a b : Nat) (ha : a < 256) (hb : b < 256) : bits .and .u8 (a : Int) (b : Int) = ((a &&& b : Nat) : Int) :=
  (bits_nat .u8 8 (by decide) wraps_u8 a b ha hb).1
theorem u8_xor (a b : Nat) (ha : a < 256) (hb : b < 256) : bits .xor .u8 (a : Int) (b : Int) = ((a ^^^ b : Nat) : Int) := by
  have ha' : a % 2 ^ IntKind.u8.bits = a := Nat.mod_eq_of_lt ha
  have hb' : b % 2 ^ IntKind.u8.bits = b := Nat.mod_eq_of_lt hb
  simp only [bits, BitVec.ofInt_natCast, BitVec.toNat_xor, BitVec.toNat_ofNat, ha', hb']
  have := xlt ha hb
  exact wraps_u8 _ (Int.natCast_nonneg _) (by omega)
theorem wraps_i64 (n : Int) (h₀ : 0 ≤ n) (h₁ : n < 2 ^ 62) : IntKind.i64.wrap n = n := by rw [IntKind.wrap_i64]; omega
theorem i64_and (a b : Nat) (ha : a < 2 ^ 62) (hb : b < 2 ^ 62) : bits .and .i64 (a : Int) (b : Int) = ((a &&& b : Nat) : Int) :=
  (bits_nat .i64 62 (by decide) wraps_i64 a b ha hb).1
theorem i64_xor (a b : Nat) (ha : a < 2 ^ 62) (hb : b < 2 ^ 62) : bits .xor .i64 (a : Int) (b : Int) = ((a ^^^ b : Nat) : Int) := by
  have hp : (2 : Nat) ^ 62 < 2 ^ IntKind.i64.bits := by decide
  have ha' : a % 2 ^ IntKind.i64.bits = a := Nat.mod_eq_of_lt (Nat.lt_trans ha hp)
  have hb' : b % 2 ^ IntKind.i64.bits = b := Nat.mod_eq_of_lt (Nat.lt_trans hb hp)
  simp only [bits, BitVec.ofInt_natCast, BitVec.toNat_xor, BitVec.toNat_ofNat, ha', hb']
  have := Nat.xor_lt_two_pow (n := 62) ha hb
  exact wraps_i64 _ (Int.natCast_nonneg _) (by exact_mod_cast this)
theorem and128 : ∀ a, a < 256 → ((a &&& 128 = 0) ↔ a < 128) := by decide +kernel
theorem test128 (a : Nat) (h : a < 256) : (bits .and .u8 (a : Int) 128 != 0) = decide (128 ≤ a) := by
  have e := u8_and a 128 h (by decide)
  rw [show ((128 : Nat) : Int) = 128 from rfl] at e
  rw [e]
  have := and128 a h
  rw [Bool.eq_iff_iff]
  simp
  omega
theorem and1 (a : Nat) : a &&& 1 = a % 2 := Nat.and_one_is_mod a
theorem test1 (a : Nat) (h : a < 256) : (bits .and .u8 (a : Int) 1 != 0) = decide (a % 2 = 1) := by
  have e := u8_and a 1 h (by decide)
  rw [show ((1 : Nat) : Int) = 1 from rfl] at e
  rw [e, and1]
  rw [Bool.eq_iff_iff]
  simp
  omega

theorem tx_hi {a : Nat} (h : a < 256) (ht : 128 ≤ a) : bits .xor .u8 ((a : Int) * 2 % 256) 29 = (tx a : Int) := by
  have e : ((a : Int) * 2 % 256) = ((2 * a - 256 : Nat) : Int) := by omega
  rw [e, show (29 : Int) = ((29 : Nat) : Int) from rfl, u8_xor _ _ (by omega) (by decide)]
  unfold tx; rw [if_neg (by omega)]
theorem tx_lo {a : Nat} (ht : a < 128) : (a : Int) * 2 = (tx a : Int) := by
  unfold tx; rw [if_pos ht]; omega
set_option maxRecDepth 100000 in
theorem timesX_any (a : Nat) (h : a < 256) (w : World) :
    Calls Tryd.prog 65 #[.int .u8 a] w fun e w' => e = .returned (.int .u8 (tx a)) ∧ w' = w := by
  have ht := test128 a h
  by_cases hc : 128 ≤ a
  · rw [decide_eq_true hc] at ht
    go_enter Tryd.func65, Tryd.ntmps65
    go_wp2
    go_ret
    exact ⟨ret_int (tx_hi h hc), rfl⟩
  · rw [decide_eq_false hc] at ht
    go_enter Tryd.func65, Tryd.ntmps65
    go_wp2
    go_ret
    exact ⟨ret_int (tx_lo (by omega)), rfl⟩

theorem gmf_zero (n : Nat) : ∀ a p, gmf n a 0 p = p := by
  induction n with
  | zero => intro a p; rfl
  | succ n ih => intro a p; simp only [gmf]; exact ih _ _
set_option maxRecDepth 100000 in
set_option maxHeartbeats 1000000 in
theorem mul_any (a b : Nat) (ha : a < 256) (hb : b < 256) (w : World) :
    Calls Tryd.prog 61 #[.int .u8 a, .int .u8 b] w fun e w' => e = .returned (.int .u8 (gm a b)) ∧ w' = w := by
  go_enter Tryd.func61, Tryd.ntmps61
  go_wp2
  go_loop [0, 1, 5] (fun s t u => ∃ n x y z : Nat, x < 256 ∧ y < 256 ∧ z < 256 ∧ y < 2 ^ n ∧ Hid (gmf n x y z = gm a b) ∧ s = .int .u8 x ∧ t = .int .u8 y ∧ u = .int .u8 z) (fun _ t _ => (intOf t).toNat)
  case atStart => exact ⟨8, a, b, 0, ha, hb, by decide, hb, rfl, rfl, rfl, rfl⟩
  case round =>
    obtain ⟨n, x, y, z, hx, hy, hz, hn, hg, rfl, rfl, rfl⟩ := hrel
    by_cases hy0 : y = 0
    · subst hy0
      go_wp2
      go_ret
      exact ⟨ret_int (by rw [← hg.out, gmf_zero]), rfl⟩
    · have hyn : ((y : Int) != 0) = true := by rw [bne_iff_ne]; omega
      have ht := test1 y hy
      cases n with
      | zero => exact absurd hn (by simp; omega)
      | succ n =>
      have hn2 : y / 2 < 2 ^ n := by rw [Nat.pow_succ] at hn; omega
      by_cases hc : y % 2 = 1
      · rw [decide_eq_true hc] at ht
        have hg2 : Hid (gmf n (tx x) (y / 2) (z ^^^ x) = gm a b) := by have := hg.out; simp only [gmf] at this; rw [if_pos hc] at this; exact this
        have hxz := u8_xor z x hz hx
        go_wp2_with (go_at_call 65; refine (timesX_any _ hx _).mono ?_; rintro e w' ⟨rfl, rfl⟩)
        go_round
        case rel => exact ⟨n, tx x, y / 2, z ^^^ x, tx_lt hx, by omega, xlt hz hx, hn2, hg2, rfl, by go_num, rfl⟩
        case measure => simp [intOf]; omega
      · rw [decide_eq_false hc] at ht
        have hg2 : Hid (gmf n (tx x) (y / 2) z = gm a b) := by have := hg.out; simp only [gmf] at this; rw [if_neg hc] at this; exact this
        go_wp2_with (go_at_call 65; refine (timesX_any _ hx _).mono ?_; rintro e w' ⟨rfl, rfl⟩)
        go_round
        case rel => exact ⟨n, tx x, y / 2, z, tx_lt hx, by omega, hz, hn2, hg2, rfl, by go_num, rfl⟩
        case measure => simp [intOf]; omega

theorem gif_step (n p v : Nat) : gif (n + 1) p v = gif n (gm p p) (gm v (gm p p)) := rfl
set_option maxRecDepth 100000 in
set_option maxHeartbeats 1000000 in
theorem inv_any (a : Nat) (ha : a < 256) (w : World) :
    Calls Tryd.prog 60 #[.int .u8 a] w fun e w' => e = .returned (.int .u8 (gi a)) ∧ w' = w := by
  go_enter Tryd.func60, Tryd.ntmps60
  go_wp2
  go_loop [3, 4, 6] (fun s t u => ∃ k p v : Nat, k ≤ 7 ∧ p < 256 ∧ v < 256 ∧ Hid (gif (7 - k) p v = gi a) ∧ s = .int .u8 v ∧ t = .int .u8 p ∧ u = .int .i64 k) (fun _ _ u => 7 - (intOf u).toNat)
  case atStart => exact ⟨0, a, 1, by decide, ha, by decide, rfl, rfl, rfl, rfl⟩
  case round =>
    obtain ⟨k, p, v, hk, hp, hv, hg, rfl, rfl, rfl⟩ := hrel
    by_cases hlt : k < 7
    · have hg2 : Hid (gif (7 - (k + 1)) (gm p p) (gm v (gm p p)) = gi a) := by
        have := hg.out; rw [show 7 - k = (7 - (k + 1)) + 1 from by omega, gif_step] at this; exact this
      go_wp2_with fail
      refine (mul_any p p hp hp _).mono ?_
      rintro e w' ⟨rfl, rfl⟩
      go_wp2_with fail
      refine (mul_any v (gm p p) hv (gm_lt _ hp) _).mono ?_
      rintro e w' ⟨rfl, rfl⟩
      go_wp2_with fail
      go_round
      case rel => exact ⟨k + 1, gm p p, gm v (gm p p), by omega, gm_lt _ hp, gm_lt _ hv, hg2, rfl, rfl, by go_num⟩
      case measure => simp [intOf]; omega
    · have hk7 : k = 7 := by omega
      subst hk7
      go_wp2
      go_ret
      exact ⟨ret_int (by rw [← hg.out]; rfl), rfl⟩
end Go.Proofs.YthhommjlomphdabDoor
/-
  The walks of the document's Mul and Inv.
-/
namespace Go.Proofs.YthhommjlomphdabDoor
open Go.RowKit Gf
theorem nat_u8 {x : Int} (h : (Lit.int .u8 x).wf = true) : ∃ n : Nat, n < 256 ∧ x = (n : Int) := by
  have := bounds_u8 h
  exact ⟨x.toNat, by omega, by omega⟩
theorem bit_test (b k : Nat) (hb : b < 65536) : (bits .and .i64 ((b : Int) / 2 ^ k) 1 == 1) = decide (b / 2 ^ k % 2 = 1) := by
  have h : b / 2 ^ k < 2 ^ 62 := Nat.lt_of_le_of_lt (Nat.div_le_self _ _) (Nat.lt_trans hb (by decide))
  have e := i64_and (b / 2 ^ k) 1 h (by decide)
  rw [and1] at e
  have c : ((b / 2 ^ k : Nat) : Int) = (b : Int) / 2 ^ k := by simp
  rw [c, show ((1 : Nat) : Int) = 1 from rfl] at e
  rw [e, Bool.eq_iff_iff]
  simp
  omega
theorem pm_yes (a b k : Nat) (ha : a < 256) (hk : k < 8) (h : b / 2 ^ k % 2 = 1) :
    bits .xor .i64 (pm a b k : Int) (wrap64 ((a : Int) * 2 ^ k)) = (pm a b (k + 1) : Int) := by
  have h2 : 2 ^ k ≤ 2 ^ 7 := Nat.pow_le_pow_right (by decide) (by omega)
  have h3 : a * 2 ^ k ≤ 256 * 2 ^ 7 := Nat.mul_le_mul (by omega) h2
  have hp := pm_lt a b ha k (by omega)
  have e : wrap64 ((a : Int) * 2 ^ k) = ((a * 2 ^ k : Nat) : Int) := by
    have : ((a * 2 ^ k : Nat) : Int) = (a : Int) * 2 ^ k := by simp
    rw [← this]; unfold wrap64; omega
  rw [e, i64_xor _ _ (by omega) (by omega)]
  simp only [pm, h, if_true]
theorem pm_no (a b k : Nat) (h : ¬ b / 2 ^ k % 2 = 1) : (pm a b k : Int) = (pm a b (k + 1) : Int) := by
  simp only [pm, h, if_false]
theorem rd_lt (k p : Nat) (hk : k ≤ 6) (hp : p < 65536) : (if p / 2 ^ (k + 8) % 2 = 1 then p ^^^ (285 * 2 ^ k) else p) < 65536 := by
  split
  · refine Nat.xor_lt_two_pow (n := 16) hp ?_
    have h2 : 2 ^ k ≤ 2 ^ 6 := Nat.pow_le_pow_right (by decide) hk
    omega
  · exact hp
theorem rd_yes (k p : Nat) (hk : k ≤ 6) (hp : p < 65536) (h : p / 2 ^ (k + 8) % 2 = 1) :
    bits .xor .i64 (p : Int) (wrap64 (285 * 2 ^ k)) = ((if p / 2 ^ (k + 8) % 2 = 1 then p ^^^ (285 * 2 ^ k) else p : Nat) : Int) := by
  have h2 : 2 ^ k ≤ 2 ^ 6 := Nat.pow_le_pow_right (by decide) hk
  have e : wrap64 (285 * 2 ^ k) = ((285 * 2 ^ k : Nat) : Int) := by
    have : ((285 * 2 ^ k : Nat) : Int) = 285 * 2 ^ k := by simp
    rw [← this]; unfold wrap64; omega
  rw [if_pos h, e, i64_xor _ _ (by omega) (by omega)]
set_option maxRecDepth 100000 in
set_option maxHeartbeats 1000000 in
theorem rmul_any (a b : Nat) (ha : a < 256) (hb : b < 256) (w : World) :
    Calls Tryd.prog 34 #[.int .u8 a, .int .u8 b] w fun e w' => e = .returned (.int .u8 (gm a b)) ∧ w' = w := by
  have ha' : (a : Int) < 256 := by omega
  have hb' : (b : Int) < 256 := by omega
  go_enter Tryd.func34, Tryd.ntmps34
  go_wp2
  go_loop [5, 7] (fun s t => ∃ k : Nat, k ≤ 8 ∧ s = .int .i64 (pm a b k) ∧ t = .int .i64 k) (fun _ t => 8 - (intOf t).toNat)
  case atStart => exact ⟨0, by decide, rfl, rfl⟩
  case round =>
    obtain ⟨k, hk, rfl, rfl⟩ := hrel
    have hp := pm_lt a b ha k hk
    by_cases hlt : k < 8
    · have ht := bit_test b k (by omega)
      by_cases hc : b / 2 ^ k % 2 = 1
      · rw [decide_eq_true hc] at ht
        have hy := pm_yes a b k ha hlt hc
        clear hc
        go_wp2
        go_round
        case rel => exact ⟨k + 1, by omega, rfl, by go_num⟩
        case measure => simp [intOf]; omega
      · rw [decide_eq_false hc] at ht
        have HC : Hid (¬ b / 2 ^ k % 2 = 1) := hc
        clear hc
        go_wp2
        go_round
        case rel => exact ⟨k + 1, by omega, by rw [pm_no a b k HC.out], by go_num⟩
        case measure => simp [intOf]; omega
    · have hk8 : k = 8 := by omega
      subst hk8
      have hE := @ref_eq a b ha hb
      have HE : Hid (rd 7 (pm a b 8) = gm a b) := hE
      clear hE
      generalize pm a b 8 = p at *
      go_wp2
      go_loop [5, 8] (fun s t => ∃ j p : Nat, j ≤ 7 ∧ p < 65536 ∧ Hid (rd j p = gm a b) ∧ s = .int .i64 p ∧ t = .int .i64 ((j + 7 : Nat) : Int)) (fun _ t => (intOf t).toNat)
      case atStart => exact ⟨7, p, by decide, hp, HE, rfl, rfl⟩
      case round =>
        obtain ⟨j, q, hj, hq, hg, rfl, rfl⟩ := hrel
        cases j with
        | zero =>
          have hl := @gm_lt a b ha
          go_wp2
          go_ret
          exact ⟨ret_int (by have := hg.out; simp only [rd] at this; omega), rfl⟩
        | succ j =>
          have hl := rd_lt j q (by omega) hq
          have ht := bit_test q (j + 1 + 7) hq
          have hg2 : Hid (rd j (if q / 2 ^ (j + 8) % 2 = 1 then q ^^^ (285 * 2 ^ j) else q) = gm a b) := hg.out
          by_cases hc : q / 2 ^ (j + 8) % 2 = 1
          · rw [show j + 8 = j + 1 + 7 from rfl] at hc
            rw [decide_eq_true hc] at ht
            have hy := rd_yes j q (by omega) hq hc
            have HY := hide hy
            have HL := hide hl
            clear hc hy hl
            go_wp2
            go_round
            case rel => exact ⟨j, _, by omega, HL.out, hg2, by rw [HY.out], by go_num⟩
            case measure => simp [intOf]; omega
          · have HL : Hid (rd j q = gm a b) := by have := hg2.out; rw [if_neg hc] at this; exact this
            rw [show j + 8 = j + 1 + 7 from rfl] at hc
            rw [decide_eq_false hc] at ht
            clear hc hl
            go_wp2
            go_round
            case rel => exact ⟨j, q, by omega, hq, HL, rfl, by go_num⟩
            case measure => simp [intOf]; omega

set_option maxRecDepth 100000 in
set_option maxHeartbeats 1000000 in
theorem rinv_any (a : Nat) (ha : a < 256) (w : World) :
    Calls Tryd.prog 23 #[.int .u8 a] w fun e w' => e = .returned (.int .u8 (gi a)) ∧ w' = w := by
  go_enter Tryd.func23, Tryd.ntmps23
  go_wp2
  go_loop [3] (fun s => ∃ k : Nat, 1 ≤ k ∧ k ≤ 256 ∧ Hid (∀ c, 1 ≤ c → c < k → gm a c ≠ 1) ∧ s = .int .i64 k) (fun s => 256 - (intOf s).toNat)
  case atStart => exact ⟨1, by decide, by decide, (fun c h1 h2 => absurd h1 (by omega)), rfl⟩
  case round =>
    obtain ⟨k, hk1, hk, hn, rfl⟩ := hrel
    by_cases hlt : k < 256
    · have hmod : (k : Int) % 256 = (k : Int) := by omega
      by_cases hc : gm a k = 1
      · have hk' := gi_unique ha hlt hc
        have HK := hide hk'
        have ht : ((gm a k : Int) == 1) = true := by rw [hc]; rfl
        clear hk' hc
        go_wp2_with (go_at_call 34; refine (rmul_any a k ha hlt _).mono ?_; rintro e w' ⟨rfl, rfl⟩)
        go_ret
        exact ⟨ret_int (by rw [← HK.out]), rfl⟩
      · have hn2 : Hid (∀ c, 1 ≤ c → c < k + 1 → gm a c ≠ 1) := by
          intro c h1 h2
          by_cases e : c = k
          · rw [e]; exact hc
          · exact hn.out c h1 (by omega)
        have ht : ((gm a k : Int) == 1) = false := by rw [beq_eq_false_iff_ne]; omega
        clear hc hn
        go_wp2_with (go_at_call 34; refine (rmul_any a k ha hlt _).mono ?_; rintro e w' ⟨rfl, rfl⟩)
        go_round
        case rel => exact ⟨k + 1, by omega, by omega, hn2, by go_num⟩
        case measure => simp [intOf]; omega
    · have h0 : Hid (0 = gi a) := by
        by_cases e : a = 0
        · rw [e, gi_zero]; exact (rfl : (0 : Nat) = 0)
        · have g := gm_gi a ha e
          have hl := gi_lt ha
          refine absurd g (hn.out (gi a) ?_ (by omega))
          rcases Nat.eq_zero_or_pos (gi a) with z | z
          · rw [z, gm_zero] at g; exact absurd g (by decide)
          · exact z
      clear hn
      go_wp2
      go_ret
      exact ⟨ret_int (by rw [← h0.out]; rfl), rfl⟩
end Go.Proofs.YthhommjlomphdabDoor
/-
  The rows of the matrix, one by one.
-/
namespace Go.Proofs.YthhommjlomphdabDoor
open Go.RowKit Go.Deep Gf

/-- the rows of the matrix -/
def dataL (D i : Nat) : List Nat := (List.replicate D 0).set i 1
set_option maxRecDepth 100000 in
set_option maxHeartbeats 1000000 in
theorem dataRow_any (D L G i : Nat) (hD : D ≤ 12) (hi : i < D) (w : World) :
    Calls Tryd.prog 49 #[.agg #[.int .i64 D, .int .i64 L, .int .i64 G], .int .i64 i] w fun e w' => ∃ b, e = .returned (.slice (some ⟨b, 0, none⟩) D D) ∧ w.heap.size ≤ b ∧ Brow w' b (dataL D i) ∧ Below w.heap.size w w' := by
  go_enter Tryd.func49, Tryd.ntmps49
  go_wp2_with (at_make; refine wpList_mk _ rfl (.tmp 7) (.tmp 7) rfl D D rfl rfl rfl (by omega) ?_; intro w1 hB hb hz; rw [nblk_alloc] at hB hb hz; have hc := hB.cell i (by simpa using hi); have hf := hB.frozen i)
  go_ret
  refine ⟨w.heap.size + 1, rfl, by omega, ?_, ?_⟩
  · exact hB.set i 1
  · exact (((Below.refl _ _).alloc (Nat.le_refl _) _).trans (hb.mono (by omega))).setCell (by simp) _

def localL (D L g : Nat) : List Nat := (List.range D).map fun j => if g * (D / L) ≤ j ∧ j < (g + 1) * (D / L) then 1 else 0
/-- so many of them are set -/
def localTo (D s k : Nat) : List Nat := (List.range D).map fun j => if s ≤ j ∧ j < k then 1 else 0
theorem localTo_start (D s : Nat) : localTo D s s = List.replicate D 0 := by
  unfold localTo
  apply List.ext_getElem
  · simp
  · intro i h1 h2
    simp
theorem localTo_step (D s k : Nat) (hs : s ≤ k) : (localTo D s k).set k 1 = localTo D s (k + 1) := by
  unfold localTo
  apply List.ext_getElem
  · simp
  · intro i h1 h2
    simp [List.getElem_set]
    by_cases e : k = i
    · subst e; simp; omega
    · simp only [if_neg e]
      by_cases e2 : s ≤ i ∧ i < k
      · rw [if_pos e2, if_pos ⟨e2.1, by omega⟩]
      · rw [if_neg e2, if_neg (by omega)]
theorem group_le {D L g : Nat} (hdiv : D % L = 0) (hg : g < L) : (g + 1) * (D / L) ≤ D := by
  have h1 : (g + 1) * (D / L) ≤ L * (D / L) := Nat.mul_le_mul_right _ hg
  have h2 : L * (D / L) = D := Nat.mul_div_cancel' (Nat.dvd_of_mod_eq_zero hdiv)
  omega
set_option maxRecDepth 100000 in
set_option maxHeartbeats 1000000 in
theorem localRow_any (D L G g : Nat) (hD : D ≤ 12) (hL : 1 ≤ L) (hL4 : L ≤ 4) (hdiv : D % L = 0) (hg : g < L) (w : World) :
    Calls Tryd.prog 50 #[.agg #[.int .i64 D, .int .i64 L, .int .i64 G], .int .i64 g] w fun e w' => ∃ b, e = .returned (.slice (some ⟨b, 0, none⟩) D D) ∧ w.heap.size ≤ b ∧ Brow w' b (localL D L g) ∧ Below w.heap.size w w' := by
  have hle := group_le hdiv hg
  have hq : D / L ≤ D := Nat.div_le_self _ _
  have hfin : localL D L g = localTo D (g * (D / L)) ((g + 1) * (D / L)) := rfl
  have e1 : wrap64 ((D : Int) / (L : Int)) = ((D / L : Nat) : Int) := by
    rw [← Int.natCast_ediv]; exact wrap64_nat (by omega)
  generalize D / L = q at *
  have hgq : g * q ≤ (g + 1) * q := Nat.mul_le_mul_right _ (by omega)
  have e2 : wrap64 ((g : Int) * (q : Int)) = ((g * q : Nat) : Int) := by
    rw [← Int.natCast_mul]; unfold wrap64; omega
  have e3 : wrap64 (((g : Int) + 1) * (q : Int)) = (((g + 1) * q : Nat) : Int) := by
    have : ((g : Int) + 1) * (q : Int) = (((g + 1) * q : Nat) : Int) := by push_cast; rfl
    rw [this]; unfold wrap64; omega
  generalize g * q = s at *
  generalize (g + 1) * q = t at *
  have HF := hide hfin
  clear hfin
  go_enter Tryd.func50, Tryd.ntmps50
  go_wp2_with (at_make; refine wpList_mk _ rfl (.tmp 9) (.tmp 9) rfl D D rfl rfl rfl (by omega) ?_; intro w1 hB hb hz; rw [nblk_alloc] at hB hb hz; have hp := hb.cell (p := ⟨w.heap.size, 0, none⟩) (by simp); have hp1 := hb.cell (p := ⟨w.heap.size, 1, none⟩) (by simp))
  rw [← localTo_start D s] at hB
  go_loopw [7] (fun i wr => ∃ k : Nat, s ≤ k ∧ k ≤ t ∧ i = .int .i64 k ∧ Brow wr (w.heap.size + 1) (localTo D s k) ∧ Below w.heap.size w wr) (fun i _ => t - (intOf i).toNat)
  case atStart => exact ⟨s, Nat.le_refl _, hgq, by rw [e2], hB, ((Below.refl _ _).alloc (Nat.le_refl _) _).trans (hb.mono (by omega))⟩
  case round =>
    obtain ⟨k, hk1, hk2, rfl, hBk, hbk⟩ := hrel
    clear hB hb hp hp1
    by_cases hlt : k < t
    · have hc := hBk.cell k (by simp [localTo]; omega)
      have hf := hBk.frozen k
      have hB2 := hBk.set k 1
      rw [localTo_step _ _ _ hk1] at hB2
      have hb2 := hbk.setCell (p := ⟨w.heap.size + 1, k, none⟩) (by simp) (.int .u8 1)
      go_wp2
      go_roundw
      case rel => exact ⟨k + 1, by omega, by omega, by go_num, hB2, hb2⟩
      case measure => simp [intOf]; omega
    · have hkt : k = t := by omega
      subst hkt
      go_wp2
      go_ret
      exact ⟨w.heap.size + 1, rfl, by omega, by rw [HF.out]; exact hBk, hbk⟩

def globalL (D i : Nat) : List Nat := (List.range D).map fun j => gi ((D + i) ^^^ j)
def globalTo (D i k : Nat) : List Nat := (List.range D).map fun j => if j < k then gi ((D + i) ^^^ j) else 0
theorem globalTo_start (D i : Nat) : globalTo D i 0 = List.replicate D 0 := by
  unfold globalTo
  apply List.ext_getElem
  · simp
  · intro j h1 h2
    simp
theorem globalTo_end (D i : Nat) : globalTo D i D = globalL D i := by
  unfold globalTo globalL
  apply List.ext_getElem
  · simp
  · intro j h1 h2
    simp at h1
    simp [h1]
theorem globalTo_step (D i k : Nat) : (globalTo D i k).set k (gi ((D + i) ^^^ k)) = globalTo D i (k + 1) := by
  unfold globalTo
  apply List.ext_getElem
  · simp
  · intro j h1 h2
    simp [List.getElem_set]
    by_cases e : k = j
    · subst e; simp
    · simp only [if_neg e]
      by_cases e2 : j < k
      · rw [if_pos e2, if_pos (by omega)]
      · rw [if_neg e2, if_neg (by omega)]
theorem xor_cell (D i j : Nat) (hD : D ≤ 12) (hi : i ≤ 4) (hj : j < D) : (D + i) ^^^ j < 256 ∧ bits .xor .i64 ((D : Int) + (i : Int)) (j : Int) = (((D + i) ^^^ j : Nat) : Int) := by
  refine ⟨xlt (by omega) (by omega), ?_⟩
  have := i64_xor (D + i) j (by omega) (by omega)
  rw [← this]
  congr 1
set_option maxRecDepth 100000 in
set_option maxHeartbeats 1000000 in
theorem globalRow_any (D L G i : Nat) (hD : D ≤ 12) (hi : i ≤ 4) (w : World) :
    Calls Tryd.prog 51 #[.agg #[.int .i64 D, .int .i64 L, .int .i64 G], .int .i64 i] w fun e w' => ∃ b, e = .returned (.slice (some ⟨b, 0, none⟩) D D) ∧ w.heap.size ≤ b ∧ Brow w' b (globalL D i) ∧ Below w.heap.size w w' := by
  go_enter Tryd.func51, Tryd.ntmps51
  go_wp2_with (at_make; refine wpList_mk _ rfl (.tmp 8) (.tmp 8) rfl D D rfl rfl rfl (by omega) ?_; intro w1 hB hb hz; rw [nblk_alloc] at hB hb hz; have hp := hb.cell (p := ⟨w.heap.size, 0, none⟩) (by simp))
  rw [← globalTo_start D i] at hB
  simp at hp
  go_loopw [12] (fun j wr => ∃ k : Nat, k ≤ D ∧ j = .int .i64 k ∧ Brow wr (w.heap.size + 1) (globalTo D i k) ∧ wr.cell? ⟨w.heap.size, 0, none⟩ = some (.int .i64 D) ∧ Below w.heap.size w wr) (fun j _ => D - (intOf j).toNat)
  case atStart => exact ⟨0, Nat.zero_le _, rfl, hB, hp, ((Below.refl _ _).alloc (Nat.le_refl _) _).trans (hb.mono (by omega))⟩
  case round =>
    obtain ⟨k, hk, rfl, hBk, hpk, hbk⟩ := hrel
    clear hB hb hp
    by_cases hlt : k < D
    · have hc := hBk.cell k (by simp [globalTo]; omega)
      have hf := hBk.frozen k
      obtain ⟨hx1, hx2⟩ := xor_cell D i k hD hi hlt
      have hB2 := hBk.set k (gi ((D + i) ^^^ k))
      rw [globalTo_step] at hB2
      have hb2 := hbk.setCell (p := ⟨w.heap.size + 1, k, none⟩) (by simp) (.int .u8 (gi ((D + i) ^^^ k)))
      have hp2 : (wr.setCell ⟨w.heap.size + 1, k, none⟩ (.int .u8 (gi ((D + i) ^^^ k)))).cell? ⟨w.heap.size, 0, none⟩ = some (.int .i64 D) := by rw [← hpk]; exact World.cell?_of_block (blk_setCell_other _ _ _ _ (by simp))
      generalize (D + i) ^^^ k = x at *
      have hx3 : (x : Int) < 256 := by omega
      go_wp2_with (go_at_call 60; refine (inv_any x hx1 _).mono ?_; rintro e w' ⟨rfl, rfl⟩)
      go_roundw
      case rel => exact ⟨k + 1, by omega, by go_num, hB2, hp2, hb2⟩
      case measure => simp [intOf]; omega
    · have hkt : k = D := by omega
      subst hkt
      rw [globalTo_end] at hBk
      go_wp2
      go_ret
      exact ⟨w.heap.size + 1, rfl, by omega, hBk, hbk⟩
end Go.Proofs.YthhommjlomphdabDoor
/-
  Bytes that are read, wherever they lie; the law's own small functions on them.
-/
namespace Go.Proofs.YthhommjlomphdabDoor
open Go.RowKit Go.Deep

/-- a slice of just these bytes, wherever it lies -/
def Bs (w : World) (v : Value) (l : List Nat) : Prop :=
  ∃ ao c, v = .slice ao l.length c ∧ l.length ≤ c ∧ l.length ≤ 140737488355328 ∧ (∀ x ∈ l, x < 256) ∧ (l ≠ [] → ∃ b off, ao = some ⟨b, off, none⟩ ∧ ∀ k, k < l.length → w.cell? ⟨b, off + k, none⟩ = some (.int .u8 ((l.getD k 0 : Nat) : Int)))
theorem Bs.mono {w w' : World} {v : Value} {l : List Nat} (h : Bs w v l) (hb : Below w.heap.size w w') : Bs w' v l := by
  obtain ⟨ao, c, h1, h2, h3, h4, h5⟩ := h
  refine ⟨ao, c, h1, h2, h3, h4, fun hl => ?_⟩
  obtain ⟨b, off, e, hc⟩ := h5 hl
  refine ⟨b, off, e, fun k hk => ?_⟩
  have := hc k hk
  rw [hb.cell (block_lt_of_cell this)]; exact this
theorem Bs.of_row {w : World} {b n : Nat} {l : List Nat} (h : Brow w b l) (hn : n ≤ l.length) (hm : n ≤ 140737488355328) (hx : ∀ x ∈ l, x < 256) : Bs w (.slice (some ⟨b, 0, none⟩) n l.length) (l.take n) := by
  have hl : (l.take n).length = n := by rw [List.length_take]; omega
  refine ⟨some ⟨b, 0, none⟩, l.length, by rw [hl], by omega, by omega, fun x h => hx x (List.mem_of_mem_take h), fun _ => ⟨b, 0, rfl, fun k hk => ?_⟩⟩
  rw [hl] at hk
  have := h.cell k (by omega)
  rw [Nat.zero_add, this]
  simp [hk]

def SameR (w : World) (n : Nat) (i : Value) (wr : World) : Prop := ∃ k m : Nat, k ≤ n ∧ i = .int .i64 k ∧ wr = w.drewN m
end Go.Proofs.YthhommjlomphdabDoor
/-
  Lists of rows of which one is written into.
-/
namespace Go.Proofs.YthhommjlomphdabDoor
open Go.RowKit Go.Deep

theorem grown_set {w w' : World} {b : Nat} (h : w.grownBy w' (some b)) (i : Nat) (v : Value) : w.grownBy (w'.setCell ⟨b, i, none⟩ v) (some b) :=
  ⟨h.os, h.tape, h.output, by rw [nblk_setCell]; exact h.size, fun k hk hne => by
    rw [blk_setCell_other _ _ _ _ (by intro e; exact hne (by rw [e]))]; exact h.block k hk hne⟩
theorem grown_drew {w w' : World} {r : Option Nat} (h : w.grownBy w' r) (n : Nat) : w.grownBy (w'.drewN n) r :=
  ⟨h.os, h.tape, h.output, h.size, h.block⟩
theorem grown_trans {w w' w'' : World} {r : Option Nat} (h : w.grownBy w' r) (k : w'.grownBy w'' r) : w.grownBy w'' r :=
  ⟨k.os.trans h.os, k.tape.trans h.tape, k.output.trans h.output, Nat.le_trans h.size k.size, fun j hj hne => (k.block j (Nat.lt_of_lt_of_le hj h.size) hne).trans (h.block j hj hne)⟩
theorem grown_below {B : Nat} {w0 w w' : World} {b : Nat} (h : Below B w0 w) (hg : w.grownBy w' (some b)) (hB : B ≤ w.heap.size) (hb : B ≤ b) : Below B w0 w' :=
  h.grown hg hB (fun k hk => by simp at hk; omega)
theorem owns_grown {w w' : World} {base : Nat} {v : Value} {n : Nat} {xs : List Value} {b : Nat} (h : w.ownsRow base 59 1 v n xs) (hg : w.grownBy w' (some b)) (hne : v.ownBlock ≠ some b) : w'.ownsRow base 59 1 v n xs :=
  h.kept hg (.inr hne)
theorem Tab.aside {w w' : World} {base : Nat} {v : Value} {L : List (Nat × Nat × List Nat)} {b : Nat} {l : List Nat} (h : Tab w base v L) (hb : Brow w b l) (hg : w.grownBy w' (some b)) (hne : ∀ p ∈ L, p.1 ≠ b) : Tab w' base v L :=
  ⟨owns_grown h.own hg (own_ne h.own hb), fun p hp => by
    obtain ⟨a, c, d⟩ := h.row p hp
    exact ⟨a, c.grown hg (by intro e; simp at e; exact hne p hp e), d⟩, h.nodup⟩
theorem Tab.wrote {w w' : World} {base : Nat} {v : Value} {L : List (Nat × Nat × List Nat)} (h : Tab w base v L) {i : Nat} (hi : i < L.length) {l' : List Nat} (hg : w.grownBy w' (some L[i].1)) (hB : Brow w' L[i].1 l') (hlen : l'.length = L[i].2.2.length) (hx : ∀ x ∈ l', x < 256) :
    Tab w' base v (L.set i (L[i].1, L[i].2.1, l')) := by
  have hmem := List.getElem_mem hi
  obtain ⟨a1, a2, a3, a4, a5⟩ := h.row _ hmem
  have hhdr : (L.set i (L[i].1, L[i].2.1, l')).map hdr = L.map hdr := by
    apply List.ext_getElem
    · simp
    · intro j h1 h2
      simp [List.getElem_set]
      by_cases e : i = j
      · subst e; simp [hdr, hlen]
      · simp [e]
  have hfst : (L.set i (L[i].1, L[i].2.1, l')).map (fun p => p.1) = L.map (fun p => p.1) := by
    apply List.ext_getElem
    · simp
    · intro j h1 h2
      simp [List.getElem_set]
      by_cases e : i = j
      · subst e; simp
      · simp [e]
  refine ⟨?_, fun p hp => ?_, by rw [hfst]; exact h.nodup⟩
  · rw [hhdr, List.length_set]; exact owns_grown h.own hg (own_ne h.own a2)
  · obtain ⟨j, hj, rfl⟩ := List.mem_iff_getElem.1 hp
    rw [List.length_set] at hj
    rw [List.getElem_set]
    by_cases e : i = j
    · rw [if_pos e]; exact ⟨a1, hB, by show L[i].2.1 ≤ l'.length; omega, ⟨by show L[i].2.1 ≤ 140737488355328; omega, by show l'.length ≤ 9223372036854775807; omega⟩, hx⟩
    · rw [if_neg e]
      obtain ⟨b1, b2, b3⟩ := h.row _ (List.getElem_mem hj)
      refine ⟨b1, b2.grown hg ?_, b3⟩
      intro q
      simp at q
      have hp := List.pairwise_iff_getElem.1 h.nodup
      rcases Nat.lt_or_gt_of_ne e with h' | h'
      · exact hp i j (by simpa using hi) (by simpa using hj) h' (by simp [q])
      · exact hp j i (by simpa using hj) (by simpa using hi) h' (by simp [q])
/-- two lists of rows that have no row in common -/
def Apart (K L : List (Nat × Nat × List Nat)) : Prop := ∀ p ∈ K, ∀ q ∈ L, p.1 ≠ q.1
theorem Tab.row_at {w : World} {base : Nat} {v : Value} {L : List (Nat × Nat × List Nat)} (h : Tab w base v L) {i : Nat} (hi : i < L.length) : Bs w (hdr L[i]) (L[i].2.2.take L[i].2.1) := by
  obtain ⟨a1, a2, a3, a4, a5⟩ := h.row _ (List.getElem_mem hi)
  exact Bs.of_row a2 a3 a4.1 a5
theorem one_new (w : World) (n : Nat) (hn : n = w.heap.size) (x : Value) (t : TypeId) : ∀ j u, [x][j]? = some u → (w.alloc (.cells #[x] t)).cell? ((⟨n, 0, none⟩ : Addr).add j) = some u := by
  subst hn; exact cell_one_new _ _ _
theorem Tab.append2 {w w1 w2 : World} {base : Nat} {v v' : Value} {T : List (Nat × Nat × List Nat)} {b n m : Nat} {l : List Nat} {o : Obj} (h : Tab w base v T) (hb : Below w.heap.size w w1) (hbase : base ≤ w.heap.size) (hb1 : w.heap.size ≤ b) (hB : Brow w1 b l) (hm : m = l.length) (hn : n ≤ l.length) (hl : l.length ≤ 140737488355328) (hx : ∀ x ∈ l, x < 256)
    (hg : (w1.alloc o).grownBy w2 v.ownBlock) (hown : w2.ownsRow base 59 1 v' (T.length + 1) (T.map hdr ++ [.slice (some ⟨b, 0, none⟩) n m])) : Tab w2 base v' (T ++ [(b, n, l)]) := by
  subst hm
  have h1 := (h.below hb).alloc o
  refine h1.push hg (p := (b, n, l)) hown ⟨by show base ≤ b; omega, hB.alloc o, hn, ⟨by show n ≤ 140737488355328; omega, by show l.length ≤ 9223372036854775807; omega⟩, hx⟩ ?_
  intro q hq
  have := (h.row q hq).2.1.lt
  show q.1 ≠ b
  omega
theorem below_append {B : Nat} {w0 w w1 w2 : World} {v : Value} {T : List (Nat × Nat × List Nat)} {o : Obj} (h : Tab w B v T) (hb0 : Below B w0 w) (hb : Below w.heap.size w w1) (hB : B ≤ w.heap.size) (hg : (w1.alloc o).grownBy w2 v.ownBlock) : Below B w0 w2 := by
  have h1 := hb0.trans (hb.mono hB)
  have hs := hb.size
  refine (h1.alloc (by omega) o).grown hg (by rw [nblk_alloc]; omega) ?_
  intro k hk
  exact (h.own.lt k hk).1
end Go.Proofs.YthhommjlomphdabDoor
