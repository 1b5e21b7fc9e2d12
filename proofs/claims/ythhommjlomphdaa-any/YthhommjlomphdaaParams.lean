/-
  Params: whether they are right; the program's word and the document's.
-/
import Derived.Test.YthhommjlomphdaaMem
namespace Go.Proofs.Ythhommjlomphdaa
open Go.RowKit Go.Deep

/-- params that are right -/
def rightB (D L G : Int) : Bool := decide (1 ≤ D ∧ D ≤ 12 ∧ 1 ≤ L ∧ L ≤ 4 ∧ 0 ≤ G ∧ G ≤ 4 ∧ D % L = 0 ∧ D + L + G ≤ 16)
theorem ret_bool {a b : Bool} (h : a = b) : Ending.returned (.bool a) = .returned (.bool b) := by rw [h]
def pv (D L G : Int) : Value := .agg #[.int .i64 D, .int .i64 L, .int .i64 G]

set_option maxRecDepth 100000 in
set_option maxHeartbeats 1000000 in
theorem shards_any (D L G : Int) (w : World) (h1 : 0 ≤ D ∧ D ≤ 100) (h2 : 0 ≤ L ∧ L ≤ 100) (h3 : 0 ≤ G ∧ G ≤ 100) :
    Calls Try.prog 39 #[.agg #[.int .i64 D, .int .i64 L, .int .i64 G]] w fun e w' => e = .returned (.int .i64 (D + L + G)) ∧ Below w.heap.size w w' := by
  obtain ⟨a1, a2⟩ := h1
  obtain ⟨b1, b2⟩ := h2
  obtain ⟨c1, c2⟩ := h3
  go_enter Try.func39, Try.ntmps39
  go_wp2
  go_ret
  exact ⟨rfl, (Below.refl _ _).alloc (Nat.le_refl _) _⟩

set_option maxRecDepth 100000 in
set_option maxHeartbeats 1000000 in
theorem right_any (D L G : Int) (w : World) :
    Calls Try.prog 38 #[.agg #[.int .i64 D, .int .i64 L, .int .i64 G]] w fun e w' => e = .returned (.bool (rightB D L G)) ∧ Below w.heap.size w w' := by
  go_enter Try.func38, Try.ntmps38
  go_wp2_with (go_at_call 39; refine (shards_any D L G _ (by omega) (by omega) (by omega)).mono ?_; rintro e w' ⟨rfl, hb⟩)
  all_goals go_ret
  · refine ⟨ret_bool (b := rightB D L G) ?_, ((Below.refl _ _).alloc (Nat.le_refl _) _).trans (hb.mono (by simp))⟩
    unfold rightB
    rw [decide_eq_decide]
    constructor
    · intro h; exact ⟨by omega, by omega, by omega, by omega, by omega, by omega, by assumption, h⟩
    · intro h; exact h.2.2.2.2.2.2.2
  all_goals
    refine ⟨ret_bool (b := rightB D L G) ?_, (Below.refl _ _).alloc (Nat.le_refl _) _⟩
    unfold rightB
    symm
    rw [decide_eq_false_iff_not]
    intro h
    omega

set_option maxRecDepth 100000 in
set_option maxHeartbeats 1000000 in
theorem rshards_any (D L G : Int) (w : World) (h1 : 0 ≤ D ∧ D ≤ 100) (h2 : 0 ≤ L ∧ L ≤ 100) (h3 : 0 ≤ G ∧ G ≤ 100) :
    Calls Try.prog 21 #[.agg #[.int .i64 D, .int .i64 L, .int .i64 G]] w fun e w' => e = .returned (.int .i64 (D + L + G)) ∧ Below w.heap.size w w' := by
  obtain ⟨a1, a2⟩ := h1
  obtain ⟨b1, b2⟩ := h2
  obtain ⟨c1, c2⟩ := h3
  go_enter Try.func21, Try.ntmps21
  go_wp2
  go_ret
  exact ⟨rfl, (Below.refl _ _).alloc (Nat.le_refl _) _⟩

set_option maxRecDepth 100000 in
set_option maxHeartbeats 1000000 in
theorem rright_any (D L G : Int) (w : World) :
    Calls Try.prog 20 #[.agg #[.int .i64 D, .int .i64 L, .int .i64 G]] w fun e w' => e = .returned (.bool (rightB D L G)) ∧ Below w.heap.size w w' := by
  go_enter Try.func20, Try.ntmps20
  go_wp2
  all_goals go_ret
  rotate_left
  · refine ⟨ret_bool (b := rightB D L G) ?_, (Below.refl _ _).alloc (Nat.le_refl _) _⟩
    unfold rightB
    rw [decide_eq_decide]
    constructor
    · intro h; exact ⟨by omega, by omega, by omega, by omega, by omega, by omega, by assumption, h⟩
    · intro h; exact h.2.2.2.2.2.2.2
  all_goals
    refine ⟨ret_bool (b := rightB D L G) ?_, (Below.refl _ _).alloc (Nat.le_refl _) _⟩
    unfold rightB
    symm
    rw [decide_eq_false_iff_not]
    intro h
    omega

set_option maxRecDepth 100000 in
set_option maxHeartbeats 1000000 in
theorem theirs_any (D L G : Int) (w : World) :
    Calls Try.prog 17 #[.agg #[.int .i64 D, .int .i64 L, .int .i64 G]] w fun e w' => e = .returned (.agg #[.int .i64 D, .int .i64 L, .int .i64 G]) ∧ Below w.heap.size w w' := by
  go_enter Try.func17, Try.ntmps17
  go_wp2
  exact bodyPost_ret (v := .agg #[.int .i64 D, .int .i64 L, .int .i64 G]) (by simp [results, Try.results17, go_sem]) rfl ⟨rfl, ((Below.refl _ _).alloc (Nat.le_refl _) _).alloc (by simp) _⟩
end Go.Proofs.Ythhommjlomphdaa
