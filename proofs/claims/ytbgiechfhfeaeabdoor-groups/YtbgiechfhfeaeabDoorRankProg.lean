/-
  The program's rows side by side: how they are worked off one another.
-/
import Derived.Test.YtbgiechfhfeaeabDoorRankSteps
import Derived.Test.YtbgiechfhfeaeabDoorAddTimes
import Derived.Test.YtbgiechfhfeaeabDoorRefRank
namespace Go.Proofs.YtbgiechfhfeaeabDoor
open Go.RowKit Go.Deep Gf

def FtPost (D : List (List Nat)) (w : World) (e : Ending) (w' : World) : Prop := (FitG D → e = .returned (.bool true)) ∧ (¬ FitG D → e = .returned (.bool false)) ∧ w' = w
def FtR (D : List (List Nat)) (i : Value) : Prop := ∃ k : Nat, k ≤ D.length ∧ i = .int .i64 (k : Nat) ∧ ∀ j (hj : j < D.length), j < k → (D[j]).length ≤ 64
/-- column c is worked off row top in the rows from top + 1 to k - 1; iv: the inverse of row top's number there -/
def wk (G : Nat → Nat) (top c iv k x : Nat) : Nat := if top < x / 64 ∧ x / 64 < k ∧ c ≤ x % 64 then G x ^^^ gm (gm (G (x / 64 * 64 + c)) iv) (G (top * 64 + x % 64)) else G x
theorem wk_start (G : Nat → Nat) (top c iv : Nat) : wk G top c iv (top + 1) = G := by
  funext x; unfold wk; rw [if_neg (by omega)]
theorem wk_lt {G : Nat → Nat} (h : ∀ x, G x < 256) {iv : Nat} (top c k x : Nat) : wk G top c iv k x < 256 := by
  unfold wk
  split
  · exact xlt (h x) (gm_lt _ (gm_lt _ (h _)))
  · exact h x
theorem wk_top (G : Nat → Nat) (top c iv k j : Nat) (hj : j < 64) : wk G top c iv k (top * 64 + j) = G (top * 64 + j) := by
  unfold wk; rw [if_neg (by omega)]
theorem wk_next (G : Nat → Nat) (top c iv k j : Nat) (hj : j < 64) : wk G top c iv k (k * 64 + j) = G (k * 64 + j) := by
  unfold wk; rw [if_neg (by omega)]
theorem wk_step (G : Nat → Nat) (top c iv k : Nat) (ht : top < k) (hc : c < 64) : addTo (wk G top c iv k) (fun i => G (top * 64 + c + i)) (gm (G (k * 64 + c)) iv) (k * 64 + c) (64 - c) = wk G top c iv (k + 1) := by
  funext x
  unfold addTo
  by_cases h : k * 64 + c ≤ x ∧ x < k * 64 + c + (64 - c)
  · have e1 : x / 64 = k := by omega
    have e2 : top * 64 + c + (x - (k * 64 + c)) = top * 64 + x % 64 := by omega
    rw [if_pos h]
    unfold wk
    rw [if_neg (by omega), if_pos (by omega), e1]
    show _ ^^^ gm _ (G (top * 64 + c + (x - (k * 64 + c)))) = _
    rw [e2]
  · rw [if_neg h]
    unfold wk
    by_cases h2 : top < x / 64 ∧ x / 64 < k ∧ c ≤ x % 64
    · rw [if_pos h2, if_pos (by omega)]
    · rw [if_neg h2, if_neg (by omega)]
theorem grid_slice (w : World) (b o c : Nat) (hc : c < 64) : (Instr.sliceAt 116 (.pointer (some ⟨b, o, none⟩)) (some (.int .i64 (c : Int))) none none).run Tryd.prog w = .ok (.slice (some ⟨b, o + c, none⟩) (64 - c) (64 - c)) w := by
  have hl : Tryd.prog.arrayLen 116 = 64 := by kernel_rfl
  have hu : Tryd.prog.underlying 116 = some (.array (Tryd.prog.arrayLen 116) (Tryd.prog.elem 116)) := by kernel_rfl
  have hs : ∀ w, (sizeOf (Tryd.prog.elem 116)).run Tryd.prog w = .ok 1 w := by
    have he : Tryd.prog.elem 116 = 5 := by kernel_rfl
    rw [he]
    intro w
    go_simp
  rw [run_sliceAt_array_l w 116 _ hu .i64 (c : Int) (by omega) (by rw [hl]; omega), hs, hl]
  simp [slicedAt, Result.andThen]
  rw [if_neg (by omega)]
  simp [Addr.add]
def WkR (w : World) (b t top c iv n : Nat) (G : Nat → Nat) (i : Value) (wr : World) : Prop :=
  ∃ k : Nat, top < k ∧ k ≤ max n (top + 1) ∧ i = .int .i64 (k : Nat) ∧ wr.rowIs b t 4096 (tv (wk G top c iv k)) ∧ w.grownBy wr (some b)
end Go.Proofs.YtbgiechfhfeaeabDoor
