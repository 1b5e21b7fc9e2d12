/-
  Rows of which each byte is written anew, one by one.
-/
import Derived.Test.YthhommjlomphdaaDoorTabLaws
import Derived.Test.YthhommjlomphdaaDoorFieldWalks
namespace Go.Proofs.YthhommjlomphdaaDoor
open Go.RowKit Go.Deep Gf

def xr (c : Nat) (l : List Nat) : List Nat := l.map (fun x => x ^^^ c)
def xrTo (c k : Nat) (l : List Nat) : List Nat := (List.range l.length).map fun j => if j < k then l.getD j 0 ^^^ c else l.getD j 0
theorem xrTo_zero (c : Nat) (l : List Nat) : xrTo c 0 l = l := by
  unfold xrTo
  apply List.ext_getElem
  · simp
  · intro j h1 h2; simp [h2]
theorem xrTo_end (c : Nat) (l : List Nat) : xrTo c l.length l = xr c l := by
  unfold xrTo xr
  apply List.ext_getElem
  · simp
  · intro j h1 h2
    simp at h1
    simp [h1]
theorem xrTo_len (c k : Nat) (l : List Nat) : (xrTo c k l).length = l.length := by simp [xrTo]
theorem xrTo_get (c k : Nat) (l : List Nat) (hk : k < l.length) : (xrTo c k l).getD k 0 = l.getD k 0 := by simp [xrTo, hk]
theorem xrTo_step (c k : Nat) (l : List Nat) : (xrTo c k l).set k (l.getD k 0 ^^^ c) = xrTo c (k + 1) l := by
  unfold xrTo
  apply List.ext_getElem
  · simp
  · intro j h1 h2
    simp [List.getElem_set]
    by_cases e : k = j
    · subst e; simp
    · simp only [if_neg e]
      by_cases e2 : j < k
      · rw [if_pos e2, if_pos (by omega)]
      · rw [if_neg e2, if_neg (by omega)]
theorem xr_lt {c : Nat} (hc : c < 256) {l : List Nat} (h : ∀ x ∈ l, x < 256) : ∀ x ∈ xr c l, x < 256 := by
  intro x hx
  obtain ⟨y, hy, rfl⟩ := List.mem_map.1 hx
  exact xlt (h y hy) hc
theorem xr_get (c : Nat) (l : List Nat) (k : Nat) (hk : k < l.length) : (xr c l).getD k 0 = l.getD k 0 ^^^ c := by simp [xr, hk]
theorem xr_len (c : Nat) (l : List Nat) : (xr c l).length = l.length := by simp [xr]

def SA2 (wo : World) (b c : Nat) (l : List Nat) (i : Value) (wr : World) : Prop :=
  ∃ k : Nat, k ≤ l.length ∧ i = .int .i64 k ∧ wo.grownBy wr (some b) ∧ Brow wr b (xrTo c k l)
theorem Bs.drew {w : World} {v : Value} {l : List Nat} (h : Bs w v l) (n : Nat) : Bs (w.drewN n) v l := h.mono ⟨rfl, rfl, rfl, Nat.le_refl _, fun _ _ => rfl⟩
end Go.Proofs.YthhommjlomphdaaDoor
