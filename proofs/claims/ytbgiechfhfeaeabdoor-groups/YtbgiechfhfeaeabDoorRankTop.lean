/-
  The program's Rank.
-/
import Derived.Test.YtbgiechfhfeaeabDoorRankGrid
import Derived.Test.YtbgiechfhfeaeabDoorRankSwap
import Derived.WalkMore
import Derived.Deep.MidRow
namespace Go.Proofs.YtbgiechfhfeaeabDoor
open Go.RowKit Go.Deep Gf

theorem row_setCells {b t n : Nat} : ∀ (vs : List Value) (o : Nat) (w : World) (f : Nat → Value), w.rowIs b t n f → (w.setCells b o vs).rowIs b t n (fun x => if o ≤ x ∧ x < o + vs.length then vs.getD (x - o) undef else f x)
  | [], o, w, f, h => h.congr (fun i _ => by rw [if_neg (by simp)])
  | v :: vs, o, w, f, h => (row_setCells vs (o + 1) _ _ (h.set o v)).congr (fun i _ => by
      by_cases h1 : o + 1 ≤ i ∧ i < o + 1 + vs.length
      · have e : i - o = (i - (o + 1)) + 1 := by omega
        rw [if_pos h1, if_pos (by simp; omega), e]
        simp
      · rw [if_neg h1]
        by_cases h2 : i = o
        · subst h2
          rw [if_pos rfl, if_pos (by simp)]
          simp
        · rw [if_neg h2, if_neg (by simp; omega)])
theorem grown_setCells {b : Nat} : ∀ (vs : List Value) (o : Nat) (w w' : World), w.grownBy w' (some b) → w.grownBy (w'.setCells b o vs) (some b)
  | [], _, _, _, h => h
  | v :: vs, o, w, _, h => grown_setCells vs (o + 1) w _ (grown_set h o v)
/-- a row's cells -/
def cel (G : Nat → Nat) (i : Nat) : List Value := (List.range 64).map fun j => tv G (i * 64 + j)
theorem cel_len (G : Nat → Nat) (i : Nat) : (cel G i).length = 64 := by simp [cel]
theorem cel_getD (G : Nat → Nat) (i j : Nat) (h : j < 64) : (cel G i).getD j undef = tv G (i * 64 + j) := by simp [cel, h]
theorem cel_range {w : World} {b t : Nat} {G : Nat → Nat} (h : w.rowIs b t 4096 (tv G)) {i : Nat} (hi : i < 64) : w.rangeAt b (i * 64) (cel G i) := by
  intro j v hv
  have hj : j < 64 := by
    obtain ⟨q, _⟩ := List.getElem?_eq_some_iff.1 hv
    rwa [cel_len] at q
  simp [cel, hj] at hv
  rw [h.cell (by omega), hv]
theorem cel_there {w : World} {b t : Nat} {f : Nat → Value} (h : w.rowIs b t 4096 f) {i n : Nat} (hi : i < 64) (hn : n ≤ 64) : w.there b (i * 64) n := fun j hj => by
  rw [h.cell (by omega)]
  exact ⟨rfl, h.frozen _⟩
theorem cel_one (G : Nat → Nat) (i : Nat) : (cel G i).toArray.all (fun v => v.oneCell') = true := by
  rw [Array.all_eq_true]
  intro j hj
  simp [cel, tv]
  rfl
theorem sw_row {w : World} {b t : Nat} {G : Nat → Nat} (h : w.rowIs b t 4096 (tv G)) (p r : Nat) : ((w.setCells b (r * 64) (cel G p)).setCells b (p * 64) (cel G r)).rowIs b t 4096 (tv (swG G p r)) := by
  refine (row_setCells (cel G r) (p * 64) _ _ (row_setCells (cel G p) (r * 64) _ _ h)).congr (fun x _ => ?_)
  rw [cel_len, cel_len]
  by_cases h1 : p * 64 ≤ x ∧ x < p * 64 + 64
  · have e1 : x / 64 = p := by omega
    have e2 : x - p * 64 = x % 64 := by omega
    rw [if_pos h1, e2, cel_getD _ _ _ (by omega)]
    unfold tv swG
    rw [e1]
    by_cases e3 : p = r
    · rw [if_pos e3, e3]
    · rw [if_neg e3, if_pos rfl]
  · rw [if_neg h1]
    by_cases h2 : r * 64 ≤ x ∧ x < r * 64 + 64
    · have e1 : x / 64 = r := by omega
      have e2 : x - r * 64 = x % 64 := by omega
      rw [if_pos h2, e2, cel_getD _ _ _ (by omega)]
      unfold tv swG
      rw [if_pos e1]
    · rw [if_neg h2]
      unfold tv swG
      rw [if_neg (by omega), if_neg (by omega)]
/-- which row is taken -/
def GpR (G : Nat → Nat) (r c n : Nat) (rv iv : Value) : Prop := ∃ k : Nat, r ≤ k ∧ k ≤ n ∧ rv = .int .i64 (r : Nat) ∧ iv = .int .i64 (k : Nat) ∧ ∀ i, r ≤ i → i < k → G (i * 64 + c) = 0
end Go.Proofs.YtbgiechfhfeaeabDoor
