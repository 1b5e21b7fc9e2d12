/-
  The plain reckoning behind the law on sums.
-/
import Derived.Test.YthhommjlomphdaaDoorEncode
namespace Go.Proofs.YthhommjlomphdaaDoor
open Gf

/-- one byte of data -/
def at2 (D : List (List Nat)) (i k : Nat) : Nat := (D.getD i []).getD k 0
theorem one_gm {x : Nat} (hx : x < 256) : gm 1 x = x := by rw [gm_comm (by decide) hx, gm_one x hx]
theorem acc_succ (row : List Nat) (D : List (List Nat)) (t k : Nat) : acc row D (t + 1) k = acc row D t k ^^^ gm (row.getD t 0) (at2 D t k) := rfl
theorem acc_sum (row : List Nat) (A B C : List (List Nat)) (k T : Nat) (h : ∀ i, i < T → at2 C i k = at2 A i k ^^^ at2 B i k) : ∀ t, t ≤ T → acc row C t k = acc row A t k ^^^ acc row B t k := by
  intro t
  induction t with
  | zero => intro _; simp [acc]
  | succ t ih =>
    intro ht
    rw [acc_succ, acc_succ, acc_succ, h t (by omega), gm_add, ih (by omega), xor4]
theorem acc_data (D i : Nat) (A : List (List Nat)) (hi : i < D) (hA : ∀ i k, at2 A i k < 256) (k : Nat) : ∀ t, t ≤ D → acc (dataL D i) A t k = if i < t then at2 A i k else 0 := by
  intro t
  induction t with
  | zero => intro _; simp [acc]
  | succ t ih =>
    intro ht
    rw [acc_succ, ih (by omega)]
    have hx := hA t k
    by_cases e : i = t
    · subst e
      have h1 : (dataL D i).getD i 0 = 1 := by simp [dataL, hi]
      rw [h1, if_neg (by omega), if_pos (by omega), one_gm hx, Nat.zero_xor]
    · have h1 : (dataL D i).getD t 0 = 0 := by
        unfold dataL
        rw [List.getD_eq_getElem?_getD, List.getElem?_set_ne e]
        simp [show t < D by omega]
      rw [h1, zero_gm, Nat.xor_zero]
      by_cases e2 : i < t
      · rw [if_pos e2, if_pos (by omega)]
      · rw [if_neg e2, if_neg (by omega)]
/-- the sum over a group's shards below t -/
def grp (A : List (List Nat)) (s e : Nat) : Nat → Nat → Nat
  | 0, _ => 0
  | t + 1, k => if s ≤ t ∧ t < e then grp A s e t k ^^^ at2 A t k else grp A s e t k
theorem acc_local (D L g : Nat) (A : List (List Nat)) (hA : ∀ i k, at2 A i k < 256) (k : Nat) : ∀ t, t ≤ D → acc (localL D L g) A t k = grp A (g * (D / L)) ((g + 1) * (D / L)) t k := by
  intro t
  induction t with
  | zero => intro _; rfl
  | succ t ih =>
    intro ht
    rw [acc_succ, ih (by omega)]
    simp only [grp]
    have hx := hA t k
    have h1 : (localL D L g).getD t 0 = if g * (D / L) ≤ t ∧ t < (g + 1) * (D / L) then 1 else 0 := by simp [localL, show t < D by omega]
    rw [h1]
    split
    · rw [one_gm hx]
    · rw [zero_gm, Nat.xor_zero]
theorem grp_start (A : List (List Nat)) (s k : Nat) : ∀ t, t ≤ s → ∀ e, grp A s e t k = 0 := by
  intro t
  induction t with
  | zero => intro _ _; rfl
  | succ t ih => intro h e; simp only [grp]; rw [if_neg (by omega)]; exact ih (by omega) e
theorem grp_less (A : List (List Nat)) (s k : Nat) (e e' : Nat) : ∀ t, t ≤ e → t ≤ e' → grp A s e t k = grp A s e' t k := by
  intro t
  induction t with
  | zero => intro _ _; rfl
  | succ t ih =>
    intro h1 h2
    simp only [grp]
    rw [ih (by omega) (by omega)]
    by_cases c : s ≤ t
    · rw [if_pos ⟨c, by omega⟩, if_pos ⟨c, by omega⟩]
    · rw [if_neg (by omega), if_neg (by omega)]
theorem grp_step (A : List (List Nat)) (s j k : Nat) (hs : s ≤ j) : grp A s (j + 1) (j + 1) k = grp A s j j k ^^^ at2 A j k := by
  simp only [grp]
  rw [if_pos ⟨hs, by omega⟩, grp_less A s k (j + 1) j j (by omega) (Nat.le_refl _)]
theorem grp_end (A : List (List Nat)) (s e k : Nat) : ∀ t, e ≤ t → grp A s e t k = grp A s e e k := by
  intro t
  induction t with
  | zero => intro h; rw [Nat.le_zero.1 h]
  | succ t ih =>
    intro h
    by_cases c : e = t + 1
    · rw [c]
    · simp only [grp]
      rw [if_neg (by omega)]
      exact ih (by omega)
theorem grp_lt (A : List (List Nat)) (hA : ∀ i k, at2 A i k < 256) (s e k : Nat) : ∀ t, grp A s e t k < 256 := by
  intro t
  induction t with
  | zero => exact (by decide : (0 : Nat) < 256)
  | succ t ih =>
    simp only [grp]
    split
    · exact xlt ih (hA t k)
    · exact ih
theorem encL_at (M A : List (List Nat)) (n i : Nat) (hi : i < M.length) (hi' : i < (encL M A n).length) : (encL M A n)[i] = combTo M[i] A n A.length := by simp [encL]
theorem matL_data (D L G i : Nat) (hi : i < D) (h : i < (matL D L G).length) : (matL D L G)[i] = dataL D i := by
  have e : (matL D L G)[i]? = some (dataL D i) := by
    unfold matL
    rw [List.getElem?_append_left (by simp; omega), List.getElem?_append_left (by simpa using hi)]
    simp [hi]
  rw [List.getElem?_eq_getElem h] at e
  exact Option.some.inj e
theorem matL_local (D L G g : Nat) (hg : g < L) (h : D + g < (matL D L G).length) : (matL D L G)[D + g] = localL D L g := by
  have e : (matL D L G)[D + g]? = some (localL D L g) := by
    unfold matL
    rw [List.getElem?_append_left (by simp; omega), List.getElem?_append_right (by simp)]
    simp [hg]
  rw [List.getElem?_eq_getElem h] at e
  exact Option.some.inj e
theorem matL_256 (D L G : Nat) (hD : D ≤ 12) (hG : G ≤ 4) {i : Nat} (hi : i < (matL D L G).length) : ∀ x ∈ (matL D L G)[i], x < 256 := by
  have hm : (matL D L G)[i] ∈ matL D L G := List.getElem_mem hi
  generalize (matL D L G)[i] = r at hm
  unfold matL at hm
  rcases List.mem_append.1 hm with hm | hm
  · rcases List.mem_append.1 hm with hm | hm
    · obtain ⟨j, _, rfl⟩ := List.mem_map.1 hm
      exact (dataL_ok D j).2
    · obtain ⟨j, _, rfl⟩ := List.mem_map.1 hm
      exact (localL_ok D L j).2
  · obtain ⟨j, hj, rfl⟩ := List.mem_map.1 hm
    exact (globalL_ok D j hD (by have := List.mem_range.1 hj; omega)).2
end Go.Proofs.YthhommjlomphdaaDoor
