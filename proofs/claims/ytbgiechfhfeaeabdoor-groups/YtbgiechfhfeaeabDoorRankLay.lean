/-
  Rows are laid side by side.
-/
import Derived.Test.YtbgiechfhfeaeabDoorRankProg
namespace Go.Proofs.YtbgiechfhfeaeabDoor
open Go.RowKit Go.Deep Gf

def gridOf (D : List (List Nat)) (x : Nat) : Nat := (D.getD (x / 64) []).getD (x % 64) 0
def gridTo (D : List (List Nat)) (k x : Nat) : Nat := if x / 64 < k then gridOf D x else 0
theorem row_heap {w : World} {b t n : Nat} {f : Nat → Value} (h : w.rowIs b t n f) : w.heap[b]? = some (.cells ((List.range n).map f).toArray t (0, 0)) := by
  obtain ⟨c, hc, hs, hg⟩ := h
  have : c = ((List.range n).map f).toArray := by
    apply Array.ext
    · simp [hs]
    · intro i h1 h2
      have := hg i (by omega)
      rw [Array.getElem?_eq_getElem h1] at this
      simp at this
      simp [this]
  rw [← this]; exact hc
/-- copy into the middle of a block -/
theorem wpList_cpg {w : World} {ops : Array Oper} {rest : List Oper} {o : Oper} {a : Act} {Q : Exit → Act → World → Prop} (hgd : o.guard = none) (d s : Operand)
    (ho : o.op = .call { callee := .builtin .copy, args := #[d, s], argTypes := #[59, 59] }) (g off n cap N t : Nat) (v : Value) (hd : a.eval d = .slice (some ⟨g, off, none⟩) n cap) (hs : a.eval s = v)
    (F : Nat → Nat) (src : List Nat) (hB : w.rowIs g t N (tv F)) (hS : Bs w v src) (hle : src.length ≤ n) (hn : off + n ≤ N)
    (h : ∀ w', w'.rowIs g t N (tv (fun x => if off ≤ x ∧ x < off + src.length then src.getD (x - off) 0 else F x)) → Below g w w' → wpList Tryd.prog ops Q rest (a.put o.dst (goInt src.length)) w') : wpList Tryd.prog ops Q (o :: rest) a w := by
  obtain ⟨ao, c, rfl, h1, h2, h3, h4⟩ := hS
  refine wpList_copy_splice hgd d s 59 59 ho 5 Tryd.underlying59 (by kernel_rfl) (some ⟨g, off, none⟩) ao n cap src.length c hd hs g off _ t (row_heap hB) (src.map (fun x => Value.int .u8 ((x : Nat) : Int))) ?_ ?_ ?_ ?_ g w (Below.refl _ _) (Nat.le_refl _) ?_
  · rw [List.length_map]
    show src.length = min src.length n
    omega
  · intro hp
    rw [List.length_map] at hp
    obtain ⟨b, off, rfl, hc⟩ := h4 (by intro e; rw [e] at hp; simp at hp)
    refine ⟨rfl, _, rfl, fun j u hj => ?_⟩
    have hjl : j < src.length := by
      have := List.getElem?_eq_some_iff.1 hj
      obtain ⟨q, _⟩ := this
      simpa using q
    rw [Addr.add_mid, hc j hjl]
    simp [hjl] at hj
    simp [hjl, hj]
  · simp; omega
  · intro u hu
    obtain ⟨x, _, rfl⟩ := List.mem_map.1 hu
    rfl
  · intro w' hw' hb'
    have hw := hw'.out
    rw [List.length_map]
    refine h w' ⟨_, hw, ?_, fun i hi => ?_⟩ hb'
    · rw [List.size_toArray, length_splice _ _ _ (by simp; omega)]; simp
    · unfold splice
      rw [List.getElem?_toArray]
      by_cases q1 : i < off
      · rw [List.getElem?_append_left (by simp; omega)]
        have q0 : ¬ (off ≤ i ∧ i < off + src.length) := by omega
        simp only [tv, if_neg q0]
        simp [q1, hi, tv]
      · rw [List.getElem?_append_right (by simp; omega)]
        have e0 : (((List.range N).map (tv F)).take off).length = off := by simp; omega
        rw [e0]
        by_cases q2 : i < off + src.length
        · rw [List.getElem?_append_left (by simp; omega)]
          have q3 : i - off < src.length := by omega
          simp [q3, tv, q2, Nat.not_lt.1 q1]
        · rw [List.getElem?_append_right (by simp; omega)]
          simp only [List.length_map]
          rw [List.getElem?_drop]
          have e1 : off + src.length + (i - off - src.length) = i := by omega
          rw [e1]
          simp [hi, tv, q2]
theorem gridTo_step (D : List (List Nat)) (k : Nat) (hk : k < D.length) (hl : (D[k]).length ≤ 64) : (fun x => if k * 64 ≤ x ∧ x < k * 64 + (D[k]).length then (D[k]).getD (x - k * 64) 0 else gridTo D k x) = gridTo D (k + 1) := by
  have hg : D.getD k [] = D[k] := by simp [hk]
  funext x
  unfold gridTo gridOf
  by_cases h : k * 64 ≤ x ∧ x < k * 64 + (D[k]).length
  · rw [if_pos h, if_pos (by omega)]
    have e1 : x / 64 = k := by omega
    have e2 : x % 64 = x - k * 64 := by omega
    rw [e1, hg, e2]
  · rw [if_neg h]
    by_cases h2 : x / 64 < k
    · rw [if_pos h2, if_pos (by omega)]
    · rw [if_neg h2]
      by_cases h3 : x / 64 = k
      · rw [if_pos (by omega), h3, hg, List.getD_eq_getElem?_getD, List.getElem?_eq_none (by omega)]; rfl
      · rw [if_neg (by omega)]
theorem gridTo_end (D : List (List Nat)) (x : Nat) : gridTo D D.length x = gridOf D x := by
  unfold gridTo
  by_cases h : x / 64 < D.length
  · rw [if_pos h]
  · rw [if_neg h]
    unfold gridOf
    simp [List.getElem?_eq_none (Nat.not_lt.1 h)]
theorem one_cells2 {cs : Array Value} {N : Nat} {f : Nat → Nat} (hs : cs.size = N) (h : ∀ j, j < N → cs[j]? = some (tv f j)) : cs.all (fun v => v.oneCell') = true := by
  rw [Array.all_eq_true]
  intro i hi
  have := h i (by omega)
  rw [Array.getElem?_eq_getElem hi] at this
  simp at this
  rw [this]; rfl
end Go.Proofs.YtbgiechfhfeaeabDoor
