/-
  Lists of rows that are exchanged, and worked off: what becomes of them.
-/
import Derived.Test.YthhommjlomphdaaRankMath
import Derived.Test.YthhommjlomphdaaRooms
namespace Go.Proofs.Ythhommjlomphdaa
open Go.RowKit Go.Deep Gf

/-- two rows are exchanged -/
def swp (T : List (Nat × Nat × List Nat)) (p r : Nat) : List (Nat × Nat × List Nat) := (T.set p (T.getD r (0, 0, []))).set r (T.getD p (0, 0, []))
theorem swp_len (T : List (Nat × Nat × List Nat)) (p r : Nat) : (swp T p r).length = T.length := by simp [swp]
theorem swp_get (T : List (Nat × Nat × List Nat)) (p r i : Nat) (hp : p < T.length) (hr : r < T.length) (hi : i < T.length) (h' : i < (swp T p r).length) :
    (swp T p r)[i] = if i = r then T[p] else if i = p then T[r] else T[i] := by
  have e1 : T.getD p (0, 0, []) = T[p] := by simp [hp]
  have e2 : T.getD r (0, 0, []) = T[r] := by simp [hr]
  apply Option.some.inj
  rw [← List.getElem?_eq_getElem h']
  unfold swp
  rw [e1, e2, List.getElem?_set, List.getElem?_set]
  by_cases c1 : r = i
  · subst c1; simp [hr]
  · by_cases c2 : p = i
    · subst c2; simp [hp, c1, Ne.symm c1]
    · simp [c1, c2, Ne.symm c1, Ne.symm c2, hi]
theorem swp_mem (T : List (Nat × Nat × List Nat)) (p r : Nat) (hp : p < T.length) (hr : r < T.length) : ∀ x ∈ swp T p r, x ∈ T := by
  intro x hx
  obtain ⟨i, hi, rfl⟩ := List.mem_iff_getElem.1 hx
  have hi' : i < T.length := by rw [swp_len] at hi; exact hi
  rw [swp_get T p r i hp hr hi']
  split
  · exact List.getElem_mem _
  · split
    · exact List.getElem_mem _
    · exact List.getElem_mem _
theorem Tab.swap {w : World} {B g n cap : Nat} {T : List (Nat × Nat × List Nat)} (h : Tab w B (.slice (some ⟨g, 0, none⟩) n cap) T) {p r : Nat} (hp : p < T.length) (hr : r < T.length) :
    Tab ((w.setCell ⟨g, p, none⟩ (hdr T[r])).setCell ⟨g, r, none⟩ (hdr T[p])) B (.slice (some ⟨g, 0, none⟩) n cap) (swp T p r) := by
  obtain ⟨e0, h2⟩ := h.own
  have hne : ∀ q ∈ T, q.1 ≠ g := fun q hq e => own_ne h.own (h.row q hq).2.1 (by rw [e]; rfl)
  have hrow : ∀ q ∈ T, Brow ((w.setCell ⟨g, p, none⟩ (hdr T[r])).setCell ⟨g, r, none⟩ (hdr T[p])) q.1 q.2.2 := fun q hq =>
    ((h.row q hq).2.1.other (a := ⟨g, p, none⟩) (hne q hq) _).other (a := ⟨g, r, none⟩) (hne q hq) _
  refine ⟨⟨by simp [swp], ?_⟩, fun q hq => ?_, ?_⟩
  · rcases h2 with ⟨h0, _⟩ | ⟨g', cap', cur, e1, e2, e3, e4, e5, e6, e7⟩
    · simp at h0
    · simp at e1
      obtain ⟨rfl, rfl, rfl⟩ := e1
      refine .inr ⟨g, cap, (cur.setIfInBounds p (hdr T[r])).setIfInBounds r (hdr T[p]), by rw [swp_len], e2, ?_, by rw [swp_len]; exact e4, e5, by simpa using e6, ?_⟩
      · simp [World.setCell, Array.getElem?_modify, e3]
      · rw [swp_len]
        simp only [Array.toList_setIfInBounds]
        rw [List.take_set, List.take_set, e7]
        apply List.ext_getElem
        · simp [swp]
        · intro i h1 h2
          have hi : i < T.length := by simpa [swp] using h2
          rw [List.getElem_map, swp_get T p r i hp hr hi]
          simp only [List.getElem_set, List.getElem_map]
          by_cases c1 : r = i
          · subst c1; simp
          · by_cases c2 : p = i
            · subst c2; simp [c1, Ne.symm c1]
            · simp [c1, c2, Ne.symm c1, Ne.symm c2]
  · have hq' := swp_mem T p r hp hr q hq
    obtain ⟨a1, a2, a3⟩ := h.row q hq'
    exact ⟨a1, hrow q hq', a3⟩
  · have hnd := List.pairwise_iff_getElem.1 h.nodup
    have key : ∀ i j (hi : i < T.length) (hj : j < T.length), i ≠ j → T[i].1 ≠ T[j].1 := by
      intro i j hi hj hij e
      rcases Nat.lt_or_gt_of_ne hij with h' | h'
      · exact hnd i j (by simpa using hi) (by simpa using hj) h' (by simpa using e)
      · exact hnd j i (by simpa using hj) (by simpa using hi) h' (by simpa using e.symm)
    refine List.pairwise_iff_getElem.2 fun i j hi hj hij => ?_
    have hi' : i < T.length := by simpa [swp] using hi
    have hj' : j < T.length := by simpa [swp] using hj
    rw [List.getElem_map, List.getElem_map, swp_get T p r i hp hr hi', swp_get T p r j hp hr hj']
    by_cases c1 : i = r
    · rw [if_pos c1]
      by_cases c2 : j = r
      · omega
      · rw [if_neg c2]
        by_cases c3 : j = p
        · rw [if_pos c3]; exact key p r hp hr (by omega)
        · rw [if_neg c3]; exact key p j hp hj' (fun h => c3 h.symm)
    · rw [if_neg c1]
      by_cases c2 : i = p
      · rw [if_pos c2]
        by_cases c3 : j = r
        · rw [if_pos c3]; exact key r p hr hp (by omega)
        · rw [if_neg c3]
          by_cases c4 : j = p
          · omega
          · rw [if_neg c4]; exact key r j hr hj' (fun h => c3 h.symm)
      · rw [if_neg c2]
        by_cases c3 : j = r
        · rw [if_pos c3]; exact key i p hi' hp c2
        · rw [if_neg c3]
          by_cases c4 : j = p
          · rw [if_pos c4]; exact key i r hi' hr c1
          · rw [if_neg c4]; exact key i j hi' hj' (by omega)
/-- a multiple of lp is added to l, from c on, as far as j -/
def adTo (l lp : List Nat) (f c j : Nat) : List Nat := (List.range l.length).map fun q => if c ≤ q ∧ q < j then l.getD q 0 ^^^ gm f (lp.getD q 0) else l.getD q 0
theorem adTo_len (l lp : List Nat) (f c j : Nat) : (adTo l lp f c j).length = l.length := by simp [adTo]
theorem adTo_start (l lp : List Nat) (f c : Nat) : adTo l lp f c c = l := by
  unfold adTo
  apply List.ext_getElem
  · simp
  · intro q h1 h2
    simp [h2]
    omega
theorem adTo_get (l lp : List Nat) (f c j : Nat) (hj : j < l.length) : (adTo l lp f c j).getD j 0 = l.getD j 0 := by simp [adTo, hj]
theorem adTo_step (l lp : List Nat) (f c j : Nat) (hc : c ≤ j) : (adTo l lp f c j).set j (l.getD j 0 ^^^ gm f (lp.getD j 0)) = adTo l lp f c (j + 1) := by
  unfold adTo
  apply List.ext_getElem
  · simp
  · intro q h1 h2
    simp [List.getElem_set]
    by_cases e : j = q
    · subst e; simp [hc]
    · simp only [if_neg e]
      by_cases e2 : c ≤ q ∧ q < j
      · rw [if_pos e2, if_pos ⟨e2.1, by omega⟩]
      · rw [if_neg e2, if_neg (by omega)]
theorem adTo_lt {l lp : List Nat} (hl : ∀ x ∈ l, x < 256) {f : Nat} (hf : f < 256) (c j : Nat) : ∀ x ∈ adTo l lp f c j, x < 256 := by
  intro x hx
  obtain ⟨q, _, rfl⟩ := List.mem_map.1 hx
  have := getD_lt hl q
  split
  · exact xlt this (gm_lt _ hf)
  · exact this
theorem adTo_vec (l lp : List Nat) (f c W : Nat) (h1 : l.length = W) (h2 : lp.length = W) (hz : ∀ q, q < c → vec lp q = 0) : vec (adTo l lp f c W) = addV (vec l) f (vec lp) := by
  funext q
  show (adTo l lp f c W).getD q 0 = l.getD q 0 ^^^ gm f (lp.getD q 0)
  by_cases hq : q < W
  · by_cases hc : c ≤ q
    · simp [adTo, h1, hq, hc]
    · have : lp.getD q 0 = 0 := hz q (by omega)
      rw [this, gm_zero, Nat.xor_zero]
      simp [adTo, h1, hq, hc]
  · have e1 : lp.getD q 0 = 0 := by simp [List.getElem?_eq_none (show lp.length ≤ q by omega)]
    have e2 : l.getD q 0 = 0 := by simp [List.getElem?_eq_none (show l.length ≤ q by omega)]
    have e3 : (adTo l lp f c W).getD q 0 = 0 := by
      rw [List.getD_eq_getElem?_getD, List.getElem?_eq_none (by rw [adTo_len]; omega)]; rfl
    rw [e1, e2, e3, gm_zero]
    exact (Nat.xor_self 0).symm
end Go.Proofs.Ythhommjlomphdaa
