/-
  A frame of which some slots have turned, spelled out. Written by gen_frames.py.
-/
import Derived.Test.YtbgiechfhfeaeabDoorCkRegions
namespace Go.Proofs.YtbgiechfhfeaeabDoor
open Go.RowKit

theorem Kept.split {lo hi : Nat} {a a' : Act} (hk : Kept lo hi a a') (h1 : lo ≤ hi) (h2 : hi ≤ a.tmps.size) :
    ∃ l : List Value, l.length = hi - lo ∧ a' = { tmps := (a.tmps.toList.take lo ++ (l ++ a.tmps.toList.drop hi)).toArray, defers := a.defers } := by
  have hev : ∀ (x : Act) (s : Nat), s < x.tmps.size → x.tmps[s]? = some (x.eval (.tmp s)) := fun x s hs => by
    simp [Act.eval, Array.getD_eq_getD_getElem?, hs]
  refine ⟨(a'.tmps.toList.drop lo).take (hi - lo), ?_, ?_⟩
  · have := hk.size
    simp; omega
  · obtain ⟨t', d'⟩ := a'
    have hs := hk.size
    have hd := hk.defers
    simp only at hs hd
    subst hd
    congr 1
    apply Array.ext_getElem?
    intro i
    simp only [List.getElem?_toArray, List.getElem?_append, List.getElem?_take, List.getElem?_drop, List.length_take, List.length_drop, Array.length_toList, Array.getElem?_toList]
    by_cases c1 : i < lo
    · rw [if_pos (by omega), if_pos c1]
      have e := hk.slot i (.inl c1)
      have x1 := hev ⟨t', a.defers⟩ i (by show i < t'.size; omega)
      have x2 := hev a i (by omega)
      simp only at x1
      rw [x1, x2, e]
    · by_cases c2 : i < hi
      · rw [if_neg (by omega), if_pos (by omega), if_pos (by omega), show lo + (i - min lo a.tmps.size) = i by omega]
      · rw [if_neg (by omega), if_neg (by omega)]
        have ei : hi + (i - min lo a.tmps.size - min (hi - lo) (t'.size - lo)) = i := by omega
        rw [ei]
        by_cases c3 : i < a.tmps.size
        · have e := hk.slot i (.inr (by omega))
          have x1 := hev ⟨t', a.defers⟩ i (by show i < t'.size; omega)
          have x2 := hev a i c3
          simp only at x1
          rw [x1, x2, e]
        · rw [Array.getElem?_eq_none (by omega), Array.getElem?_eq_none (by omega)]
theorem len9 {l : List Value} (h : l.length = 9) : ∃ u0 u1 u2 u3 u4 u5 u6 u7 u8, l = [u0, u1, u2, u3, u4, u5, u6, u7, u8] := by
  match l, h with
  | [u0, u1, u2, u3, u4, u5, u6, u7, u8], _ => exact ⟨u0, u1, u2, u3, u4, u5, u6, u7, u8, rfl⟩
theorem len14 {l : List Value} (h : l.length = 14) : ∃ u0 u1 u2 u3 u4 u5 u6 u7 u8 u9 u10 u11 u12 u13, l = [u0, u1, u2, u3, u4, u5, u6, u7, u8, u9, u10, u11, u12, u13] := by
  match l, h with
  | [u0, u1, u2, u3, u4, u5, u6, u7, u8, u9, u10, u11, u12, u13], _ => exact ⟨u0, u1, u2, u3, u4, u5, u6, u7, u8, u9, u10, u11, u12, u13, rfl⟩
theorem len28 {l : List Value} (h : l.length = 28) : ∃ u0 u1 u2 u3 u4 u5 u6 u7 u8 u9 u10 u11 u12 u13 u14 u15 u16 u17 u18 u19 u20 u21 u22 u23 u24 u25 u26 u27, l = [u0, u1, u2, u3, u4, u5, u6, u7, u8, u9, u10, u11, u12, u13, u14, u15, u16, u17, u18, u19, u20, u21, u22, u23, u24, u25, u26, u27] := by
  match l, h with
  | [u0, u1, u2, u3, u4, u5, u6, u7, u8, u9, u10, u11, u12, u13, u14, u15, u16, u17, u18, u19, u20, u21, u22, u23, u24, u25, u26, u27], _ => exact ⟨u0, u1, u2, u3, u4, u5, u6, u7, u8, u9, u10, u11, u12, u13, u14, u15, u16, u17, u18, u19, u20, u21, u22, u23, u24, u25, u26, u27, rfl⟩
end Go.Proofs.YtbgiechfhfeaeabDoor
