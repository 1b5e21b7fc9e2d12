/-
  The sets of Compile, and its code, in plain numbers.
-/
import Derived.Test.YtbgiechfhfeaeabDoorDecodable
import Derived.Test.YtbgiechfhfeaeabDoorPlanMath
import Derived.Test.YtbgiechfhfeaeabDoorChecksOf
namespace Go.Proofs.YtbgiechfhfeaeabDoor
open Go.RowKit Go.Deep Gf

/-- the lost ones of n shards; the others -/
def goneN (n lost : Nat) : Nat := lost &&& (2 ^ n - 1)
def keptN (n lost : Nat) : Nat := (2 ^ n - 1) &&& (18446744073709551615 - goneN n lost)
theorem pow16 {n : Nat} (h : n ≤ 16) : 2 ^ n ≤ 65536 := Nat.pow_le_pow_right (n := 2) (i := n) (j := 16) (by decide) h
theorem goneN_bit (n lost i : Nat) : (goneN n lost).testBit i = (lost.testBit i && decide (i < n)) := by unfold goneN; rw [Nat.testBit_and, Nat.testBit_two_pow_sub_one]
theorem goneN_lt {n : Nat} (lost : Nat) (h : n ≤ 16) : goneN n lost < 65536 := by
  have h1 := pow16 h
  have h2 : goneN n lost ≤ 2 ^ n - 1 := Nat.and_le_right
  have h3 : 0 < 2 ^ n := Nat.two_pow_pos n
  omega
theorem keptN_lt {n : Nat} (lost : Nat) (h : n ≤ 16) : keptN n lost < 65536 := by
  have h1 := pow16 h
  have h2 : keptN n lost ≤ 2 ^ n - 1 := Nat.and_le_left
  have h3 : 0 < 2 ^ n := Nat.two_pow_pos n
  omega
theorem keptN_bit {n : Nat} (lost i : Nat) (h : n ≤ 16) : (keptN n lost).testBit i = (decide (i < n) && !lost.testBit i) := by
  have hg := goneN_lt lost h
  unfold keptN
  rw [Nat.testBit_and, Nat.testBit_two_pow_sub_one, show 18446744073709551615 - goneN n lost = 2 ^ 64 - (goneN n lost + 1) by omega, Nat.testBit_two_pow_sub_succ (by omega), goneN_bit]
  by_cases hi : i < n
  · simp [hi, show i < 64 by omega]
  · simp [hi]
theorem mem_gone {n lost i : Nat} (h : n ≤ 16) : i ∈ mems (goneN n lost) ↔ i < n ∧ lost.testBit i = true := by
  rw [mem_mems, goneN_bit]
  simp only [Bool.and_eq_true, decide_eq_true_eq]
  constructor
  · rintro ⟨_, h1, h2⟩; exact ⟨h2, h1⟩
  · rintro ⟨h1, h2⟩; exact ⟨by omega, h2, h1⟩
theorem mem_kept {n lost i : Nat} (h : n ≤ 16) : i ∈ mems (keptN n lost) ↔ i < n ∧ lost.testBit i = false := by
  rw [mem_mems, keptN_bit lost i h]
  simp only [Bool.and_eq_true, decide_eq_true_eq, Bool.not_eq_true']
  constructor
  · rintro ⟨_, h1, h2⟩; exact ⟨h1, h2⟩
  · rintro ⟨h1, h2⟩; exact ⟨by omega, h1, h2⟩
theorem mems_nodup (s : Nat) : (mems s).Nodup := List.Pairwise.filter _ List.nodup_range
theorem mat_open {w : World} {B D : Nat} {v : Value} {T : List (Nat × Nat × List Nat)} {M : List (List Nat)} (h : Tab w B v T) (hH : Holds T D M) (hD : ∀ r ∈ M, r.length = D) (hM : M ≠ []) :
    ∃ g c, v = .slice (some ⟨g, 0, none⟩) M.length c ∧ M.length ≤ c ∧ ∀ i (hi : i < M.length), ∃ u, w.cell? ⟨g, 0 + i, none⟩ = some u ∧ Bs w u M[i] := by
  have hlen : T.length = M.length := by simpa using congrArg List.length hH
  rcases h.own.2 with ⟨_, h0⟩ | ⟨g, c, cur, rfl, _, _, hc, _⟩
  · exact absurd (List.eq_nil_of_length_eq_zero (by omega)) hM
  · refine ⟨g, c, by rw [hlen], by omega, fun i hi => ?_⟩
    have hiT : i < T.length := by omega
    refine ⟨hdr T[i], by rw [Nat.zero_add]; exact h.cell_at hiT, ?_⟩
    have := h.row_at hiT
    have hat : T[i].2 = (D, M[i]) := by
      have := congrArg (fun l => l[i]?) hH
      simpa [hiT, hi] using this
    rw [hat] at this
    have e : (M[i]).take D = M[i] := by rw [← hD _ (List.getElem_mem hi), List.take_length]
    rw [e] at this
    exact this
theorem mat_get (D L G i : Nat) (hi : i < D) : (matL D L G).getD i [] = dataL D i := by
  unfold matL
  rw [List.append_assoc, List.getD_eq_getElem?_getD, List.getElem?_append_left (by simpa using hi)]
  simp [hi]
theorem mat_code (D L G : Nat) (hD : D ≤ 12) (hG : G ≤ 4) : Gf.Code (mf (matL D L G)) D (L + G) := by
  refine ⟨fun i j => ?_, fun i hi j => ?_, fun i j hj => ?_⟩
  · unfold mf
    by_cases hi : i < (matL D L G).length
    · have e : (matL D L G).getD i [] = (matL D L G)[i] := by simp [hi]
      rw [e]
      exact getD_lt (mat_byte D L G hD hG _ (List.getElem_mem hi)) j
    · have e : (matL D L G).getD i [] = [] := by simp [hi]
      rw [e]; simp
  · unfold mf
    rw [mat_get D L G i hi]
    unfold dataL
    rw [List.getD_eq_getElem?_getD, List.getElem?_set]
    by_cases e : i = j
    · subst e; simp [hi]
    · simp only [e, if_false]
      rw [if_neg (fun h => e h.symm)]
      by_cases hj : j < D
      · simp [hj]
      · simp [hj]
  · unfold mf
    by_cases hi : i < (matL D L G).length
    · have e : (matL D L G).getD i [] = (matL D L G)[i] := by simp [hi]
      have hl := mat_row D L G _ (List.getElem_mem hi)
      rw [e, List.getD_eq_getElem?_getD, List.getElem?_eq_none (by omega)]; rfl
    · have e : (matL D L G).getD i [] = [] := by simp [hi]
      rw [e]; simp
/-- the checks at the start -/
def cks (D L G : Nat) : Ck := ck0 (mf (matL D L G)) D (L + G)
theorem cks_fit {D L G : Nat} (hD : D ≤ 12) (hL : L ≤ 4) (hG : G ≤ 4) {pre : List Nat} {C : Ck} (h : tells (cks D L G) pre = some C) : CkFit C := by
  rcases (mat_code D L G hD hG).told pre with ⟨C', h1, h2⟩ | ⟨h1, _⟩
  · have e : tells (cks D L G) pre = some C' := h1
    rw [h] at e
    obtain rfl := Option.some.inj e
    exact ⟨h2.byt, h2.le, by have : C.count = L + G := h2.count; omega⟩
  · have e : tells (cks D L G) pre = none := h1
    rw [h] at e; cases e
end Go.Proofs.YtbgiechfhfeaeabDoor
