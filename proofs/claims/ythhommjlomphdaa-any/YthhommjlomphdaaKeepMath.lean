/-
  The rows of the shards that are not lost: as many as there are global parities may be lost, whichever they are.
-/
import Derived.Test.YthhommjlomphdaaFullRank
import Derived.Test.YthhommjlomphdaaMatrix
namespace Go.Proofs.Ythhommjlomphdaa
open Gf

def keepTo (M : List (List Nat)) (lost k : Nat) : List (List Nat) := ((List.range k).filter (fun i => decide (lost / 2 ^ i % 2 = 0))).map (fun i => M.getD i [])
theorem keep_zero (M : List (List Nat)) (lost : Nat) : keepTo M lost 0 = [] := rfl
theorem keep_in (M : List (List Nat)) (lost k : Nat) (h : lost / 2 ^ k % 2 = 0) : keepTo M lost (k + 1) = keepTo M lost k ++ [M.getD k []] := by
  simp [keepTo, List.range_succ, h]
theorem keep_out (M : List (List Nat)) (lost k : Nat) (h : lost / 2 ^ k % 2 ≠ 0) : keepTo M lost (k + 1) = keepTo M lost k := by
  simp [keepTo, List.range_succ, h]
theorem keep_mem (M : List (List Nat)) (lost k : Nat) (hk : k ≤ M.length) : ∀ l ∈ keepTo M lost k, l ∈ M := by
  intro l hl
  simp [keepTo] at hl
  obtain ⟨i, ⟨hi, _⟩, rfl⟩ := hl
  rw [List.getElem?_eq_getElem (by omega)]
  exact List.getElem_mem _
theorem keep_len (M : List (List Nat)) (lost k : Nat) : (keepTo M lost k).length ≤ k := by
  unfold keepTo
  rw [List.length_map]
  exact Nat.le_trans (List.length_filter_le _ _) (by simp)
theorem rem_iff (T : List (List Nat)) (v : Nat → Nat) : Rem T 0 v ↔ ∃ l ∈ T, v = vec l := by
  constructor
  · rintro ⟨i, hi, _, rfl⟩; exact ⟨_, List.getElem_mem hi, rfl⟩
  · rintro ⟨l, hl, rfl⟩
    obtain ⟨i, hi, rfl⟩ := List.mem_iff_getElem.1 hl
    exact ⟨i, hi, Nat.zero_le _, rfl⟩
theorem rem_keep (M : List (List Nat)) (lost k : Nat) (v : Nat → Nat) : Rem (keepTo M lost k) 0 v ↔ ∃ i, i < k ∧ lost / 2 ^ i % 2 = 0 ∧ v = vec (M.getD i []) := by
  rw [rem_iff]
  constructor
  · rintro ⟨l, hl, rfl⟩
    simp only [keepTo, List.mem_map, List.mem_filter, List.mem_range, decide_eq_true_eq] at hl
    obtain ⟨i, ⟨hi, hb⟩, rfl⟩ := hl
    exact ⟨i, hi, hb, rfl⟩
  · rintro ⟨i, hi, hb, rfl⟩
    refine ⟨_, ?_, rfl⟩
    simp only [keepTo, List.mem_map, List.mem_filter, List.mem_range, decide_eq_true_eq]
    exact ⟨i, ⟨hi, hb⟩, rfl⟩
/-- how many are lost -/
def cnt (lost n : Nat) : Nat := (List.range n).countP (fun i => decide (lost / 2 ^ i % 2 = 1))
theorem cnt_succ (lost n : Nat) : cnt lost (n + 1) = cnt lost n + (if lost / 2 ^ n % 2 = 1 then 1 else 0) := by
  simp [cnt, List.range_succ, List.countP_append, List.countP_cons]
theorem cnt_le (lost n : Nat) : cnt lost n ≤ n := by
  have := List.countP_le_length (p := fun i => decide (lost / 2 ^ i % 2 = 1)) (l := List.range n)
  simpa [cnt] using this
theorem vec_data (D i : Nat) (hi : i < D) : vec (dataL D i) = unitV i := by
  funext j
  unfold vec dataL unitV
  by_cases e : j = i
  · subst e; simp [hi]
  · rw [if_neg e]
    simp [Ne.symm e, List.getElem?_replicate]
    split <;> rfl
theorem vec_global (D i j : Nat) : vec (globalL D i) j = if j < D then gi ((D + i) ^^^ j) else 0 := by
  unfold vec globalL
  by_cases h : j < D
  · simp [h]
  · simp [h]
theorem mat_data (D L G i : Nat) (hi : i < D) : (matL D L G).getD i [] = dataL D i := by
  simp [matL, List.getElem?_append, hi]
theorem mat_global (D L G i : Nat) (hi : i < G) : (matL D L G).getD (D + L + i) [] = globalL D i := by
  have e1 : ¬ D + L + i < D := by omega
  have e2 : ¬ D + L + i - D < L := by omega
  have e3 : D + L + i - D - L = i := by omega
  simp [matL, List.getElem?_append, e1, e2, e3, hi]
theorem clearV {R : (Nat → Nat) → Prop} (hR : ∀ r, R r → byteV r) {v : Nat → Nat} (hv : Span R v) : ∀ K : List Nat, (∀ k ∈ K, Span R (unitV k)) → Span R (fun j => if j ∈ K then 0 else v j)
  | [], _ => by simpa using hv
  | k :: K, h => by
    by_cases hk : k ∈ K
    · have e : (fun j => if j ∈ k :: K then 0 else v j) = fun j => if j ∈ K then 0 else v j := by
        funext j
        by_cases e1 : j = k
        · subst e1; simp [hk]
        · simp [e1]
      rw [e]; exact clearV hR hv K (fun j hj => h j (List.mem_cons_of_mem _ hj))
    · have hb := hv.byte k
      have t := Span.add hR (clearV hR hv K (fun j hj => h j (List.mem_cons_of_mem _ hj))) hb (h k List.mem_cons_self)
      have e : addV (fun j => if j ∈ K then 0 else v j) (v k) (unitV k) = fun j => if j ∈ k :: K then 0 else v j := by
        funext j
        show (if j ∈ K then 0 else v j) ^^^ gm (v k) (if j = k then 1 else 0) = _
        by_cases e1 : j = k
        · subst e1
          rw [if_neg hk, if_pos rfl, gm_one _ hb, Nat.xor_self, if_pos List.mem_cons_self]
        · rw [if_neg e1, gm_zero, Nat.xor_zero]
          by_cases e2 : j ∈ K
          · rw [if_pos e2, if_pos (List.mem_cons_of_mem _ e2)]
          · rw [if_neg e2, if_neg (by simp [e1, e2])]
      rwa [e] at t
theorem any_full (D L G lost : Nat) (hD : D ≤ 12) (hG : G ≤ 4) (hR : ∀ r, Rem (keepTo (matL D L G) lost (D + L + G)) 0 r → byteV r) (hc : cnt lost (D + L + G) ≤ G) :
    Full (Rem (keepTo (matL D L G) lost (D + L + G)) 0) 0 D := by
  have kd : ∀ j, j < D → lost / 2 ^ j % 2 = 0 → Span (Rem (keepTo (matL D L G) lost (D + L + G)) 0) (unitV j) := by
    intro j hj hb
    have hr : Rem (keepTo (matL D L G) lost (D + L + G)) 0 (unitV j) := (rem_keep _ _ _ _).2 ⟨j, by omega, hb, by rw [mat_data D L G j hj, vec_data D j hj]⟩
    exact Span.mem (unitV_byte j) hr
  have hcs : cnt lost (D + L + G) = cnt lost D + ((List.range L).countP (fun i => decide (lost / 2 ^ (D + i) % 2 = 1)) + (List.range G).countP (fun i => decide (lost / 2 ^ (D + L + i) % 2 = 1))) := by
    unfold cnt
    rw [List.range_add, List.countP_append, List.range_add, List.countP_append, List.countP_map, List.countP_map, Nat.add_assoc]
    rfl
  have hg := List.length_eq_countP_add_countP (fun i => decide (lost / 2 ^ (D + L + i) % 2 = 1)) (l := List.range G)
  rw [List.length_range] at hg
  have ng : (List.range G).countP (fun i => decide ¬ (decide (lost / 2 ^ (D + L + i) % 2 = 1)) = true) = ((List.range G).filter (fun i => decide (lost / 2 ^ (D + L + i) % 2 = 0))).length := by
    rw [← List.countP_eq_length_filter]
    congr 1
    funext i
    have := Nat.mod_two_eq_zero_or_one (lost / 2 ^ (D + L + i))
    rcases this with h | h <;> simp [h]
  have nl : cnt lost D = ((List.range D).filter (fun i => decide (lost / 2 ^ i % 2 = 1))).length := by rw [cnt, List.countP_eq_length_filter]
  refine Full.units hR fun j hj => ?_
  rcases Nat.mod_two_eq_zero_or_one (lost / 2 ^ j) with hb | hb
  · exact kd j hj hb
  · refine cauchy _ hR ((List.range D).filter (fun i => decide (lost / 2 ^ i % 2 = 1))) (((List.range G).filter (fun i => decide (lost / 2 ^ (D + L + i) % 2 = 0))).map (fun i => D + i)) (fun _ => 1)
      (List.nodup_range.filter _) ?_ ?_ ?_ ?_ ?_ j (by simp [hj, hb])
    · exact List.Pairwise.map _ (fun a b h => by omega) (List.nodup_range.filter _)
    · rw [List.length_map, ← nl, ← ng]; omega
    · intro i hi
      simp at hi
      exact ⟨by omega, by decide, by decide⟩
    · intro x hx
      simp at hx
      obtain ⟨i, ⟨hi, _⟩, rfl⟩ := hx
      refine ⟨by omega, fun k hk => ?_⟩
      simp at hk
      omega
    · intro x hx
      simp only [List.mem_map, List.mem_filter, List.mem_range, decide_eq_true_eq] at hx
      obtain ⟨i, ⟨hi, hbi⟩, rfl⟩ := hx
      have hr : Rem (keepTo (matL D L G) lost (D + L + G)) 0 (vec (globalL D i)) := (rem_keep _ _ _ _).2 ⟨D + L + i, by omega, hbi, by rw [mat_global D L G i hi]⟩
      have t := clearV hR (Span.mem (hR _ hr) hr) ((List.range D).filter (fun i => decide (lost / 2 ^ i % 2 = 0))) (fun k hk => by
        simp only [List.mem_filter, List.mem_range, decide_eq_true_eq] at hk
        exact kd k hk.1 hk.2)
      have e : (fun j => if j ∈ (List.range D).filter (fun i => decide (lost / 2 ^ i % 2 = 0)) then 0 else vec (globalL D i) j) = cauV ((List.range D).filter (fun i => decide (lost / 2 ^ i % 2 = 1))) (fun _ => 1) (D + i) := by
        funext k
        unfold cauV
        rw [vec_global]
        simp only [List.mem_filter, List.mem_range, decide_eq_true_eq]
        by_cases hk : k < D
        · rcases Nat.mod_two_eq_zero_or_one (lost / 2 ^ k) with hb2 | hb2
          · rw [if_pos ⟨hk, hb2⟩, if_neg (by omega)]
          · rw [if_neg (by omega), if_pos hk, if_pos ⟨hk, hb2⟩]
            have := gi_lt (a := (D + i) ^^^ k) (xlt (by omega) (by omega))
            rw [gm_comm (a := 1) (by decide) this, gm_one _ this]
        · rw [if_neg (by omega), if_neg hk, if_neg (by omega)]
      rwa [e] at t
/-- what can be repaired can be, if less is lost -/
theorem keep_mono (M : List (List Nat)) (lost less k D : Nat) (hs : ∀ i, i < k → lost / 2 ^ i % 2 = 0 → less / 2 ^ i % 2 = 0) (h : Full (Rem (keepTo M lost k) 0) 0 D) : Full (Rem (keepTo M less k) 0) 0 D :=
  h.mono fun r hr => by
    obtain ⟨i, hi, hb, e⟩ := (rem_keep _ _ _ _).1 hr
    exact (rem_keep _ _ _ _).2 ⟨i, hi, hs i hi hb, e⟩
theorem keep_none (M : List (List Nat)) (lost k D : Nat) (hD : 1 ≤ D) (hs : ∀ i, i < k → lost / 2 ^ i % 2 = 1) : ¬ Full (Rem (keepTo M lost k) 0) 0 D := by
  intro h
  have := Span.nought (c := 0) (fun r hr => by
    obtain ⟨i, hi, hb, _⟩ := (rem_keep _ _ _ _).1 hr
    have := hs i hi
    omega) (h (unitV 0) (unitV_byte 0) (fun j hj => if_neg (by omega)))
  simp [unitV] at this
end Go.Proofs.Ythhommjlomphdaa
