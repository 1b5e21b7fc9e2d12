/-
  One shard that is lost: how many are loaded.
-/
import Derived.Test.YtbgiechfhfeaeabDoorPart17
import Derived.Test.YtbgiechfhfeaeabDoorGroupMath
namespace Go.Proofs.YtbgiechfhfeaeabDoor
open Go.RowKit Go.Deep Gf

theorem cp_sub {f g : Nat → Bool} : ∀ n, (∀ i, i < n → f i = true → g i = true) → cp f n ≤ cp g n
  | 0, _ => Nat.le_refl _
  | n + 1, h => by
    show cp f n + (if f n = true then 1 else 0) ≤ cp g n + (if g n = true then 1 else 0)
    have := cp_sub (f := f) (g := g) n (fun i hi => h i (by omega))
    by_cases hf : f n = true
    · rw [if_pos hf, if_pos (h n (by omega) hf)]; omega
    · rw [if_neg hf]; omega
theorem cp_more (f : Nat → Bool) {n m : Nat} (h : n ≤ m) : cp f n ≤ cp f m := by
  obtain ⟨d, rfl⟩ := Nat.exists_eq_add_of_le h
  rw [cp_add]; omega
theorem cp_or (f g : Nat → Bool) : ∀ n, cp (fun i => f i || g i) n ≤ cp f n + cp g n
  | 0 => Nat.le_refl _
  | n + 1 => by
    show cp _ n + (if (f n || g n) = true then 1 else 0) ≤ cp f n + (if f n = true then 1 else 0) + (cp g n + (if g n = true then 1 else 0))
    have := cp_or f g n
    cases f n <;> cases g n <;> simp <;> omega
theorem cp_span (a s : Nat) : ∀ n, cp (fun i => decide (a ≤ i ∧ i < a + s)) n ≤ min n (a + s) - min n a
  | 0 => Nat.zero_le _
  | n + 1 => by
    show cp _ n + (if decide (a ≤ n ∧ n < a + s) = true then 1 else 0) ≤ _
    have := cp_span a s n
    by_cases h : a ≤ n ∧ n < a + s
    · rw [if_pos (decide_eq_true h)]; omega
    · rw [if_neg (by simpa using h)]; omega
theorem cp_one (c : Nat) : ∀ n, cp (fun i => decide (i = c)) n ≤ 1 ∧ (n ≤ c → cp (fun i => decide (i = c)) n = 0)
  | 0 => ⟨Nat.zero_le _, fun _ => rfl⟩
  | n + 1 => by
    obtain ⟨h1, h2⟩ := cp_one c n
    show cp _ n + (if decide (n = c) = true then 1 else 0) ≤ 1 ∧ (_ → cp _ n + (if decide (n = c) = true then 1 else 0) = 0)
    by_cases h : n = c
    · rw [if_pos (decide_eq_true h), h2 (by omega)]
      exact ⟨Nat.le_refl _, fun h' => absurd h' (by omega)⟩
    · rw [if_neg (by simpa using h)]
      exact ⟨by omega, fun h' => by rw [h2 (by omega)]⟩
theorem one_mem : ∀ k, k < 16 → (List.range 16).filter (fun i => decide (i = k)) = [k] := by decide
theorem gone_one {n k : Nat} (hk : k < n) (hn : n ≤ 16) : mems (goneN n (2 ^ k)) = [k] := by
  unfold mems
  rw [← one_mem k (by omega)]
  apply List.filter_congr
  intro i _
  rw [goneN_bit, Nat.testBit_two_pow]
  by_cases e : k = i
  · subst e; simp [hk]
  · have : ¬ i = k := fun h => e h.symm
    simp [e, this]
theorem mems_cp (s : Nat) (f : Nat → Bool) : ((mems s).filter f).length = cp (fun i => s.testBit i && f i) 16 := by
  unfold mems
  rw [List.filter_filter, cp_filter]
  exact cp_congr 16 (fun i _ => by rw [Bool.and_comm])
theorem mf_local {D L G g : Nat} (hg : g < L) (j : Nat) (hj : j < D) : mf (matL D L G) (D + g) j = if g * (D / L) ≤ j ∧ j < (g + 1) * (D / L) then 1 else 0 := by
  unfold mf matL
  have e : ((List.range D).map (dataL D) ++ (List.range L).map (localL D L) ++ (List.range G).map (globalL D)).getD (D + g) [] = localL D L g := by
    rw [List.append_assoc, List.getD_eq_getElem?_getD, List.getElem?_append_right (by simp)]
    simp only [List.length_map, List.length_range, Nat.add_sub_cancel_left]
    rw [List.getElem?_append_left (by simpa using hg)]
    simp [hg]
  rw [e]
  unfold localL
  simp [hj]
theorem mf_global {D L G i : Nat} (hi : i < G) (j : Nat) (hj : j < D) : mf (matL D L G) (D + L + i) j = gi ((D + i) ^^^ j) := by
  unfold mf matL
  have e : ((List.range D).map (dataL D) ++ (List.range L).map (localL D L) ++ (List.range G).map (globalL D)).getD (D + L + i) [] = globalL D i := by
    rw [List.getD_eq_getElem?_getD, List.getElem?_append_right (by simp)]
    simp only [List.length_append, List.length_map, List.length_range, Nat.add_sub_cancel_left]
    simp [hi]
  rw [e]
  unfold globalL
  simp [hj]
theorem mat_grp {D L G : Nat} (hD : D ≤ 12) (hG : G ≤ 4) (hdiv : D % L = 0) : Grp (mf (matL D L G)) (D / L) L G := by
  have hDL : D / L * L = D := Nat.div_mul_cancel (Nat.dvd_of_mod_eq_zero hdiv)
  have hc := mat_code D L G hD hG
  refine ⟨by rw [hDL]; exact hc, fun g hg j => ?_, fun i hi j hj => ?_, by rw [hDL]; omega⟩
  · rw [hDL]
    by_cases hj : j < D
    · rw [mf_local hg j hj, Nat.add_mul, Nat.one_mul, Nat.mul_comm g]
    · rw [hc.nought _ j (by omega), if_neg]
      have := grp_bound (s := D / L) hg
      rw [hDL] at this
      omega
  · rw [hDL] at hj ⊢
    exact mf_global hi j hj
/-- the checks of a shard -/
theorem ck_at {D L G g : Nat} (hg : g < L + G) (j : Nat) : (cks D L G).m g j = if j < D then mf (matL D L G) (D + g) j else if j = D + g then 1 else 0 := by
  show (if g < L + G then _ else _) = _
  rw [if_pos hg]
/-- one lost shard can be told -/
theorem tell_one {D L G k : Nat} (hdiv : D % L = 0) (hk : k < D + L + G) : ∃ C, tells (cks D L G) [k] = some C := by
  have hDL : D / L * L = D := Nat.div_mul_cancel (Nat.dvd_of_mod_eq_zero hdiv)
  have hne : ∃ r, r < L + G ∧ (cks D L G).m r k ≠ 0 := by
    by_cases hkD : k < D
    · have hs : 0 < D / L := Nat.pos_of_ne_zero fun e => by rw [e] at hDL; omega
      have hg : k / (D / L) < L := by rw [Nat.div_lt_iff_lt_mul hs, Nat.mul_comm]; omega
      refine ⟨k / (D / L), by omega, ?_⟩
      rw [ck_at (by omega), if_pos hkD, mf_local hg k hkD, if_pos]
      · decide
      · have h1 := Nat.div_add_mod k (D / L)
        have h2 := Nat.mod_lt k hs
        rw [Nat.mul_comm] at h1
        rw [Nat.add_mul, Nat.one_mul]
        omega
    · refine ⟨k - D, by omega, ?_⟩
      rw [ck_at (by omega), if_neg hkD, if_pos (by omega)]
      decide
  obtain ⟨r, hr, hrk⟩ := hne
  have e : tells (cks D L G) [k] = tell (cks D L G) k := rfl
  rw [e]
  unfold tell
  cases hs : spareAt (cks D L G) k with
  | some r' => exact ⟨_, rfl⟩
  | none =>
    exfalso
    unfold spareAt at hs
    rw [List.find?_eq_none] at hs
    have := hs r (List.mem_range.2 hr)
    apply this
    have : (cks D L G).told ≤ r := Nat.zero_le _
    simp [this, hrk]
/-- how many are loaded -/
def cntOf (D L G lost : Nat) (C : Ck) : Nat := cntR (mems (keptN (D + L + G) lost)) (fewestS 8 C (keptN (D + L + G) lost)).1
theorem cntOf_le {D L G lost : Nat} (hD : D ≤ 12) (hL : L ≤ 4) (hG : G ≤ 4) (h16 : D + L + G ≤ 16) {C : Ck} (hC : tells (cks D L G) (mems (goneN (D + L + G) lost)) = some C) (Q : Nat → Bool) (hQ : ∀ i ∈ mems (goneN (D + L + G) lost), Q i = false)
    (hs : ∀ i ∈ mems (goneN (D + L + G) lost), Span (Sel (mf (matL D L G)) (D + L + G) (fun i => Q i = true)) (mf (matL D L G) i)) : cntOf D L G lost C ≤ ((mems (keptN (D + L + G) lost)).filter Q).length := by
  have hc := mat_code D L G hD hG
  obtain ⟨_, ht⟩ := plan_of hD hG hC
  have e : D + (L + G) = D + L + G := by omega
  have htgt := hc.tgt (mems_nodup _) (fun i hi => by rw [e]; exact ((mem_gone h16).1 hi).1) ht (fun i => Q i = true) (fun i hi hq => by rw [hQ i hi] at hq; cases hq) (fun i hi => by rw [e]; exact hs i hi)
  have hfit := cks_fit hD hL hG hC
  have := fewest_opt 8 C (keptN (D + L + G) lost) (fun j => j ∉ mems (goneN (D + L + G) lost) ∧ ¬ Q j = true) hfit.byt (by have := hfit.most; omega) htgt
  refine Nat.le_trans this (Nat.le_of_eq ?_)
  congr 1
  apply List.filter_congr
  intro j hj
  have hjg : j ∉ mems (goneN (D + L + G) lost) := fun h => by
    have h1 := ((mem_gone h16).1 h).2
    rw [((mem_kept h16).1 hj).2] at h1
    cases h1
  cases hq : Q j
  · simp [hjg]
  · simp [hjg]
theorem groups_global {D L G k : Nat} (hD : D ≤ 12) (hL : L ≤ 4) (hG : G ≤ 4) (h16 : D + L + G ≤ 16) (hk : k < D + L + G) (hkD : D + L ≤ k) {C : Ck} (hC : tells (cks D L G) [k] = some C) : cntOf D L G (2 ^ k) C ≤ D := by
  have hc := mat_code D L G hD hG
  have hg := gone_one hk h16
  have e : D + (L + G) = D + L + G := by omega
  rw [← hg] at hC
  refine Nat.le_trans (cntOf_le hD hL hG h16 hC (fun i => decide (i < D)) (fun i hi => ?_) (fun i hi => ?_)) ?_
  · rw [hg, List.mem_singleton] at hi; subst hi; exact decide_eq_false (by omega)
  · rw [hg, List.mem_singleton] at hi
    subst hi
    have hd := ck0_dual (P := L + G) hc.byt hc.unit (i - D) (by omega)
    rw [e] at hd
    have hat : ∀ j, (ck0 (mf (matL D L G)) D (L + G)).m (i - D) j = if j < D then mf (matL D L G) (D + (i - D)) j else if j = D + (i - D) then 1 else 0 := fun j => ck_at (by omega) j
    refine span_of_dual hc.byt hc.nought hk hd (by rw [hat, if_neg (by omega), if_pos (by omega)]) (fun j _ hj hne => ?_)
    rw [hat] at hne
    by_cases hjD : j < D
    · exact decide_eq_true hjD
    · rw [if_neg hjD, if_neg (by omega)] at hne
      exact absurd rfl hne
  · rw [mems_cp]
    refine Nat.le_trans (cp_sub 16 (g := fun i => decide (0 ≤ i ∧ i < 0 + D)) (fun i _ h => ?_)) (Nat.le_trans (cp_span 0 D 16) (by omega))
    simp at h ⊢
    exact h.2
theorem groups_local {D L G k g : Nat} (hD1 : 1 ≤ D) (hD : D ≤ 12) (hL : L ≤ 4) (hG : G ≤ 4) (hdiv : D % L = 0) (h16 : D + L + G ≤ 16) (hgL : g < L) (hk : k = D + g ∨ D / L * g ≤ k ∧ k < D / L * g + D / L) {C : Ck} (hC : tells (cks D L G) [k] = some C) : cntOf D L G (2 ^ k) C = D / L := by
  have hDL : D / L * L = D := Nat.div_mul_cancel (Nat.dvd_of_mod_eq_zero hdiv)
  have hgb := grp_bound (s := D / L) hgL
  rw [hDL] at hgb
  have hkn : k < D + L + G := by omega
  have hc := mat_code D L G hD hG
  have hgr := mat_grp (G := G) hD hG hdiv
  have hg := gone_one hkn h16
  have e : D + (L + G) = D + L + G := by omega
  rw [← hg] at hC
  have hs0 : 0 < D / L := Nat.pos_of_ne_zero fun e => by rw [e] at hDL; omega
  apply Nat.le_antisymm
  · refine Nat.le_trans (cntOf_le hD hL hG h16 hC (fun i => decide (i ≠ k) && (decide (D / L * g ≤ i ∧ i < D / L * g + D / L) || decide (i = D + g))) (fun i hi => ?_) (fun i hi => ?_)) ?_
    · rw [hg, List.mem_singleton] at hi; subst hi; simp
    · rw [hg, List.mem_singleton] at hi
      subst hi
      have hd := ck0_dual (P := L + G) hc.byt hc.unit g (by omega)
      rw [e] at hd
      have hat : ∀ j, (ck0 (mf (matL D L G)) D (L + G)).m g j = if j < D then (if D / L * g ≤ j ∧ j < D / L * g + D / L then 1 else 0) else if j = D + g then 1 else 0 := fun j => by
        rw [show (ck0 (mf (matL D L G)) D (L + G)).m g j = (cks D L G).m g j from rfl, ck_at (by omega)]
        by_cases hj : j < D
        · rw [if_pos hj, if_pos hj, mf_local hgL j hj, Nat.add_mul, Nat.one_mul, Nat.mul_comm g]
        · rw [if_neg hj, if_neg hj]
      refine span_of_dual hc.byt hc.nought hkn hd ?_ (fun j _ hj hne => ?_)
      · rw [hat]
        rcases hk with rfl | hk
        · rw [if_neg (by omega), if_pos rfl]
        · rw [if_pos (by omega), if_pos hk]
      · rw [hat] at hne
        by_cases hjD : j < D
        · rw [if_pos hjD] at hne
          by_cases hjg : D / L * g ≤ j ∧ j < D / L * g + D / L
          · simp [hj, hjg]
          · rw [if_neg hjg] at hne; exact absurd rfl hne
        · rw [if_neg hjD] at hne
          by_cases hjg : j = D + g
          · subst hjg; simp [hj]
          · rw [if_neg hjg] at hne; exact absurd rfl hne
    · rw [mems_cp]
      have h1 := cp_but (f := fun i => decide (D / L * g ≤ i ∧ i < D / L * g + D / L) || decide (i = D + g)) (k := k) (by
        rcases hk with rfl | hk
        · simp
        · simp [hk]) 16 (by omega)
      have h2 := cp_or (fun i => decide (D / L * g ≤ i ∧ i < D / L * g + D / L)) (fun i => decide (i = D + g)) 16
      have h3 := cp_span (D / L * g) (D / L) 16
      have h4 := (cp_one (D + g) 16).1
      have h5 : cp (fun i => (keptN (D + L + G) (2 ^ k)).testBit i && (decide (i ≠ k) && (decide (D / L * g ≤ i ∧ i < D / L * g + D / L) || decide (i = D + g)))) 16 ≤ cp (fun i => decide (i ≠ k) && (decide (D / L * g ≤ i ∧ i < D / L * g + D / L) || decide (i = D + g))) 16 :=
        cp_sub 16 (fun i _ h => by rw [Bool.and_eq_true] at h; exact h.2)
      refine Nat.le_trans h5 ?_
      omega
  · obtain ⟨hp, _⟩ := plan_of hD hG hC
    rw [hg] at hp
    have ht : (fewestS 8 C (keptN (D + L + G) (2 ^ k))).1.told = 1 := hp.told
    have hd := hp.dual 0 (by omega)
    have h1 : (fewestS 8 C (keptN (D + L + G) (2 ^ k))).1.m 0 k = 1 := by
      have := hp.one 0 (by simp) 0 (by simp)
      simpa using this
    have hw := hgr.weight (v := (fewestS 8 C (keptN (D + L + G) (2 ^ k))).1.m 0) (by rw [hDL]; exact hd) hgL (by rw [hDL]; exact hk) (by rw [h1]; decide)
    rw [hDL, e] at hw
    have hb := cp_but (f := fun i => decide ((fewestS 8 C (keptN (D + L + G) (2 ^ k))).1.m 0 i ≠ 0)) (k := k) (by rw [h1]; rfl) (D + L + G) hkn
    unfold cntOf cntR
    rw [mems_cp]
    have h2 : cp (fun i => decide (i ≠ k) && decide ((fewestS 8 C (keptN (D + L + G) (2 ^ k))).1.m 0 i ≠ 0)) (D + L + G) ≤ cp (fun i => (keptN (D + L + G) (2 ^ k)).testBit i && readsB (fewestS 8 C (keptN (D + L + G) (2 ^ k))).1 i) (D + L + G) :=
      cp_sub _ (fun i hi h => by
        simp only [Bool.and_eq_true, decide_eq_true_eq] at h
        rw [keptN_bit _ _ h16, Nat.testBit_two_pow, readsB_true (r := 0) (by omega) h.2]
        have : ¬ k = i := fun e => h.1 e.symm
        simp [hi, this])
    have h3 := cp_more (fun i => (keptN (D + L + G) (2 ^ k)).testBit i && readsB (fewestS 8 C (keptN (D + L + G) (2 ^ k))).1 i) h16
    omega
end Go.Proofs.YtbgiechfhfeaeabDoor
