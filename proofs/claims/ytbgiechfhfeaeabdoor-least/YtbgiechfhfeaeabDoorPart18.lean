import Derived.Test.YtbgiechfhfeaeabDoorPart17
import Derived.Test.YtbgiechfhfeaeabDoorGroupMath
/-
  One shard that is lost: how many are loaded.
-/
namespace Go.Proofs.YtbgiechfhfeaeabDoor
open Go.RowKit Go.Deep Gf

theorem cp_sub {f g : Nat → Bool} : ∀ n, (∀ i, i < n → f i = true → g i = true) → cp f n ≤ cp g n
  | 0, _ => Nat.le_refl _
  | n + 1, h => by
    show cp f n + (if f n = true then 1 else 0) ≤ cp g n + (if g n = true then 1 else 0)
    have := cp_sub (f := f) (g := g) n (fun i hi => h i (by omega))
    by_cases hf : f n = true
    · rw [if_pos hf, if_pos (h n (by omega) hf)]; omega
    · rw [if_neg hf]; omega
theorem cp_more (f : Nat → Bool) {n m : Nat} (h : n ≤ m) : cp f n ≤ cp f m := by
  obtain ⟨d, rfl⟩ := Nat.exists_eq_add_of_le h
  rw [cp_add]; omega
theorem cp_or (f g : Nat → Bool) : ∀ n, cp (fun i => f i || g i) n ≤ cp f n + cp g n
  | 0 => Nat.le_refl _
  | n + 1 => by
    show cp _ n + (if (f n || g n) = true then 1 else 0) ≤ cp f n + (if f n = true then 1 else 0) + (cp g n + (if g n = true then 1 else 0))
    have := cp_or f g n
    cases f n <;> cases g n <;> simp <;> omega
theorem cp_span (a s : Nat) : ∀ n, cp (fun i => decide (a ≤ i ∧ i < a + s)) n ≤ min n (a + s) - min n a
  | 0 => Nat.zero_le _
  | n + 1 => by
    show cp _ n + (if decide (a ≤ n ∧ n < a + s) = true then 1 else 0) ≤ _
    have := cp_span a s n
    by_cases h : a ≤ n ∧ n < a + s
    · rw [if_pos (decide_eq_true h)]; omega
    · rw [if_neg (by simpa using h)]; omega
theorem cp_one (c : Nat) : ∀ n, cp (fun i => decide (i = c)) n ≤ 1 ∧ (n ≤ c → cp (fun i => decide (i = c)) n = 0)
  | 0 => ⟨Nat.zero_le _, fun _ => rfl⟩
  | n + 1 => by
    obtain ⟨h1, h2⟩ := cp_one c n
    show cp _ n + (if decide (n = c) = true then 1 else 0) ≤ 1 ∧ (_ → cp _ n + (if decide (n = c) = true then 1 else 0) = 0)
    by_cases h : n = c
    · rw [if_pos (decide_eq_true h), h2 (by omega)]
      exact ⟨Nat.le_refl _, fun h' => absurd h' (by omega)⟩
    · rw [if_neg (by simpa using h)]
      exact ⟨by omega, fun h' => by rw [h2 (by omega)]⟩
theorem one_mem : ∀ k, k < 16 → (List.range 16).filter (fun i => decide (i = k)) = [k] := by decide
theorem gone_one {n k : Nat} (hk : k < n) (hn : n ≤ 16) : mems (goneN n (2 ^ k)) = [k] := by
  unfold mems
  rw [← one_mem k (by omega)]
  apply List.filter_congr
  intro i _
  rw [goneN_bit, Nat.testBit_two_pow]
  by_cases e : k = i
  · subst e; simp [hk]
  · have : ¬ i = k := fun h => e h.symm
    simp [e, this]
theorem mems_cp (s : Nat) (f : Nat → Bool) : ((mems s).filter f).length = cp (fun i => s.testBit i && f i) 16 := by
  unfold mems
  rw [List.filter_filter, cp_filter]
  exact cp_congr 16 (fun i _ => by rw [Bool.and_comm])
theorem mf_local {D L G g : Nat} (hg : g < L) (j : Nat) (hj : j < D) : mf (matL D L G) (D + g) j = if g * (D / L) ≤ j ∧ j < (g + 1) * (D / L) then 1 else 0 := by
  unfold mf matL
  have e : ((List.range D).map (dataL D) ++ (List.range L).map (localL D L) ++ (List.range G).map (globalL D)).getD (D + g) [] = localL D L g := by
    rw [List.append_assoc, List.getD_eq_getElem?_getD, List.getElem?_append_right (by simp)]
    simp only [List.length_map, List.length_range, Nat.add_sub_cancel_left]
    rw [List.getElem?_append_left (by simpa using hg)]
    simp [hg]
  rw [e]
  unfold localL
  simp [hj]
theorem mf_global {D L G i : Nat} (hi : i < G) (j : Nat) (hj : j < D) : mf (matL D L G) (D + L + i) j = gi ((D + i) ^^^ j) := by
  unfold mf matL
  have e : ((List.range D).map (dataL D) ++ (List.range L).map (localL D L) ++ (List.range G).map (globalL D)).getD (D + L + i) [] = globalL D i := by
    rw [List.getD_eq_getElem?_getD, List.getElem?_append_right (by simp)]
    simp only [List.length_append, List.length_map, List.length_range, Nat.add_sub_cancel_left]
    simp [hi]
  rw [e]
  unfold globalL
  simp [hj]
theorem mat_grp {D L G : Nat} (hD : D ≤ 12) (hG : G ≤ 4) (hdiv : D % L = 0) : Grp (mf (matL D L G)) (D / L) L G := by
  have hDL : D / L * L = D := Nat.div_mul_cancel (Nat.dvd_of_mod_eq_zero hdiv)
  have hc := mat_code D L G hD hG
  refine ⟨by rw [hDL]; exact hc, fun g hg j => ?_, fun i hi j hj => ?_, by rw [hDL]; omega⟩
  · rw [hDL]
    by_cases hj : j < D
    · rw [mf_local hg j hj, Nat.add_mul, Nat.one_mul, Nat.mul_comm g]
    · rw [hc.nought _ j (by omega), if_neg]
      have := grp_bound (s := D / L) hg
      rw [hDL] at this
      omega
  · rw [hDL] at hj ⊢
    exact mf_global hi j hj
/-- the checks of a shard -/
theorem ck_at {D L G g : Nat} (hg : g < L + G) (j : Nat) : (cks D L G).m g j = if j < D then mf (matL D L G) (D + g) j else if j = D + g then 1 else 0 := by
  show (if g < L + G then _ else _) = _
  rw [if_pos hg]
/-- one lost shard can be told -/
theorem tell_one {D L G k : Nat} (hdiv : D % L = 0) (hk : k < D + L + G) : ∃ C, tells (cks D L G) [k] = some C := by
  have hDL : D / L * L = D := Nat.div_mul_cancel (Nat.dvd_of_mod_eq_zero hdiv)
  have hne : ∃ r, r < L + G ∧ (cks D L G).m r k ≠ 0 := by
    by_cases hkD : k < D
    · have hs : 0 < D / L := Nat.pos_of_ne_zero fun e => by rw [e] at hDL; omega
      have hg : k / (D / L) < L := by rw [Nat.div_lt_iff_lt_mul hs, Nat.mul_comm]; omega
      refine ⟨k / (D / L), by omega, ?_⟩
      rw [ck_at (by omega), if_pos hkD, mf_local hg k hkD, if_pos]
      · decide
      · have h1 := Nat.div_add_mod k (D / L)
        have h2 := Nat.mod_lt k hs
        rw [Nat.mul_comm] at h1
        rw [Nat.add_mul, Nat.one_mul]
        omega
    · refine ⟨k - D, by omega, ?_⟩
      rw [ck_at (by omega), if_neg hkD, if_pos (by omega)]
      decide
  obtain ⟨r, hr, hrk⟩ := hne
  have e : tells (cks D L G) [k] = tell (cks D L G) k := rfl
  rw [e]
  unfold tell
  cases hs : spareAt (cks D L G) k with
  | some r' => exact ⟨_, rfl⟩
  | none =>
    exfalso
    unfold spareAt at hs
    rw [List.find?_eq_none] at hs
    have := hs r (List.mem_range.2 hr)
    apply this
    have : (cks D L G).told ≤ r := Nat.zero_le _
    simp [this, hrk]
/-- how many are loaded -/
def cntOf (D L G lost : Nat) (C : Ck) : Nat := cntR (mems (keptN (D + L + G) lost)) (fewestS 8 C (keptN (D + L + G) lost)).1
theorem cntOf_le {D L G lost : Nat} (hD : D ≤ 12) (hL : L ≤ 4) (hG : G ≤ 4) (h16 : D + L + G ≤ 16) {C : Ck} (hC : tells (cks D L G) (mems (goneN (D + L + G) lost)) = some C) (Q : Nat → Bool) (hQ : ∀ i ∈ mems (goneN (D + L + G) lost), Q i = false)
    (hs : ∀ i ∈ mems (goneN (D + L + G) lost), Span (Sel (mf (matL D L G)) (D + L + G) (fun i => Q i = true)) (mf (matL D L G) i)) : cntOf D L G lost C ≤ ((mems (keptN (D + L + G) lost)).filter Q).length := by
  have hc := mat_code D L G hD hG
  obtain ⟨_, ht⟩ := plan_of hD hG hC
  have e : D + (L + G) = D + L + G := by omega
  have htgt := hc.tgt (mems_nodup _) (fun i hi => by rw [e]; exact ((mem_gone h16).1 hi).1) ht (fun i => Q i = true) (fun i hi hq => by rw [hQ i hi] at hq; cases hq) (fun i hi => by rw [e]; exact hs i hi)
  have hfit := cks_fit hD hL hG hC
  have := fewest_opt 8 C (keptN (D + L + G) lost) (fun j => j ∉ mems (goneN (D + L + G) lost) ∧ ¬ Q j = true) hfit.byt (by have := hfit.most; omega) htgt
  refine Nat.le_trans this (Nat.le_of_eq ?_)
  congr 1
  apply List.filter_congr
  intro j hj
  have hjg : j ∉ mems (goneN (D + L + G) lost) := fun h => by
    have h1 := ((mem_gone h16).1 h).2
    rw [((mem_kept h16).1 hj).2] at h1
    cases h1
  cases hq : Q j
  · simp [hjg]
  · simp [hjg]
theorem groups_global {D L G k : Nat} (hD : D ≤ 12) (hL : L ≤ 4) (hG : G ≤ 4) (h16 : D + L + G ≤ 16) (hk : k < D + L + G) (hkD : D + L ≤ k) {C : Ck} (hC : tells (cks D L G) [k] = some C) : cntOf D L G (2 ^ k) C ≤ D := by
  have hc := mat_code D L G hD hG
  have hg := gone_one hk h16
  have e : D + (L + G) = D + L + G := by omega
  rw [← hg] at hC
  refine Nat.le_trans (cntOf_le hD hL hG h16 hC (fun i => decide (i < D)) (fun i hi => ?_) (fun i hi => ?_)) ?_
  · rw [hg, List.mem_singleton] at hi; subst hi; exact decide_eq_false (by omega)
  · rw [hg, List.mem_singleton] at hi
    subst hi
    have hd := ck0_dual (P := L + G) hc.byt hc.unit (i - D) (by omega)
    rw [e] at hd
    have hat : ∀ j, (ck0 (mf (matL D L G)) D (L + G)).m (i - D) j = if j < D then mf (matL D L G) (D + (i - D)) j else if j = D + (i - D) then 1 else 0 := fun j => ck_at (by omega) j
    refine span_of_dual hc.byt hc.nought hk hd (by rw [hat, if_neg (by omega), if_pos (by omega)]) (fun j _ hj hne => ?_)
    rw [hat] at hne
    by_cases hjD : j < D
    · exact decide_eq_true hjD
    · rw [if_neg hjD, if_neg (by omega)] at hne
      exact absurd rfl hne
  · rw [mems_cp]
    refine Nat.le_trans (cp_sub 16 (g := fun i => decide (0 ≤ i ∧ i < 0 + D)) (fun i _ h => ?_)) (Nat.le_trans (cp_span 0 D 16) (by omega))
    simp at h ⊢
    exact h.2
theorem groups_local {D L G k g : Nat} (hD1 : 1 ≤ D) (hD : D ≤ 12) (hL : L ≤ 4) (hG : G ≤ 4) (hdiv : D % L = 0) (h16 : D + L + G ≤ 16) (hgL : g < L) (hk : k = D + g ∨ D / L * g ≤ k ∧ k < D / L * g + D / L) {C : Ck} (hC : tells (cks D L G) [k] = some C) : cntOf D L G (2 ^ k) C = D / L := by
  have hDL : D / L * L = D := Nat.div_mul_cancel (Nat.dvd_of_mod_eq_zero hdiv)
  have hgb := grp_bound (s := D / L) hgL
  rw [hDL] at hgb
  have hkn : k < D + L + G := by omega
  have hc := mat_code D L G hD hG
  have hgr := mat_grp (G := G) hD hG hdiv
  have hg := gone_one hkn h16
  have e : D + (L + G) = D + L + G := by omega
  rw [← hg] at hC
  have hs0 : 0 < D / L := Nat.pos_of_ne_zero fun e => by rw [e] at hDL; omega
  apply Nat.le_antisymm
  · refine Nat.le_trans (cntOf_le hD hL hG h16 hC (fun i => decide (i ≠ k) && (decide (D / L * g ≤ i ∧ i < D / L * g + D / L) || decide (i = D + g))) (fun i hi => ?_) (fun i hi => ?_)) ?_
    · rw [hg, List.mem_singleton] at hi; subst hi; simp
    · rw [hg, List.mem_singleton] at hi
      subst hi
      have hd := ck0_dual (P := L + G) hc.byt hc.unit g (by omega)
      rw [e] at hd
      have hat : ∀ j, (ck0 (mf (matL D L G)) D (L + G)).m g j = if j < D then (if D / L * g ≤ j ∧ j < D / L * g + D / L then 1 else 0) else if j = D + g then 1 else 0 := fun j => by
        rw [show (ck0 (mf (matL D L G)) D (L + G)).m g j = (cks D L G).m g j from rfl, ck_at (by omega)]
        by_cases hj : j < D
        · rw [if_pos hj, if_pos hj, mf_local hgL j hj, Nat.add_mul, Nat.one_mul, Nat.mul_comm g]
        · rw [if_neg hj, if_neg hj]
      refine span_of_dual hc.byt hc.nought hkn hd ?_ (fun j _ hj hne => ?_)
      · rw [hat]
        rcases hk with rfl | hk
        · rw [if_neg (by omega), if_pos rfl]
        · rw [if_pos (by omega), if_pos hk]
      · rw [hat] at hne
        by_cases hjD : j < D
        · rw [if_pos hjD] at hne
          by_cases hjg : D / L * g ≤ j ∧ j < D / L * g + D / L
          · simp [hj, hjg]
          · rw [if_neg hjg] at hne; exact absurd rfl hne
        · rw [if_neg hjD] at hne
          by_cases hjg : j = D + g
          · subst hjg; simp [hj]
          · rw [if_neg hjg] at hne; exact absurd rfl hne
    · rw [mems_cp]
      have h1 := cp_but (f := fun i => decide (D / L * g ≤ i ∧ i < D / L * g + D / L) || decide (i = D + g)) (k := k) (by
        rcases hk with rfl | hk
        · simp
        · simp [hk]) 16 (by omega)
      have h2 := cp_or (fun i => decide (D / L * g ≤ i ∧ i < D / L * g + D / L)) (fun i => decide (i = D + g)) 16
      have h3 := cp_span (D / L * g) (D / L) 16
      have h4 := (cp_one (D + g) 16).1
      have h5 : cp (fun i => (keptN (D + L + G) (2 ^ k)).testBit i && (decide (i ≠ k) && (decide (D / L * g ≤ i ∧ i < D / L * g + D / L) || decide (i = D + g)))) 16 ≤ cp (fun i => decide (i ≠ k) && (decide (D / L * g ≤ i ∧ i < D / L * g + D / L) || decide (i = D + g))) 16 :=
        cp_sub 16 (fun i _ h => by rw [Bool.and_eq_true] at h; exact h.2)
      refine Nat.le_trans h5 ?_
      omega
  · obtain ⟨hp, _⟩ := plan_of hD hG hC
    rw [hg] at hp
    have ht : (fewestS 8 C (keptN (D + L + G) (2 ^ k))).1.told = 1 := hp.told
    have hd := hp.dual 0 (by omega)
    have h1 : (fewestS 8 C (keptN (D + L + G) (2 ^ k))).1.m 0 k = 1 := by
      have := hp.one 0 (by simp) 0 (by simp)
      simpa using this
    have hw := hgr.weight (v := (fewestS 8 C (keptN (D + L + G) (2 ^ k))).1.m 0) (by rw [hDL]; exact hd) hgL (by rw [hDL]; exact hk) (by rw [h1]; decide)
    rw [hDL, e] at hw
    have hb := cp_but (f := fun i => decide ((fewestS 8 C (keptN (D + L + G) (2 ^ k))).1.m 0 i ≠ 0)) (k := k) (by rw [h1]; rfl) (D + L + G) hkn
    unfold cntOf cntR
    rw [mems_cp]
    have h2 : cp (fun i => decide (i ≠ k) && decide ((fewestS 8 C (keptN (D + L + G) (2 ^ k))).1.m 0 i ≠ 0)) (D + L + G) ≤ cp (fun i => (keptN (D + L + G) (2 ^ k)).testBit i && readsB (fewestS 8 C (keptN (D + L + G) (2 ^ k))).1 i) (D + L + G) :=
      cp_sub _ (fun i hi h => by
        simp only [Bool.and_eq_true, decide_eq_true_eq] at h
        rw [keptN_bit _ _ h16, Nat.testBit_two_pow, readsB_true (r := 0) (by omega) h.2]
        have : ¬ k = i := fun e => h.1 e.symm
        simp [hi, this])
    have h3 := cp_more (fun i => (keptN (D + L + G) (2 ^ k)).testBit i && readsB (fewestS 8 C (keptN (D + L + G) (2 ^ k))).1 i) h16
    omega
end Go.Proofs.YtbgiechfhfeaeabDoor
/-
  How few shards do: reckoning.
-/
namespace Go.Proofs.YtbgiechfhfeaeabDoor
open Go.RowKit Go.Deep Gf

/-- the rows of a set -/
def selTo (M : List (List Nat)) (s k : Nat) : List (List Nat) := ((List.range k).filter (fun i => s.testBit i)).map (fun i => M.getD i [])
theorem sel_zero (M : List (List Nat)) (s : Nat) : selTo M s 0 = [] := rfl
theorem sel_in (M : List (List Nat)) (s k : Nat) (h : s.testBit k = true) : selTo M s (k + 1) = selTo M s k ++ [M.getD k []] := by
  simp [selTo, List.range_succ, h]
theorem sel_out (M : List (List Nat)) (s k : Nat) (h : s.testBit k = false) : selTo M s (k + 1) = selTo M s k := by
  simp [selTo, List.range_succ, h]
theorem sel_len (M : List (List Nat)) (s k : Nat) : (selTo M s k).length ≤ k := by
  unfold selTo
  rw [List.length_map]
  exact Nat.le_trans (List.length_filter_le _ _) (by simp)
theorem sel_mem (M : List (List Nat)) (s k : Nat) (hk : k ≤ M.length) : ∀ l ∈ selTo M s k, l ∈ M := by
  intro l hl
  unfold selTo at hl
  obtain ⟨i, hi, rfl⟩ := List.mem_map.1 hl
  have h1 := List.mem_range.1 (List.mem_filter.1 hi).1
  have h2 : i < M.length := by omega
  have e : M.getD i [] = M[i] := by simp [h2]
  rw [e]; exact List.getElem_mem h2
theorem sel_rem (M : List (List Nat)) (s n : Nat) : Rem (selTo M s n) 0 = Sel (mf M) n (fun i => s.testBit i = true) := by
  funext v
  apply propext
  unfold selTo
  rw [rem_map]
  unfold Sel
  constructor
  · rintro ⟨i, hi, rfl⟩
    obtain ⟨h1, h2⟩ := List.mem_filter.1 hi
    exact ⟨i, List.mem_range.1 h1, h2, rfl⟩
  · rintro ⟨i, hi, hm, rfl⟩
    exact ⟨i, List.mem_filter.2 ⟨List.mem_range.2 hi, hm⟩, rfl⟩
/-- the rows of a set are made of another's -/
def Made (M : List (List Nat)) (n s gone : Nat) : Prop := ∀ i, i < n → gone.testBit i = true → Span (Sel (mf M) n (fun i => s.testBit i = true)) (mf M i)
theorem made_rank {M : List (List Nat)} {n s gone a b : Nat} (hb : ∀ l ∈ M, ∀ x ∈ l, x < 256) (hl : ∀ l ∈ M, l.length ≤ 64) (hn : n ≤ M.length) (h1 : RankIs (selTo M s n) a) (h2 : RankIs (selTo M s n ++ selTo M gone n) b) : a = b ↔ Made M n s gone := by
  rw [rank_same (fun l hx => hb l (sel_mem M s n hn l hx)) (fun l hx => hb l (sel_mem M gone n hn l hx)) (fun l hx => hl l (sel_mem M s n hn l hx)) (fun l hx => hl l (sel_mem M gone n hn l hx)) h1 h2, sel_rem]
  unfold Made
  constructor
  · intro h i hi hg
    exact h (M.getD i []) (by
      unfold selTo
      exact List.mem_map.2 ⟨i, List.mem_filter.2 ⟨List.mem_range.2 hi, hg⟩, rfl⟩)
  · intro h l hl
    unfold selTo at hl
    obtain ⟨i, hi, rfl⟩ := List.mem_map.1 hl
    obtain ⟨h1, h2⟩ := List.mem_filter.1 hi
    exact h i (List.mem_range.1 h1) h2
theorem sel_fit (D L G s t : Nat) (hD : D ≤ 12) (hL : L ≤ 4) (hG : G ≤ 4) : FitG (selTo (matL D L G) s (D + L + G)) ∧ FitG (selTo (matL D L G) s (D + L + G) ++ selTo (matL D L G) t (D + L + G)) := by
  have h1 := sel_len (matL D L G) s (D + L + G)
  have h2 := sel_len (matL D L G) t (D + L + G)
  have hm := mat_len D L G
  have hr : ∀ u, ∀ l ∈ selTo (matL D L G) u (D + L + G), l.length ≤ 64 := fun u l hl => by
    rw [mat_row D L G l (sel_mem _ _ _ (by omega) l hl)]; omega
  refine ⟨⟨by omega, fun i hi => hr s _ (List.getElem_mem hi)⟩, by rw [List.length_append]; omega, fun i hi => ?_⟩
  rcases List.mem_append.1 (List.getElem_mem hi) with h | h
  · exact hr _ _ h
  · exact hr _ _ h
/-- how many a set has -/
def popN (s : Nat) : Nat := cp (fun i => s.testBit i) 16
theorem pop_step {s j : Nat} : cp (fun i => s.testBit i) (j + 1) = cp (fun i => s.testBit i) j + s / 2 ^ j % 2 := by
  show cp (fun i => s.testBit i) j + (if s.testBit j = true then 1 else 0) = _
  congr 1
  rw [Nat.testBit_eq_decide_div_mod_eq]
  have : s / 2 ^ j % 2 < 2 := Nat.mod_lt _ (by decide)
  generalize s / 2 ^ j % 2 = q at this
  by_cases h : q = 1
  · subst h; rfl
  · have : q = 0 := by omega
    subst this; rfl
theorem pop_end {s j : Nat} (hj : j ≤ 16) (h : s / 2 ^ j = 0) : cp (fun i => s.testBit i) j = popN s := by
  unfold popN
  obtain ⟨d, hd⟩ := Nat.exists_eq_add_of_le hj
  rw [hd, cp_add]
  have : ∀ e, cp (fun i => s.testBit (j + i)) e = 0 := by
    intro e
    induction e with
    | zero => rfl
    | succ e ih =>
      show cp _ e + (if s.testBit (j + e) = true then 1 else 0) = 0
      have hb : s.testBit (j + e) = false := by
        rw [Nat.testBit_eq_decide_div_mod_eq, Nat.pow_add, ← Nat.div_div_eq_div_mul, h]
        simp
      rw [ih, hb]; rfl
  rw [this]; omega
theorem and_none {s g : Nat} (h : s &&& g = 0) {i : Nat} (hg : g.testBit i = true) : s.testBit i = false := by
  have := congrArg (fun x => Nat.testBit x i) h
  simp only [Nat.testBit_and, hg, Bool.and_true, Nat.zero_testBit] at this
  exact this
/-- no set that does is smaller -/
theorem least_low {D L G lost : Nat} (hD : D ≤ 12) (hL : L ≤ 4) (hG : G ≤ 4) (h16 : D + L + G ≤ 16) {C : Ck} (hC : tells (cks D L G) (mems (goneN (D + L + G) lost)) = some C) {s : Nat} (hs : s &&& goneN (D + L + G) lost = 0) (hm : Made (matL D L G) (D + L + G) s (goneN (D + L + G) lost)) : cntOf D L G lost C ≤ popN s := by
  refine Nat.le_trans (cntOf_le hD hL hG h16 hC (fun i => s.testBit i) (fun i hi => and_none hs (mem_mems.1 hi).2) (fun i hi => hm i ((mem_gone h16).1 hi).1 (mem_mems.1 hi).2)) ?_
  rw [mems_cp]
  exact cp_sub 16 (fun i _ h => by rw [Bool.and_eq_true] at h; exact h.2)
/-- the set that is loaded does -/
theorem least_up {D L G lost : Nat} (hD : D ≤ 12) (hG : G ≤ 4) (h16 : D + L + G ≤ 16) {C : Ck} (hC : tells (cks D L G) (mems (goneN (D + L + G) lost)) = some C) : ∃ S, S < 2 ^ (D + L + G) ∧ S &&& goneN (D + L + G) lost = 0 ∧ popN S = cntOf D L G lost C ∧ Made (matL D L G) (D + L + G) S (goneN (D + L + G) lost) := by
  obtain ⟨S, _, hbit, _⟩ := ld_all (fewestS 8 C (keptN (D + L + G) lost)).1 (goneN (D + L + G) lost) (keptN (D + L + G) lost)
  have e : D + (L + G) = D + L + G := by omega
  refine ⟨S, ?_, ?_, ?_, ?_⟩
  · refine Nat.lt_pow_two_of_testBit S (fun j hj => ?_)
    rw [hbit j]
    have : j ∉ mems (keptN (D + L + G) lost) := fun h => by have := ((mem_kept h16).1 h).1; omega
    simp [this]
  · apply Nat.eq_of_testBit_eq
    intro i
    rw [Nat.testBit_and, hbit, goneN_bit, Nat.zero_testBit]
    by_cases hk : i ∈ mems (keptN (D + L + G) lost)
    · simp [((mem_kept h16).1 hk).2]
    · simp [hk]
  · unfold popN cntOf cntR
    rw [mems_cp]
    exact cp_congr 16 (fun i hi => by
      rw [hbit]
      have : decide (i ∈ mems (keptN (D + L + G) lost)) = (keptN (D + L + G) lost).testBit i := by
        rw [Bool.eq_iff_iff, decide_eq_true_iff, mem_mems]
        exact ⟨fun h => h.2, fun h => ⟨hi, h⟩⟩
      rw [this])
  · intro i hi hg
    obtain ⟨hp, _⟩ := plan_of hD hG hC
    have hc := mat_code D L G hD hG
    have := hp.tells hc (fun i hi => by rw [e]; exact ((mem_gone h16).1 hi).1) i (mem_mems.2 ⟨by omega, hg⟩)
    rw [e] at this
    refine Span.sub (fun r hr => ?_) (fun r hr => ?_) this
    · obtain ⟨j, _, _, rfl⟩ := hr; exact hc.byt j
    · obtain ⟨j, hj, ⟨h1, h2⟩, rfl⟩ := hr
      refine Span.mem (hc.byt j) ⟨j, hj, ?_, rfl⟩
      show S.testBit j = true
      rw [hbit, h2]
      have : j ∈ mems (keptN (D + L + G) lost) := (mem_kept h16).2 ⟨hj, by
        cases hb : lost.testBit j
        · rfl
        · exact absurd ((mem_gone h16).2 ⟨hj, hb⟩) h1⟩
      simp [this]
end Go.Proofs.YtbgiechfhfeaeabDoor
