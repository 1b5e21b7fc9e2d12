/-
  The program that Compile writes, in plain lists: it is a program; what it loads; when there is one.
-/
import Derived.Test.YtbgiechfhfeaeabDoorCompileMath
import Derived.Test.YtbgiechfhfeaeabDoorWriteMem
namespace Go.Proofs.YtbgiechfhfeaeabDoor
open Go.RowKit Go.Deep Gf

theorem wr_mem {B : Ck} {gone kept : Nat} {s : St} (h : s ∈ wrAll B gone kept) : (∃ i ∈ mems kept, s = ⟨0, 0, (i : Int), 0⟩) ∨ (∃ i ∈ mems kept, ∃ r, r < B.told ∧ s = ⟨1, 1 + (r : Int), 0, B.m r i⟩) ∨ (∃ k, ∃ hk : k < (mems gone).length, s = ⟨2, (k : Int) + 1, ((mems gone)[k] : Int), 0⟩) := by
  unfold wrAll wrTo at h
  rcases List.mem_append.1 h with h | h
  · obtain ⟨l, hl, hs⟩ := List.mem_flatten.1 h
    obtain ⟨i, hi, rfl⟩ := List.mem_map.1 hl
    cases hr : readsB B i
    · rw [wrOne_no hr] at hs; cases hs
    · rw [wrOne_yes hr] at hs
      rcases List.mem_cons.1 hs with rfl | hs
      · exact .inl ⟨i, hi, rfl⟩
      · unfold wrAdd at hs
        obtain ⟨r, hr1, rfl⟩ := List.mem_map.1 hs
        exact .inr (.inl ⟨i, hi, r, List.mem_range.1 (List.mem_filter.1 hr1).1, rfl⟩)
  · unfold wrPut at h
    obtain ⟨k, hk, rfl⟩ := List.mem_map.1 h
    have hk' := List.mem_range.1 hk
    exact .inr (.inr ⟨k, hk', by simp [hk']⟩)
theorem wr_len {B : Ck} (gone kept : Nat) (hB : B.told ≤ 8) : (wrAll B gone kept).length ≤ 160 := by
  have h1 := wrTo_le B (mems kept)
  have h2 : ∀ s, (mems s).length ≤ 16 := fun s => Nat.le_trans (List.length_filter_le _ _) (by simp)
  have h3 : (mems kept).length * (B.told + 1) ≤ 16 * 9 := Nat.mul_le_mul (h2 kept) (by omega)
  have h4 := h2 gone
  unfold wrAll wrPut
  simp only [List.length_append, List.length_map, List.length_range]
  omega
theorem wr_ok {B : Ck} {gone kept n : Nat} (hB : B.told = (mems gone).length) (hB8 : B.told ≤ 8) (hk : ∀ i ∈ mems kept, i < n) (hg : ∀ i ∈ mems gone, i < n) : okProg (1 + ((mems gone).length : Int)) (wrAll B gone kept) (n : Int) := by
  have hl := wr_len gone kept hB8
  refine ⟨⟨by omega, by omega, by omega⟩, fun i hi => ?_⟩
  rcases wr_mem (List.getElem_mem hi) with ⟨j, hj, e⟩ | ⟨j, hj, r, hr, e⟩ | ⟨k, hk', e⟩
  · have := hk j hj
    rw [e]
    exact .inl ⟨.inl rfl, by show (0 : Int) ≤ 0; omega, by show (0 : Int) < _; omega, by show (0 : Int) ≤ (j : Int); omega, by show (j : Int) < _; omega⟩
  · rw [e]
    exact .inr ⟨rfl, by show (0 : Int) ≤ 1 + (r : Int); omega, by show (1 + (r : Int)) < _; omega, by show (0 : Int) ≤ 0; omega, by show (0 : Int) < _; omega, by show (1 + (r : Int)) ≠ 0; omega⟩
  · have := hg _ (List.getElem_mem hk')
    rw [e]
    exact .inl ⟨.inr rfl, by show (0 : Int) ≤ (k : Int) + 1; omega, by show ((k : Int) + 1) < _; omega, by show (0 : Int) ≤ ((mems gone)[k] : Int); omega, by show ((mems gone)[k] : Int) < _; omega⟩
/-! ### what is loaded -/
def ldF (s : Nat × Nat × Bool) (t : St) : Nat × Nat × Bool := if t.k = 0 ∧ 0 ≤ t.b ∧ t.b < 64 then (s.1 ||| 2 ^ t.b.toNat, s.2.1 + 1, s.2.2 || s.1.testBit t.b.toNat) else s
def ldAll (P : List St) : Nat × Nat × Bool := P.foldl ldF (0, 0, false)
theorem ldF_other {s : Nat × Nat × Bool} {t : St} (h : t.k ≠ 0) : ldF s t = s := by unfold ldF; rw [if_neg (fun e => h e.1)]
theorem ld_others (s : Nat × Nat × Bool) : ∀ P : List St, (∀ t ∈ P, t.k ≠ 0) → P.foldl ldF s = s
  | [], _ => rfl
  | t :: P, h => by rw [List.foldl_cons, ldF_other (h t List.mem_cons_self)]; exact ld_others s P (fun t ht => h t (List.mem_cons_of_mem _ ht))
theorem ld_one (B : Ck) (i : Nat) (hi : i < 16) (s : Nat × Nat × Bool) : (wrOne B i).foldl ldF s = if readsB B i = true then (s.1 ||| 2 ^ i, s.2.1 + 1, s.2.2 || s.1.testBit i) else s := by
  cases hr : readsB B i
  · rw [wrOne_no hr]; rfl
  · rw [wrOne_yes hr, List.foldl_cons, ld_others]
    · unfold ldF
      rw [if_pos ⟨rfl, by show (0 : Int) ≤ (i : Int); omega, by show (i : Int) < 64; omega⟩, if_pos rfl]
      rfl
    · intro t ht
      unfold wrAdd at ht
      obtain ⟨r, _, rfl⟩ := List.mem_map.1 ht
      exact Nat.one_ne_zero
theorem ld_to (B : Ck) : ∀ (K : List Nat) (s : Nat × Nat × Bool), K.Nodup → (∀ i ∈ K, i < 16) → (∀ i ∈ K, s.1.testBit i = false) → ∃ S, (wrTo B K).foldl ldF s = (S, s.2.1 + cntR K B, s.2.2) ∧ ∀ j, S.testBit j = (s.1.testBit j || (decide (j ∈ K) && readsB B j))
  | [], s, _, _, _ => ⟨s.1, by simp [wrTo, cntR], fun j => by simp⟩
  | i :: K, s, hn, hK, hs => by
    have e : wrTo B (i :: K) = wrOne B i ++ wrTo B K := by unfold wrTo; simp
    obtain ⟨h1, h2⟩ := List.nodup_cons.1 hn
    have hi := hK i List.mem_cons_self
    rw [e, List.foldl_append, ld_one B i hi]
    cases hr : readsB B i
    · obtain ⟨S, q1, q2⟩ := ld_to B K s h2 (fun j hj => hK j (List.mem_cons_of_mem _ hj)) (fun j hj => hs j (List.mem_cons_of_mem _ hj))
      refine ⟨S, ?_, fun j => ?_⟩
      · rw [if_neg (by decide), q1]
        unfold cntR; simp [hr]
      · rw [q2 j]
        by_cases e : j = i
        · subst e; simp [hr]
        · simp [e]
    · obtain ⟨S, q1, q2⟩ := ld_to B K (s.1 ||| 2 ^ i, s.2.1 + 1, s.2.2 || s.1.testBit i) h2 (fun j hj => hK j (List.mem_cons_of_mem _ hj)) (fun j hj => by
        show (s.1 ||| 2 ^ i).testBit j = false
        rw [Nat.testBit_or, hs j (List.mem_cons_of_mem _ hj), Nat.testBit_two_pow]
        have : i ≠ j := fun e => h1 (e ▸ hj)
        simp [this])
      refine ⟨S, ?_, fun j => ?_⟩
      · rw [if_pos rfl, q1]
        have hb := hs i List.mem_cons_self
        unfold cntR; simp [hr, hb]; omega
      · rw [q2 j]
        show ((s.1 ||| 2 ^ i).testBit j || _) = _
        rw [Nat.testBit_or, Nat.testBit_two_pow]
        by_cases e : i = j
        · subst e; simp [hr]
        · have : ¬ j = i := fun e' => e e'.symm
          simp [e, this]
/-- the shards that the program loads, each once -/
theorem ld_all (B : Ck) (gone kept : Nat) : ∃ S, ldAll (wrAll B gone kept) = (S, cntR (mems kept) B, false) ∧ (∀ j, S.testBit j = (decide (j ∈ mems kept) && readsB B j)) ∧ S < 65536 := by
  obtain ⟨S, h1, h2⟩ := ld_to B (mems kept) (0, 0, false) (mems_nodup kept) (fun i hi => (mem_mems.1 hi).1) (fun i _ => by simp)
  have h3 : ∀ j, S.testBit j = (decide (j ∈ mems kept) && readsB B j) := fun j => by rw [h2 j]; simp
  refine ⟨S, ?_, h3, ?_⟩
  · unfold ldAll wrAll
    rw [List.foldl_append, h1, ld_others]
    · simp
    · intro t ht
      unfold wrPut at ht
      obtain ⟨k, _, rfl⟩ := List.mem_map.1 ht
      exact (by decide : (2 : Nat) ≠ 0)
  · refine Nat.lt_pow_two_of_testBit (n := 16) S (fun j hj => ?_)
    rw [h3 j]
    have : j ∉ mems kept := fun h => by have := (mem_mems.1 h).1; omega
    simp [this]
/-! ### when there is one -/
theorem rem_map {α : Type} (L : List α) (f : α → List Nat) (v : Nat → Nat) : Rem (L.map f) 0 v ↔ ∃ x ∈ L, v = vec (f x) := by
  unfold Rem
  constructor
  · rintro ⟨i, hi, _, rfl⟩
    have hi' : i < L.length := by simpa using hi
    exact ⟨L[i], List.getElem_mem hi', by simp⟩
  · rintro ⟨x, hx, rfl⟩
    obtain ⟨i, hi, rfl⟩ := List.getElem_of_mem hx
    exact ⟨i, by simpa using hi, Nat.zero_le _, by simp⟩
theorem mf_vec (M : List (List Nat)) (i : Nat) : mf M i = vec (M.getD i []) := rfl
theorem div_bit (x i : Nat) : x / 2 ^ i % 2 = 0 ↔ x.testBit i = false := by
  rw [Nat.testBit_eq_decide_div_mod_eq]
  simp
theorem keep_sel (M : List (List Nat)) (lost n : Nat) (h : n ≤ 16) : Rem (keepTo M lost n) 0 = Sel (mf M) n (fun i => i ∉ mems (goneN n lost)) := by
  funext v
  apply propext
  unfold keepTo
  rw [rem_map]
  unfold Sel
  constructor
  · rintro ⟨i, hi, rfl⟩
    obtain ⟨h1, h2⟩ := List.mem_filter.1 hi
    refine ⟨i, List.mem_range.1 h1, fun hm => ?_, rfl⟩
    have := (mem_gone h).1 hm
    rw [(div_bit lost i).1 (of_decide_eq_true h2)] at this
    exact absurd this.2 (by decide)
  · rintro ⟨i, hi, hm, rfl⟩
    refine ⟨i, List.mem_filter.2 ⟨List.mem_range.2 hi, decide_eq_true ((div_bit lost i).2 ?_)⟩, rfl⟩
    cases hb : lost.testBit i
    · rfl
    · exact absurd ((mem_gone h).2 ⟨hi, hb⟩) hm
theorem told_tells {D L G lost : Nat} (hD : D ≤ 12) (hG : G ≤ 4) (h : D + L + G ≤ 16) : Told D L G lost ↔ ∃ C, tells (cks D L G) (mems (goneN (D + L + G) lost)) = some C := by
  have hc := mat_code D L G hD hG
  have e : D + (L + G) = D + L + G := by omega
  unfold Told
  rw [keep_sel _ _ _ h]
  constructor
  · intro hF
    rcases hc.told (mems (goneN (D + L + G) lost)) with ⟨C, h1, _⟩ | ⟨_, h2⟩
    · exact ⟨C, h1⟩
    · refine absurd ?_ (hc.not_full (mems_nodup _) (fun i hi => by rw [e]; exact ((mem_gone h).1 hi).1) h2)
      rw [e]; exact hF
  · rintro ⟨C, hC⟩
    rcases hc.told (mems (goneN (D + L + G) lost)) with ⟨C', _, h2⟩ | ⟨h1, _⟩
    · have := hc.full h2
      rw [e] at this; exact this
    · have h1' : tells (cks D L G) (mems (goneN (D + L + G) lost)) = none := h1
      rw [hC] at h1'; cases h1'
/-- what is known of the program -/
theorem plan_of {D L G lost : Nat} (hD : D ≤ 12) (hG : G ≤ 4) {C : Ck} (hC : tells (cks D L G) (mems (goneN (D + L + G) lost)) = some C) :
    Plan (mf (matL D L G)) D (L + G) (mems (goneN (D + L + G) lost)) (fewestS 8 C (keptN (D + L + G) lost)).1 ∧ ToldBy (ck0 (mf (matL D L G)) D (L + G)) (Dual (mf (matL D L G)) D (D + (L + G))) (mems (goneN (D + L + G) lost)) C := by
  have hc := mat_code D L G hD hG
  rcases hc.told (mems (goneN (D + L + G) lost)) with ⟨C', h1, h2⟩ | ⟨h1, _⟩
  · have h1' : tells (cks D L G) (mems (goneN (D + L + G) lost)) = some C' := h1
    rw [hC] at h1'
    obtain rfl := Option.some.inj h1'
    exact ⟨hc.plan h2 (fewest_found 8 C _).1, h2⟩
  · have h1' : tells (cks D L G) (mems (goneN (D + L + G) lost)) = none := h1
    rw [hC] at h1'; cases h1'
end Go.Proofs.YtbgiechfhfeaeabDoor
