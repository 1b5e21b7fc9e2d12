/-
  What the program that is written puts out: just what is lost.
-/
import Derived.Test.YthhommjlomphdaaDoorPart16
import Derived.Test.YthhommjlomphdaaDoorPart18
namespace Go.Proofs.YthhommjlomphdaaDoor
open Go.RowKit Go.Deep Gf

/-! ### registers and outputs, as folds -/
def regF (D : List (List Nat)) (R : List (List Nat)) (P : List St) : List (List Nat) := P.foldl (fun R s => regStep D s R) R
theorem regF_nil (D R : List (List Nat)) : regF D R [] = R := rfl
theorem regF_cons (D R : List (List Nat)) (s : St) (P : List St) : regF D R (s :: P) = regF D (regStep D s R) P := rfl
theorem regF_append (D R : List (List Nat)) (P Q : List St) : regF D R (P ++ Q) = regF D (regF D R P) Q := by unfold regF; rw [List.foldl_append]
theorem regTo_fold (P : List St) (D R0 : List (List Nat)) : ∀ k, k ≤ P.length → regTo P D R0 k = regF D R0 (P.take k)
  | 0, _ => by simp [regTo, regF]
  | k + 1, h => by
    have hk : k < P.length := by omega
    show regStep D (stAt P k) (regTo P D R0 k) = _
    rw [regTo_fold P D R0 k (by omega), stAt_get P k hk, List.take_succ_eq_append_getElem hk, regF_append]
    rfl
theorem outTo_head (P : List St) (D R0 : List (List Nat)) : ∀ k, k ≤ P.length → (∀ i (h : i < P.length), i < k → P[i].k ≠ 2) → outTo P D R0 k = []
  | 0, _, _ => rfl
  | k + 1, h, hn => by
    have hk : k < P.length := by omega
    show outStep (stAt P k) _ _ = []
    rw [outTo_head P D R0 k (by omega) (fun i hi hik => hn i hi (by omega)), stAt_get P k hk]
    unfold outStep
    rw [if_neg (hn k hk (by omega))]
theorem regStep_put (D R : List (List Nat)) {s : St} (h : s.k = 2) : regStep D s R = R := by
  unfold regStep
  rw [if_neg (by omega), if_neg (by omega)]
theorem outTo_tail (A Q : List St) (D R0 : List (List Nat)) (hA : ∀ s ∈ A, s.k ≠ 2) (hQ : ∀ s ∈ Q, s.k = 2) : ∀ k, k ≤ Q.length →
    regTo (A ++ Q) D R0 (A.length + k) = regF D R0 A ∧ outTo (A ++ Q) D R0 (A.length + k) = (Q.take k).map (fun s => (s.b, (regF D R0 A).getD s.a.toNat []))
  | 0, _ => by
    refine ⟨?_, ?_⟩
    · rw [Nat.add_zero, regTo_fold _ _ _ _ (by simp)]; simp
    · rw [Nat.add_zero, outTo_head _ _ _ _ (by simp) (fun i hi hik => by rw [List.getElem_append_left hik]; exact hA _ (List.getElem_mem hik))]; simp
  | k + 1, h => by
    obtain ⟨h1, h2⟩ := outTo_tail A Q D R0 hA hQ k (by omega)
    have hk : k < Q.length := by omega
    have hi : A.length + k < (A ++ Q).length := by simp; omega
    have hs : stAt (A ++ Q) (A.length + k) = Q[k] := by rw [stAt_get _ _ hi, List.getElem_append_right (by omega)]; simp
    have hk2 := hQ _ (List.getElem_mem hk)
    refine ⟨?_, ?_⟩
    · show regStep D (stAt (A ++ Q) (A.length + k)) (regTo (A ++ Q) D R0 (A.length + k)) = _
      rw [hs, h1, regStep_put D _ hk2]
    · show outStep (stAt (A ++ Q) (A.length + k)) (regTo (A ++ Q) D R0 (A.length + k)) (outTo (A ++ Q) D R0 (A.length + k)) = _
      rw [hs, h1, h2]
      unfold outStep
      rw [if_pos hk2, List.take_succ_eq_append_getElem hk, List.map_append]
      rfl
/-! ### the sums -/
/-- a sum over some shards -/
def xl (f : Nat → Nat) (K : List Nat) : Nat := K.foldr (fun i a => f i ^^^ a) 0
theorem xl_nil (f : Nat → Nat) : xl f [] = 0 := rfl
theorem xl_cons (f : Nat → Nat) (i : Nat) (K : List Nat) : xl f (i :: K) = f i ^^^ xl f K := rfl
theorem xl_range (f : Nat → Nat) (p : Nat → Bool) : ∀ n, xl f ((List.range n).filter p) = xs (fun i => if p i = true then f i else 0) n
  | 0 => rfl
  | n + 1 => by
    have happ : ∀ A B : List Nat, xl f (A ++ B) = xl f A ^^^ xl f B := by
      intro A B
      induction A with
      | nil => rw [List.nil_append, xl_nil, Nat.zero_xor]
      | cons a A ih => rw [List.cons_append, xl_cons, xl_cons, ih, Nat.xor_assoc]
    rw [List.range_succ, List.filter_append, happ, xl_range f p n]
    show _ = xs _ n ^^^ (if p n = true then f n else 0)
    congr 1
    by_cases h : p n = true
    · rw [if_pos h]; simp [h, xl]
    · rw [if_neg h]; simp [h, xl]
/-- what a register holds -/
structure Rg (R : List (List Nat)) (T m : Nat) (v : Nat → Nat → Nat) : Prop where
  len : R.length = 1 + T
  row : ∀ r, r < T → R.getD (1 + r) [] = (List.range m).map (v r)
theorem set_getD {R : List (List Nat)} {a b : Nat} {x : List Nat} (ha : a < R.length) : (R.set a x).getD b [] = if a = b then x else R.getD b [] := by
  rw [List.getD_eq_getElem?_getD, List.getElem?_set]
  by_cases e : a = b
  · subst e; simp [ha]
  · simp [e]
theorem addRow_row (m : Nat) (v : Nat → Nat) (y : List Nat) (c : Nat) : addRow ((List.range m).map v) y c = (List.range m).map (fun q => v q ^^^ gm c (y.getD q 0)) := by
  unfold addRow
  rw [List.length_map, List.length_range]
  apply List.map_congr_left
  intro q hq
  have := List.mem_range.1 hq
  simp [this]
theorem reg_adds (B : Ck) (D : List (List Nat)) (i T m : Nat) (y : List Nat) (v : Nat → Nat → Nat) {R : List (List Nat)} (hR : Rg R T m v) (hy : R.getD 0 [] = y) : ∀ k, k ≤ T →
    (regF D R (wrAdd B i k)).getD 0 [] = y ∧ Rg (regF D R (wrAdd B i k)) T m (fun r q => if r < k then v r q ^^^ gm (B.m r i) (y.getD q 0) else v r q)
  | 0, _ => by rw [wrAdd_zero, regF_nil]; exact ⟨hy, hR.len, fun r hr => by rw [hR.row r hr]; simp⟩
  | k + 1, hk => by
    obtain ⟨h1, h2⟩ := reg_adds B D i T m y v hR hy k (by omega)
    by_cases h0 : B.m k i = 0
    · rw [wrAdd_out B i k h0]
      refine ⟨h1, h2.len, fun r hr => ?_⟩
      rw [h2.row r hr]
      apply List.map_congr_left
      intro q _
      by_cases hrk : r < k
      · rw [if_pos hrk, if_pos (by omega)]
      · by_cases e : r = k
        · subst e; rw [if_neg hrk, if_pos (by omega), h0, zero_gm, Nat.xor_zero]
        · rw [if_neg hrk, if_neg (by omega)]
    · rw [wrAdd_in B i k h0, regF_append]
      generalize hR' : regF D R (wrAdd B i k) = R' at h1 h2
      have hst : regF D R' [⟨1, 1 + (k : Int), 0, B.m k i⟩] = R'.set (1 + k) (addRow (R'.getD (1 + k) []) (R'.getD 0 []) (B.m k i)) := by
        show regStep D ⟨1, 1 + (k : Int), 0, B.m k i⟩ R' = _
        unfold regStep
        have e : (1 + (k : Int)).toNat = 1 + k := by omega
        simp only [e]
        rw [if_neg (by decide), if_pos trivial]
        rfl
      have hl : 1 + k < R'.length := by rw [h2.len]; omega
      rw [hst]
      refine ⟨by rw [set_getD hl, if_neg (by omega)]; exact h1, by rw [List.length_set]; exact h2.len, fun r hr => ?_⟩
      rw [set_getD hl, h1]
      by_cases e : r = k
      · subst e
        rw [if_pos rfl, h2.row r hr, addRow_row]
        apply List.map_congr_left
        intro q _
        rw [if_neg (by omega), if_pos (by omega)]
      · rw [if_neg (by omega), h2.row r hr]
        apply List.map_congr_left
        intro q _
        by_cases hrk : r < k
        · rw [if_pos hrk, if_pos (by omega)]
        · rw [if_neg hrk, if_neg (by omega)]
theorem reg_one (B : Ck) (D : List (List Nat)) (i m : Nat) (v : Nat → Nat → Nat) {R : List (List Nat)} (hR : Rg R B.told m v) : Rg (regF D R (wrOne B i)) B.told m (fun r q => v r q ^^^ gm (B.m r i) ((D.getD i []).getD q 0)) := by
  cases hr : readsB B i
  · rw [wrOne_no hr, regF_nil]
    refine ⟨hR.len, fun r h => ?_⟩
    rw [hR.row r h]
    apply List.map_congr_left
    intro q _
    rw [readsB_false.1 hr r h, zero_gm, Nat.xor_zero]
  · rw [wrOne_yes hr, regF_cons]
    have h0 : 0 < R.length := by rw [hR.len]; omega
    have hst : regStep D ⟨0, 0, (i : Int), 0⟩ R = R.set 0 (D.getD i []) := by
      unfold regStep
      rw [if_pos rfl]
      rfl
    rw [hst]
    have h1 : Rg (R.set 0 (D.getD i [])) B.told m v := ⟨by rw [List.length_set]; exact hR.len, fun r h => by rw [set_getD h0, if_neg (by omega)]; exact hR.row r h⟩
    obtain ⟨_, h2⟩ := reg_adds B D i B.told m (D.getD i []) v h1 (by rw [set_getD h0, if_pos rfl]) B.told (Nat.le_refl _)
    refine ⟨h2.len, fun r h => ?_⟩
    rw [h2.row r h]
    apply List.map_congr_left
    intro q _
    rw [if_pos h]
theorem reg_to (B : Ck) (D : List (List Nat)) (m : Nat) : ∀ (K : List Nat) (v : Nat → Nat → Nat) (R : List (List Nat)), Rg R B.told m v → Rg (regF D R (wrTo B K)) B.told m (fun r q => v r q ^^^ xl (fun i => gm (B.m r i) ((D.getD i []).getD q 0)) K)
  | [], v, R, h => by
    rw [show wrTo B [] = [] from rfl, regF_nil]
    exact ⟨h.len, fun r hr => by rw [h.row r hr]; simp [xl_nil]⟩
  | i :: K, v, R, h => by
    have e : wrTo B (i :: K) = wrOne B i ++ wrTo B K := by unfold wrTo; simp
    rw [e, regF_append]
    have := reg_to B D m K _ _ (reg_one B D i m v h)
    refine ⟨this.len, fun r hr => ?_⟩
    rw [this.row r hr]
    apply List.map_congr_left
    intro q _
    rw [xl_cons, Nat.xor_assoc]
theorem regs0_rg (T m : Nat) : Rg (regs0 (1 + T) m) T m (fun _ _ => 0) := by
  refine ⟨by simp [regs0], fun r hr => ?_⟩
  unfold regs0
  have : 1 + r < 1 + T := by omega
  rw [List.getD_eq_getElem?_getD, List.getElem?_replicate, if_pos this]
  simp [List.map_const']
/-! ### what is loaded is there -/
theorem fl_one {P : List St} {D : List (List Nat)} {m : Nat} (h : ∀ s ∈ P, s.k = 0 → (D.getD s.b.toNat []).length = m) : ∀ k, k ≤ P.length → fl P D k = none ∨ fl P D k = some m
  | 0, _ => .inl rfl
  | k + 1, hk => by
    rcases fl_one h k (by omega) with e | e
    · by_cases h0 : (stAt P k).k = 0
      · rw [fl_load P D k e h0]
        rw [stAt_get P k (by omega)] at h0 ⊢
        exact .inr (by rw [h _ (List.getElem_mem _) h0])
      · rw [fl_other P D k h0]; exact .inl e
    · exact .inr (fl_some P D k m e)
theorem fl_loads {P : List St} {D : List (List Nat)} {m : Nat} (h : ∀ s ∈ P, s.k = 0 → (D.getD s.b.toNat []).length = m) {k : Nat} (hk : k < P.length) (h0 : P[k].k = 0) : fl P D (k + 1) = some m := by
  rcases fl_one h k (by omega) with e | e
  · rw [fl_load P D k e (by rw [stAt_get P k hk]; exact h0), stAt_get P k hk, h _ (List.getElem_mem hk) h0]
  · exact fl_some P D k m e
/-- the shards, nil where lost -/
def inL (S : List (List Nat)) (lost : Nat) : List (List Nat) := (List.range S.length).map (fun i => if lost.testBit i = true then [] else S.getD i [])
theorem inL_len (S : List (List Nat)) (lost : Nat) : (inL S lost).length = S.length := by simp [inL]
theorem inL_get (S : List (List Nat)) (lost i : Nat) (hi : i < S.length) : (inL S lost).getD i [] = if lost.testBit i = true then [] else S.getD i [] := by simp [inL, hi]
theorem acc_xs (row : List Nat) (Dt : List (List Nat)) (q : Nat) : ∀ t, acc row Dt t q = xs (fun j => gm (row.getD j 0) ((Dt.getD j []).getD q 0)) t
  | 0 => rfl
  | t + 1 => by
    show acc row Dt t q ^^^ gm (row.getD t 0) ((Dt.getD t []).getD q 0) = xs (fun j => gm (row.getD j 0) ((Dt.getD j []).getD q 0)) t ^^^ gm (row.getD t 0) ((Dt.getD t []).getD q 0)
    rw [acc_xs row Dt q t]
theorem mf_get {M : List (List Nat)} {i : Nat} (hi : i < M.length) (j : Nat) : mf M i j = (M[i]).getD j 0 := by unfold mf; simp [hi]
theorem enc_get (M Dt : List (List Nat)) (m i : Nat) (hi : i < M.length) : (encL M Dt m).getD i [] = (List.range m).map (fun q => xs (fun j => gm (mf M i j) ((Dt.getD j []).getD q 0)) Dt.length) := by
  have e : (encL M Dt m).getD i [] = combTo M[i] Dt m Dt.length := by simp [encL, hi]
  rw [e]
  unfold combTo
  apply List.map_congr_left
  intro q _
  rw [acc_xs]
  exact xs_congr _ (fun j _ => by rw [mf_get hi])
theorem enc_len (M Dt : List (List Nat)) (m : Nat) : (encL M Dt m).length = M.length := by simp [encL]
theorem bit_gone {lost i : Nat} : goneB lost i ↔ lost.testBit i = true := by
  unfold goneB
  rw [Nat.testBit_eq_decide_div_mod_eq]
  simp
section
variable {D L G lost m : Nat} {C : Ck} {Dt : List (List Nat)}
theorem cmp_load (h16 : D + L + G ≤ 16) {s : St} (hs : s ∈ cmpP D L G lost C) (h0 : s.k = 0) : ∃ i : Nat, s.b = (i : Int) ∧ i < D + L + G ∧ lost.testBit i = false := by
  rcases wr_mem hs with ⟨i, hi, rfl⟩ | ⟨_, _, _, _, rfl⟩ | ⟨_, _, rfl⟩
  · exact ⟨i, rfl, (mem_kept h16).1 hi⟩
  · exact absurd h0 (Nat.one_ne_zero)
  · exact absurd h0 (Nat.succ_ne_zero 1)
theorem cmp_len (h16 : D + L + G ≤ 16) : ∀ s ∈ cmpP D L G lost C, s.k = 0 → ((inL (encL (matL D L G) Dt m) lost).getD s.b.toNat []).length = m := by
  intro s hs h0
  obtain ⟨i, hb, hi, hl⟩ := cmp_load h16 hs h0
  have hlen : (encL (matL D L G) Dt m).length = D + L + G := by rw [enc_len, mat_len]
  rw [hb, Int.toNat_natCast, inL_get _ _ _ (by omega), if_neg (by rw [hl]; decide), enc_get _ _ _ _ (by rw [mat_len]; exact hi)]
  simp
theorem cmp_lds (h16 : D + L + G ≤ 16) (hm : m ≤ 4096) : ldsOk (cmpP D L G lost C) (inL (encL (matL D L G) Dt m) lost) lost := by
  intro i hi h0
  rw [stAt_get _ _ hi] at h0 ⊢
  have h1 := cmp_len (m := m) (Dt := Dt) h16 _ (List.getElem_mem hi) h0
  obtain ⟨j, hb, hj, hl⟩ := cmp_load h16 (List.getElem_mem hi) h0
  refine ⟨fun hg => ?_, by rw [h1]; exact fl_loads (cmp_len h16) hi h0, by omega⟩
  rw [hb, Int.toNat_natCast] at hg
  have := bit_gone.1 hg
  rw [hl] at this
  cases this
theorem cmp_runLen (h16 : D + L + G ≤ 16) (hc : 0 < cntR (mems (keptN (D + L + G) lost)) (fewestS 8 C (keptN (D + L + G) lost)).1) : runLen (cmpP D L G lost C) (inL (encL (matL D L G) Dt m) lost) = m := by
  unfold cntR at hc
  obtain ⟨i, hi⟩ := List.exists_mem_of_length_pos hc
  obtain ⟨h1, h2⟩ := List.mem_filter.1 hi
  have hs : (⟨0, 0, (i : Int), 0⟩ : St) ∈ cmpP D L G lost C := by
    unfold cmpP wrAll wrTo
    refine List.mem_append_left _ (List.mem_flatten.2 ⟨wrOne _ i, List.mem_map.2 ⟨i, h1, rfl⟩, ?_⟩)
    rw [wrOne_yes h2]
    exact List.mem_cons_self
  obtain ⟨k, hk, hk2⟩ := List.getElem_of_mem hs
  have hf := fl_loads (cmp_len (m := m) (Dt := Dt) h16) hk (by rw [hk2])
  have := fl_mono _ _ _ _ hf (cmpP D L G lost C).length (by omega)
  unfold runLen
  rw [this]
  rfl
/-- what is put out -/
theorem cmp_out (hD : D ≤ 12) (hG : G ≤ 4) (h16 : D + L + G ≤ 16) (hC : tells (cks D L G) (mems (goneN (D + L + G) lost)) = some C) (hlen : Dt.length = D) (hx : ∀ l ∈ Dt, ∀ x ∈ l, x < 256) :
    ∃ O, outTo (cmpP D L G lost C) (inL (encL (matL D L G) Dt m) lost) (regs0 (1 + (mems (goneN (D + L + G) lost)).length) (runLen (cmpP D L G lost C) (inL (encL (matL D L G) Dt m) lost))) (cmpP D L G lost C).length = O ∧
      O.length = (mems (goneN (D + L + G) lost)).length ∧ ∀ k (hk : k < O.length) (hk' : k < (mems (goneN (D + L + G) lost)).length), O[k].1 = (((mems (goneN (D + L + G) lost))[k] : Nat) : Int) ∧ (0 < cntR (mems (keptN (D + L + G) lost)) (fewestS 8 C (keptN (D + L + G) lost)).1 → O[k].2 = (encL (matL D L G) Dt m).getD (mems (goneN (D + L + G) lost))[k] []) := by
  obtain ⟨hp, _⟩ := plan_of hD hG hC
  have hc := mat_code D L G hD hG
  have e : D + (L + G) = D + L + G := by omega
  have hcl : (cmpP D L G lost C).length = (wrTo (fewestS 8 C (keptN (D + L + G) lost)).1 (mems (keptN (D + L + G) lost))).length + (wrPut (mems (goneN (D + L + G) lost))).length := by unfold cmpP wrAll; rw [List.length_append]
  have hpl : (wrPut (mems (goneN (D + L + G) lost))).length = (mems (goneN (D + L + G) lost)).length := by unfold wrPut; simp
  have hto := fun R0 => outTo_tail (wrTo (fewestS 8 C (keptN (D + L + G) lost)).1 (mems (keptN (D + L + G) lost))) (wrPut (mems (goneN (D + L + G) lost))) (inL (encL (matL D L G) Dt m) lost) R0 (fun s hs => by
      unfold wrTo at hs
      obtain ⟨l, hl, hs⟩ := List.mem_flatten.1 hs
      obtain ⟨i, hi, rfl⟩ := List.mem_map.1 hl
      cases hr : readsB (fewestS 8 C (keptN (D + L + G) lost)).1 i
      · rw [wrOne_no hr] at hs; cases hs
      · rw [wrOne_yes hr] at hs
        rcases List.mem_cons.1 hs with rfl | hs
        · exact (by decide : (0 : Nat) ≠ 2)
        · unfold wrAdd at hs
          obtain ⟨r, _, rfl⟩ := List.mem_map.1 hs
          exact (by decide : (1 : Nat) ≠ 2)) (fun s hs => by
      unfold wrPut at hs
      obtain ⟨k, _, rfl⟩ := List.mem_map.1 hs
      rfl) _ (Nat.le_refl _)
  refine ⟨_, rfl, ?_⟩
  rw [hcl]
  have hto2 := (hto (regs0 (1 + (mems (goneN (D + L + G) lost)).length) (runLen (cmpP D L G lost C) (inL (encL (matL D L G) Dt m) lost)))).2
  rw [List.take_length] at hto2
  rw [show cmpP D L G lost C = wrTo (fewestS 8 C (keptN (D + L + G) lost)).1 (mems (keptN (D + L + G) lost)) ++ wrPut (mems (goneN (D + L + G) lost)) from rfl] at hto2 ⊢
  rw [hto2]
  refine ⟨by simp [hpl], fun k hk hk' => ?_⟩
  have hkp : k < (wrPut (mems (goneN (D + L + G) lost))).length := by omega
  have hat : (wrPut (mems (goneN (D + L + G) lost)))[k] = ⟨2, (k : Int) + 1, (((mems (goneN (D + L + G) lost))[k] : Nat) : Int), 0⟩ := by
    simp [wrPut, hk']
  rw [List.getElem_map, hat]
  refine ⟨rfl, fun hcnt => ?_⟩
  have hrl := cmp_runLen (m := m) (Dt := Dt) h16 hcnt
  rw [show cmpP D L G lost C = wrTo (fewestS 8 C (keptN (D + L + G) lost)).1 (mems (keptN (D + L + G) lost)) ++ wrPut (mems (goneN (D + L + G) lost)) from rfl] at hrl
  rw [hrl]
  have hrg := reg_to (fewestS 8 C (keptN (D + L + G) lost)).1 (inL (encL (matL D L G) Dt m) lost) m (mems (keptN (D + L + G) lost)) (fun _ _ => 0) (regs0 (1 + (mems (goneN (D + L + G) lost)).length) m) (by rw [hp.told]; exact regs0_rg _ _)
  have hrow := hrg.row k (by rw [hp.told]; exact hk')
  have ek : ((k : Int) + 1).toNat = 1 + k := by omega
  show (regF _ _ _).getD ((k : Int) + 1).toNat [] = _
  rw [ek, hrow, enc_get _ _ _ _ (by rw [mat_len]; exact ((mem_gone h16).1 (List.getElem_mem hk')).1)]
  apply List.map_congr_left
  intro q hq
  have hq' := List.mem_range.1 hq
  have hsum := hp.sum hc (fun i hi => by rw [e]; exact ((mem_gone h16).1 hi).1) (fun j => (Dt.getD j []).getD q 0) (fun j => by
    show (Dt.getD j []).getD q 0 < 256
    by_cases hj : j < Dt.length
    · have e1 : Dt.getD j [] = Dt[j] := by simp [hj]
      rw [e1]
      exact getD_lt (hx _ (List.getElem_mem hj)) q
    · simp [hj]) k hk'
  rw [e] at hsum
  rw [hlen, ← hsum, Nat.zero_xor]
  rw [show mems (keptN (D + L + G) lost) = (List.range 16).filter (fun i => (keptN (D + L + G) lost).testBit i) from rfl, xl_range]
  obtain ⟨d, hd⟩ := Nat.exists_eq_add_of_le h16
  rw [hd, xs_add]
  have hz : xs (fun i => if (keptN (D + L + G) lost).testBit (D + L + G + i) = true then gm ((fewestS 8 C (keptN (D + L + G) lost)).1.m k (D + L + G + i)) (((inL (encL (matL D L G) Dt m) lost).getD (D + L + G + i) []).getD q 0) else 0) d = 0 := xs_nought d (fun i _ => by
    rw [if_neg]
    rw [keptN_bit _ _ h16, show decide (D + L + G + i < D + L + G) = false from decide_eq_false (by omega)]
    simp)
  rw [hz, Nat.xor_zero]
  apply xs_congr
  intro i hi
  have hml : (encL (matL D L G) Dt m).length = D + L + G := by rw [enc_len, mat_len]
  rw [keptN_bit _ _ h16]
  have hmem : i ∈ mems (goneN (D + L + G) lost) ↔ lost.testBit i = true := by
    rw [mem_gone h16]
    exact ⟨fun h => h.2, fun h => ⟨hi, h⟩⟩
  cases hb : lost.testBit i
  · rw [if_pos (show (decide (i < D + L + G) && !false) = true by simp [hi]), if_neg (fun h => by rw [hmem, hb] at h; cases h), inL_get _ _ _ (by omega), if_neg (by rw [hb]; decide), enc_get _ _ _ _ (by rw [mat_len]; exact hi), hlen]
    congr 1
    simp [hq']
  · rw [if_neg (show ¬ (decide (i < D + L + G) && !true) = true by simp), if_pos (hmem.2 hb)]
end
end Go.Proofs.YthhommjlomphdaaDoor
