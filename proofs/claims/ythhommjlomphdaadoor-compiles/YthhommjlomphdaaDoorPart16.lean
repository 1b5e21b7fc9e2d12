import Derived.Test.YthhommjlomphdaaDoorPart14
import Derived.Test.YthhommjlomphdaaDoorPart15
import Derived.Test.YthhommjlomphdaaDoorPart03
import Derived.Test.YthhommjlomphdaaDoorPart06
import Derived.Test.YthhommjlomphdaaDoorPart05
/-
  The program that Compile writes, in plain lists: it is a program; what it loads; when there is one.
-/
namespace Go.Proofs.YthhommjlomphdaaDoor
open Go.RowKit Go.Deep Gf

/-- as the program has it -/
def pw (k : Nat) : Nat := 2 ^ k
theorem wr_mem {B : Ck} {gone kept : Nat} {s : St} (h : s ∈ wrAll B gone kept) : (∃ i ∈ mems kept, s = ⟨0, 0, (i : Int), 0⟩) ∨ (∃ i ∈ mems kept, ∃ r, r < B.told ∧ s = ⟨1, 1 + (r : Int), 0, B.m r i⟩) ∨ (∃ k, ∃ hk : k < (mems gone).length, s = ⟨2, (k : Int) + 1, ((mems gone)[k] : Int), 0⟩) := by
  unfold wrAll wrTo at h
  rcases List.mem_append.1 h with h | h
  · obtain ⟨l, hl, hs⟩ := List.mem_flatten.1 h
    obtain ⟨i, hi, rfl⟩ := List.mem_map.1 hl
    cases hr : readsB B i
    · rw [wrOne_no hr] at hs; cases hs
    · rw [wrOne_yes hr] at hs
      rcases List.mem_cons.1 hs with rfl | hs
      · exact .inl ⟨i, hi, rfl⟩
      · unfold wrAdd at hs
        obtain ⟨r, hr1, rfl⟩ := List.mem_map.1 hs
        exact .inr (.inl ⟨i, hi, r, List.mem_range.1 (List.mem_filter.1 hr1).1, rfl⟩)
  · unfold wrPut at h
    obtain ⟨k, hk, rfl⟩ := List.mem_map.1 h
    have hk' := List.mem_range.1 hk
    exact .inr (.inr ⟨k, hk', by simp [hk']⟩)
theorem wr_kind {B : Ck} {gone kept : Nat} {t : St} (h : t ∈ wrAll B gone kept) : t.k < 256 := by
  rcases wr_mem h with ⟨_, _, rfl⟩ | ⟨_, _, _, _, rfl⟩ | ⟨_, _, rfl⟩
  · exact (by decide : (0 : Nat) < 256)
  · exact (by decide : (1 : Nat) < 256)
  · exact (by decide : (2 : Nat) < 256)
theorem wr_len {B : Ck} (gone kept : Nat) (hB : B.told ≤ 8) : (wrAll B gone kept).length ≤ 160 := by
  have h1 := wrTo_le B (mems kept)
  have h2 : ∀ s, (mems s).length ≤ 16 := fun s => Nat.le_trans (List.length_filter_le _ _) (by simp)
  have h3 : (mems kept).length * (B.told + 1) ≤ 16 * 9 := Nat.mul_le_mul (h2 kept) (by omega)
  have h4 := h2 gone
  unfold wrAll wrPut
  simp only [List.length_append, List.length_map, List.length_range]
  omega
theorem wr_ok {B : Ck} {gone kept n : Nat} (hB : B.told = (mems gone).length) (hB8 : B.told ≤ 8) (hk : ∀ i ∈ mems kept, i < n) (hg : ∀ i ∈ mems gone, i < n) : okProg (1 + ((mems gone).length : Int)) (wrAll B gone kept) (n : Int) := by
  have hl := wr_len gone kept hB8
  refine ⟨⟨by omega, by omega, by omega⟩, fun i hi => ?_⟩
  rcases wr_mem (List.getElem_mem hi) with ⟨j, hj, e⟩ | ⟨j, hj, r, hr, e⟩ | ⟨k, hk', e⟩
  · have := hk j hj
    rw [e]
    exact .inl ⟨.inl rfl, by show (0 : Int) ≤ 0; omega, by show (0 : Int) < _; omega, by show (0 : Int) ≤ (j : Int); omega, by show (j : Int) < _; omega⟩
  · rw [e]
    exact .inr ⟨rfl, by show (0 : Int) ≤ 1 + (r : Int); omega, by show (1 + (r : Int)) < _; omega, by show (0 : Int) ≤ 0; omega, by show (0 : Int) < _; omega, by show (1 + (r : Int)) ≠ 0; omega⟩
  · have := hg _ (List.getElem_mem hk')
    rw [e]
    exact .inl ⟨.inr rfl, by show (0 : Int) ≤ (k : Int) + 1; omega, by show ((k : Int) + 1) < _; omega, by show (0 : Int) ≤ ((mems gone)[k] : Int); omega, by show ((mems gone)[k] : Int) < _; omega⟩
/-! ### what is loaded -/
def ldF (s : Nat × Nat × Bool) (t : St) : Nat × Nat × Bool := if t.k = 0 ∧ 0 ≤ t.b ∧ t.b < 64 then (s.1 ||| 2 ^ t.b.toNat, s.2.1 + 1, s.2.2 || s.1.testBit t.b.toNat) else s
def ldAll (P : List St) : Nat × Nat × Bool := P.foldl ldF (0, 0, false)
theorem ldF_other {s : Nat × Nat × Bool} {t : St} (h : t.k ≠ 0) : ldF s t = s := by unfold ldF; rw [if_neg (fun e => h e.1)]
theorem ld_others (s : Nat × Nat × Bool) : ∀ P : List St, (∀ t ∈ P, t.k ≠ 0) → P.foldl ldF s = s
  | [], _ => rfl
  | t :: P, h => by rw [List.foldl_cons, ldF_other (h t List.mem_cons_self)]; exact ld_others s P (fun t ht => h t (List.mem_cons_of_mem _ ht))
theorem ld_one (B : Ck) (i : Nat) (hi : i < 16) (s : Nat × Nat × Bool) : (wrOne B i).foldl ldF s = if readsB B i = true then (s.1 ||| 2 ^ i, s.2.1 + 1, s.2.2 || s.1.testBit i) else s := by
  cases hr : readsB B i
  · rw [wrOne_no hr]; rfl
  · rw [wrOne_yes hr, List.foldl_cons, ld_others]
    · unfold ldF
      rw [if_pos ⟨rfl, by show (0 : Int) ≤ (i : Int); omega, by show (i : Int) < 64; omega⟩, if_pos rfl]
      rfl
    · intro t ht
      unfold wrAdd at ht
      obtain ⟨r, _, rfl⟩ := List.mem_map.1 ht
      exact Nat.one_ne_zero
theorem ld_to (B : Ck) : ∀ (K : List Nat) (s : Nat × Nat × Bool), K.Nodup → (∀ i ∈ K, i < 16) → (∀ i ∈ K, s.1.testBit i = false) → ∃ S, (wrTo B K).foldl ldF s = (S, s.2.1 + cntR K B, s.2.2) ∧ ∀ j, S.testBit j = (s.1.testBit j || (decide (j ∈ K) && readsB B j))
  | [], s, _, _, _ => ⟨s.1, by simp [wrTo, cntR], fun j => by simp⟩
  | i :: K, s, hn, hK, hs => by
    have e : wrTo B (i :: K) = wrOne B i ++ wrTo B K := by unfold wrTo; simp
    obtain ⟨h1, h2⟩ := List.nodup_cons.1 hn
    have hi := hK i List.mem_cons_self
    rw [e, List.foldl_append, ld_one B i hi]
    cases hr : readsB B i
    · obtain ⟨S, q1, q2⟩ := ld_to B K s h2 (fun j hj => hK j (List.mem_cons_of_mem _ hj)) (fun j hj => hs j (List.mem_cons_of_mem _ hj))
      refine ⟨S, ?_, fun j => ?_⟩
      · rw [if_neg (by decide), q1]
        unfold cntR; simp [hr]
      · rw [q2 j]
        by_cases e : j = i
        · subst e; simp [hr]
        · simp [e]
    · obtain ⟨S, q1, q2⟩ := ld_to B K (s.1 ||| 2 ^ i, s.2.1 + 1, s.2.2 || s.1.testBit i) h2 (fun j hj => hK j (List.mem_cons_of_mem _ hj)) (fun j hj => by
        show (s.1 ||| 2 ^ i).testBit j = false
        rw [Nat.testBit_or, hs j (List.mem_cons_of_mem _ hj), Nat.testBit_two_pow]
        have : i ≠ j := fun e => h1 (e ▸ hj)
        simp [this])
      refine ⟨S, ?_, fun j => ?_⟩
      · rw [if_pos rfl, q1]
        have hb := hs i List.mem_cons_self
        unfold cntR; simp [hr, hb]; omega
      · rw [q2 j]
        show ((s.1 ||| 2 ^ i).testBit j || _) = _
        rw [Nat.testBit_or, Nat.testBit_two_pow]
        by_cases e : i = j
        · subst e; simp [hr]
        · have : ¬ j = i := fun e' => e e'.symm
          simp [e, this]
/-- the shards that the program loads, each once -/
theorem ld_all (B : Ck) (gone kept : Nat) : ∃ S, ldAll (wrAll B gone kept) = (S, cntR (mems kept) B, false) ∧ (∀ j, S.testBit j = (decide (j ∈ mems kept) && readsB B j)) ∧ S < 65536 := by
  obtain ⟨S, h1, h2⟩ := ld_to B (mems kept) (0, 0, false) (mems_nodup kept) (fun i hi => (mem_mems.1 hi).1) (fun i _ => by simp)
  have h3 : ∀ j, S.testBit j = (decide (j ∈ mems kept) && readsB B j) := fun j => by rw [h2 j]; simp
  refine ⟨S, ?_, h3, ?_⟩
  · unfold ldAll wrAll
    rw [List.foldl_append, h1, ld_others]
    · simp
    · intro t ht
      unfold wrPut at ht
      obtain ⟨k, _, rfl⟩ := List.mem_map.1 ht
      exact (by decide : (2 : Nat) ≠ 0)
  · refine Nat.lt_pow_two_of_testBit (n := 16) S (fun j hj => ?_)
    rw [h3 j]
    have : j ∉ mems kept := fun h => by have := (mem_mems.1 h).1; omega
    simp [this]
/-! ### when there is one -/
theorem rem_map {α : Type} (L : List α) (f : α → List Nat) (v : Nat → Nat) : Rem (L.map f) 0 v ↔ ∃ x ∈ L, v = vec (f x) := by
  unfold Rem
  constructor
  · rintro ⟨i, hi, _, rfl⟩
    have hi' : i < L.length := by simpa using hi
    exact ⟨L[i], List.getElem_mem hi', by simp⟩
  · rintro ⟨x, hx, rfl⟩
    obtain ⟨i, hi, rfl⟩ := List.getElem_of_mem hx
    exact ⟨i, by simpa using hi, Nat.zero_le _, by simp⟩
theorem mf_vec (M : List (List Nat)) (i : Nat) : mf M i = vec (M.getD i []) := rfl
theorem div_bit (x i : Nat) : x / 2 ^ i % 2 = 0 ↔ x.testBit i = false := by
  rw [Nat.testBit_eq_decide_div_mod_eq]
  simp
theorem keep_sel (M : List (List Nat)) (lost n : Nat) (h : n ≤ 16) : Rem (keepTo M lost n) 0 = Sel (mf M) n (fun i => i ∉ mems (goneN n lost)) := by
  funext v
  apply propext
  unfold keepTo
  rw [rem_map]
  unfold Sel
  constructor
  · rintro ⟨i, hi, rfl⟩
    obtain ⟨h1, h2⟩ := List.mem_filter.1 hi
    refine ⟨i, List.mem_range.1 h1, fun hm => ?_, rfl⟩
    have := (mem_gone h).1 hm
    rw [(div_bit lost i).1 (of_decide_eq_true h2)] at this
    exact absurd this.2 (by decide)
  · rintro ⟨i, hi, hm, rfl⟩
    refine ⟨i, List.mem_filter.2 ⟨List.mem_range.2 hi, decide_eq_true ((div_bit lost i).2 ?_)⟩, rfl⟩
    cases hb : lost.testBit i
    · rfl
    · exact absurd ((mem_gone h).2 ⟨hi, hb⟩) hm
theorem told_tells {D L G lost : Nat} (hD : D ≤ 12) (hG : G ≤ 4) (h : D + L + G ≤ 16) : Told D L G lost ↔ ∃ C, tells (cks D L G) (mems (goneN (D + L + G) lost)) = some C := by
  have hc := mat_code D L G hD hG
  have e : D + (L + G) = D + L + G := by omega
  unfold Told
  rw [keep_sel _ _ _ h]
  constructor
  · intro hF
    rcases hc.told (mems (goneN (D + L + G) lost)) with ⟨C, h1, _⟩ | ⟨_, h2⟩
    · exact ⟨C, h1⟩
    · refine absurd ?_ (hc.not_full (mems_nodup _) (fun i hi => by rw [e]; exact ((mem_gone h).1 hi).1) h2)
      rw [e]; exact hF
  · rintro ⟨C, hC⟩
    rcases hc.told (mems (goneN (D + L + G) lost)) with ⟨C', _, h2⟩ | ⟨h1, _⟩
    · have := hc.full h2
      rw [e] at this; exact this
    · have h1' : tells (cks D L G) (mems (goneN (D + L + G) lost)) = none := h1
      rw [hC] at h1'; cases h1'
/-- what is known of the program -/
theorem plan_of {D L G lost : Nat} (hD : D ≤ 12) (hG : G ≤ 4) {C : Ck} (hC : tells (cks D L G) (mems (goneN (D + L + G) lost)) = some C) :
    Plan (mf (matL D L G)) D (L + G) (mems (goneN (D + L + G) lost)) (fewestS 8 C (keptN (D + L + G) lost)).1 ∧ ToldBy (ck0 (mf (matL D L G)) D (L + G)) (Dual (mf (matL D L G)) D (D + (L + G))) (mems (goneN (D + L + G) lost)) C := by
  have hc := mat_code D L G hD hG
  rcases hc.told (mems (goneN (D + L + G) lost)) with ⟨C', h1, h2⟩ | ⟨h1, _⟩
  · have h1' : tells (cks D L G) (mems (goneN (D + L + G) lost)) = some C' := h1
    rw [hC] at h1'
    obtain rfl := Option.some.inj h1'
    exact ⟨hc.plan h2 (fewest_found 8 C _).1, h2⟩
  · have h1' : tells (cks D L G) (mems (goneN (D + L + G) lost)) = none := h1
    rw [hC] at h1'; cases h1'
theorem right_nats {D L G : Int} (hr : rightB D L G = true) : ∃ d l g : Nat, D = d ∧ L = l ∧ G = g ∧ 1 ≤ d ∧ d ≤ 12 ∧ 1 ≤ l ∧ l ≤ 4 ∧ g ≤ 4 ∧ d % l = 0 ∧ d + l + g ≤ 16 := by
  have h := of_decide_eq_true hr
  obtain ⟨h1, h2, h3, h4, h5, h6, h7, h8⟩ := h
  obtain ⟨d, rfl⟩ := Int.eq_ofNat_of_zero_le (show 0 ≤ D by omega)
  obtain ⟨l, rfl⟩ := Int.eq_ofNat_of_zero_le (show 0 ≤ L by omega)
  obtain ⟨g, rfl⟩ := Int.eq_ofNat_of_zero_le (show 0 ≤ G by omega)
  refine ⟨d, l, g, rfl, rfl, rfl, by omega, by omega, by omega, by omega, by omega, ?_, by omega⟩
  have e : ((d : Int) % (l : Int)) = ((d % l : Nat) : Int) := (Int.natCast_emod d l).symm
  rw [e] at h7
  exact Int.ofNat.inj h7
/-- the program that Compile writes -/
def cmpP (D L G lost : Nat) (C : Ck) : List St := wrAll (fewestS 8 C (keptN (D + L + G) lost)).1 (goneN (D + L + G) lost) (keptN (D + L + G) lost)
end Go.Proofs.YthhommjlomphdaaDoor
/-
  What a program does, in plain lists.
-/
namespace Go.Proofs.YthhommjlomphdaaDoor
open Go.RowKit Go.Deep Gf

def stAt (P : List St) (k : Nat) : St := P.getD k ⟨3, 0, 0, 0⟩
theorem stAt_get (P : List St) (k : Nat) (h : k < P.length) : stAt P k = P[k] := by simp [stAt, h]
/-- how many bytes the first shard has that is loaded among the first k steps -/
def fl (P : List St) (D : List (List Nat)) : Nat → Option Nat
  | 0 => none
  | k + 1 => match fl P D k with
    | some n => some n
    | none => if (stAt P k).k = 0 then some (D.getD (stAt P k).b.toNat []).length else none
def goneB (gone i : Nat) : Prop := gone / 2 ^ i % 2 = 1
/-- a step that loads, loads a shard that is there and has the length of all -/
def ldOk (P : List St) (D : List (List Nat)) (gone i : Nat) : Prop := (stAt P i).k = 0 → ¬ goneB gone (stAt P i).b.toNat ∧ fl P D (i + 1) = some (D.getD (stAt P i).b.toNat []).length ∧ (D.getD (stAt P i).b.toNat []).length ≤ 4096
def ldsOk (P : List St) (D : List (List Nat)) (gone : Nat) : Prop := ∀ i, i < P.length → ldOk P D gone i
def runLen (P : List St) (D : List (List Nat)) : Nat := (fl P D P.length).getD 0
theorem fl_some (P : List St) (D : List (List Nat)) (k n : Nat) (h : fl P D k = some n) : fl P D (k + 1) = some n := by simp [fl, h]
theorem fl_load (P : List St) (D : List (List Nat)) (k : Nat) (h : fl P D k = none) (hk : (stAt P k).k = 0) : fl P D (k + 1) = some (D.getD (stAt P k).b.toNat []).length := by simp [fl, h, hk]
theorem fl_other (P : List St) (D : List (List Nat)) (k : Nat) (hk : (stAt P k).k ≠ 0) : fl P D (k + 1) = fl P D k := by
  cases h : fl P D k <;> simp [fl, h, hk]
theorem fl_mono (P : List St) (D : List (List Nat)) (k n : Nat) (h : fl P D k = some n) : ∀ m, k ≤ m → fl P D m = some n := by
  intro m hm
  induction m with
  | zero => have : k = 0 := by omega
            subst this; exact h
  | succ m ih =>
    by_cases e : k = m + 1
    · subst e; exact h
    · exact fl_some P D m n (ih (by omega))
theorem ld_len {P : List St} {D : List (List Nat)} {gone : Nat} (h : ldsOk P D gone) (i : Nat) (hi : i < P.length) (hk : (stAt P i).k = 0) : (D.getD (stAt P i).b.toNat []).length = runLen P D := by
  have := (h i hi hk).2.1
  have := fl_mono P D (i + 1) _ this P.length (by omega)
  simp [runLen, this]
theorem fl_le {P : List St} {D : List (List Nat)} {gone : Nat} (h : ldsOk P D gone) : ∀ k, k ≤ P.length → ∀ n, fl P D k = some n → n ≤ 4096
  | 0, _, n, e => by simp [fl] at e
  | k + 1, hk, n, e => by
    cases hf : fl P D k with
    | some m =>
      have := fl_le h k (by omega) m hf
      rw [fl_some P D k m hf] at e
      simp at e; omega
    | none =>
      by_cases h0 : (stAt P k).k = 0
      · have q := (h k (by omega) h0)
        rw [q.2.1] at e
        have := Option.some.inj e
        omega
      · rw [fl_other P D k h0, hf] at e
        simp at e
theorem runLen_le {P : List St} {D : List (List Nat)} {gone : Nat} (h : ldsOk P D gone) : runLen P D ≤ 4096 := by
  unfold runLen
  cases hf : fl P D P.length with
  | none => simp
  | some n => exact fl_le h P.length (Nat.le_refl _) n hf
/-- registers -/
def addRow (x y : List Nat) (c : Nat) : List Nat := (List.range x.length).map fun j => x.getD j 0 ^^^ gm c (y.getD j 0)
def regStep (D : List (List Nat)) (s : St) (R : List (List Nat)) : List (List Nat) :=
  if s.k = 0 then R.set s.a.toNat (D.getD s.b.toNat []) else if s.k = 1 then R.set s.a.toNat (addRow (R.getD s.a.toNat []) (R.getD s.b.toNat []) s.c) else R
def outStep (s : St) (R : List (List Nat)) (O : List (Int × List Nat)) : List (Int × List Nat) := if s.k = 2 then O ++ [(s.b, R.getD s.a.toNat [])] else O
def regTo (P : List St) (D : List (List Nat)) (R0 : List (List Nat)) : Nat → List (List Nat)
  | 0 => R0
  | k + 1 => regStep D (stAt P k) (regTo P D R0 k)
def outTo (P : List St) (D : List (List Nat)) (R0 : List (List Nat)) : Nat → List (Int × List Nat)
  | 0 => []
  | k + 1 => outStep (stAt P k) (regTo P D R0 k) (outTo P D R0 k)
def regs0 (r n : Nat) : List (List Nat) := List.replicate r (List.replicate n 0)
/-- shards, some of which are nil -/
def In (w : World) (b : Nat) (D : List (List Nat)) (gone : Nat) : Prop := ∀ i (hi : i < D.length), (goneB gone i → w.cell? ⟨b, i, none⟩ = some (.slice none 0 0)) ∧ (¬ goneB gone i → ∃ a c, w.cell? ⟨b, i, none⟩ = some (.slice (some a) (D[i]).length c) ∧ Bs w (.slice (some a) (D[i]).length c) D[i])
theorem In.mono {w w' : World} {b : Nat} {D : List (List Nat)} {gone : Nat} (h : In w b D gone) (hb : Below w.heap.size w w') : In w' b D gone := fun i hi => by
  obtain ⟨h1, h2⟩ := h i hi
  refine ⟨fun hg => by have := h1 hg; rw [hb.cell (block_lt_of_cell this)]; exact this, fun hg => ?_⟩
  obtain ⟨a, c, e, hB⟩ := h2 hg
  exact ⟨a, c, by rw [hb.cell (block_lt_of_cell e)]; exact e, hB.mono hb⟩
end Go.Proofs.YthhommjlomphdaaDoor
/-
  Shards are added up, each times its number.
-/
namespace Go.Proofs.YthhommjlomphdaaDoor
open Go.RowKit Go.Deep Gf

set_option maxRecDepth 100000 in
set_option maxHeartbeats 4000000 in
theorem addTimes_none (ad ao : Option Addr) (cap fcap c : Nat) (w : World) (hc : c < 256) :
    Calls Tryd.prog 67 #[.slice ad 0 cap, .slice ao 0 fcap, .int .u8 c] w fun e w' => e = .returned (.tuple #[]) ∧ Below w.heap.size w w' := by
  by_cases h0 : c = 0
  · subst h0
    go_enter Tryd.func67, Tryd.ntmps67
    go_wp2
    exact bodyPost_ret (v := .tuple #[]) (by simp [results, Tryd.results67]) rfl ⟨rfl, Below.refl _ _⟩
  · have hc0 : ((c : Int) == 0) = false := by rw [beq_eq_false_iff_ne]; omega
    clear h0
    go_enter Tryd.func67, Tryd.ntmps67
    go_wp2_with fail
    refine (tableOf_any c hc _).mono ?_
    rintro e w1 ⟨cs, rfl, hsz, hget, hb1⟩
    have hs1 := hb1.size
    go_wp2_with (refine wpList_tab _ rfl (.tmp 6) (.tmp 11) rfl w1.heap.size c cs _ rfl rfl (heap_alloc_last w1 _) rfl hsz hget ?_; intro w2 hTb hg2)
    have hb2 : Below w.heap.size w w2 := by
      refine (hb1.trans ((Below.refl _ _).alloc hs1 _)).grown hg2 (by rw [nblk_alloc]; omega) (fun k hk => by simp at hk; omega)
    clear hg2 hTb hget hb1
    refine wp_loop_rounds 1 ?_
    rw [rounds_succ]
    go_wp2
    go_end0
    exact ⟨rfl, hb2⟩

theorem addTimes_nil (ad ao : Option Addr) (n m cap fcap c : Nat) (w : World) (hn : n = 0) (hm : m = 0) (hc : c < 256) :
    Calls Tryd.prog 67 #[.slice ad n cap, .slice ao m fcap, .int .u8 c] w fun e w' => e = .returned (.tuple #[]) ∧ Below w.heap.size w w' := by
  subst hn hm; exact addTimes_none ad ao cap fcap c w hc
/-- what has been added up at place k, when t shards are done -/
def acc (row : List Nat) (D : List (List Nat)) : Nat → Nat → Nat
  | 0, _ => 0
  | t + 1, k => acc row D t k ^^^ gm (row.getD t 0) ((D.getD t []).getD k 0)
def combTo (row : List Nat) (D : List (List Nat)) (n t : Nat) : List Nat := (List.range n).map (acc row D t)
theorem combTo_len (row : List Nat) (D : List (List Nat)) (n t : Nat) : (combTo row D n t).length = n := by simp [combTo]
theorem combTo_zero (row : List Nat) (D : List (List Nat)) (n : Nat) : combTo row D n 0 = List.replicate n 0 := by
  unfold combTo
  apply List.ext_getElem
  · simp
  · intro j h1 h2; simp [acc]
theorem acc_lt (row : List Nat) (D : List (List Nat)) (hr : ∀ x ∈ row, x < 256) (t k : Nat) : acc row D t k < 256 := by
  induction t with
  | zero => exact (by decide : (0 : Nat) < 256)
  | succ t ih => exact xlt ih (gm_lt _ (getD_lt hr t))
theorem combTo_lt (row : List Nat) (D : List (List Nat)) (hr : ∀ x ∈ row, x < 256) (n t : Nat) : ∀ x ∈ combTo row D n t, x < 256 := by
  intro x hx
  obtain ⟨k, _, rfl⟩ := List.mem_map.1 hx
  exact acc_lt row D hr t k
theorem combTo_get (row : List Nat) (D : List (List Nat)) (n t k : Nat) (hk : k < n) : (combTo row D n t).getD k 0 = acc row D t k := by simp [combTo, hk]
theorem combTo_step (row : List Nat) (D : List (List Nat)) (n t j : Nat) (hj : j < n) :
    tv (addTo (fun i => (combTo row D n t).getD i 0) (fun i => (D.getD t []).getD i 0) (row.getD t 0) 0 n) j = vb (combTo row D n (t + 1)) j := by
  unfold tv vb addTo
  rw [if_pos (by omega), combTo_get _ _ _ _ _ hj]
  show Value.int .u8 (((combTo row D n t).getD j 0 ^^^ gm (row.getD t 0) ((D.getD t []).getD (j - 0) 0) : Nat) : Int) = _
  rw [combTo_get _ _ _ _ _ hj, Nat.sub_zero]
  rfl
def CbR (w : World) (row : List Nat) (D : List (List Nat)) (n : Nat) (i : Value) (wr : World) : Prop :=
  ∃ t : Nat, t ≤ row.length ∧ i = .int .i64 t ∧ Brow wr w.heap.size (combTo row D n t) ∧ Below w.heap.size w wr
set_option maxRecDepth 100000 in
set_option maxHeartbeats 4000000 in
theorem combine_any (vr vd : Value) (row : List Nat) (D : List (List Nat)) (n : Nat) (w : World) (hr : Bs w vr row) (hd : Rd w vd D) (hn : n ≤ 4096) (hall : ∀ i (hi : i < D.length), (D[i]).length = n) (hlen : row.length = D.length) (hD : 0 < D.length) :
    Calls Tryd.prog 62 #[vr, vd] w fun e w' => ∃ b, e = .returned (.slice (some ⟨b, 0, none⟩) n n) ∧ w.heap.size ≤ b ∧ Brow w' b (combTo row D n D.length) ∧ Below w.heap.size w w' := by
  have hrx := hr.lt
  obtain ⟨ao, cr, rfl, h1, h2, _, h4⟩ := hr
  obtain ⟨rb, roff, rfl, hrc⟩ := h4 (by intro e; rw [e] at hlen; simp at hlen; omega)
  rcases hd.cases with ⟨rfl, _⟩ | ⟨b, off, c, rfl, hl, hc⟩
  · simp at hD
  have hrl : row.length ≤ 140737488355328 := by omega
  obtain ⟨u0, hu0, hB0⟩ := hc 0 hD
  obtain ⟨ao0, c0, rfl, l1, l2, _, _⟩ := hB0
  have hn0 := hall 0 hD
  rw [hn0] at hu0
  have HR := hide hrc
  have HC := hide hc
  have HA := hide hall
  have HLEN := hide hlen
  clear hrc hc hall hlen h1 h2 h4 hn0 l1 l2
  rw [Nat.add_zero] at hu0
  go_enter Tryd.func62, Tryd.ntmps62
  go_wp2_with (at_make; refine wpList_mk _ rfl (.tmp 11) (.tmp 11) rfl _ n rfl rfl rfl (by omega) ?_; intro w1 hB hb hz; clear hz)
  rw [← combTo_zero row D n] at hB
  clear hu0
  go_loopw [15] (fun i wr => CbR w row D n i wr) (fun i _ => row.length - (intOf i).toNat)
  case atStart => exact ⟨0, Nat.zero_le _, rfl, hB, hb⟩
  case round =>
    clear hB hb
    rename World => wo
    obtain ⟨t, ht, rfl, hBt, hbt⟩ := hrel
    have hso := hBt.lt
    by_cases hlt : t < row.length
    · have hltD : t < D.length := by rw [← HLEN.out]; exact hlt
      have c1 := HR.out t hlt
      have c1' : wo.cell? ⟨rb, roff + t, none⟩ = some (.int .u8 ((row.getD t 0 : Nat) : Int)) := by rw [hbt.cell (block_lt_of_cell c1)]; exact c1
      obtain ⟨u, hu, hBs⟩ := HC.out t hltD
      obtain ⟨fo, fc, rfl, q1, q2, q3, q4⟩ := hBs
      have hu' : wo.cell? ⟨b, off + t, none⟩ = some (.slice fo (D[t]).length fc) := by rw [hbt.cell (block_lt_of_cell hu)]; exact hu
      rw [HA.out t hltD] at hu'
      have hct := getD_lt hrx t
      have hgD : D.getD t [] = D[t] := by simp [hltD]
      have hstep := combTo_step row D n t
      rw [hgD] at hstep
      have hDt := HA.out t hltD
      have HD := hide hDt
      generalize D[t] = l at *
      generalize hrt : row.getD t 0 = x at *
      clear c1 hu hgD hrt hDt
      by_cases hn0 : n = 0
      · have hBt2 : Brow wo w.heap.size (combTo row D n (t + 1)) := by rw [hn0] at hBt ⊢; exact hBt
        have HN := hide hn0
        clear hstep q4 hBt hn0
        go_wp2_with fail
        refine (addTimes_nil _ _ _ _ _ _ x _ HN.out HN.out hct).mono ?_
        rintro e w2 ⟨rfl, hb2⟩
        have hB3 := hBt2.below hb2
        have hb3 := hbt.trans (hb2.mono (by omega))
        clear hBt2 hb2
        go_wp2
        go_roundw
        case rel => exact ⟨t + 1, by omega, by go_num, hB3, hb3⟩
        case measure => simp [intOf]; omega
      · obtain ⟨fb, foff, rfl, hfc⟩ := q4 (by intro e; rw [e] at HD; exact hn0 HD.out.symm)
        rw [HD.out] at hfc
        have hl0 : 0 < l.length := by rw [HD.out]; omega
        have hfb : fb < w.heap.size := block_lt_of_cell (hfc 0 (by omega))
        have hfc' : ∀ i, i < n → wo.cell? ⟨fb, foff + i, none⟩ = some (.int .u8 ((l.getD i 0 : Nat) : Int)) := fun i hi => by
          rw [hbt.cell (p := ⟨fb, foff + i, none⟩) hfb]; exact hfc i hi
        have hrow : wo.rowIs w.heap.size 5 n (tv (fun i => (combTo row D n t).getD i 0)) := by
          have := hBt
          unfold Brow at this
          rw [combTo_len] at this
          exact this
        have HS := hide hstep
        have HF := hide hfc'
        have HRW := hide hrow
        have hgl := fun j => getD_lt (combTo_lt row D hrx n t) j
        have hFl := fun j => getD_lt q3 j
        have HGL := hide hgl
        have HFL := hide hFl
        clear hstep hfc hfc' hrow hBt q4 hgl hFl hl0 HD
        go_wp2_with fail
        refine (addTimes_some w.heap.size 5 n 0 n n fb foff fc x (fun i => (combTo row D n t).getD i 0) (fun i => l.getD i 0) wo hct HRW.out HGL.out HFL.out (by omega) (by omega) HF.out (.inl (by omega))).mono ?_
        rintro e w2 ⟨rfl, hr2, hg2⟩
        have hB3 : Brow w2 w.heap.size (combTo row D n (t + 1)) := by
          unfold Brow
          rw [combTo_len]
          exact hr2.congr (fun j hj => HS.out j hj)
        have hb3 := grown_below hbt hg2 (by omega) (Nat.le_refl _)
        clear hr2 hg2 HS HF HRW HGL HFL
        go_wp2
        go_roundw
        case rel => exact ⟨t + 1, by omega, by go_num, hB3, hb3⟩
        case measure => simp [intOf]; omega
    · have htt : t = D.length := by rw [← HLEN.out]; omega
      rw [htt] at hBt
      clear htt
      go_wp2
      go_ret
      exact ⟨w.heap.size, rfl, Nat.le_refl _, hBt, hbt⟩
end Go.Proofs.YthhommjlomphdaaDoor
/-
  Whether shards have all one length that is allowed.
-/
namespace Go.Proofs.YthhommjlomphdaaDoor
open Go.RowKit Go.Deep Gf

def okRow (D : List (List Nat)) (l : List Nat) : Prop := l.length = (D.getD 0 []).length ∧ l.length ≤ 4096
def Fit (D : List (List Nat)) : Prop := ∀ i (hi : i < D.length), okRow D D[i]
def EvR (D : List (List Nat)) (i : Value) : Prop := ∃ k : Nat, k ≤ D.length ∧ i = .int .i64 k ∧ ∀ j (hj : j < D.length), j < k → okRow D D[j]
def EvPost (D : List (List Nat)) (w : World) (e : Ending) (w' : World) : Prop := ∃ r : Bool, e = .returned (.bool r) ∧ (r = true ↔ Fit D) ∧ w' = w
set_option maxRecDepth 100000 in
set_option maxHeartbeats 4000000 in
theorem even_any (vd : Value) (D : List (List Nat)) (w : World) (hd : Rd w vd D) (hD : 0 < D.length) :
    Calls Tryd.prog 61 #[vd] w fun e w' => EvPost D w e w' := by
  rcases hd.cases with ⟨rfl, _⟩ | ⟨b, off, c, rfl, hl, hc⟩
  · simp at hD
  obtain ⟨u0, hu0, hB0⟩ := hc 0 hD
  obtain ⟨ao0, c0, rfl, l1, l2, _, _⟩ := hB0
  have hg0 : (D.getD 0 []).length = (D[0]).length := by simp [hD]
  have hlen0 : (D[0]).length ≤ 140737488355328 := by omega
  rw [← hg0] at hu0 hlen0
  rw [Nat.add_zero] at hu0
  have HC := hide hc
  clear hc l1 l2 hg0
  go_enter Tryd.func61, Tryd.ntmps61
  go_wp2
  go_loop [7] (fun i => EvR D i) (fun i => D.length - (intOf i).toNat)
  case atStart => exact ⟨0, Nat.zero_le _, rfl, fun j hj h => absurd h (by omega)⟩
  case round =>
    obtain ⟨k, hk, rfl, hok⟩ := hrel
    by_cases hlt : k < D.length
    · obtain ⟨u, hu, hBs⟩ := HC.out k hlt
      obtain ⟨fo, fc, rfl, q1, q2, _, _⟩ := hBs
      have hlk : (D[k]).length ≤ 140737488355328 := by omega
      by_cases h1 : okRow D D[k]
      · have t1 : ((((D[k]).length : Nat) : Int) != (((D.getD 0 []).length : Nat) : Int)) = false := by rw [h1.1]; simp
        have t2 : ¬ (4096 : Int) < (((D[k]).length : Nat) : Int) := by have := h1.2; omega
        have HO : Hid (∀ j (hj : j < D.length), j < k + 1 → okRow D D[j]) := by
          intro j hj hjk
          by_cases e : j = k
          · subst e; exact h1
          · exact hok j hj (by omega)
        have h1' := h1.1
        generalize (D.getD 0 []).length = n0 at *
        generalize (D[k]).length = nk at *
        clear hok h1 h1' q1 q2
        go_wp2
        go_round
        case rel => exact ⟨k + 1, by omega, by go_num, HO.out⟩
        case measure => simp [intOf]; omega
      · have HN : Hid (¬ Fit D) := fun h => h1 (h k hlt)
        by_cases h2 : (D[k]).length = (D.getD 0 []).length
        · have t1 : ((((D[k]).length : Nat) : Int) != (((D.getD 0 []).length : Nat) : Int)) = false := by rw [h2]; simp
          have t2 : (4096 : Int) < (((D[k]).length : Nat) : Int) := by
            have : ¬ (D[k]).length ≤ 4096 := fun h => h1 ⟨h2, h⟩
            omega
          generalize (D.getD 0 []).length = n0 at *
          generalize (D[k]).length = nk at *
          clear hok h1 h2 q1 q2
          go_wp2
          go_ret
          exact ⟨false, rfl, ⟨fun h => by simp at h, fun h => absurd h HN.out⟩, rfl⟩
        · have t1 : ((((D[k]).length : Nat) : Int) != (((D.getD 0 []).length : Nat) : Int)) = true := by rw [bne_iff_ne]; omega
          generalize (D.getD 0 []).length = n0 at *
          generalize (D[k]).length = nk at *
          clear hok h1 h2 q1 q2
          go_wp2
          go_ret
          exact ⟨false, rfl, ⟨fun h => by simp at h, fun h => absurd h HN.out⟩, rfl⟩
    · have HF : Hid (Fit D) := fun i hi => hok i hi (by omega)
      clear hok
      go_wp2
      go_ret
      exact ⟨true, rfl, ⟨fun _ => HF.out, fun _ => rfl⟩, rfl⟩
end Go.Proofs.YthhommjlomphdaaDoor
