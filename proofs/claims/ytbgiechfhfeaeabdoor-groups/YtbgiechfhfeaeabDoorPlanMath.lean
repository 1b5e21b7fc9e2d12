/-
  Programs that repair, in plain numbers: what can be told, by how few; one shard of a group. Nothing of the program is imported here.
-/
import Derived.Test.YtbgiechfhfeaeabDoorCodeMath
namespace Go.Proofs.YtbgiechfhfeaeabDoor.Gf

theorem nodup_inj {L : List Nat} (h : L.Nodup) {a b : Nat} (ha : a < L.length) (hb : b < L.length) (e : L[a] = L[b]) : a = b := by
  have hp := List.pairwise_iff_getElem.1 h
  by_cases h1 : a < b
  · exact absurd e (hp a b ha hb h1)
  · by_cases h2 : b < a
    · exact absurd e.symm (hp b a hb ha h2)
    · omega
/-- a code: the rows of n = D + P shards, those of the data first -/
structure Code (M : Nat → Nat → Nat) (D P : Nat) : Prop where
  byt : ∀ i, byteV (M i)
  unit : ∀ i, i < D → ∀ j, M i j = if j = i then 1 else 0
  nought : ∀ i j, D ≤ j → M i j = 0
theorem Code.told {M : Nat → Nat → Nat} {D P : Nat} (h : Code M D P) (L : List Nat) :
    (∃ C, tells (ck0 M D P) L = some C ∧ ToldBy (ck0 M D P) (Dual M D (D + P)) L C) ∨ (tells (ck0 M D P) L = none ∧ ∃ pre i, (pre ++ [i]) <+: L ∧ ∀ v, Span (From (ck0 M D P) 0) v → (∀ j ∈ pre, v j = 0) → v i = 0) := by
  have := ToldBy.of (dual_lin M D (D + P) h.byt) (C0 := ck0 M D P) rfl (ck0_byte h.byt) (fun k hk => ck0_dual h.byt h.unit k hk) L [] (ck0 M D P) (ToldBy.nil rfl (ck0_byte h.byt) (fun k hk => ck0_dual h.byt h.unit k hk)) rfl
  simpa using this
/-- if all lost shards are told, the others tell the data -/
theorem Code.full {M : Nat → Nat → Nat} {D P : Nat} (h : Code M D P) {L : List Nat} {C : Ck} (ht : ToldBy (ck0 M D P) (Dual M D (D + P)) L C) : Full (Sel M (D + P) (fun i => i ∉ L)) 0 D := by
  have hsel : ∀ r, Sel M (D + P) (fun i => i ∉ L) r → byteV r := by rintro r ⟨i, _, _, rfl⟩; exact h.byt i
  have hrow : ∀ i, i < D + P → Span (Sel M (D + P) (fun i => i ∉ L)) (M i) := by
    intro i hi
    by_cases hm : i ∈ L
    · obtain ⟨k, hk, rfl⟩ := List.getElem_of_mem hm
      have hkc : k < C.count := by have := ht.told; have := ht.le; omega
      refine span_of_dual h.byt h.nought hi (ht.all k hkc) ?_ ?_
      · rw [ht.one k hk k hk, if_pos rfl]
      · intro j _ hj hne hjL
        obtain ⟨k', hk', rfl⟩ := List.getElem_of_mem hjL
        rw [ht.one k hk k' hk'] at hne
        by_cases e : k = k'
        · subst e; exact hj rfl
        · rw [if_neg e] at hne; exact hne rfl
    · exact Span.mem (h.byt i) ⟨i, hi, hm, rfl⟩
  refine Full.units hsel (fun j hj => ?_)
  have e : M j = unitV j := by funext x; rw [h.unit j hj]; rfl
  rw [← e]; exact hrow j (by omega)
/-- if one cannot be told, they don't -/
theorem Code.not_full {M : Nat → Nat → Nat} {D P : Nat} (h : Code M D P) {L : List Nat} (hnd : L.Nodup) (hn : ∀ i ∈ L, i < D + P) (ht : ∃ pre i, (pre ++ [i]) <+: L ∧ ∀ v, Span (From (ck0 M D P) 0) v → (∀ j ∈ pre, v j = 0) → v i = 0) :
    ¬ Full (Sel M (D + P) (fun i => i ∉ L)) 0 D := by
  obtain ⟨pre, i, ⟨R, rfl⟩, hv⟩ := ht
  intro hF
  have hi : i ∈ pre ++ [i] ++ R := by simp
  obtain ⟨u, hu, u1, u0⟩ := dual_of_span (D := D) h.byt (hn i hi) (fun hq => hq hi) (hF (M i) (h.byt i) (fun j hj => h.nought i j (by omega)))
  have := hv u (ck0_span h.unit hu) (fun j hj => u0 j (fun e => by
    subst e
    rw [List.append_assoc] at hnd
    have := (List.nodup_append.1 hnd).2.2 j hj j (by simp)
    exact this rfl) (fun hq => hq (by simp [hj])))
  rw [u1] at this
  exact absurd this (by decide)
/-- shards by which all lost ones are told: the checks can be worked to leave the others -/
theorem Code.tgt {M : Nat → Nat → Nat} {D P : Nat} (h : Code M D P) {L : List Nat} {C : Ck} (hnd : L.Nodup) (hn : ∀ i ∈ L, i < D + P) (ht : ToldBy (ck0 M D P) (Dual M D (D + P)) L C) (Q : Nat → Prop) (hQ : ∀ i, i ∈ L → ¬ Q i)
    (hs : ∀ i ∈ L, Span (Sel M (D + P) Q) (M i)) : Tgt (fun j => j ∉ L ∧ ¬ Q j) C := by
  intro k hk
  have hkL : k < L.length := by have := ht.told; omega
  have hi : L[k] ∈ L := List.getElem_mem hkL
  obtain ⟨u, hu, u1, u0⟩ := dual_of_span (D := D) h.byt (hn _ hi) (hQ _ hi) (hs _ hi)
  refine ⟨u, ?_, hu.1, fun j hj => u0 j (fun e => hj.1 (e ▸ hi)) hj.2⟩
  rw [ht.spare]
  have hlin := dual_lin M D (D + P) h.byt
  have hkc : k < C.count := by have := ht.told; have := ht.le; omega
  refine ⟨ck0_span h.unit (hlin.2 1 (C.m k) u (by decide) (ht.all k hkc) hu), fun j hj => ?_⟩
  obtain ⟨k', hk', rfl⟩ := List.getElem_of_mem hj
  rw [addV_one _ _ (ht.byt k), ht.one k hkL k' hk']
  by_cases e : k = k'
  · subst e; rw [if_pos rfl, u1]; rfl
  · rw [if_neg e, Nat.xor_zero]
    refine u0 _ (fun e2 => e ?_) (hQ _ hj)
    exact (nodup_inj hnd hk' hkL e2).symm
/-- what the search leaves: it tells each lost shard by others -/
structure Plan (M : Nat → Nat → Nat) (D P : Nat) (L : List Nat) (B : Ck) : Prop where
  told : B.told = L.length
  le : B.told ≤ B.count
  most : B.count ≤ P
  byt : Byt B
  dual : ∀ k, k < B.told → Dual M D (D + P) (B.m k)
  one : ∀ k, k < L.length → ∀ k' (h : k' < L.length), B.m k L[k'] = if k = k' then 1 else 0
theorem Code.plan {M : Nat → Nat → Nat} {D P : Nat} (h : Code M D P) {L : List Nat} {C B : Ck} (ht : ToldBy (ck0 M D P) (Dual M D (D + P)) L C) (hr : Reach C B) : Plan M D P L B := by
  have hdead : ∀ j ∈ L, Dead C j := fun j hj r h1 h2 => ((ht.spare (C.m r)).1 (Span.mem (ht.byt r) ⟨r, h1, h2, rfl⟩)).2 j hj
  obtain ⟨b, t, le, cc, al, on, _⟩ := hr.good (dual_lin M D (D + P) h.byt) ht.byt ht.le ht.all hdead
  have h1 := ht.told
  have h2 := ht.count
  refine ⟨by omega, le, by have : C.count = P := h2; omega, b, fun k hk => al k (by omega), fun k hk k' hk' => ?_⟩
  rw [on k (by omega) _ (List.getElem_mem hk'), ht.one k hk k' hk']
theorem Plan.tells {M : Nat → Nat → Nat} {D P : Nat} {L : List Nat} {B : Ck} (hC : Code M D P) (h : Plan M D P L B) (hn : ∀ i ∈ L, i < D + P) : ∀ i ∈ L, Span (Sel M (D + P) (fun j => j ∉ L ∧ readsB B j = true)) (M i) := by
  intro i hi
  obtain ⟨k, hk, rfl⟩ := List.getElem_of_mem hi
  have hkt : k < B.told := by have := h.told; omega
  refine span_of_dual hC.byt hC.nought (hn _ hi) (h.dual k hkt) (by rw [h.one k hk k hk, if_pos rfl]) ?_
  intro j _ hj hne
  refine ⟨fun hjL => ?_, readsB_true hkt hne⟩
  obtain ⟨k', hk', rfl⟩ := List.getElem_of_mem hjL
  rw [h.one k hk k' hk'] at hne
  by_cases e : k = k'
  · subst e; exact hj rfl
  · rw [if_neg e] at hne; exact hne rfl
/-- what the repaired shard holds -/
theorem Plan.sum {M : Nat → Nat → Nat} {D P : Nat} {L : List Nat} {B : Ck} (hC : Code M D P) (h : Plan M D P L B) (hn : ∀ i ∈ L, i < D + P) (d : Nat → Nat) (hd : byteV d) (k : Nat) (hk : k < L.length) :
    xs (fun i => if i ∈ L then 0 else gm (B.m k i) (xs (fun j => gm (M i j) (d j)) D)) (D + P) = xs (fun j => gm (M L[k] j) (d j)) D := by
  have hkt : k < B.told := by have := h.told; omega
  obtain ⟨v1, v2, v3⟩ := h.dual k hkt
  have hi := hn _ (List.getElem_mem hk)
  have hsl : ∀ i, xs (fun j => gm (M i j) (d j)) D < 256 := fun i => xs_lt D (fun j _ => gm_lt _ (hC.byt i j))
  have swap : ∀ n, xs (fun i => gm (B.m k i) (xs (fun j => gm (M i j) (d j)) D)) n = xs (fun j => gm (xs (fun i => gm (B.m k i) (M i j)) n) (d j)) D := by
    intro n
    induction n with
    | zero => exact (xs_nought D (fun j _ => zero_gm _)).symm
    | succ n ih =>
      show xs _ n ^^^ gm (B.m k n) (xs (fun j => gm (M n j) (d j)) D) = _
      rw [ih, ← xs_gm, ← xs_xor]
      apply xs_congr
      intro j _
      show _ = gm (xs _ n ^^^ gm (B.m k n) (M n j)) (d j)
      rw [add_gm _ (xs_lt n (fun i _ => gm_lt _ (v1 i))) (gm_lt _ (v1 n)), gm_assoc (v1 n) (hC.byt n j) (hd j)]
  have h0 : xs (fun i => gm (B.m k i) (xs (fun j => gm (M i j) (d j)) D)) (D + P) = 0 := by
    rw [swap]
    exact xs_nought D (fun j hj => by rw [v3 j hj, zero_gm])
  have e : xs (fun i => gm (B.m k i) (xs (fun j => gm (M i j) (d j)) D)) (D + P) = xs (fun i => (if i ∈ L then 0 else gm (B.m k i) (xs (fun j => gm (M i j) (d j)) D)) ^^^ (if i = L[k] then xs (fun j => gm (M L[k] j) (d j)) D else 0)) (D + P) := by
    apply xs_congr
    intro i _
    by_cases hm : i ∈ L
    · obtain ⟨k', hk', rfl⟩ := List.getElem_of_mem hm
      rw [if_pos hm, Nat.zero_xor, h.one k hk k' hk']
      by_cases e : L[k'] = L[k]
      · rw [if_pos e, e]
        by_cases e2 : k = k'
        · rw [if_pos e2, gm_comm (by decide) (hsl _), gm_one _ (hsl _)]
        · have c1 := h.one k hk k hk
          have c2 := h.one k hk k' hk'
          rw [e, c1, if_pos rfl, if_neg e2] at c2
          exact absurd c2 (by decide)
      · rw [if_neg e, if_neg (fun e2 => e (by subst e2; rfl)), zero_gm]
    · rw [if_neg hm, if_neg (show ¬ i = L[k] from fun e2 => hm (by rw [e2]; exact List.getElem_mem hk)), Nat.xor_zero]
  rw [e, xs_xor, xs_one (f := fun i => if i = L[k] then xs (fun j => gm (M L[k] j) (d j)) D else 0) (k := L[k]) _ hi] at h0
  · rw [if_pos rfl] at h0; exact xor_eq h0
  · intro i _ ne; rw [if_neg ne]
end Go.Proofs.YtbgiechfhfeaeabDoor.Gf
