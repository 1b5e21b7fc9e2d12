import Derived.Test.YthhommjlomphdabDoorSearchMath
/-
  Checks of a code whose first rows are the unit ones: which sums of shards come to nought, what can be told by what. Nothing of the program is imported here.
-/
namespace Go.Proofs.YthhommjlomphdabDoor.Gf

/-- the sum of the first n -/
def xs (f : Nat → Nat) : Nat → Nat
  | 0 => 0
  | n + 1 => xs f n ^^^ f n
theorem xs_congr {f g : Nat → Nat} : ∀ n, (∀ i, i < n → f i = g i) → xs f n = xs g n
  | 0, _ => rfl
  | n + 1, h => by show xs f n ^^^ f n = xs g n ^^^ g n; rw [xs_congr n (fun i hi => h i (by omega)), h n (by omega)]
theorem xs_xor (f g : Nat → Nat) : ∀ n, xs (fun i => f i ^^^ g i) n = xs f n ^^^ xs g n
  | 0 => (Nat.xor_self 0).symm
  | n + 1 => by show xs _ n ^^^ (f n ^^^ g n) = (xs f n ^^^ f n) ^^^ (xs g n ^^^ g n); rw [xs_xor f g n, xor4]
theorem xs_nought {f : Nat → Nat} : ∀ n, (∀ i, i < n → f i = 0) → xs f n = 0
  | 0, _ => rfl
  | n + 1, h => by show xs f n ^^^ f n = 0; rw [xs_nought n (fun i hi => h i (by omega)), h n (by omega)]; rfl
theorem xs_gm (c : Nat) (f : Nat → Nat) : ∀ n, xs (fun i => gm c (f i)) n = gm c (xs f n)
  | 0 => (gm_zero c).symm
  | n + 1 => by show xs _ n ^^^ gm c (f n) = gm c (xs f n ^^^ f n); rw [xs_gm c f n, gm_add]
theorem xs_one {f : Nat → Nat} {k : Nat} : ∀ n, k < n → (∀ i, i < n → i ≠ k → f i = 0) → xs f n = f k
  | 0, h, _ => absurd h (by omega)
  | n + 1, h, hz => by
    show xs f n ^^^ f n = f k
    by_cases e : k = n
    · rw [xs_nought n (fun i hi => hz i (by omega) (by omega)), e, Nat.zero_xor]
    · rw [xs_one n (by omega) (fun i hi => hz i (by omega)), hz n (by omega) (by omega), Nat.xor_zero]
theorem xs_lt {f : Nat → Nat} : ∀ n, (∀ i, i < n → f i < 256) → xs f n < 256
  | 0, _ => by show 0 < 256; decide
  | n + 1, h => xlt (xs_lt n (fun i hi => h i (by omega))) (h n (by omega))
theorem xs_add (f : Nat → Nat) (a : Nat) : ∀ b, xs f (a + b) = xs f a ^^^ xs (fun i => f (a + i)) b
  | 0 => (Nat.xor_zero _).symm
  | b + 1 => by show xs f (a + b) ^^^ f (a + b) = xs f a ^^^ (xs _ b ^^^ f (a + b)); rw [xs_add f a b, Nat.xor_assoc]

/-- the shards, each times its number of v, come to nought -/
def Dual (M : Nat → Nat → Nat) (D n : Nat) (v : Nat → Nat) : Prop := byteV v ∧ (∀ i, n ≤ i → v i = 0) ∧ ∀ j, j < D → xs (fun i => gm (v i) (M i j)) n = 0
theorem dual_lin (M : Nat → Nat → Nat) (D n : Nat) (hM : ∀ i, byteV (M i)) : Lin (Dual M D n) := by
  refine ⟨⟨fun _ => by show 0 < 256; decide, fun _ _ => rfl, fun j _ => xs_nought n (fun i _ => zero_gm _)⟩, ?_⟩
  rintro a r u ha ⟨r1, r2, r3⟩ ⟨u1, u2, u3⟩
  refine ⟨addV_byte u1 ha, fun i hi => ?_, fun j hj => ?_⟩
  · show u i ^^^ gm a (r i) = 0; rw [u2 i hi, r2 i hi, gm_zero]; rfl
  · have e : xs (fun i => gm (addV u a r i) (M i j)) n = xs (fun i => gm (u i) (M i j) ^^^ gm a (gm (r i) (M i j))) n :=
      xs_congr n (fun i _ => by show gm (u i ^^^ gm a (r i)) (M i j) = _; rw [add_gm _ (u1 i) (gm_lt _ ha), gm_assoc ha (r1 i) (hM i j)])
    rw [e, xs_xor, xs_gm, u3 j hj, r3 j hj, gm_zero]; rfl
theorem span_lin {X : (Nat → Nat) → Prop} (hX : Lin X) {R : (Nat → Nat) → Prop} (h : ∀ r, R r → X r) {v : Nat → Nat} (hv : Span R v) : X v :=
  hv X hX.1 (fun a r u ha hr hu => hX.2 a r u ha (h r hr) hu)
/-- a check of each parity -/
def ck0 (M : Nat → Nat → Nat) (D P : Nat) : Ck := ⟨fun r j => if r < P then (if j < D then M (D + r) j else if j = D + r then 1 else 0) else 0, 0, P⟩
theorem ck0_byte {M : Nat → Nat → Nat} {D P : Nat} (hM : ∀ i, byteV (M i)) : Byt (ck0 M D P) := fun r j => by
  show (if r < P then _ else _) < 256
  split
  · split
    · exact hM _ _
    · split <;> decide
  · decide
theorem ck0_dual {M : Nat → Nat → Nat} {D P : Nat} (hM : ∀ i, byteV (M i)) (hU : ∀ i, i < D → ∀ j, M i j = if j = i then 1 else 0) (k : Nat) (hk : k < P) : Dual M D (D + P) ((ck0 M D P).m k) := by
  have e : ∀ i, (ck0 M D P).m k i = if i < D then M (D + k) i else if i = D + k then 1 else 0 := fun i => by show (if k < P then _ else _) = _; rw [if_pos hk]
  refine ⟨ck0_byte hM k, fun i hi => by rw [e, if_neg (by omega), if_neg (by omega)], fun j hj => ?_⟩
  rw [xs_add]
  have e1 : xs (fun i => gm ((ck0 M D P).m k i) (M i j)) D = M (D + k) j := by
    rw [xs_one (k := j) D hj]
    · rw [e, if_pos hj, hU j hj, if_pos rfl, gm_one _ (hM _ _)]
    · intro i hi ne
      rw [hU i hi, if_neg (Ne.symm ne), gm_zero]
  have e2 : xs (fun i => gm ((ck0 M D P).m k (D + i)) (M (D + i) j)) P = M (D + k) j := by
    rw [xs_one (k := k) P hk]
    · rw [e, if_neg (by omega), if_pos rfl, gm_comm (by decide) (hM _ _), gm_one _ (hM _ _)]
    · intro i hi ne
      rw [e, if_neg (by omega), if_neg (by omega), zero_gm]
  rw [e1, e2, Nat.xor_self]
theorem span_sum {R : (Nat → Nat) → Prop} (f : Nat → Nat → Nat) (a : Nat → Nat) (ha : byteV a) : ∀ n, (∀ i, i < n → a i ≠ 0 → R (f i)) → Span R (fun j => xs (fun i => gm (a i) (f i j)) n)
  | 0, _ => Span.zero R
  | n + 1, h => by
    have ih := span_sum f a ha n (fun i hi => h i (by omega))
    by_cases e : a n = 0
    · have e2 : (fun j => xs (fun i => gm (a i) (f i j)) (n + 1)) = fun j => xs (fun i => gm (a i) (f i j)) n := by
        funext j; show _ ^^^ gm (a n) (f n j) = _; rw [e, zero_gm, Nat.xor_zero]
      rw [e2]; exact ih
    · exact ih.step (ha n) (h n (by omega) e)
theorem ck0_span {M : Nat → Nat → Nat} {D P : Nat} (hU : ∀ i, i < D → ∀ j, M i j = if j = i then 1 else 0) {v : Nat → Nat} (hv : Dual M D (D + P) v) : Span (From (ck0 M D P) 0) v := by
  obtain ⟨v1, v2, v3⟩ := hv
  have h := span_sum (R := From (ck0 M D P) 0) (ck0 M D P).m (fun i => v (D + i)) (fun i => v1 _) P (fun i hi _ => ⟨i, Nat.zero_le _, hi, rfl⟩)
  have e : (fun j => xs (fun i => gm (v (D + i)) ((ck0 M D P).m i j)) P) = v := by
    funext j
    by_cases hj : j < D
    · have e1 : xs (fun i => gm (v (D + i)) ((ck0 M D P).m i j)) P = xs (fun i => gm (v (D + i)) (M (D + i) j)) P := xs_congr P (fun i hi => by
        show gm _ (if i < P then _ else _) = _; rw [if_pos hi, if_pos hj])
      rw [e1]
      have h3 := v3 j hj
      rw [xs_add] at h3
      have e2 : xs (fun i => gm (v i) (M i j)) D = v j := by
        rw [xs_one (k := j) D hj]
        · rw [hU j hj, if_pos rfl, gm_one _ (v1 j)]
        · intro i hi ne
          rw [hU i hi, if_neg (Ne.symm ne), gm_zero]
      rw [e2] at h3
      exact (xor_eq h3).symm
    · by_cases hj2 : j < D + P
      · rw [xs_one (k := j - D) P (by omega)]
        · show gm _ (if j - D < P then _ else _) = _
          rw [if_pos (by omega), if_neg hj, if_pos (by omega), show D + (j - D) = j by omega, gm_one _ (v1 j)]
        · intro i hi ne
          show gm _ (if i < P then _ else _) = _
          rw [if_pos hi, if_neg hj, if_neg (by omega), gm_zero]
      · rw [v2 j (by omega)]
        exact xs_nought P (fun i hi => by
          show gm _ (if i < P then _ else _) = _
          rw [if_pos hi, if_neg hj, if_neg (by omega), gm_zero])
  rwa [e] at h

/-! ### rows that are made of others -/
/-- the rows of the shards for which Q holds -/
def Sel (M : Nat → Nat → Nat) (n : Nat) (Q : Nat → Prop) : (Nat → Nat) → Prop := fun v => ∃ i, i < n ∧ Q i ∧ v = M i
theorem span_coeff {M : Nat → Nat → Nat} {n : Nat} {Q : Nat → Prop} {x : Nat → Nat} (hx : Span (Sel M n Q) x) :
    ∃ a, byteV a ∧ (∀ i, ¬ (i < n ∧ Q i) → a i = 0) ∧ ∀ j, x j = xs (fun i => gm (a i) (M i j)) n := by
  refine hx (fun x => ∃ a, byteV a ∧ (∀ i, ¬ (i < n ∧ Q i) → a i = 0) ∧ ∀ j, x j = xs (fun i => gm (a i) (M i j)) n)
    ⟨fun _ => 0, fun _ => by show 0 < 256; decide, fun _ _ => rfl, fun j => (xs_nought n (fun i _ => zero_gm _)).symm⟩ ?_
  rintro b r u hb ⟨k, k1, k2, rfl⟩ ⟨a, a1, a2, a3⟩
  have hbb : byteV (fun i => if i = k then b else 0) := fun i => by show (if i = k then b else 0) < 256; split; exact hb; decide
  refine ⟨fun i => a i ^^^ (if i = k then b else 0), fun i => xlt (a1 i) (hbb i), fun i hi => ?_, fun j => ?_⟩
  · have : i ≠ k := fun e => hi (by rw [e]; exact ⟨k1, k2⟩)
    show a i ^^^ (if i = k then b else 0) = 0
    rw [a2 i hi, if_neg this]; rfl
  · have e : xs (fun i => gm (a i ^^^ (if i = k then b else 0)) (M i j)) n = xs (fun i => gm (a i) (M i j) ^^^ gm (if i = k then b else 0) (M i j)) n :=
      xs_congr n (fun i _ => add_gm _ (a1 i) (hbb i))
    rw [e, xs_xor, ← a3 j]
    have e2 : xs (fun i => gm (if i = k then b else 0) (M i j)) n = gm b (M k j) := by
      rw [xs_one (k := k) n k1]
      · rw [if_pos rfl]
      · intro i _ ne; rw [if_neg ne, zero_gm]
    rw [e2]; rfl
/-- a row that is made of others: a check that has it, and but those -/
theorem dual_of_span {M : Nat → Nat → Nat} {D n k : Nat} {Q : Nat → Prop} (hM : ∀ i, byteV (M i)) (hk : k < n) (hQ : ¬ Q k) (h : Span (Sel M n Q) (M k)) :
    ∃ u, Dual M D n u ∧ u k = 1 ∧ ∀ i, i ≠ k → ¬ Q i → u i = 0 := by
  obtain ⟨a, a1, a2, a3⟩ := span_coeff h
  have ak : a k = 0 := a2 k (fun h => hQ h.2)
  have hbb : byteV (unitV k) := unitV_byte k
  refine ⟨fun i => a i ^^^ unitV k i, ⟨fun i => xlt (a1 i) (hbb i), fun i hi => ?_, fun j _ => ?_⟩, ?_, fun i hi hq => ?_⟩
  · show a i ^^^ (if i = k then 1 else 0) = 0
    rw [a2 i (by omega), if_neg (by omega)]; rfl
  · have e : xs (fun i => gm (a i ^^^ unitV k i) (M i j)) n = xs (fun i => gm (a i) (M i j) ^^^ gm (unitV k i) (M i j)) n := xs_congr n (fun i _ => add_gm _ (a1 i) (hbb i))
    rw [e, xs_xor, ← a3 j, xs_one (k := k) n hk]
    · show M k j ^^^ gm (if k = k then 1 else 0) (M k j) = 0
      rw [if_pos rfl, gm_comm (by decide) (hM k j), gm_one _ (hM k j), Nat.xor_self]
    · intro i _ ne
      show gm (if i = k then 1 else 0) (M i j) = 0
      rw [if_neg ne, zero_gm]
  · show a k ^^^ (if k = k then 1 else 0) = 1
    rw [ak, if_pos rfl]; rfl
  · show a i ^^^ (if i = k then 1 else 0) = 0
    rw [a2 i (fun h => hq h.2), if_neg hi]; rfl
/-- and the other way about -/
theorem span_of_dual {M : Nat → Nat → Nat} {D n k : Nat} {Q : Nat → Prop} (hM : ∀ i, byteV (M i)) (hz : ∀ i j, D ≤ j → M i j = 0) (hk : k < n) {u : Nat → Nat} (hu : Dual M D n u) (h1 : u k = 1) (h0 : ∀ i, i < n → i ≠ k → u i ≠ 0 → Q i) :
    Span (Sel M n Q) (M k) := by
  obtain ⟨u1, u2, u3⟩ := hu
  have hb : byteV (fun i => if i = k then 0 else u i) := fun i => by show (if i = k then 0 else u i) < 256; split; decide; exact u1 i
  have h := span_sum (R := Sel M n Q) M (fun i => if i = k then 0 else u i) hb n (fun i hi hne => by
    by_cases e : i = k
    · simp [e] at hne
    · exact ⟨i, hi, h0 i hi e (by simpa [e] using hne), rfl⟩)
  have e : (fun j => xs (fun i => gm (if i = k then 0 else u i) (M i j)) n) = M k := by
    funext j
    by_cases hj : j < D
    · have e1 : xs (fun i => gm (u i) (M i j)) n = xs (fun i => gm (if i = k then 0 else u i) (M i j) ^^^ gm (unitV k i) (M i j)) n := xs_congr n (fun i _ => by
        by_cases e : i = k
        · rw [if_pos e, zero_gm, Nat.zero_xor, e, h1]; show _ = gm (if k = k then 1 else 0) _; rw [if_pos rfl]
        · rw [if_neg e]; show _ = _ ^^^ gm (if i = k then 1 else 0) _; rw [if_neg e, zero_gm, Nat.xor_zero])
      have h3 := u3 j hj
      rw [e1, xs_xor, xs_one (f := fun i => gm (unitV k i) (M i j)) (k := k) n hk] at h3
      · have := xor_eq h3
        rw [this]
        show gm (if k = k then 1 else 0) (M k j) = _
        rw [if_pos rfl, gm_comm (by decide) (hM k j), gm_one _ (hM k j)]
      · intro i _ ne
        show gm (if i = k then 1 else 0) (M i j) = 0
        rw [if_neg ne, zero_gm]
    · rw [hz k j (by omega)]
      exact xs_nought n (fun i _ => by rw [hz i j (by omega), gm_zero])
  rwa [e] at h

/-! ### ranks that are the same -/
theorem Taken.sub : ∀ n (R R' : (Nat → Nat) → Prop) (c k k' : Nat), (∀ r, R r → byteV r) → (∀ r, R' r → byteV r) → (∀ v, Span R v → Span R' v) → (∀ j, j < c ∨ c + n ≤ j → ∀ r, R' r → r j = 0) → Taken n R c k → Taken n R' c k' →
    k ≤ k' ∧ (k = k' → ∀ v, Span R' v → Span R v)
  | 0, R, R', c, k, k', _, _, _, hz, h, h' => by
    obtain rfl : k = 0 := h
    refine ⟨Nat.zero_le _, fun _ v hv => ?_⟩
    have e : v = fun _ => 0 := by funext j; exact Span.nought (fun r hr => hz j (by omega) r hr) hv
    rw [e]; exact Span.zero R
  | n + 1, R, R', c, k, k', hb, hb', hs, hz, h, h' => by
    rcases h with ⟨h0, h⟩ | ⟨⟨p, hp, hpc⟩, R1, hb1, h1, k1, rfl, h⟩
    · rcases h' with ⟨h0', h'⟩ | ⟨⟨p', hp', hpc'⟩, R1', hb1', h1', k1', rfl, h'⟩
      · exact Taken.sub n R R' (c + 1) k k' hb hb' hs (fun j hj r hr => by
          by_cases e : j = c
          · rw [e]; exact h0' r hr
          · exact hz j (by omega) r hr) h h'
      · have := Taken.sub n R R1' (c + 1) k k1' hb hb1' (fun v hv => (h1' v).2 ⟨hs v hv, Span.nought h0 hv⟩) (fun j hj r hr => by
          have hr' := (h1' r).1 (Span.mem (hb1' r hr) hr)
          by_cases e : j = c
          · rw [e]; exact hr'.2
          · exact Span.nought (fun r hr => hz j (by omega) r hr) hr'.1) h h'
        exact ⟨by omega, fun e => by omega⟩
    · rcases h' with ⟨h0', _⟩ | ⟨_, R1', hb1', h1', k1', rfl, h'⟩
      · exact absurd (Span.nought h0' (hs p (Span.mem (hb p hp) hp))) hpc
      · have hi := Taken.sub n R1 R1' (c + 1) k1 k1' hb1 hb1' (fun v hv => (h1' v).2 ⟨hs v ((h1 v).1 hv).1, ((h1 v).1 hv).2⟩) (fun j hj r hr => by
          have hr' := (h1' r).1 (Span.mem (hb1' r hr) hr)
          by_cases e : j = c
          · rw [e]; exact hr'.2
          · exact Span.nought (fun r hr => hz j (by omega) r hr) hr'.1) h h'
        refine ⟨by omega, fun e v hv => ?_⟩
        have hvb := hv.byte
        have hf : gm (v c) (gi (p c)) < 256 := gm_lt _ (hvb c)
        have hp' := hs p (Span.mem (hb p hp) hp)
        have hv1 : Span R1' (addV v (gm (v c) (gi (p c))) p) := (h1' _).2 ⟨Span.add hb' hv hf hp', off_at (hvb c) (hb p hp c) hpc⟩
        have hv2 := ((h1 _).1 (hi.2 (by omega) _ hv1)).1.step hf hp
        rwa [addV_twice] at hv2
/-- rows that come to others add nothing, if and only if they are made of them -/
theorem rank_same {A B : List (List Nat)} {a b : Nat} (hA : ∀ l ∈ A, ∀ x ∈ l, x < 256) (hB : ∀ l ∈ B, ∀ x ∈ l, x < 256) (hlA : ∀ l ∈ A, l.length ≤ 64) (hlB : ∀ l ∈ B, l.length ≤ 64) (ha : RankIs A a) (hb : RankIs (A ++ B) b) :
    a = b ↔ ∀ l ∈ B, Span (Rem A 0) (vec l) := by
  have hAB : ∀ l ∈ A ++ B, ∀ x ∈ l, x < 256 := fun l hl => by rcases List.mem_append.1 hl with h | h; exact hA l h; exact hB l h
  have hR := rem_byte hA 0
  have hR' := rem_byte hAB 0
  have hsub : ∀ v, Span (Rem A 0) v → Span (Rem (A ++ B) 0) v := fun v hv => Span.sub hR' (fun r hr => by
    refine Span.mem (hR r hr) ?_
    obtain ⟨i, hi, _, rfl⟩ := hr
    exact ⟨i, by simp; omega, Nat.zero_le _, by rw [List.getElem_append_left hi]⟩) hv
  have hz : ∀ j, j < 0 ∨ 0 + 64 ≤ j → ∀ r, Rem (A ++ B) 0 r → r j = 0 := by
    rintro j hj r ⟨i, hi, _, rfl⟩
    have hl : ((A ++ B)[i]).length ≤ 64 := by
      rcases List.mem_append.1 (List.getElem_mem hi) with h | h
      · exact hlA _ h
      · exact hlB _ h
    unfold vec
    simp [List.getElem?_eq_none (show ((A ++ B)[i]).length ≤ j by omega)]
  have key := Taken.sub 64 (Rem A 0) (Rem (A ++ B) 0) 0 a b hR hR' hsub hz ha hb
  constructor
  · rintro e l hl
    refine key.2 e _ (Span.mem (vec_byte (hB l hl)) ?_)
    obtain ⟨i, hi, rfl⟩ := List.getElem_of_mem hl
    exact ⟨A.length + i, by simp; omega, Nat.zero_le _, by rw [List.getElem_append_right (by omega)]; simp⟩
  · intro h
    refine Taken.unique 64 (Rem A 0) (Rem (A ++ B) 0) 0 a b hR hR' (fun v => ⟨hsub v, fun hv => Span.sub hR (fun r hr => ?_) hv⟩) ha hb
    obtain ⟨i, hi, _, rfl⟩ := hr
    by_cases hiA : i < A.length
    · rw [List.getElem_append_left hiA]; exact Span.mem (vec_byte (hA _ (List.getElem_mem hiA))) ⟨i, hiA, Nat.zero_le _, rfl⟩
    · rw [List.getElem_append_right (by omega)]; exact h _ (List.getElem_mem _)
end Go.Proofs.YthhommjlomphdabDoor.Gf
/-
  Programs that repair, in plain numbers: what can be told, by how few; one shard of a group. Nothing of the program is imported here.
-/
namespace Go.Proofs.YthhommjlomphdabDoor.Gf

theorem nodup_inj {L : List Nat} (h : L.Nodup) {a b : Nat} (ha : a < L.length) (hb : b < L.length) (e : L[a] = L[b]) : a = b := by
  have hp := List.pairwise_iff_getElem.1 h
  by_cases h1 : a < b
  · exact absurd e (hp a b ha hb h1)
  · by_cases h2 : b < a
    · exact absurd e.symm (hp b a hb ha h2)
    · omega
/-- a code: the rows of n = D + P shards, those of the data first -/
structure Code (M : Nat → Nat → Nat) (D P : Nat) : Prop where
  byt : ∀ i, byteV (M i)
  unit : ∀ i, i < D → ∀ j, M i j = if j = i then 1 else 0
  nought : ∀ i j, D ≤ j → M i j = 0
theorem Code.told {M : Nat → Nat → Nat} {D P : Nat} (h : Code M D P) (L : List Nat) :
    (∃ C, tells (ck0 M D P) L = some C ∧ ToldBy (ck0 M D P) (Dual M D (D + P)) L C) ∨ (tells (ck0 M D P) L = none ∧ ∃ pre i, (pre ++ [i]) <+: L ∧ ∀ v, Span (From (ck0 M D P) 0) v → (∀ j ∈ pre, v j = 0) → v i = 0) := by
  have := ToldBy.of (dual_lin M D (D + P) h.byt) (C0 := ck0 M D P) rfl (ck0_byte h.byt) (fun k hk => ck0_dual h.byt h.unit k hk) L [] (ck0 M D P) (ToldBy.nil rfl (ck0_byte h.byt) (fun k hk => ck0_dual h.byt h.unit k hk)) rfl
  simpa using this
/-- if all lost shards are told, the others tell the data -/
theorem Code.full {M : Nat → Nat → Nat} {D P : Nat} (h : Code M D P) {L : List Nat} {C : Ck} (ht : ToldBy (ck0 M D P) (Dual M D (D + P)) L C) : Full (Sel M (D + P) (fun i => i ∉ L)) 0 D := by
  have hsel : ∀ r, Sel M (D + P) (fun i => i ∉ L) r → byteV r := by rintro r ⟨i, _, _, rfl⟩; exact h.byt i
  have hrow : ∀ i, i < D + P → Span (Sel M (D + P) (fun i => i ∉ L)) (M i) := by
    intro i hi
    by_cases hm : i ∈ L
    · obtain ⟨k, hk, rfl⟩ := List.getElem_of_mem hm
      have hkc : k < C.count := by have := ht.told; have := ht.le; omega
      refine span_of_dual h.byt h.nought hi (ht.all k hkc) ?_ ?_
      · rw [ht.one k hk k hk, if_pos rfl]
      · intro j _ hj hne hjL
        obtain ⟨k', hk', rfl⟩ := List.getElem_of_mem hjL
        rw [ht.one k hk k' hk'] at hne
        by_cases e : k = k'
        · subst e; exact hj rfl
        · rw [if_neg e] at hne; exact hne rfl
    · exact Span.mem (h.byt i) ⟨i, hi, hm, rfl⟩
  refine Full.units hsel (fun j hj => ?_)
  have e : M j = unitV j := by funext x; rw [h.unit j hj]; rfl
  rw [← e]; exact hrow j (by omega)
/-- if one cannot be told, they don't -/
theorem Code.not_full {M : Nat → Nat → Nat} {D P : Nat} (h : Code M D P) {L : List Nat} (hnd : L.Nodup) (hn : ∀ i ∈ L, i < D + P) (ht : ∃ pre i, (pre ++ [i]) <+: L ∧ ∀ v, Span (From (ck0 M D P) 0) v → (∀ j ∈ pre, v j = 0) → v i = 0) :
    ¬ Full (Sel M (D + P) (fun i => i ∉ L)) 0 D := by
  obtain ⟨pre, i, ⟨R, rfl⟩, hv⟩ := ht
  intro hF
  have hi : i ∈ pre ++ [i] ++ R := by simp
  obtain ⟨u, hu, u1, u0⟩ := dual_of_span (D := D) h.byt (hn i hi) (fun hq => hq hi) (hF (M i) (h.byt i) (fun j hj => h.nought i j (by omega)))
  have := hv u (ck0_span h.unit hu) (fun j hj => u0 j (fun e => by
    subst e
    rw [List.append_assoc] at hnd
    have := (List.nodup_append.1 hnd).2.2 j hj j (by simp)
    exact this rfl) (fun hq => hq (by simp [hj])))
  rw [u1] at this
  exact absurd this (by decide)
/-- shards by which all lost ones are told: the checks can be worked to leave the others -/
theorem Code.tgt {M : Nat → Nat → Nat} {D P : Nat} (h : Code M D P) {L : List Nat} {C : Ck} (hnd : L.Nodup) (hn : ∀ i ∈ L, i < D + P) (ht : ToldBy (ck0 M D P) (Dual M D (D + P)) L C) (Q : Nat → Prop) (hQ : ∀ i, i ∈ L → ¬ Q i)
    (hs : ∀ i ∈ L, Span (Sel M (D + P) Q) (M i)) : Tgt (fun j => j ∉ L ∧ ¬ Q j) C := by
  intro k hk
  have hkL : k < L.length := by have := ht.told; omega
  have hi : L[k] ∈ L := List.getElem_mem hkL
  obtain ⟨u, hu, u1, u0⟩ := dual_of_span (D := D) h.byt (hn _ hi) (hQ _ hi) (hs _ hi)
  refine ⟨u, ?_, hu.1, fun j hj => u0 j (fun e => hj.1 (e ▸ hi)) hj.2⟩
  rw [ht.spare]
  have hlin := dual_lin M D (D + P) h.byt
  have hkc : k < C.count := by have := ht.told; have := ht.le; omega
  refine ⟨ck0_span h.unit (hlin.2 1 (C.m k) u (by decide) (ht.all k hkc) hu), fun j hj => ?_⟩
  obtain ⟨k', hk', rfl⟩ := List.getElem_of_mem hj
  rw [addV_one _ _ (ht.byt k), ht.one k hkL k' hk']
  by_cases e : k = k'
  · subst e; rw [if_pos rfl, u1]; rfl
  · rw [if_neg e, Nat.xor_zero]
    refine u0 _ (fun e2 => e ?_) (hQ _ hj)
    exact (nodup_inj hnd hk' hkL e2).symm
/-- what the search leaves: it tells each lost shard by others -/
structure Plan (M : Nat → Nat → Nat) (D P : Nat) (L : List Nat) (B : Ck) : Prop where
  told : B.told = L.length
  le : B.told ≤ B.count
  most : B.count ≤ P
  byt : Byt B
  dual : ∀ k, k < B.told → Dual M D (D + P) (B.m k)
  one : ∀ k, k < L.length → ∀ k' (h : k' < L.length), B.m k L[k'] = if k = k' then 1 else 0
theorem Code.plan {M : Nat → Nat → Nat} {D P : Nat} (h : Code M D P) {L : List Nat} {C B : Ck} (ht : ToldBy (ck0 M D P) (Dual M D (D + P)) L C) (hr : Reach C B) : Plan M D P L B := by
  have hdead : ∀ j ∈ L, Dead C j := fun j hj r h1 h2 => ((ht.spare (C.m r)).1 (Span.mem (ht.byt r) ⟨r, h1, h2, rfl⟩)).2 j hj
  obtain ⟨b, t, le, cc, al, on, _⟩ := hr.good (dual_lin M D (D + P) h.byt) ht.byt ht.le ht.all hdead
  have h1 := ht.told
  have h2 := ht.count
  refine ⟨by omega, le, by have : C.count = P := h2; omega, b, fun k hk => al k (by omega), fun k hk k' hk' => ?_⟩
  rw [on k (by omega) _ (List.getElem_mem hk'), ht.one k hk k' hk']
theorem Plan.tells {M : Nat → Nat → Nat} {D P : Nat} {L : List Nat} {B : Ck} (hC : Code M D P) (h : Plan M D P L B) (hn : ∀ i ∈ L, i < D + P) : ∀ i ∈ L, Span (Sel M (D + P) (fun j => j ∉ L ∧ readsB B j = true)) (M i) := by
  intro i hi
  obtain ⟨k, hk, rfl⟩ := List.getElem_of_mem hi
  have hkt : k < B.told := by have := h.told; omega
  refine span_of_dual hC.byt hC.nought (hn _ hi) (h.dual k hkt) (by rw [h.one k hk k hk, if_pos rfl]) ?_
  intro j _ hj hne
  refine ⟨fun hjL => ?_, readsB_true hkt hne⟩
  obtain ⟨k', hk', rfl⟩ := List.getElem_of_mem hjL
  rw [h.one k hk k' hk'] at hne
  by_cases e : k = k'
  · subst e; exact hj rfl
  · rw [if_neg e] at hne; exact hne rfl
/-- what the repaired shard holds -/
theorem Plan.sum {M : Nat → Nat → Nat} {D P : Nat} {L : List Nat} {B : Ck} (hC : Code M D P) (h : Plan M D P L B) (hn : ∀ i ∈ L, i < D + P) (d : Nat → Nat) (hd : byteV d) (k : Nat) (hk : k < L.length) :
    xs (fun i => if i ∈ L then 0 else gm (B.m k i) (xs (fun j => gm (M i j) (d j)) D)) (D + P) = xs (fun j => gm (M L[k] j) (d j)) D := by
  have hkt : k < B.told := by have := h.told; omega
  obtain ⟨v1, v2, v3⟩ := h.dual k hkt
  have hi := hn _ (List.getElem_mem hk)
  have hsl : ∀ i, xs (fun j => gm (M i j) (d j)) D < 256 := fun i => xs_lt D (fun j _ => gm_lt _ (hC.byt i j))
  have swap : ∀ n, xs (fun i => gm (B.m k i) (xs (fun j => gm (M i j) (d j)) D)) n = xs (fun j => gm (xs (fun i => gm (B.m k i) (M i j)) n) (d j)) D := by
    intro n
    induction n with
    | zero => exact (xs_nought D (fun j _ => zero_gm _)).symm
    | succ n ih =>
      show xs _ n ^^^ gm (B.m k n) (xs (fun j => gm (M n j) (d j)) D) = _
      rw [ih, ← xs_gm, ← xs_xor]
      apply xs_congr
      intro j _
      show _ = gm (xs _ n ^^^ gm (B.m k n) (M n j)) (d j)
      rw [add_gm _ (xs_lt n (fun i _ => gm_lt _ (v1 i))) (gm_lt _ (v1 n)), gm_assoc (v1 n) (hC.byt n j) (hd j)]
  have h0 : xs (fun i => gm (B.m k i) (xs (fun j => gm (M i j) (d j)) D)) (D + P) = 0 := by
    rw [swap]
    exact xs_nought D (fun j hj => by rw [v3 j hj, zero_gm])
  have e : xs (fun i => gm (B.m k i) (xs (fun j => gm (M i j) (d j)) D)) (D + P) = xs (fun i => (if i ∈ L then 0 else gm (B.m k i) (xs (fun j => gm (M i j) (d j)) D)) ^^^ (if i = L[k] then xs (fun j => gm (M L[k] j) (d j)) D else 0)) (D + P) := by
    apply xs_congr
    intro i _
    by_cases hm : i ∈ L
    · obtain ⟨k', hk', rfl⟩ := List.getElem_of_mem hm
      rw [if_pos hm, Nat.zero_xor, h.one k hk k' hk']
      by_cases e : L[k'] = L[k]
      · rw [if_pos e, e]
        by_cases e2 : k = k'
        · rw [if_pos e2, gm_comm (by decide) (hsl _), gm_one _ (hsl _)]
        · have c1 := h.one k hk k hk
          have c2 := h.one k hk k' hk'
          rw [e, c1, if_pos rfl, if_neg e2] at c2
          exact absurd c2 (by decide)
      · rw [if_neg e, if_neg (fun e2 => e (by subst e2; rfl)), zero_gm]
    · rw [if_neg hm, if_neg (show ¬ i = L[k] from fun e2 => hm (by rw [e2]; exact List.getElem_mem hk)), Nat.xor_zero]
  rw [e, xs_xor, xs_one (f := fun i => if i = L[k] then xs (fun j => gm (M L[k] j) (d j)) D else 0) (k := L[k]) _ hi] at h0
  · rw [if_pos rfl] at h0; exact xor_eq h0
  · intro i _ ne; rw [if_neg ne]
end Go.Proofs.YthhommjlomphdabDoor.Gf
