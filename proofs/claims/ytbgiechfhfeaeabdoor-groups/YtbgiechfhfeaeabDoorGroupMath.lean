/-
  Local groups: a check that has a data shard or a local parity has as many shards as a group, and one more. Nothing of the program is imported here.
-/
import Derived.Test.YtbgiechfhfeaeabDoorPart10
namespace Go.Proofs.YtbgiechfhfeaeabDoor.Gf

/-- how many of the first n -/
def cp (f : Nat → Bool) : Nat → Nat
  | 0 => 0
  | n + 1 => cp f n + (if f n = true then 1 else 0)
theorem cp_add (f : Nat → Bool) (a : Nat) : ∀ b, cp f (a + b) = cp f a + cp (fun i => f (a + i)) b
  | 0 => rfl
  | b + 1 => by show cp f (a + b) + (if f (a + b) = true then 1 else 0) = cp f a + (cp _ b + (if f (a + b) = true then 1 else 0)); rw [cp_add f a b, Nat.add_assoc]
theorem cp_filter (f : Nat → Bool) : ∀ n, ((List.range n).filter f).length = cp f n
  | 0 => rfl
  | n + 1 => by
    rw [List.range_succ, List.filter_append, List.length_append, cp_filter f n]
    show _ = cp f n + _
    congr 1
    by_cases h : f n = true
    · simp [h]
    · simp [h]
theorem cp_congr {f g : Nat → Bool} : ∀ n, (∀ i, i < n → f i = g i) → cp f n = cp g n
  | 0, _ => rfl
  | n + 1, h => by show cp f n + _ = cp g n + _; rw [cp_congr n (fun i hi => h i (by omega)), h n (by omega)]
theorem cp_at {f : Nat → Bool} {k : Nat} : ∀ n, k < n → (if f k = true then 1 else 0) ≤ cp f n
  | 0, h => absurd h (by omega)
  | n + 1, h => by
    show _ ≤ cp f n + _
    by_cases e : k = n
    · subst e; omega
    · have := cp_at (f := f) (k := k) n (by omega); omega
theorem cp_not (f : Nat → Bool) : ∀ n, cp f n + cp (fun i => !f i) n = n
  | 0 => rfl
  | n + 1 => by
    have := cp_not f n
    show (cp f n + (if f n = true then 1 else 0)) + (cp (fun i => !f i) n + (if (!f n) = true then 1 else 0)) = n + 1
    cases h : f n <;> simp <;> omega
theorem cp_le (f : Nat → Bool) (n : Nat) : cp f n ≤ n := by have := cp_not f n; omega
/-- without one of them -/
theorem cp_but {f : Nat → Bool} {k : Nat} (hk : f k = true) : ∀ n, k < n → cp (fun i => decide (i ≠ k) && f i) n + 1 = cp f n
  | 0, h => absurd h (by omega)
  | n + 1, h => by
    show cp _ n + (if (decide (n ≠ k) && f n) = true then 1 else 0) + 1 = cp f n + (if f n = true then 1 else 0)
    by_cases e : k = n
    · subst e
      have : cp (fun i => decide (i ≠ k) && f i) k = cp f k := cp_congr k (fun i hi => by simp [show i ≠ k by omega])
      rw [this]; simp [hk]
    · have := cp_but (f := f) hk n (by omega)
      have e2 : (decide (n ≠ k) && f n) = f n := by simp [show n ≠ k by omega]
      rw [e2]; omega

/-- the shards of such a code: groups of s data shards each, their local parities, global ones -/
structure Grp (M : Nat → Nat → Nat) (s L G : Nat) : Prop where
  code : Code M (s * L) (L + G)
  loc : ∀ g, g < L → ∀ j, M (s * L + g) j = if s * g ≤ j ∧ j < s * g + s then 1 else 0
  glo : ∀ i, i < G → ∀ j, j < s * L → M (s * L + L + i) j = gi ((s * L + i) ^^^ j)
  small : s * L + G < 256
theorem grp_bound {s L g : Nat} (hg : g < L) : s * g + s ≤ s * L := by
  have := Nat.mul_le_mul_left s hg
  rw [Nat.mul_succ] at this; exact this
/-- a number of a check, at a data shard -/
theorem Grp.at {M : Nat → Nat → Nat} {s L G : Nat} (h : Grp M s L G) {v : Nat → Nat} (hv : Dual M (s * L) (s * L + (L + G)) v) {g j : Nat} (hg : g < L) (h1 : s * g ≤ j) (h2 : j < s * g + s) :
    v j = v (s * L + g) ^^^ xs (fun i => gm (v (s * L + L + i)) (gi ((s * L + i) ^^^ j))) G := by
  have hb := grp_bound (s := s) hg
  obtain ⟨v1, v2, v3⟩ := hv
  have h3 := v3 j (by omega)
  rw [xs_add, xs_add (fun i => gm (v (s * L + i)) (M (s * L + i) j)) L G] at h3
  have e1 : xs (fun i => gm (v i) (M i j)) (s * L) = v j := by
    rw [xs_one (k := j) _ (by omega)]
    · rw [h.code.unit j (by omega), if_pos rfl, gm_one _ (v1 j)]
    · intro i hi ne; rw [h.code.unit i hi, if_neg (Ne.symm ne), gm_zero]
  have e2 : xs (fun i => gm (v (s * L + i)) (M (s * L + i) j)) L = v (s * L + g) := by
    rw [xs_one (k := g) _ hg]
    · rw [h.loc g hg, if_pos ⟨h1, h2⟩, gm_one _ (v1 _)]
    · intro i hi ne
      rw [h.loc i hi, if_neg, gm_zero]
      rintro ⟨a1, a2⟩
      have hs : 0 < s := by omega
      have q1 : j / s = g := by
        rw [Nat.div_eq_iff hs]; constructor
        · rw [Nat.mul_comm]; omega
        · rw [Nat.mul_comm]; omega
      have q2 : j / s = i := by
        rw [Nat.div_eq_iff hs]; constructor
        · rw [Nat.mul_comm]; omega
        · rw [Nat.mul_comm]; omega
      exact ne (by omega)
  have e3 : xs (fun i => gm (v (s * L + (L + i))) (M (s * L + (L + i)) j)) G = xs (fun i => gm (v (s * L + L + i)) (gi ((s * L + i) ^^^ j))) G :=
    xs_congr G (fun i hi => by rw [← Nat.add_assoc, h.glo i hi j (by omega)])
  rw [e1, e2, e3] at h3
  exact xor_eq h3
/-- what is nought against b -/
theorem dot_lin (b : Nat → Nat) (c G : Nat) (hb : byteV b) : Lin (fun r => byteV r ∧ xs (fun i => gm (b i) (r (c + i))) G = 0) := by
  refine ⟨⟨fun _ => by show 0 < 256; decide, xs_nought G (fun i _ => gm_zero _)⟩, ?_⟩
  rintro a r u ha ⟨r1, r2⟩ ⟨u1, u2⟩
  refine ⟨addV_byte u1 ha, ?_⟩
  have e : xs (fun i => gm (b i) (addV u a r (c + i))) G = xs (fun i => gm (b i) (u (c + i)) ^^^ gm a (gm (b i) (r (c + i)))) G := xs_congr G (fun i _ => by
    show gm (b i) (u (c + i) ^^^ gm a (r (c + i))) = _
    rw [gm_add, ← gm_assoc (hb i) ha (r1 _), gm_comm (hb i) ha, gm_assoc ha (hb i) (r1 _)])
  rw [e, xs_xor, xs_gm, u2, r2, gm_zero]; rfl
/-- no check of inverses of sums alone is nought at as many places as it has terms -/
theorem inv_zeros (b u : Nat → Nat) (c G : Nat) (hb : byteV b) (Z : List Nat) (hZ : Z.Nodup) (hz : ∀ z ∈ Z, z < c) (hc : c + G < 256) (hu : ∀ i, i < G → u (c + i) < 256 ∧ u (c + i) ≠ 0)
    (h0 : ∀ z ∈ Z, xs (fun i => gm (b i) (gm (u (c + i)) (gi (z ^^^ (c + i))))) G = 0) (hw : 0 < cp (fun i => decide (b i ≠ 0)) G) : Z.length < cp (fun i => decide (b i ≠ 0)) G := by
  refine Nat.lt_of_not_le fun hle => ?_
  obtain ⟨X, hX⟩ : ∃ X, X = ((List.range G).filter (fun i => decide (b i ≠ 0))).map (c + ·) := ⟨_, rfl⟩
  have hXl : X.length = cp (fun i => decide (b i ≠ 0)) G := by rw [hX, List.length_map, cp_filter]
  have hXm : ∀ x, x ∈ X ↔ ∃ i, i < G ∧ b i ≠ 0 ∧ x = c + i := by
    intro x
    rw [hX, List.mem_map]
    constructor
    · rintro ⟨i, hi, rfl⟩
      obtain ⟨a1, a2⟩ := List.mem_filter.1 hi
      exact ⟨i, List.mem_range.1 a1, by simpa using a2, rfl⟩
    · rintro ⟨i, h1, h2, rfl⟩
      exact ⟨i, List.mem_filter.2 ⟨List.mem_range.2 h1, by simpa using h2⟩, rfl⟩
  have hXn : X.Nodup := by
    rw [hX]
    refine List.Pairwise.map _ (R := fun a b => a ≠ b) (fun a b h e => h (Nat.add_left_cancel e)) ?_
    exact List.Pairwise.filter _ List.nodup_range
  have hRb : ∀ r, (∃ z ∈ Z, r = cauV X u z) → byteV r := by
    rintro r ⟨z, hz', rfl⟩ j
    unfold cauV
    split
    · rename_i hj
      obtain ⟨i, h1, _, rfl⟩ := (hXm j).1 hj
      exact gm_lt _ (hu i h1).1
    · decide
  have hcau := cauchy (fun r => ∃ z ∈ Z, r = cauV X u z) hRb X Z u hXn hZ (by omega)
    (fun j hj => by obtain ⟨i, h1, _, rfl⟩ := (hXm j).1 hj; exact ⟨by omega, (hu i h1).1, (hu i h1).2⟩)
    (fun z hz' => ⟨by have := hz z hz'; omega, fun j hj => by obtain ⟨i, _, _, rfl⟩ := (hXm j).1 hj; have := hz z hz'; omega⟩)
    (fun z hz' => Span.mem (hRb _ ⟨z, hz', rfl⟩) ⟨z, hz', rfl⟩)
  have hne : ∃ i, i < G ∧ b i ≠ 0 := by
    cases hX' : X with
    | nil => rw [hX', List.length_nil] at hXl; omega
    | cons x X' =>
      obtain ⟨i, h1, h2, _⟩ := (hXm x).1 (by rw [hX']; exact List.mem_cons_self)
      exact ⟨i, h1, h2⟩
  obtain ⟨i, hi, hbi⟩ := hne
  have hsp := hcau (c + i) ((hXm _).2 ⟨i, hi, hbi, rfl⟩)
  have hd := span_lin (dot_lin b c G hb) (R := fun r => ∃ z ∈ Z, r = cauV X u z) (by
    rintro r ⟨z, hz', rfl⟩
    refine ⟨hRb _ ⟨z, hz', rfl⟩, ?_⟩
    rw [← h0 z hz']
    apply xs_congr
    intro k hk
    by_cases hbk : b k = 0
    · rw [hbk, zero_gm, zero_gm]
    · unfold cauV
      rw [if_pos ((hXm _).2 ⟨k, hk, hbk, rfl⟩)]) hsp
  have := hd.2
  rw [xs_one (k := i) G hi] at this
  · unfold unitV at this
    rw [if_pos rfl, gm_one _ (hb i)] at this
    exact hbi this
  · intro k _ ne
    unfold unitV
    rw [if_neg (by omega), gm_zero]
/-- the places of a group at which a check is nought are few -/
theorem Grp.zeros {M : Nat → Nat → Nat} {s L G : Nat} (h : Grp M s L G) {v : Nat → Nat} (hv : Dual M (s * L) (s * L + (L + G)) v) {g : Nat} (hg : g < L)
    (hne : v (s * L + g) ≠ 0 ∨ 0 < cp (fun i => decide (v (s * L + L + i) ≠ 0)) G) (Z : List Nat) (hZ : Z.Nodup) (hz : ∀ z ∈ Z, s * g ≤ z ∧ z < s * g + s ∧ v z = 0) :
    Z.length + (if v (s * L + g) = 0 then 1 else 0) ≤ cp (fun i => decide (v (s * L + L + i) ≠ 0)) G := by
  have hb := grp_bound (s := s) hg
  have hsm := h.small
  have v1 := hv.1
  have hat : ∀ z ∈ Z, v (s * L + g) = xs (fun i => gm (v (s * L + L + i)) (gi (z ^^^ (s * L + i)))) G := by
    intro z hz'
    obtain ⟨z1, z2, z3⟩ := hz z hz'
    have := h.at hv hg z1 z2
    rw [z3] at this
    rw [xor_eq this.symm]
    exact xs_congr G (fun i _ => by rw [Nat.xor_comm z])
  by_cases ha : v (s * L + g) = 0
  · rw [if_pos ha]
    have hw : 0 < cp (fun i => decide (v (s * L + L + i) ≠ 0)) G := hne.resolve_left (fun h => h ha)
    have := inv_zeros (fun i => v (s * L + L + i)) (fun _ => 1) (s * L) G (fun i => v1 _) Z hZ (fun z hz' => by have := hz z hz'; omega) hsm (fun _ _ => ⟨by decide, by decide⟩)
      (fun z hz' => by
        rw [← ha, hat z hz']
        apply xs_congr
        intro i hi
        have hx : z ^^^ (s * L + i) < 256 := xlt (by have := hz z hz'; omega) (by omega)
        rw [gm_comm (a := 1) (by decide) (gi_lt hx), gm_one _ (gi_lt hx)]) hw
    omega
  · rw [if_neg ha]
    cases Z with
    | nil => simp
    | cons z0 Z =>
      obtain ⟨hz0, hZ'⟩ := List.nodup_cons.1 hZ
      have z0s := hz z0 List.mem_cons_self
      by_cases hw : 0 < cp (fun i => decide (v (s * L + L + i) ≠ 0)) G
      · have hxl : ∀ z ∈ z0 :: Z, ∀ i, i < G → z ^^^ (s * L + i) < 256 ∧ z ^^^ (s * L + i) ≠ 0 := by
          intro z hz' i hi
          have := hz z hz'
          exact ⟨xlt (by omega) (by omega), xor_ne (by omega)⟩
        have := inv_zeros (fun i => v (s * L + L + i)) (fun x => gi (z0 ^^^ x)) (s * L) G (fun i => v1 _) Z hZ' (fun z hz' => by have := hz z (List.mem_cons_of_mem _ hz'); omega) hsm
          (fun i hi => ⟨gi_lt (hxl z0 List.mem_cons_self i hi).1, gi_ne (hxl z0 List.mem_cons_self i hi).1 (hxl z0 List.mem_cons_self i hi).2⟩)
          (fun z hz' => by
            have hzs := hz z (List.mem_cons_of_mem _ hz')
            have e0 := hat z0 List.mem_cons_self
            have e1 := hat z (List.mem_cons_of_mem _ hz')
            have hne' : z0 ^^^ z ≠ 0 := xor_ne (fun e => hz0 (e ▸ hz'))
            have hlt : z0 ^^^ z < 256 := xlt (by omega) (by omega)
            have e2 : xs (fun i => gm (v (s * L + L + i)) (gi (z0 ^^^ (s * L + i))) ^^^ gm (v (s * L + L + i)) (gi (z ^^^ (s * L + i)))) G = 0 := by rw [xs_xor, ← e0, ← e1, Nat.xor_self]
            have e3 : xs (fun i => gm (v (s * L + L + i)) (gi (z0 ^^^ (s * L + i))) ^^^ gm (v (s * L + L + i)) (gi (z ^^^ (s * L + i)))) G =
                xs (fun i => gm (z0 ^^^ z) (gm (v (s * L + L + i)) (gm (gi (z0 ^^^ (s * L + i))) (gi (z ^^^ (s * L + i)))))) G := xs_congr G (fun i hi => by
              obtain ⟨a1, a2⟩ := hxl z0 List.mem_cons_self i hi
              obtain ⟨b1, b2⟩ := hxl z (List.mem_cons_of_mem _ hz') i hi
              have hp : gm (gi (z0 ^^^ (s * L + i))) (gi (z ^^^ (s * L + i))) < 256 := gm_lt _ (gi_lt a1)
              rw [← gm_add, gi_add a1 b1 a2 b2, xor_cancel, ← gm_assoc (v1 _) hlt hp, gm_comm (v1 _) hlt, gm_assoc hlt (v1 _) hp])
            rw [e3, xs_gm] at e2
            have hyl : xs (fun i => gm (v (s * L + L + i)) (gm (gi (z0 ^^^ (s * L + i))) (gi (z ^^^ (s * L + i))))) G < 256 := xs_lt G (fun i _ => gm_lt _ (v1 _))
            refine Classical.byContradiction fun hy => ?_
            exact gm_ne hlt hyl hne' hy e2) hw
        simp only [List.length_cons]; omega
      · have hall : ∀ i, i < G → v (s * L + L + i) = 0 := by
          intro i hi
          have := cp_at (f := fun i => decide (v (s * L + L + i) ≠ 0)) G hi
          refine Classical.byContradiction fun hc => ?_
          rw [if_pos (decide_eq_true hc)] at this
          exact hw this
        exact absurd ((hat z0 List.mem_cons_self).trans (xs_nought G (fun i hi => by rw [hall i hi, zero_gm]))) ha
/-- a check that has a data shard or a local parity of a group has more shards than a group has data -/
theorem Grp.weight {M : Nat → Nat → Nat} {s L G : Nat} (h : Grp M s L G) {v : Nat → Nat} (hv : Dual M (s * L) (s * L + (L + G)) v) {g k : Nat} (hg : g < L) (hk : k = s * L + g ∨ s * g ≤ k ∧ k < s * g + s) (hvk : v k ≠ 0) :
    s + 1 ≤ cp (fun i => decide (v i ≠ 0)) (s * L + (L + G)) := by
  have hb := grp_bound (s := s) hg
  have hne : v (s * L + g) ≠ 0 ∨ 0 < cp (fun i => decide (v (s * L + L + i) ≠ 0)) G := by
    by_cases ha : v (s * L + g) = 0
    · right
      refine Nat.pos_of_ne_zero fun hw => ?_
      have hall : ∀ i, i < G → v (s * L + L + i) = 0 := by
        intro i hi
        have := cp_at (f := fun i => decide (v (s * L + L + i) ≠ 0)) G hi
        refine Classical.byContradiction fun hc => ?_
        rw [if_pos (decide_eq_true hc)] at this
        omega
      rcases hk with e | ⟨k1, k2⟩
      · exact hvk (by rw [e]; exact ha)
      · have := h.at hv hg k1 k2
        rw [ha, xs_nought G (fun i hi => by rw [hall i hi, zero_gm])] at this
        exact hvk this
    · exact .inl ha
  have hz := h.zeros hv hg hne (((List.range s).filter (fun i => !decide (v (s * g + i) ≠ 0))).map (s * g + ·))
    (List.Pairwise.map _ (R := fun a b => a ≠ b) (fun a b h e => h (Nat.add_left_cancel e)) (List.Pairwise.filter _ List.nodup_range))
    (fun z hz => by
      rw [List.mem_map] at hz
      obtain ⟨i, hi, rfl⟩ := hz
      obtain ⟨a1, a2⟩ := List.mem_filter.1 hi
      have := List.mem_range.1 a1
      exact ⟨by omega, by omega, by simpa using a2⟩)
  rw [List.length_map, cp_filter] at hz
  have hnot := cp_not (fun i => decide (v (s * g + i) ≠ 0)) s
  have c1 : cp (fun i => decide (v i ≠ 0)) (s * L + (L + G)) = cp (fun i => decide (v i ≠ 0)) (s * L) + (cp (fun i => decide (v (s * L + i) ≠ 0)) L + cp (fun i => decide (v (s * L + L + i) ≠ 0)) G) := by
    rw [cp_add, cp_add (fun i => decide (v (s * L + i) ≠ 0)) L G]
    simp only [Nat.add_assoc]
  have c2 : cp (fun i => decide (v (s * g + i) ≠ 0)) s ≤ cp (fun i => decide (v i ≠ 0)) (s * L) := by
    have e : s * L = s * g + s + (s * L - (s * g + s)) := by omega
    rw [e, cp_add, cp_add]; omega
  have c3 := cp_at (f := fun i => decide (v (s * L + i) ≠ 0)) L hg
  rw [c1]
  by_cases ha : v (s * L + g) = 0
  · rw [if_pos ha] at hz; omega
  · rw [if_neg ha] at hz
    rw [if_pos (decide_eq_true ha)] at c3
    omega
end Go.Proofs.YtbgiechfhfeaeabDoor.Gf
