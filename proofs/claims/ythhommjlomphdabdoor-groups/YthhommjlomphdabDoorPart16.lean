import Derived.Test.YthhommjlomphdabDoorPart09
import Derived.Test.YthhommjlomphdabDoorPart15
/-
  Local groups: a check that has a data shard or a local parity has as many shards as a group, and one more. Nothing of the program is imported here.
-/
namespace Go.Proofs.YthhommjlomphdabDoor.Gf

/-- how many of the first n -/
def cp (f : Nat → Bool) : Nat → Nat
  | 0 => 0
  | n + 1 => cp f n + (if f n = true then 1 else 0)
theorem cp_add (f : Nat → Bool) (a : Nat) : ∀ b, cp f (a + b) = cp f a + cp (fun i => f (a + i)) b
  | 0 => rfl
  | b + 1 => by show cp f (a + b) + (if f (a + b) = true then 1 else 0) = cp f a + (cp _ b + (if f (a + b) = true then 1 else 0)); rw [cp_add f a b, Nat.add_assoc]
theorem cp_filter (f : Nat → Bool) : ∀ n, ((List.range n).filter f).length = cp f n
  | 0 => rfl
  | n + 1 => by
    rw [List.range_succ, List.filter_append, List.length_append, cp_filter f n]
    show _ = cp f n + _
    congr 1
    by_cases h : f n = true
    · simp [h]
    · simp [h]
theorem cp_congr {f g : Nat → Bool} : ∀ n, (∀ i, i < n → f i = g i) → cp f n = cp g n
  | 0, _ => rfl
  | n + 1, h => by show cp f n + _ = cp g n + _; rw [cp_congr n (fun i hi => h i (by omega)), h n (by omega)]
theorem cp_at {f : Nat → Bool} {k : Nat} : ∀ n, k < n → (if f k = true then 1 else 0) ≤ cp f n
  | 0, h => absurd h (by omega)
  | n + 1, h => by
    show _ ≤ cp f n + _
    by_cases e : k = n
    · subst e; omega
    · have := cp_at (f := f) (k := k) n (by omega); omega
theorem cp_not (f : Nat → Bool) : ∀ n, cp f n + cp (fun i => !f i) n = n
  | 0 => rfl
  | n + 1 => by
    have := cp_not f n
    show (cp f n + (if f n = true then 1 else 0)) + (cp (fun i => !f i) n + (if (!f n) = true then 1 else 0)) = n + 1
    cases h : f n <;> simp <;> omega
theorem cp_le (f : Nat → Bool) (n : Nat) : cp f n ≤ n := by have := cp_not f n; omega
/-- without one of them -/
theorem cp_but {f : Nat → Bool} {k : Nat} (hk : f k = true) : ∀ n, k < n → cp (fun i => decide (i ≠ k) && f i) n + 1 = cp f n
  | 0, h => absurd h (by omega)
  | n + 1, h => by
    show cp _ n + (if (decide (n ≠ k) && f n) = true then 1 else 0) + 1 = cp f n + (if f n = true then 1 else 0)
    by_cases e : k = n
    · subst e
      have : cp (fun i => decide (i ≠ k) && f i) k = cp f k := cp_congr k (fun i hi => by simp [show i ≠ k by omega])
      rw [this]; simp [hk]
    · have := cp_but (f := f) hk n (by omega)
      have e2 : (decide (n ≠ k) && f n) = f n := by simp [show n ≠ k by omega]
      rw [e2]; omega

/-- the shards of such a code: groups of s data shards each, their local parities, global ones -/
structure Grp (M : Nat → Nat → Nat) (s L G : Nat) : Prop where
  code : Code M (s * L) (L + G)
  loc : ∀ g, g < L → ∀ j, M (s * L + g) j = if s * g ≤ j ∧ j < s * g + s then 1 else 0
  glo : ∀ i, i < G → ∀ j, j < s * L → M (s * L + L + i) j = gi ((s * L + i) ^^^ j)
  small : s * L + G < 256
theorem grp_bound {s L g : Nat} (hg : g < L) : s * g + s ≤ s * L := by
  have := Nat.mul_le_mul_left s hg
  rw [Nat.mul_succ] at this; exact this
/-- a number of a check, at a data shard -/
theorem Grp.at {M : Nat → Nat → Nat} {s L G : Nat} (h : Grp M s L G) {v : Nat → Nat} (hv : Dual M (s * L) (s * L + (L + G)) v) {g j : Nat} (hg : g < L) (h1 : s * g ≤ j) (h2 : j < s * g + s) :
    v j = v (s * L + g) ^^^ xs (fun i => gm (v (s * L + L + i)) (gi ((s * L + i) ^^^ j))) G := by
  have hb := grp_bound (s := s) hg
  obtain ⟨v1, v2, v3⟩ := hv
  have h3 := v3 j (by omega)
  rw [xs_add, xs_add (fun i => gm (v (s * L + i)) (M (s * L + i) j)) L G] at h3
  have e1 : xs (fun i => gm (v i) (M i j)) (s * L) = v j := by
    rw [xs_one (k := j) _ (by omega)]
    · rw [h.code.unit j (by omega), if_pos rfl, gm_one _ (v1 j)]
    · intro i hi ne; rw [h.code.unit i hi, if_neg (Ne.symm ne), gm_zero]
  have e2 : xs (fun i => gm (v (s * L + i)) (M (s * L + i) j)) L = v (s * L + g) := by
    rw [xs_one (k := g) _ hg]
    · rw [h.loc g hg, if_pos ⟨h1, h2⟩, gm_one _ (v1 _)]
    · intro i hi ne
      rw [h.loc i hi, if_neg, gm_zero]
      rintro ⟨a1, a2⟩
      have hs : 0 < s := by omega
      have q1 : j / s = g := by
        rw [Nat.div_eq_iff hs]; constructor
        · rw [Nat.mul_comm]; omega
        · rw [Nat.mul_comm]; omega
      have q2 : j / s = i := by
        rw [Nat.div_eq_iff hs]; constructor
        · rw [Nat.mul_comm]; omega
        · rw [Nat.mul_comm]; omega
      exact ne (by omega)
  have e3 : xs (fun i => gm (v (s * L + (L + i))) (M (s * L + (L + i)) j)) G = xs (fun i => gm (v (s * L + L + i)) (gi ((s * L + i) ^^^ j))) G :=
    xs_congr G (fun i hi => by rw [← Nat.add_assoc, h.glo i hi j (by omega)])
  rw [e1, e2, e3] at h3
  exact xor_eq h3
/-- what is nought against b -/
theorem dot_lin (b : Nat → Nat) (c G : Nat) (hb : byteV b) : Lin (fun r => byteV r ∧ xs (fun i => gm (b i) (r (c + i))) G = 0) := by
  refine ⟨⟨fun _ => by show 0 < 256; decide, xs_nought G (fun i _ => gm_zero _)⟩, ?_⟩
  rintro a r u ha ⟨r1, r2⟩ ⟨u1, u2⟩
  refine ⟨addV_byte u1 ha, ?_⟩
  have e : xs (fun i => gm (b i) (addV u a r (c + i))) G = xs (fun i => gm (b i) (u (c + i)) ^^^ gm a (gm (b i) (r (c + i)))) G := xs_congr G (fun i _ => by
    show gm (b i) (u (c + i) ^^^ gm a (r (c + i))) = _
    rw [gm_add, ← gm_assoc (hb i) ha (r1 _), gm_comm (hb i) ha, gm_assoc ha (hb i) (r1 _)])
  rw [e, xs_xor, xs_gm, u2, r2, gm_zero]; rfl
/-- no check of inverses of sums alone is nought at as many places as it has terms -/
theorem inv_zeros (b u : Nat → Nat) (c G : Nat) (hb : byteV b) (Z : List Nat) (hZ : Z.Nodup) (hz : ∀ z ∈ Z, z < c) (hc : c + G < 256) (hu : ∀ i, i < G → u (c + i) < 256 ∧ u (c + i) ≠ 0)
    (h0 : ∀ z ∈ Z, xs (fun i => gm (b i) (gm (u (c + i)) (gi (z ^^^ (c + i))))) G = 0) (hw : 0 < cp (fun i => decide (b i ≠ 0)) G) : Z.length < cp (fun i => decide (b i ≠ 0)) G := by
  refine Nat.lt_of_not_le fun hle => ?_
  obtain ⟨X, hX⟩ : ∃ X, X = ((List.range G).filter (fun i => decide (b i ≠ 0))).map (c + ·) := ⟨_, rfl⟩
  have hXl : X.length = cp (fun i => decide (b i ≠ 0)) G := by rw [hX, List.length_map, cp_filter]
  have hXm : ∀ x, x ∈ X ↔ ∃ i, i < G ∧ b i ≠ 0 ∧ x = c + i := by
    intro x
    rw [hX, List.mem_map]
    constructor
    · rintro ⟨i, hi, rfl⟩
      obtain ⟨a1, a2⟩ := List.mem_filter.1 hi
      exact ⟨i, List.mem_range.1 a1, by simpa using a2, rfl⟩
    · rintro ⟨i, h1, h2, rfl⟩
      exact ⟨i, List.mem_filter.2 ⟨List.mem_range.2 h1, by simpa using h2⟩, rfl⟩
  have hXn : X.Nodup := by
    rw [hX]
    refine List.Pairwise.map _ (R := fun a b => a ≠ b) (fun a b h e => h (Nat.add_left_cancel e)) ?_
    exact List.Pairwise.filter _ List.nodup_range
  have hRb : ∀ r, (∃ z ∈ Z, r = cauV X u z) → byteV r := by
    rintro r ⟨z, hz', rfl⟩ j
    unfold cauV
    split
    · rename_i hj
      obtain ⟨i, h1, _, rfl⟩ := (hXm j).1 hj
      exact gm_lt _ (hu i h1).1
    · decide
  have hcau := cauchy (fun r => ∃ z ∈ Z, r = cauV X u z) hRb X Z u hXn hZ (by omega)
    (fun j hj => by obtain ⟨i, h1, _, rfl⟩ := (hXm j).1 hj; exact ⟨by omega, (hu i h1).1, (hu i h1).2⟩)
    (fun z hz' => ⟨by have := hz z hz'; omega, fun j hj => by obtain ⟨i, _, _, rfl⟩ := (hXm j).1 hj; have := hz z hz'; omega⟩)
    (fun z hz' => Span.mem (hRb _ ⟨z, hz', rfl⟩) ⟨z, hz', rfl⟩)
  have hne : ∃ i, i < G ∧ b i ≠ 0 := by
    cases hX' : X with
    | nil => rw [hX', List.length_nil] at hXl; omega
    | cons x X' =>
      obtain ⟨i, h1, h2, _⟩ := (hXm x).1 (by rw [hX']; exact List.mem_cons_self)
      exact ⟨i, h1, h2⟩
  obtain ⟨i, hi, hbi⟩ := hne
  have hsp := hcau (c + i) ((hXm _).2 ⟨i, hi, hbi, rfl⟩)
  have hd := span_lin (dot_lin b c G hb) (R := fun r => ∃ z ∈ Z, r = cauV X u z) (by
    rintro r ⟨z, hz', rfl⟩
    refine ⟨hRb _ ⟨z, hz', rfl⟩, ?_⟩
    rw [← h0 z hz']
    apply xs_congr
    intro k hk
    by_cases hbk : b k = 0
    · rw [hbk, zero_gm, zero_gm]
    · unfold cauV
      rw [if_pos ((hXm _).2 ⟨k, hk, hbk, rfl⟩)]) hsp
  have := hd.2
  rw [xs_one (k := i) G hi] at this
  · unfold unitV at this
    rw [if_pos rfl, gm_one _ (hb i)] at this
    exact hbi this
  · intro k _ ne
    unfold unitV
    rw [if_neg (by omega), gm_zero]
/-- the places of a group at which a check is nought are few -/
theorem Grp.zeros {M : Nat → Nat → Nat} {s L G : Nat} (h : Grp M s L G) {v : Nat → Nat} (hv : Dual M (s * L) (s * L + (L + G)) v) {g : Nat} (hg : g < L)
    (hne : v (s * L + g) ≠ 0 ∨ 0 < cp (fun i => decide (v (s * L + L + i) ≠ 0)) G) (Z : List Nat) (hZ : Z.Nodup) (hz : ∀ z ∈ Z, s * g ≤ z ∧ z < s * g + s ∧ v z = 0) :
    Z.length + (if v (s * L + g) = 0 then 1 else 0) ≤ cp (fun i => decide (v (s * L + L + i) ≠ 0)) G := by
  have hb := grp_bound (s := s) hg
  have hsm := h.small
  have v1 := hv.1
  have hat : ∀ z ∈ Z, v (s * L + g) = xs (fun i => gm (v (s * L + L + i)) (gi (z ^^^ (s * L + i)))) G := by
    intro z hz'
    obtain ⟨z1, z2, z3⟩ := hz z hz'
    have := h.at hv hg z1 z2
    rw [z3] at this
    rw [xor_eq this.symm]
    exact xs_congr G (fun i _ => by rw [Nat.xor_comm z])
  by_cases ha : v (s * L + g) = 0
  · rw [if_pos ha]
    have hw : 0 < cp (fun i => decide (v (s * L + L + i) ≠ 0)) G := hne.resolve_left (fun h => h ha)
    have := inv_zeros (fun i => v (s * L + L + i)) (fun _ => 1) (s * L) G (fun i => v1 _) Z hZ (fun z hz' => by have := hz z hz'; omega) hsm (fun _ _ => ⟨by decide, by decide⟩)
      (fun z hz' => by
        rw [← ha, hat z hz']
        apply xs_congr
        intro i hi
        have hx : z ^^^ (s * L + i) < 256 := xlt (by have := hz z hz'; omega) (by omega)
        rw [gm_comm (a := 1) (by decide) (gi_lt hx), gm_one _ (gi_lt hx)]) hw
    omega
  · rw [if_neg ha]
    cases Z with
    | nil => simp
    | cons z0 Z =>
      obtain ⟨hz0, hZ'⟩ := List.nodup_cons.1 hZ
      have z0s := hz z0 List.mem_cons_self
      by_cases hw : 0 < cp (fun i => decide (v (s * L + L + i) ≠ 0)) G
      · have hxl : ∀ z ∈ z0 :: Z, ∀ i, i < G → z ^^^ (s * L + i) < 256 ∧ z ^^^ (s * L + i) ≠ 0 := by
          intro z hz' i hi
          have := hz z hz'
          exact ⟨xlt (by omega) (by omega), xor_ne (by omega)⟩
        have := inv_zeros (fun i => v (s * L + L + i)) (fun x => gi (z0 ^^^ x)) (s * L) G (fun i => v1 _) Z hZ' (fun z hz' => by have := hz z (List.mem_cons_of_mem _ hz'); omega) hsm
          (fun i hi => ⟨gi_lt (hxl z0 List.mem_cons_self i hi).1, gi_ne (hxl z0 List.mem_cons_self i hi).1 (hxl z0 List.mem_cons_self i hi).2⟩)
          (fun z hz' => by
            have hzs := hz z (List.mem_cons_of_mem _ hz')
            have e0 := hat z0 List.mem_cons_self
            have e1 := hat z (List.mem_cons_of_mem _ hz')
            have hne' : z0 ^^^ z ≠ 0 := xor_ne (fun e => hz0 (e ▸ hz'))
            have hlt : z0 ^^^ z < 256 := xlt (by omega) (by omega)
            have e2 : xs (fun i => gm (v (s * L + L + i)) (gi (z0 ^^^ (s * L + i))) ^^^ gm (v (s * L + L + i)) (gi (z ^^^ (s * L + i)))) G = 0 := by rw [xs_xor, ← e0, ← e1, Nat.xor_self]
            have e3 : xs (fun i => gm (v (s * L + L + i)) (gi (z0 ^^^ (s * L + i))) ^^^ gm (v (s * L + L + i)) (gi (z ^^^ (s * L + i)))) G =
                xs (fun i => gm (z0 ^^^ z) (gm (v (s * L + L + i)) (gm (gi (z0 ^^^ (s * L + i))) (gi (z ^^^ (s * L + i)))))) G := xs_congr G (fun i hi => by
              obtain ⟨a1, a2⟩ := hxl z0 List.mem_cons_self i hi
              obtain ⟨b1, b2⟩ := hxl z (List.mem_cons_of_mem _ hz') i hi
              have hp : gm (gi (z0 ^^^ (s * L + i))) (gi (z ^^^ (s * L + i))) < 256 := gm_lt _ (gi_lt a1)
              rw [← gm_add, gi_add a1 b1 a2 b2, xor_cancel, ← gm_assoc (v1 _) hlt hp, gm_comm (v1 _) hlt, gm_assoc hlt (v1 _) hp])
            rw [e3, xs_gm] at e2
            have hyl : xs (fun i => gm (v (s * L + L + i)) (gm (gi (z0 ^^^ (s * L + i))) (gi (z ^^^ (s * L + i))))) G < 256 := xs_lt G (fun i _ => gm_lt _ (v1 _))
            refine Classical.byContradiction fun hy => ?_
            exact gm_ne hlt hyl hne' hy e2) hw
        simp only [List.length_cons]; omega
      · have hall : ∀ i, i < G → v (s * L + L + i) = 0 := by
          intro i hi
          have := cp_at (f := fun i => decide (v (s * L + L + i) ≠ 0)) G hi
          refine Classical.byContradiction fun hc => ?_
          rw [if_pos (decide_eq_true hc)] at this
          exact hw this
        exact absurd ((hat z0 List.mem_cons_self).trans (xs_nought G (fun i hi => by rw [hall i hi, zero_gm]))) ha
/-- a check that has a data shard or a local parity of a group has more shards than a group has data -/
theorem Grp.weight {M : Nat → Nat → Nat} {s L G : Nat} (h : Grp M s L G) {v : Nat → Nat} (hv : Dual M (s * L) (s * L + (L + G)) v) {g k : Nat} (hg : g < L) (hk : k = s * L + g ∨ s * g ≤ k ∧ k < s * g + s) (hvk : v k ≠ 0) :
    s + 1 ≤ cp (fun i => decide (v i ≠ 0)) (s * L + (L + G)) := by
  have hb := grp_bound (s := s) hg
  have hne : v (s * L + g) ≠ 0 ∨ 0 < cp (fun i => decide (v (s * L + L + i) ≠ 0)) G := by
    by_cases ha : v (s * L + g) = 0
    · right
      refine Nat.pos_of_ne_zero fun hw => ?_
      have hall : ∀ i, i < G → v (s * L + L + i) = 0 := by
        intro i hi
        have := cp_at (f := fun i => decide (v (s * L + L + i) ≠ 0)) G hi
        refine Classical.byContradiction fun hc => ?_
        rw [if_pos (decide_eq_true hc)] at this
        omega
      rcases hk with e | ⟨k1, k2⟩
      · exact hvk (by rw [e]; exact ha)
      · have := h.at hv hg k1 k2
        rw [ha, xs_nought G (fun i hi => by rw [hall i hi, zero_gm])] at this
        exact hvk this
    · exact .inl ha
  have hz := h.zeros hv hg hne (((List.range s).filter (fun i => !decide (v (s * g + i) ≠ 0))).map (s * g + ·))
    (List.Pairwise.map _ (R := fun a b => a ≠ b) (fun a b h e => h (Nat.add_left_cancel e)) (List.Pairwise.filter _ List.nodup_range))
    (fun z hz => by
      rw [List.mem_map] at hz
      obtain ⟨i, hi, rfl⟩ := hz
      obtain ⟨a1, a2⟩ := List.mem_filter.1 hi
      have := List.mem_range.1 a1
      exact ⟨by omega, by omega, by simpa using a2⟩)
  rw [List.length_map, cp_filter] at hz
  have hnot := cp_not (fun i => decide (v (s * g + i) ≠ 0)) s
  have c1 : cp (fun i => decide (v i ≠ 0)) (s * L + (L + G)) = cp (fun i => decide (v i ≠ 0)) (s * L) + (cp (fun i => decide (v (s * L + i) ≠ 0)) L + cp (fun i => decide (v (s * L + L + i) ≠ 0)) G) := by
    rw [cp_add, cp_add (fun i => decide (v (s * L + i) ≠ 0)) L G]
    simp only [Nat.add_assoc]
  have c2 : cp (fun i => decide (v (s * g + i) ≠ 0)) s ≤ cp (fun i => decide (v i ≠ 0)) (s * L) := by
    have e : s * L = s * g + s + (s * L - (s * g + s)) := by omega
    rw [e, cp_add, cp_add]; omega
  have c3 := cp_at (f := fun i => decide (v (s * L + i) ≠ 0)) L hg
  rw [c1]
  by_cases ha : v (s * L + g) = 0
  · rw [if_pos ha] at hz; omega
  · rw [if_neg ha] at hz
    rw [if_pos (decide_eq_true ha)] at c3
    omega
end Go.Proofs.YthhommjlomphdabDoor.Gf
/-
  One shard that is lost: how many are loaded.
-/
namespace Go.Proofs.YthhommjlomphdabDoor
open Go.RowKit Go.Deep Gf

theorem cp_sub {f g : Nat → Bool} : ∀ n, (∀ i, i < n → f i = true → g i = true) → cp f n ≤ cp g n
  | 0, _ => Nat.le_refl _
  | n + 1, h => by
    show cp f n + (if f n = true then 1 else 0) ≤ cp g n + (if g n = true then 1 else 0)
    have := cp_sub (f := f) (g := g) n (fun i hi => h i (by omega))
    by_cases hf : f n = true
    · rw [if_pos hf, if_pos (h n (by omega) hf)]; omega
    · rw [if_neg hf]; omega
theorem cp_more (f : Nat → Bool) {n m : Nat} (h : n ≤ m) : cp f n ≤ cp f m := by
  obtain ⟨d, rfl⟩ := Nat.exists_eq_add_of_le h
  rw [cp_add]; omega
theorem cp_or (f g : Nat → Bool) : ∀ n, cp (fun i => f i || g i) n ≤ cp f n + cp g n
  | 0 => Nat.le_refl _
  | n + 1 => by
    show cp _ n + (if (f n || g n) = true then 1 else 0) ≤ cp f n + (if f n = true then 1 else 0) + (cp g n + (if g n = true then 1 else 0))
    have := cp_or f g n
    cases f n <;> cases g n <;> simp <;> omega
theorem cp_span (a s : Nat) : ∀ n, cp (fun i => decide (a ≤ i ∧ i < a + s)) n ≤ min n (a + s) - min n a
  | 0 => Nat.zero_le _
  | n + 1 => by
    show cp _ n + (if decide (a ≤ n ∧ n < a + s) = true then 1 else 0) ≤ _
    have := cp_span a s n
    by_cases h : a ≤ n ∧ n < a + s
    · rw [if_pos (decide_eq_true h)]; omega
    · rw [if_neg (by simpa using h)]; omega
theorem cp_one (c : Nat) : ∀ n, cp (fun i => decide (i = c)) n ≤ 1 ∧ (n ≤ c → cp (fun i => decide (i = c)) n = 0)
  | 0 => ⟨Nat.zero_le _, fun _ => rfl⟩
  | n + 1 => by
    obtain ⟨h1, h2⟩ := cp_one c n
    show cp _ n + (if decide (n = c) = true then 1 else 0) ≤ 1 ∧ (_ → cp _ n + (if decide (n = c) = true then 1 else 0) = 0)
    by_cases h : n = c
    · rw [if_pos (decide_eq_true h), h2 (by omega)]
      exact ⟨Nat.le_refl _, fun h' => absurd h' (by omega)⟩
    · rw [if_neg (by simpa using h)]
      exact ⟨by omega, fun h' => by rw [h2 (by omega)]⟩
theorem one_mem : ∀ k, k < 16 → (List.range 16).filter (fun i => decide (i = k)) = [k] := by decide
theorem gone_one {n k : Nat} (hk : k < n) (hn : n ≤ 16) : mems (goneN n (2 ^ k)) = [k] := by
  unfold mems
  rw [← one_mem k (by omega)]
  apply List.filter_congr
  intro i _
  rw [goneN_bit, Nat.testBit_two_pow]
  by_cases e : k = i
  · subst e; simp [hk]
  · have : ¬ i = k := fun h => e h.symm
    simp [e, this]
theorem mems_cp (s : Nat) (f : Nat → Bool) : ((mems s).filter f).length = cp (fun i => s.testBit i && f i) 16 := by
  unfold mems
  rw [List.filter_filter, cp_filter]
  exact cp_congr 16 (fun i _ => by rw [Bool.and_comm])
theorem mf_local {D L G g : Nat} (hg : g < L) (j : Nat) (hj : j < D) : mf (matL D L G) (D + g) j = if g * (D / L) ≤ j ∧ j < (g + 1) * (D / L) then 1 else 0 := by
  unfold mf matL
  have e : ((List.range D).map (dataL D) ++ (List.range L).map (localL D L) ++ (List.range G).map (globalL D)).getD (D + g) [] = localL D L g := by
    rw [List.append_assoc, List.getD_eq_getElem?_getD, List.getElem?_append_right (by simp)]
    simp only [List.length_map, List.length_range, Nat.add_sub_cancel_left]
    rw [List.getElem?_append_left (by simpa using hg)]
    simp [hg]
  rw [e]
  unfold localL
  simp [hj]
theorem mf_global {D L G i : Nat} (hi : i < G) (j : Nat) (hj : j < D) : mf (matL D L G) (D + L + i) j = gi ((D + i) ^^^ j) := by
  unfold mf matL
  have e : ((List.range D).map (dataL D) ++ (List.range L).map (localL D L) ++ (List.range G).map (globalL D)).getD (D + L + i) [] = globalL D i := by
    rw [List.getD_eq_getElem?_getD, List.getElem?_append_right (by simp)]
    simp only [List.length_append, List.length_map, List.length_range, Nat.add_sub_cancel_left]
    simp [hi]
  rw [e]
  unfold globalL
  simp [hj]
theorem mat_grp {D L G : Nat} (hD : D ≤ 12) (hG : G ≤ 4) (hdiv : D % L = 0) : Grp (mf (matL D L G)) (D / L) L G := by
  have hDL : D / L * L = D := Nat.div_mul_cancel (Nat.dvd_of_mod_eq_zero hdiv)
  have hc := mat_code D L G hD hG
  refine ⟨by rw [hDL]; exact hc, fun g hg j => ?_, fun i hi j hj => ?_, by rw [hDL]; omega⟩
  · rw [hDL]
    by_cases hj : j < D
    · rw [mf_local hg j hj, Nat.add_mul, Nat.one_mul, Nat.mul_comm g]
    · rw [hc.nought _ j (by omega), if_neg]
      have := grp_bound (s := D / L) hg
      rw [hDL] at this
      omega
  · rw [hDL] at hj ⊢
    exact mf_global hi j hj
/-- the checks of a shard -/
theorem ck_at {D L G g : Nat} (hg : g < L + G) (j : Nat) : (cks D L G).m g j = if j < D then mf (matL D L G) (D + g) j else if j = D + g then 1 else 0 := by
  show (if g < L + G then _ else _) = _
  rw [if_pos hg]
/-- one lost shard can be told -/
theorem tell_one {D L G k : Nat} (hdiv : D % L = 0) (hk : k < D + L + G) : ∃ C, tells (cks D L G) [k] = some C := by
  have hDL : D / L * L = D := Nat.div_mul_cancel (Nat.dvd_of_mod_eq_zero hdiv)
  have hne : ∃ r, r < L + G ∧ (cks D L G).m r k ≠ 0 := by
    by_cases hkD : k < D
    · have hs : 0 < D / L := Nat.pos_of_ne_zero fun e => by rw [e] at hDL; omega
      have hg : k / (D / L) < L := by rw [Nat.div_lt_iff_lt_mul hs, Nat.mul_comm]; omega
      refine ⟨k / (D / L), by omega, ?_⟩
      rw [ck_at (by omega), if_pos hkD, mf_local hg k hkD, if_pos]
      · decide
      · have h1 := Nat.div_add_mod k (D / L)
        have h2 := Nat.mod_lt k hs
        rw [Nat.mul_comm] at h1
        rw [Nat.add_mul, Nat.one_mul]
        omega
    · refine ⟨k - D, by omega, ?_⟩
      rw [ck_at (by omega), if_neg hkD, if_pos (by omega)]
      decide
  obtain ⟨r, hr, hrk⟩ := hne
  have e : tells (cks D L G) [k] = tell (cks D L G) k := rfl
  rw [e]
  unfold tell
  cases hs : spareAt (cks D L G) k with
  | some r' => exact ⟨_, rfl⟩
  | none =>
    exfalso
    unfold spareAt at hs
    rw [List.find?_eq_none] at hs
    have := hs r (List.mem_range.2 hr)
    apply this
    have : (cks D L G).told ≤ r := Nat.zero_le _
    simp [this, hrk]
/-- how many are loaded -/
def cntOf (D L G lost : Nat) (C : Ck) : Nat := cntR (mems (keptN (D + L + G) lost)) (fewestS 8 C (keptN (D + L + G) lost)).1
theorem cntOf_le {D L G lost : Nat} (hD : D ≤ 12) (hL : L ≤ 4) (hG : G ≤ 4) (h16 : D + L + G ≤ 16) {C : Ck} (hC : tells (cks D L G) (mems (goneN (D + L + G) lost)) = some C) (Q : Nat → Bool) (hQ : ∀ i ∈ mems (goneN (D + L + G) lost), Q i = false)
    (hs : ∀ i ∈ mems (goneN (D + L + G) lost), Span (Sel (mf (matL D L G)) (D + L + G) (fun i => Q i = true)) (mf (matL D L G) i)) : cntOf D L G lost C ≤ ((mems (keptN (D + L + G) lost)).filter Q).length := by
  have hc := mat_code D L G hD hG
  obtain ⟨_, ht⟩ := plan_of hD hG hC
  have e : D + (L + G) = D + L + G := by omega
  have htgt := hc.tgt (mems_nodup _) (fun i hi => by rw [e]; exact ((mem_gone h16).1 hi).1) ht (fun i => Q i = true) (fun i hi hq => by rw [hQ i hi] at hq; cases hq) (fun i hi => by rw [e]; exact hs i hi)
  have hfit := cks_fit hD hL hG hC
  have := fewest_opt 8 C (keptN (D + L + G) lost) (fun j => j ∉ mems (goneN (D + L + G) lost) ∧ ¬ Q j = true) hfit.byt (by have := hfit.most; omega) htgt
  refine Nat.le_trans this (Nat.le_of_eq ?_)
  congr 1
  apply List.filter_congr
  intro j hj
  have hjg : j ∉ mems (goneN (D + L + G) lost) := fun h => by
    have h1 := ((mem_gone h16).1 h).2
    rw [((mem_kept h16).1 hj).2] at h1
    cases h1
  cases hq : Q j
  · simp [hjg]
  · simp [hjg]
theorem groups_global {D L G k : Nat} (hD : D ≤ 12) (hL : L ≤ 4) (hG : G ≤ 4) (h16 : D + L + G ≤ 16) (hk : k < D + L + G) (hkD : D + L ≤ k) {C : Ck} (hC : tells (cks D L G) [k] = some C) : cntOf D L G (2 ^ k) C ≤ D := by
  have hc := mat_code D L G hD hG
  have hg := gone_one hk h16
  have e : D + (L + G) = D + L + G := by omega
  rw [← hg] at hC
  refine Nat.le_trans (cntOf_le hD hL hG h16 hC (fun i => decide (i < D)) (fun i hi => ?_) (fun i hi => ?_)) ?_
  · rw [hg, List.mem_singleton] at hi; subst hi; exact decide_eq_false (by omega)
  · rw [hg, List.mem_singleton] at hi
    subst hi
    have hd := ck0_dual (P := L + G) hc.byt hc.unit (i - D) (by omega)
    rw [e] at hd
    have hat : ∀ j, (ck0 (mf (matL D L G)) D (L + G)).m (i - D) j = if j < D then mf (matL D L G) (D + (i - D)) j else if j = D + (i - D) then 1 else 0 := fun j => ck_at (by omega) j
    refine span_of_dual hc.byt hc.nought hk hd (by rw [hat, if_neg (by omega), if_pos (by omega)]) (fun j _ hj hne => ?_)
    rw [hat] at hne
    by_cases hjD : j < D
    · exact decide_eq_true hjD
    · rw [if_neg hjD, if_neg (by omega)] at hne
      exact absurd rfl hne
  · rw [mems_cp]
    refine Nat.le_trans (cp_sub 16 (g := fun i => decide (0 ≤ i ∧ i < 0 + D)) (fun i _ h => ?_)) (Nat.le_trans (cp_span 0 D 16) (by omega))
    simp at h ⊢
    exact h.2
theorem groups_local {D L G k g : Nat} (hD1 : 1 ≤ D) (hD : D ≤ 12) (hL : L ≤ 4) (hG : G ≤ 4) (hdiv : D % L = 0) (h16 : D + L + G ≤ 16) (hgL : g < L) (hk : k = D + g ∨ D / L * g ≤ k ∧ k < D / L * g + D / L) {C : Ck} (hC : tells (cks D L G) [k] = some C) : cntOf D L G (2 ^ k) C = D / L := by
  have hDL : D / L * L = D := Nat.div_mul_cancel (Nat.dvd_of_mod_eq_zero hdiv)
  have hgb := grp_bound (s := D / L) hgL
  rw [hDL] at hgb
  have hkn : k < D + L + G := by omega
  have hc := mat_code D L G hD hG
  have hgr := mat_grp (G := G) hD hG hdiv
  have hg := gone_one hkn h16
  have e : D + (L + G) = D + L + G := by omega
  rw [← hg] at hC
  have hs0 : 0 < D / L := Nat.pos_of_ne_zero fun e => by rw [e] at hDL; omega
  apply Nat.le_antisymm
  · refine Nat.le_trans (cntOf_le hD hL hG h16 hC (fun i => decide (i ≠ k) && (decide (D / L * g ≤ i ∧ i < D / L * g + D / L) || decide (i = D + g))) (fun i hi => ?_) (fun i hi => ?_)) ?_
    · rw [hg, List.mem_singleton] at hi; subst hi; simp
    · rw [hg, List.mem_singleton] at hi
      subst hi
      have hd := ck0_dual (P := L + G) hc.byt hc.unit g (by omega)
      rw [e] at hd
      have hat : ∀ j, (ck0 (mf (matL D L G)) D (L + G)).m g j = if j < D then (if D / L * g ≤ j ∧ j < D / L * g + D / L then 1 else 0) else if j = D + g then 1 else 0 := fun j => by
        rw [show (ck0 (mf (matL D L G)) D (L + G)).m g j = (cks D L G).m g j from rfl, ck_at (by omega)]
        by_cases hj : j < D
        · rw [if_pos hj, if_pos hj, mf_local hgL j hj, Nat.add_mul, Nat.one_mul, Nat.mul_comm g]
        · rw [if_neg hj, if_neg hj]
      refine span_of_dual hc.byt hc.nought hkn hd ?_ (fun j _ hj hne => ?_)
      · rw [hat]
        rcases hk with rfl | hk
        · rw [if_neg (by omega), if_pos rfl]
        · rw [if_pos (by omega), if_pos hk]
      · rw [hat] at hne
        by_cases hjD : j < D
        · rw [if_pos hjD] at hne
          by_cases hjg : D / L * g ≤ j ∧ j < D / L * g + D / L
          · simp [hj, hjg]
          · rw [if_neg hjg] at hne; exact absurd rfl hne
        · rw [if_neg hjD] at hne
          by_cases hjg : j = D + g
          · subst hjg; simp [hj]
          · rw [if_neg hjg] at hne; exact absurd rfl hne
    · rw [mems_cp]
      have h1 := cp_but (f := fun i => decide (D / L * g ≤ i ∧ i < D / L * g + D / L) || decide (i = D + g)) (k := k) (by
        rcases hk with rfl | hk
        · simp
        · simp [hk]) 16 (by omega)
      have h2 := cp_or (fun i => decide (D / L * g ≤ i ∧ i < D / L * g + D / L)) (fun i => decide (i = D + g)) 16
      have h3 := cp_span (D / L * g) (D / L) 16
      have h4 := (cp_one (D + g) 16).1
      have h5 : cp (fun i => (keptN (D + L + G) (2 ^ k)).testBit i && (decide (i ≠ k) && (decide (D / L * g ≤ i ∧ i < D / L * g + D / L) || decide (i = D + g)))) 16 ≤ cp (fun i => decide (i ≠ k) && (decide (D / L * g ≤ i ∧ i < D / L * g + D / L) || decide (i = D + g))) 16 :=
        cp_sub 16 (fun i _ h => by rw [Bool.and_eq_true] at h; exact h.2)
      refine Nat.le_trans h5 ?_
      omega
  · obtain ⟨hp, _⟩ := plan_of hD hG hC
    rw [hg] at hp
    have ht : (fewestS 8 C (keptN (D + L + G) (2 ^ k))).1.told = 1 := hp.told
    have hd := hp.dual 0 (by omega)
    have h1 : (fewestS 8 C (keptN (D + L + G) (2 ^ k))).1.m 0 k = 1 := by
      have := hp.one 0 (by simp) 0 (by simp)
      simpa using this
    have hw := hgr.weight (v := (fewestS 8 C (keptN (D + L + G) (2 ^ k))).1.m 0) (by rw [hDL]; exact hd) hgL (by rw [hDL]; exact hk) (by rw [h1]; decide)
    rw [hDL, e] at hw
    have hb := cp_but (f := fun i => decide ((fewestS 8 C (keptN (D + L + G) (2 ^ k))).1.m 0 i ≠ 0)) (k := k) (by rw [h1]; rfl) (D + L + G) hkn
    unfold cntOf cntR
    rw [mems_cp]
    have h2 : cp (fun i => decide (i ≠ k) && decide ((fewestS 8 C (keptN (D + L + G) (2 ^ k))).1.m 0 i ≠ 0)) (D + L + G) ≤ cp (fun i => (keptN (D + L + G) (2 ^ k)).testBit i && readsB (fewestS 8 C (keptN (D + L + G) (2 ^ k))).1 i) (D + L + G) :=
      cp_sub _ (fun i hi h => by
        simp only [Bool.and_eq_true, decide_eq_true_eq] at h
        rw [keptN_bit _ _ h16, Nat.testBit_two_pow, readsB_true (r := 0) (by omega) h.2]
        have : ¬ k = i := fun e => h.1 e.symm
        simp [hi, this])
    have h3 := cp_more (fun i => (keptN (D + L + G) (2 ^ k)).testBit i && readsB (fewestS 8 C (keptN (D + L + G) (2 ^ k))).1 i) h16
    omega
end Go.Proofs.YthhommjlomphdabDoor
