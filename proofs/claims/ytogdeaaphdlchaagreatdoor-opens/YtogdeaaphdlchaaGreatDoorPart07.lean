import Derived.Test.YtogdeaaphdlchaaGreatDoorPart06
/-
  Full rank: all rows are spanned. A matrix of inverses of sums spans them. Plain reckoning over the field.
-/
namespace Go.Proofs.YtogdeaaphdlchaaGreatDoor.Gf

/-- all that lies on the m columns from c on is spanned -/
def Full (R : (Nat → Nat) → Prop) (c m : Nat) : Prop := ∀ v, byteV v → (∀ j, j < c ∨ c + m ≤ j → v j = 0) → Span R v
def unitV (m : Nat) : Nat → Nat := fun j => if j = m then 1 else 0
theorem unitV_byte (m : Nat) : byteV (unitV m) := fun j => by unfold unitV; split <;> decide
theorem Taken.le : ∀ n (R : (Nat → Nat) → Prop) (c k m : Nat), (∀ j, c + m ≤ j → ∀ r, R r → r j = 0) → Taken n R c k → k ≤ m
  | 0, _, _, _, _, _, h => by rw [h]; exact Nat.zero_le _
  | n + 1, R, c, k, m, hz, h => by
    rcases h with ⟨_, h⟩ | ⟨⟨p, hp, hpc⟩, R1, hb1, h1, k1, rfl, h⟩
    · cases m with
      | zero => exact Taken.le n R (c + 1) k 0 (fun j hj => hz j (by omega)) h
      | succ m => exact Nat.le_succ_of_le (Taken.le n R (c + 1) k m (fun j hj => hz j (by omega)) h)
    · cases m with
      | zero => exact absurd (hz c (by omega) p hp) hpc
      | succ m =>
        have := Taken.le n R1 (c + 1) k1 m (fun j hj r hr => Span.nought (hz j (by omega)) ((h1 r).1 (Span.mem (hb1 r hr) hr)).1) h
        omega
theorem Taken.full_of : ∀ n (R : (Nat → Nat) → Prop) (c m : Nat), (∀ r, R r → byteV r) → (∀ j, c + m ≤ j → ∀ r, R r → r j = 0) → (∀ j, j < c → ∀ r, R r → r j = 0) → Taken n R c m → Full R c m
  | 0, R, c, m, hb, hz, hl, h => by
    intro v _ hv
    obtain rfl : m = 0 := h
    have e : v = fun _ => 0 := by funext j; exact hv j (by omega)
    rw [e]; exact Span.zero R
  | n + 1, R, c, m, hb, hz, hl, h => by
    cases m with
    | zero =>
      intro v _ hv
      have e : v = fun _ => 0 := by funext j; exact hv j (by omega)
      rw [e]; exact Span.zero R
    | succ m =>
      rcases h with ⟨h0, h⟩ | ⟨⟨p, hp, hpc⟩, R1, hb1, h1, k1, e, h⟩
      · have := Taken.le n R (c + 1) (m + 1) m (fun j hj => hz j (by omega)) h
        omega
      · obtain rfl : k1 = m := by omega
        have sub := fun r (hr : R1 r) => (h1 r).1 (Span.mem (hb1 r hr) hr)
        have ih := Taken.full_of n R1 (c + 1) k1 hb1 (fun j hj r hr => Span.nought (hz j (by omega)) (sub r hr).1)
          (fun j hj r hr => by
            by_cases e : j = c
            · rw [e]; exact (sub r hr).2
            · exact Span.nought (hl j (by omega)) (sub r hr).1) h
        intro v hv hvz
        have hvc := hv c
        have hpl := hb p hp c
        have hbl := gm_lt (gi (p c)) hvc
        have hs := ih (addV v (gm (v c) (gi (p c))) p) (fun j => xlt (hv j) (gm_lt _ hbl)) (by
          intro j hj
          show v j ^^^ gm (gm (v c) (gi (p c))) (p j) = 0
          by_cases e : j = c
          · rw [e]; exact off_zero hvc hpl hpc
          · have e1 : v j = 0 := hvz j (by omega)
            have e2 : p j = 0 := by
              rcases hj with hj | hj
              · exact hl j (by omega) p hp
              · exact hz j (by omega) p hp
            rw [e1, e2, gm_zero, Nat.xor_self])
        have := ((h1 _).1 hs).1.step hbl hp
        rwa [addV_twice] at this
theorem Taken.of_full : ∀ n (R : (Nat → Nat) → Prop) (c k m : Nat), m ≤ n → (∀ j, c + m ≤ j → ∀ r, R r → r j = 0) → Full R c m → Taken n R c k → k = m
  | 0, _, _, _, m, hm, _, _, h => by rw [h]; omega
  | n + 1, R, c, k, m, hm, hz, hF, h => by
    cases m with
    | zero => have := Taken.le (n + 1) R c k 0 hz h; omega
    | succ m =>
      rcases h with ⟨h0, h⟩ | ⟨⟨p, hp, hpc⟩, R1, hb1, h1, k1, rfl, h⟩
      · have h2 := hF (unitV c) (unitV_byte c) (fun j hj => if_neg (by omega))
        have := Span.nought h0 h2
        simp [unitV] at this
      · have := Taken.of_full n R1 (c + 1) k1 m (by omega) (fun j hj r hr => Span.nought (hz j (by omega)) ((h1 r).1 (Span.mem (hb1 r hr) hr)).1)
          (fun v hv hvz => (h1 v).2 ⟨hF v hv (fun j hj => hvz j (by omega)), hvz c (by omega)⟩) h
        omega
/-- rows of m numbers: their rank is m if and only if they span all -/
theorem rank_full {D : List (List Nat)} {k m : Nat} (hb : ∀ l ∈ D, ∀ x ∈ l, x < 256) (hl : ∀ l ∈ D, l.length ≤ m) (hm : m ≤ 64) (h : RankIs D k) : k = m ↔ Full (Rem D 0) 0 m := by
  have hz : ∀ j, 0 + m ≤ j → ∀ r, Rem D 0 r → r j = 0 := by
    rintro j hj r ⟨i, hi, _, rfl⟩
    unfold vec
    have := hl _ (List.getElem_mem hi)
    simp [List.getElem?_eq_none (show (D[i]).length ≤ j by omega)]
  constructor
  · rintro rfl
    exact Taken.full_of 64 _ 0 k (rem_byte hb 0) hz (fun j hj => absurd hj (by omega)) h
  · intro hF
    exact Taken.of_full 64 _ 0 k m hm hz hF h
theorem Full.mono {R R' : (Nat → Nat) → Prop} {c m : Nat} (h : Full R c m) (hs : ∀ r, R r → R' r) : Full R' c m :=
  fun v hv hz S h0 hS => h v hv hz S h0 (fun a r u ha hr hu => hS a r u ha (hs r hr) hu)
theorem Full.units {R : (Nat → Nat) → Prop} (hR : ∀ r, R r → byteV r) {m : Nat} (h : ∀ j, j < m → Span R (unitV j)) : Full R 0 m := by
  intro v hv hz
  have key : ∀ t, t ≤ m → Span R (fun j => if j < t then v j else 0) := by
    intro t
    induction t with
    | zero => intro _; exact Span.zero R
    | succ t ih =>
      intro ht
      have := Span.add hR (ih (by omega)) (hv t) (h t (by omega))
      have e : addV (fun j => if j < t then v j else 0) (v t) (unitV t) = fun j => if j < t + 1 then v j else 0 := by
        funext j
        show (if j < t then v j else 0) ^^^ gm (v t) (if j = t then 1 else 0) = if j < t + 1 then v j else 0
        by_cases e1 : j = t
        · subst e1; simp [gm_one _ (hv j)]
        · rw [if_neg e1, gm_zero, Nat.xor_zero]
          by_cases e2 : j < t
          · rw [if_pos e2, if_pos (by omega)]
          · rw [if_neg e2, if_neg (by omega)]
      rwa [e] at this
  have := key m (Nat.le_refl _)
  have e : (fun j => if j < m then v j else 0) = v := by
    funext j
    by_cases hj : j < m
    · rw [if_pos hj]
    · rw [if_neg hj]; exact (hz j (by omega)).symm
  rwa [e] at this

/-! ### Inverses of sums -/
/-- a row of inverses of sums, on some columns, each times its number -/
def cauV (L : List Nat) (u : Nat → Nat) (x : Nat) : Nat → Nat := fun j => if j ∈ L then gm (u j) (gi (x ^^^ j)) else 0
theorem xor_ne {x y : Nat} (h : x ≠ y) : x ^^^ y ≠ 0 := fun e => h (by
  have := congrArg (fun t => t ^^^ y) e
  simpa [Nat.xor_assoc] using this)
theorem gm_ne {a b : Nat} (ha : a < 256) (hb : b < 256) (h1 : a ≠ 0) (h2 : b ≠ 0) : gm a b ≠ 0 := by
  intro e
  have := gm_assoc ha hb (gi_lt hb)
  rw [e, zero_gm, gm_gi b hb h2, gm_one a ha] at this
  exact h1 this.symm
theorem gi_ne {a : Nat} (ha : a < 256) (h : a ≠ 0) : gi a ≠ 0 := by
  intro e
  have := gm_gi a ha h
  rw [e, gm_zero] at this
  exact absurd this (by decide)
/-- a * (1 / b) where a = b + d: 1 + d * (1 / b) -/
theorem gm_part {a b : Nat} (ha : a < 256) (hb : b < 256) (h : b ≠ 0) : gm a (gi b) = 1 ^^^ gm (a ^^^ b) (gi b) := by
  rw [add_gm _ ha hb, gm_gi b hb h, Nat.xor_comm (gm a (gi b)) 1, ← Nat.xor_assoc, Nat.xor_self, Nat.zero_xor]
/-- 1 / a + 1 / b = (a + b) * (1 / a) * (1 / b) -/
theorem gi_add {a b : Nat} (ha : a < 256) (hb : b < 256) (h1 : a ≠ 0) (h2 : b ≠ 0) : gi a ^^^ gi b = gm (a ^^^ b) (gm (gi a) (gi b)) := by
  have ia := gi_lt ha
  have ib := gi_lt hb
  rw [add_gm _ ha hb, ← gm_assoc ha ia ib, gm_gi a ha h1, gm_comm ia ib, ← gm_assoc hb ib ia, gm_gi b hb h2, gm_comm (by decide) ib, gm_comm (by decide) ia, gm_one _ ia, gm_one _ ib, Nat.xor_comm]
theorem xor_cancel (x y z : Nat) : (x ^^^ z) ^^^ (y ^^^ z) = x ^^^ y := by
  rw [Nat.xor_comm y z, Nat.xor_assoc, ← Nat.xor_assoc z z, Nat.xor_self, Nat.zero_xor]
/-- one step at one column -/
theorem cau_step {x x0 m j u : Nat} (hx : x < 256) (hx0 : x0 < 256) (hm : m < 256) (hj : j < 256) (hu : u < 256) (h1 : x ≠ x0) (h2 : x ≠ j) (h3 : x0 ≠ j) :
    gm (gi (x ^^^ x0)) (gm (x ^^^ m) (gm u (gi (x ^^^ j))) ^^^ gm (x0 ^^^ m) (gm u (gi (x0 ^^^ j)))) = gm (gm u (gm (j ^^^ m) (gi (x0 ^^^ j)))) (gi (x ^^^ j)) := by
  have b1 := xlt hx hx0
  have b2 := xlt hx hj
  have b3 := xlt hx0 hj
  have b4 := xlt hx hm
  have b5 := xlt hx0 hm
  have b6 := xlt hj hm
  have i1 := gi_lt b1
  have i2 := gi_lt b2
  have i3 := gi_lt b3
  have sw : ∀ t g, t < 256 → g < 256 → gm t (gm u g) = gm u (gm t g) := fun t g ht hg => by
    rw [← gm_assoc ht hu hg, gm_comm ht hu, gm_assoc hu ht hg]
  rw [sw _ _ b4 i2, sw _ _ b5 i3, ← gm_add, gm_part b4 b2 (xor_ne h2), gm_part b5 b3 (xor_ne h3)]
  have e1 : (x ^^^ m) ^^^ (x ^^^ j) = j ^^^ m := by rw [Nat.xor_comm x m, Nat.xor_comm x j, xor_cancel, Nat.xor_comm]
  have e2 : (x0 ^^^ m) ^^^ (x0 ^^^ j) = j ^^^ m := by rw [Nat.xor_comm x0 m, Nat.xor_comm x0 j, xor_cancel, Nat.xor_comm]
  rw [e1, e2, xor4, Nat.xor_self, Nat.zero_xor, ← gm_add, gi_add b2 b3 (xor_ne h2) (xor_ne h3), xor_cancel]
  have b7 : gm (gi (x ^^^ j)) (gi (x0 ^^^ j)) < 256 := gm_lt _ i2
  have b8 : gm (x ^^^ x0) (gm (gi (x ^^^ j)) (gi (x0 ^^^ j))) < 256 := gm_lt _ b1
  have b9 : gm (j ^^^ m) (gi (x0 ^^^ j)) < 256 := gm_lt _ b6
  rw [sw _ _ i1 (gm_lt _ b6), gm_assoc hu b9 i2, gm_assoc b6 i3 i2]
  refine congrArg (gm u) ?_
  have e3 : gm (gi (x ^^^ x0)) (gm (x ^^^ x0) (gm (gi (x ^^^ j)) (gi (x0 ^^^ j)))) = gm (gi (x ^^^ j)) (gi (x0 ^^^ j)) := by
    rw [← gm_assoc i1 b1 b7, gm_comm i1 b1, gm_gi _ b1 (xor_ne h1), gm_comm (a := 1) (by decide) b7, gm_one _ b7]
  rw [← gm_assoc i1 b6 b8, gm_comm i1 b6, gm_assoc b6 i1 b8, e3, gm_comm i2 i3]
theorem cauchy (R : (Nat → Nat) → Prop) (hR : ∀ r, R r → byteV r) : ∀ (L X : List Nat) (u : Nat → Nat), L.Nodup → X.Nodup → L.length ≤ X.length → (∀ j ∈ L, j < 256 ∧ u j < 256 ∧ u j ≠ 0) → (∀ x ∈ X, x < 256 ∧ ∀ j ∈ L, x ≠ j) →
    (∀ x ∈ X, Span R (cauV L u x)) → ∀ j ∈ L, Span R (unitV j)
  | [], _, _, _, _, _, _, _, _ => fun j hj => by cases hj
  | m :: L, [], _, _, _, h, _, _, _ => by simp at h
  | m :: L, x0 :: X, u, hL, hX, hle, hl, hx, hs => by
    obtain ⟨hmL, hL'⟩ := List.nodup_cons.1 hL
    obtain ⟨h0X, hX'⟩ := List.nodup_cons.1 hX
    obtain ⟨hm, hum, hu0⟩ := hl m List.mem_cons_self
    obtain ⟨hx0, hx0j⟩ := hx x0 List.mem_cons_self
    have s0 := hs x0 List.mem_cons_self
    have ih := cauchy R hR L X (fun j => gm (u j) (gm (j ^^^ m) (gi (x0 ^^^ j)))) hL' hX' (by simpa using hle)
      (fun j hj => by
        obtain ⟨a1, a2, a3⟩ := hl j (List.mem_cons_of_mem _ hj)
        have b1 := xlt a1 hm
        have b2 := xlt hx0 a1
        have ne : j ≠ m := fun e => hmL (e ▸ hj)
        exact ⟨a1, gm_lt _ a2, gm_ne a2 (gm_lt _ b1) a3 (gm_ne b1 (gi_lt b2) (xor_ne ne) (gi_ne b2 (xor_ne (hx0j j (List.mem_cons_of_mem _ hj)))))⟩)
      (fun x hxx => ⟨(hx x (List.mem_cons_of_mem _ hxx)).1, fun j hj => (hx x (List.mem_cons_of_mem _ hxx)).2 j (List.mem_cons_of_mem _ hj)⟩)
      (fun x hxx => by
        obtain ⟨a1, a2⟩ := hx x (List.mem_cons_of_mem _ hxx)
        have ne : x ≠ x0 := fun e => h0X (e ▸ hxx)
        have b1 := xlt a1 hx0
        have i1 := gi_lt b1
        have b2 := xlt a1 hm
        have b3 := xlt hx0 hm
        have t1 := Span.add hR (Span.add hR (Span.zero R) (gm_lt (x ^^^ m) i1) (hs x (List.mem_cons_of_mem _ hxx))) (gm_lt (x0 ^^^ m) i1) s0
        have e : addV (addV (fun _ => 0) (gm (gi (x ^^^ x0)) (x ^^^ m)) (cauV (m :: L) u x)) (gm (gi (x ^^^ x0)) (x0 ^^^ m)) (cauV (m :: L) u x0) = cauV L (fun j => gm (u j) (gm (j ^^^ m) (gi (x0 ^^^ j)))) x := by
          funext j
          show (0 ^^^ gm (gm (gi (x ^^^ x0)) (x ^^^ m)) (cauV (m :: L) u x j)) ^^^ gm (gm (gi (x ^^^ x0)) (x0 ^^^ m)) (cauV (m :: L) u x0 j) = _
          rw [Nat.zero_xor]
          by_cases hj : j ∈ L
          · obtain ⟨c1, c2, c3⟩ := hl j (List.mem_cons_of_mem _ hj)
            have d1 := a2 j (List.mem_cons_of_mem _ hj)
            have d2 := hx0j j (List.mem_cons_of_mem _ hj)
            unfold cauV
            rw [if_pos (List.mem_cons_of_mem _ hj), if_pos (List.mem_cons_of_mem _ hj), if_pos hj, gm_assoc i1 b2 (gm_lt _ c2), gm_assoc i1 b3 (gm_lt _ c2), ← gm_add, cau_step a1 hx0 hm c1 c2 ne d1 d2]
          · by_cases hjm : j = m
            · subst hjm
              unfold cauV
              have d1 := a2 j List.mem_cons_self
              have d2 := hx0j j List.mem_cons_self
              have sw : ∀ t, t < 256 → t ≠ 0 → gm t (gm (u j) (gi t)) = u j := fun t ht h => by
                rw [← gm_assoc ht hum (gi_lt ht), gm_comm ht hum, gm_assoc hum ht (gi_lt ht), gm_gi t ht h, gm_one _ hum]
              rw [if_pos List.mem_cons_self, if_pos List.mem_cons_self, if_neg hj, gm_assoc i1 b2 (gm_lt _ hum), gm_assoc i1 b3 (gm_lt _ hum), sw _ b2 (xor_ne d1), sw _ b3 (xor_ne d2), Nat.xor_self]
            · unfold cauV
              have hn : j ∉ m :: L := by simp [hjm, hj]
              rw [if_neg hn, if_neg hn, if_neg hj, gm_zero, gm_zero, Nat.xor_self]
        rwa [e] at t1)
    have hmS : Span R (unitV m) := by
      have key : ∀ K : List Nat, (∀ j ∈ K, j ∈ L) → K.Nodup → Span R (fun j => if j ∈ K then 0 else cauV (m :: L) u x0 j) := by
        intro K
        induction K with
        | nil => intro _ _; simpa using s0
        | cons k K ihK =>
          intro hK hnd
          obtain ⟨hkK, hnd'⟩ := List.nodup_cons.1 hnd
          have hkL := hK k List.mem_cons_self
          have hcb : cauV (m :: L) u x0 k < 256 := s0.byte k
          have t := Span.add hR (ihK (fun j hj => hK j (List.mem_cons_of_mem _ hj)) hnd') hcb (ih k hkL)
          have e : addV (fun j => if j ∈ K then 0 else cauV (m :: L) u x0 j) (cauV (m :: L) u x0 k) (unitV k) = fun j => if j ∈ k :: K then 0 else cauV (m :: L) u x0 j := by
            funext j
            show (if j ∈ K then 0 else cauV (m :: L) u x0 j) ^^^ gm (cauV (m :: L) u x0 k) (if j = k then 1 else 0) = _
            by_cases e1 : j = k
            · subst e1
              rw [if_neg hkK, if_pos rfl, gm_one _ hcb, Nat.xor_self, if_pos List.mem_cons_self]
            · rw [if_neg e1, gm_zero, Nat.xor_zero]
              by_cases e2 : j ∈ K
              · rw [if_pos e2, if_pos (List.mem_cons_of_mem _ e2)]
              · rw [if_neg e2, if_neg (by simp [e1, e2])]
          rwa [e] at t
      have t := key L (fun _ h => h) hL'
      have b := xlt hx0 hm
      have ne := xor_ne (hx0j m List.mem_cons_self)
      have hc : gm (u m) (gi (x0 ^^^ m)) < 256 := gm_lt _ hum
      have hc0 : gm (u m) (gi (x0 ^^^ m)) ≠ 0 := gm_ne hum (gi_lt b) hu0 (gi_ne b ne)
      have t2 := Span.add hR (Span.zero R) (gi_lt hc) t
      have e : addV (fun _ => 0) (gi (gm (u m) (gi (x0 ^^^ m)))) (fun j => if j ∈ L then 0 else cauV (m :: L) u x0 j) = unitV m := by
        funext j
        show 0 ^^^ gm (gi (gm (u m) (gi (x0 ^^^ m)))) (if j ∈ L then 0 else cauV (m :: L) u x0 j) = unitV m j
        rw [Nat.zero_xor]
        unfold unitV cauV
        by_cases e1 : j = m
        · subst e1
          rw [if_neg hmL, if_pos List.mem_cons_self, if_pos rfl, gm_comm (gi_lt hc) hc, gm_gi _ hc hc0]
        · rw [if_neg e1]
          by_cases e2 : j ∈ L
          · rw [if_pos e2, gm_zero]
          · rw [if_neg e2, if_neg (by simp [e1, e2]), gm_zero]
      rwa [e] at t2
    intro j hj
    rcases List.mem_cons.1 hj with rfl | hj
    · exact hmS
    · exact ih j hj
end Go.Proofs.YtogdeaaphdlchaaGreatDoor.Gf
/-
  Checks, in plain numbers: sums of shards that come to nought; how they are worked so that they tell lost shards, and leave others. Nothing of the program is imported here.
-/
namespace Go.Proofs.YtogdeaaphdlchaaGreatDoor.Gf

/-- rows of numbers; the first ones tell a lost shard each -/
structure Ck where
  m : Nat → Nat → Nat
  told : Nat
  count : Nat
def spareAt (C : Ck) (i : Nat) : Option Nat := (List.range C.count).find? (fun r => decide (C.told ≤ r) && decide (C.m r i ≠ 0))
theorem spareAt_some {C : Ck} {i r : Nat} (h : spareAt C i = some r) : C.told ≤ r ∧ r < C.count ∧ C.m r i ≠ 0 := by
  unfold spareAt at h
  have h1 := List.find?_some h
  have h2 := List.mem_of_find?_eq_some h
  simp at h1 h2
  exact ⟨h1.1, h2, h1.2⟩
theorem spareAt_none {C : Ck} {i : Nat} (h : spareAt C i = none) (r : Nat) (h1 : C.told ≤ r) (h2 : r < C.count) : C.m r i = 0 := by
  unfold spareAt at h
  rw [List.find?_eq_none] at h
  have := h r (List.mem_range.2 h2)
  simp [h1] at this
  exact this
theorem spareAt_first {C : Ck} {i r : Nat} (h1 : C.told ≤ r) (h2 : r < C.count) (h3 : C.m r i ≠ 0) (h4 : ∀ k, C.told ≤ k → k < r → C.m k i = 0) : spareAt C i = some r := by
  unfold spareAt
  rw [List.find?_range_eq_some]
  refine ⟨by simp [h1, h3], List.mem_range.2 h2, fun j hj => ?_⟩
  by_cases h : C.told ≤ j
  · simp [h4 j h hj]
  · simp [h]
theorem spareAt_never {C : Ck} {i : Nat} (h : ∀ r, C.told ≤ r → r < C.count → C.m r i = 0) : spareAt C i = none := by
  unfold spareAt
  rw [List.find?_eq_none]
  intro r hr
  by_cases h' : C.told ≤ r
  · simp [h r h' (List.mem_range.1 hr)]
  · simp [h']
/-- a check is worked off the others -/
def offF (m : Nat → Nat → Nat) (cnt r i : Nat) : Nat → Nat → Nat := fun k j => if k < cnt ∧ k ≠ r then m k j ^^^ gm (gm (m k i) (gi (m r i))) (m r j) else m k j
def swapF (m : Nat → Nat → Nat) (a b : Nat) : Nat → Nat → Nat := fun k => if k = a then m b else if k = b then m a else m k
def scaleF (m : Nat → Nat → Nat) (r i : Nat) : Nat → Nat → Nat := fun k j => if k = r then gm (m r j) (gi (m r i)) else m k j
def tellAt (C : Ck) (i r : Nat) : Ck := ⟨offF (scaleF (swapF C.m C.told r) C.told i) C.count C.told i, C.told + 1, C.count⟩
def leaveAt (C : Ck) (i r : Nat) : Ck := ⟨fun k => if k = r then offF C.m C.count r i (C.count - 1) else offF C.m C.count r i k, C.told, C.count - 1⟩
def tell (C : Ck) (i : Nat) : Option Ck := (spareAt C i).map (tellAt C i)
def leave (C : Ck) (i : Nat) : Option Ck := (spareAt C i).map (leaveAt C i)
def Byt (C : Ck) : Prop := ∀ r, byteV (C.m r)
/-- the checks from number t on -/
def From (C : Ck) (t : Nat) : (Nat → Nat) → Prop := fun v => ∃ r, t ≤ r ∧ r < C.count ∧ v = C.m r
theorem addV_byte {u r : Nat → Nat} {a : Nat} (hu : byteV u) (ha : a < 256) : byteV (addV u a r) := fun j => xlt (hu j) (gm_lt _ ha)
theorem off_addV {m : Nat → Nat → Nat} {cnt r i k : Nat} (h : k < cnt ∧ k ≠ r) : offF m cnt r i k = addV (m k) (gm (m k i) (gi (m r i))) (m r) := by
  funext j; unfold offF addV; rw [if_pos h]
theorem off_not {m : Nat → Nat → Nat} {cnt r i k : Nat} (h : ¬ (k < cnt ∧ k ≠ r)) : offF m cnt r i k = m k := by
  funext j; unfold offF; rw [if_neg h]
theorem off_byte {m : Nat → Nat → Nat} {cnt r i : Nat} (h : ∀ k, byteV (m k)) (k : Nat) : byteV (offF m cnt r i k) := by
  by_cases hk : k < cnt ∧ k ≠ r
  · rw [off_addV hk]; exact addV_byte (h k) (gm_lt _ (h k i))
  · rw [off_not hk]; exact h k
theorem swap_byte {m : Nat → Nat → Nat} {a b : Nat} (h : ∀ k, byteV (m k)) (k : Nat) : byteV (swapF m a b k) := by
  unfold swapF; split
  · exact h b
  · split
    · exact h a
    · exact h k
theorem scale_byte {m : Nat → Nat → Nat} {r i : Nat} (h : ∀ k, byteV (m k)) (k : Nat) : byteV (scaleF m r i k) := fun j => by
  unfold scaleF; split
  · exact gm_lt _ (h r j)
  · exact h k j
theorem tell_byte {C : Ck} {i r : Nat} (h : Byt C) : Byt (tellAt C i r) := off_byte (scale_byte (swap_byte h))
theorem leave_byte {C : Ck} {i r : Nat} (h : Byt C) : Byt (leaveAt C i r) := fun k => by
  show byteV (if k = r then _ else _); split
  · exact off_byte h _
  · exact off_byte h _
theorem from_byte {C : Ck} (h : Byt C) (t : Nat) : ∀ r, From C t r → byteV r := by
  rintro r ⟨k, _, _, rfl⟩; exact h k
/-- the numbers at a place, behind working off -/
theorem off_at {x y : Nat} (hx : x < 256) (hy : y < 256) (h : y ≠ 0) : x ^^^ gm (gm x (gi y)) y = 0 := off_zero hx hy h

/-! ### leaving a shard -/
theorem leave_rows {C : Ck} {i r t : Nat} (hb : Byt C) (ht : t ≤ C.told) (h1 : C.told ≤ r) (h2 : r < C.count) (h3 : C.m r i ≠ 0) (v : Nat → Nat) :
    Span (From (leaveAt C i r) t) v ↔ Span (From C t) v ∧ v i = 0 := by
  refine Span.worked (p := C.m r) (from_byte hb t) ⟨r, by omega, h2, rfl⟩ h3 ?_ ?_ v
  · rintro q ⟨k, k1, k2, rfl⟩
    have hk2 : k < C.count - 1 := k2
    have key : ∀ k', t ≤ k' → k' < C.count → k' ≠ r → ∃ q f, From C t q ∧ f < 256 ∧ offF C.m C.count r i k' = addV q f (C.m r) ∧ offF C.m C.count r i k' i = 0 := by
      intro k' g1 g2 g3
      refine ⟨C.m k', gm (C.m k' i) (gi (C.m r i)), ⟨k', g1, g2, rfl⟩, gm_lt _ (hb k' i), off_addV ⟨g2, g3⟩, ?_⟩
      rw [off_addV ⟨g2, g3⟩]
      exact off_at (hb k' i) (hb r i) h3
    show ∃ q f, From C t q ∧ f < 256 ∧ (if k = r then offF C.m C.count r i (C.count - 1) else offF C.m C.count r i k) = addV q f (C.m r) ∧ (if k = r then offF C.m C.count r i (C.count - 1) else offF C.m C.count r i k) i = 0
    by_cases e : k = r
    · rw [if_pos e]; exact key (C.count - 1) (by omega) (by omega) (by omega)
    · rw [if_neg e]; exact key k k1 (by omega) e
  · rintro q ⟨k, k1, k2, rfl⟩
    by_cases e : k = r
    · left; rw [e]
    · right
      have hoff : offF C.m C.count r i k = addV (C.m k) (gm (C.m k i) (gi (C.m r i))) (C.m r) := off_addV ⟨k2, e⟩
      refine ⟨gm (C.m k i) (gi (C.m r i)), offF C.m C.count r i k, gm_lt _ (hb k i), ?_, ?_⟩
      · by_cases e2 : k = C.count - 1
        · refine ⟨r, by omega, by show r < C.count - 1; omega, ?_⟩
          show _ = (if r = r then offF C.m C.count r i (C.count - 1) else offF C.m C.count r i r)
          rw [if_pos rfl, e2]
        · refine ⟨k, k1, by show k < C.count - 1; omega, ?_⟩
          show _ = (if k = r then offF C.m C.count r i (C.count - 1) else offF C.m C.count r i k)
          rw [if_neg e]
      · rw [hoff, addV_twice]
theorem leave_told {C : Ck} {i r k : Nat} (hk : k < C.told) (h1 : C.told ≤ r) (h2 : r < C.count) : (leaveAt C i r).m k = addV (C.m k) (gm (C.m k i) (gi (C.m r i))) (C.m r) := by
  show (if k = r then offF C.m C.count r i (C.count - 1) else offF C.m C.count r i k) = _
  rw [if_neg (by omega), off_addV ⟨by omega, by omega⟩]

/-! ### telling one -/
theorem gi_one : gi 1 = 1 := by decide +kernel
theorem tell_low {C : Ck} {i r k : Nat} (hb : Byt C) (hk : k < C.count) (hkt : k ≠ C.told) (h3 : C.m r i ≠ 0) :
    (tellAt C i r).m k = addV (swapF C.m C.told r k) (gm (swapF C.m C.told r k i) (gi (C.m r i))) (C.m r) := by
  have e0 : swapF C.m C.told r C.told = C.m r := by unfold swapF; rw [if_pos rfl]
  have e1 : scaleF (swapF C.m C.told r) C.told i k = swapF C.m C.told r k := by funext j; unfold scaleF; rw [if_neg hkt]
  have e2 : scaleF (swapF C.m C.told r) C.told i C.told = fun j => gm (C.m r j) (gi (C.m r i)) := by funext j; unfold scaleF; rw [if_pos rfl, e0]
  show offF (scaleF (swapF C.m C.told r) C.told i) C.count C.told i k = _
  rw [off_addV ⟨hk, hkt⟩, e1, e2]
  funext j
  show _ ^^^ gm (gm _ (gi (gm (C.m r i) (gi (C.m r i))))) (gm (C.m r j) (gi (C.m r i))) = _ ^^^ gm (gm _ (gi (C.m r i))) (C.m r j)
  have hs := swap_byte (a := C.told) (b := r) hb k i
  have hp := hb r i
  have hg := gi_lt hp
  rw [gm_gi _ hp h3, gi_one, gm_one _ hs, gm_comm (hb r j) hg, ← gm_assoc hs hg (hb r j)]
theorem tell_top {C : Ck} {i r : Nat} : (tellAt C i r).m C.told = fun j => gm (C.m r j) (gi (C.m r i)) := by
  have e0 : swapF C.m C.told r C.told = C.m r := by unfold swapF; rw [if_pos rfl]
  show offF (scaleF (swapF C.m C.told r) C.told i) C.count C.told i C.told = _
  rw [off_not (by omega)]
  funext j; unfold scaleF; rw [if_pos rfl, e0]
theorem swap_low {m : Nat → Nat → Nat} {a b k : Nat} (h1 : k ≠ a) (h2 : k ≠ b) : swapF m a b k = m k := by unfold swapF; rw [if_neg h1, if_neg h2]
theorem tell_rows {C : Ck} {i r : Nat} (hb : Byt C) (h1 : C.told ≤ r) (h2 : r < C.count) (h3 : C.m r i ≠ 0) (v : Nat → Nat) :
    Span (From (tellAt C i r) (C.told + 1)) v ↔ Span (From C C.told) v ∧ v i = 0 := by
  have hsw : ∀ k, C.told + 1 ≤ k → k < C.count → ∃ k', C.told ≤ k' ∧ k' < C.count ∧ k' ≠ r ∧ swapF C.m C.told r k = C.m k' := by
    intro k g1 g2
    by_cases e : k = r
    · refine ⟨C.told, by omega, by omega, by omega, ?_⟩
      unfold swapF; rw [if_neg (by omega), if_pos e]
    · exact ⟨k, by omega, g2, e, swap_low (by omega) e⟩
  refine Span.worked (p := C.m r) (from_byte hb _) ⟨r, h1, h2, rfl⟩ h3 ?_ ?_ v
  · rintro q ⟨k, k1, k2, rfl⟩
    have hk2 : k < C.count := k2
    obtain ⟨k', g1, g2, g3, e⟩ := hsw k k1 hk2
    have ht := tell_low (i := i) (r := r) hb hk2 (by omega) h3
    rw [e] at ht
    refine ⟨C.m k', gm (C.m k' i) (gi (C.m r i)), ⟨k', g1, g2, rfl⟩, gm_lt _ (hb k' i), ht, ?_⟩
    rw [ht]; exact off_at (hb k' i) (hb r i) h3
  · rintro q ⟨k, k1, k2, rfl⟩
    by_cases e : k = r
    · left; rw [e]
    · right
      have hex : ∃ k', C.told + 1 ≤ k' ∧ k' < C.count ∧ swapF C.m C.told r k' = C.m k := by
        by_cases e2 : k = C.told
        · refine ⟨r, by omega, h2, ?_⟩
          unfold swapF; rw [if_neg (by omega), if_pos rfl, e2]
        · exact ⟨k, by omega, k2, swap_low e2 e⟩
      obtain ⟨k', g1, g2, ge⟩ := hex
      have ht := tell_low (i := i) (r := r) hb g2 (by omega) h3
      rw [ge] at ht
      refine ⟨gm (C.m k i) (gi (C.m r i)), (tellAt C i r).m k', gm_lt _ (hb k i), ⟨k', g1, g2, rfl⟩, ?_⟩
      rw [ht, addV_twice]

/-! ### what holds of all checks -/
/-- a property that sums of multiples keep -/
def Lin (X : (Nat → Nat) → Prop) : Prop := X (fun _ => 0) ∧ ∀ a r u, a < 256 → X r → X u → X (addV u a r)
theorem leave_all {X : (Nat → Nat) → Prop} (hX : Lin X) {C : Ck} {i r : Nat} (hb : Byt C) (h2 : r < C.count) (h : ∀ k, k < C.count → X (C.m k)) : ∀ k, k < (leaveAt C i r).count → X ((leaveAt C i r).m k) := by
  have key : ∀ k, k < C.count → X (offF C.m C.count r i k) := by
    intro k hk
    by_cases e : k = r
    · rw [off_not (by omega)]; exact h k hk
    · rw [off_addV ⟨hk, e⟩]; exact hX.2 _ _ _ (gm_lt _ (hb k i)) (h r h2) (h k hk)
  intro k hk
  have hk' : k < C.count - 1 := hk
  show X (if k = r then _ else _)
  split
  · exact key _ (by omega)
  · exact key _ (by omega)
theorem tell_all {X : (Nat → Nat) → Prop} (hX : Lin X) {C : Ck} {i r : Nat} (hb : Byt C) (h1 : C.told ≤ r) (h2 : r < C.count) (h3 : C.m r i ≠ 0) (h : ∀ k, k < C.count → X (C.m k)) : ∀ k, k < (tellAt C i r).count → X ((tellAt C i r).m k) := by
  intro k hk
  have hk' : k < C.count := hk
  by_cases e : k = C.told
  · rw [e, tell_top]
    have hp : X (addV (fun _ => 0) (gi (C.m r i)) (C.m r)) := hX.2 _ _ _ (gi_lt (hb r i)) (h r h2) hX.1
    have e : addV (fun _ => 0) (gi (C.m r i)) (C.m r) = fun j => gm (C.m r j) (gi (C.m r i)) := by
      funext j; show 0 ^^^ gm (gi (C.m r i)) (C.m r j) = _; rw [Nat.zero_xor, gm_comm (gi_lt (hb r i)) (hb r j)]
    rwa [e] at hp
  · rw [tell_low hb hk' e h3]
    refine hX.2 _ _ _ (gm_lt _ (swap_byte hb _ _)) (h r h2) ?_
    unfold swapF; split
    · exact h r h2
    · split
      · exact h _ (by omega)
      · exact h k hk'

/-! ### all lost shards are told -/
def tells (C : Ck) (L : List Nat) : Option Ck := L.foldl (fun o i => o.bind (fun c => tell c i)) (some C)
theorem tells_snoc (C : Ck) (L : List Nat) (i : Nat) : tells C (L ++ [i]) = (tells C L).bind (fun c => tell c i) := by unfold tells; rw [List.foldl_append]; rfl
theorem tells_none_append (C : Ck) (L L' : List Nat) (h : tells C L = none) : tells C (L ++ L') = none := by
  unfold tells at *
  rw [List.foldl_append, h]
  induction L' with
  | nil => rfl
  | cons a l ih => exact ih
/-- the checks tell the shards of L, and nothing but multiples of the spare ones could be added -/
structure ToldBy (C0 : Ck) (X : (Nat → Nat) → Prop) (L : List Nat) (C : Ck) : Prop where
  told : C.told = L.length
  count : C.count = C0.count
  le : C.told ≤ C.count
  byt : Byt C
  all : ∀ k, k < C.count → X (C.m k)
  one : ∀ k, k < L.length → ∀ k' (h : k' < L.length), C.m k L[k'] = if k = k' then 1 else 0
  spare : ∀ v, Span (From C C.told) v ↔ Span (From C0 0) v ∧ ∀ i ∈ L, v i = 0
theorem ToldBy.nil {C0 : Ck} {X : (Nat → Nat) → Prop} (h0 : C0.told = 0) (hb : Byt C0) (hX : ∀ k, k < C0.count → X (C0.m k)) : ToldBy C0 X [] C0 :=
  ⟨h0, rfl, by omega, hb, hX, fun k hk => absurd hk (by simp), fun v => by rw [h0]; simp⟩
theorem ToldBy.snoc {C0 C C' : Ck} {X : (Nat → Nat) → Prop} {L : List Nat} {i : Nat} (hX : Lin X) (h : ToldBy C0 X L C) (hi : tell C i = some C') : ToldBy C0 X (L ++ [i]) C' := by
  unfold tell at hi
  rw [Option.map_eq_some_iff] at hi
  obtain ⟨r, hr, rfl⟩ := hi
  obtain ⟨h1, h2, h3⟩ := spareAt_some hr
  have hsp : ∀ j, j ∈ L → C.m r j = 0 := fun j hj => ((h.spare (C.m r)).1 (Span.mem (h.byt r) ⟨r, h1, h2, rfl⟩)).2 j hj
  have htl := h.told
  refine ⟨?_, h.count, by show C.told + 1 ≤ C.count; omega, tell_byte h.byt, tell_all hX h.byt h1 h2 h3 h.all, ?_, ?_⟩
  · show C.told + 1 = _; simp [htl]
  · intro k hk k' hk'
    simp at hk hk'
    by_cases e : k = L.length
    · have ek : k = C.told := by omega
      rw [ek, tell_top]
      by_cases e' : k' = L.length
      · subst e'
        rw [List.getElem_append_right (by omega)]
        simp [htl, gm_gi _ (h.byt r i) h3]
      · have hlt : k' < L.length := by omega
        rw [List.getElem_append_left hlt]
        show gm (C.m r L[k']) _ = _
        rw [hsp _ (List.getElem_mem hlt), zero_gm, if_neg (by omega)]
    · have hlt : k < L.length := by omega
      rw [tell_low h.byt (by omega) (by omega) h3, swap_low (by omega) (by omega)]
      by_cases e' : k' = L.length
      · subst e'
        rw [List.getElem_append_right (by omega)]
        simp only [Nat.sub_self, List.getElem_singleton]
        show C.m k i ^^^ gm (gm (C.m k i) (gi (C.m r i))) (C.m r i) = _
        rw [off_at (h.byt k i) (h.byt r i) h3, if_neg e]
      · have hlt' : k' < L.length := by omega
        rw [List.getElem_append_left hlt']
        show C.m k L[k'] ^^^ gm _ (C.m r L[k']) = _
        rw [hsp _ (List.getElem_mem hlt'), gm_zero, Nat.xor_zero, h.one k hlt k' hlt']
  · intro v
    have := tell_rows (i := i) h.byt h1 h2 h3 v
    show Span (From (tellAt C i r) (C.told + 1)) v ↔ _
    rw [this, h.spare v]
    constructor
    · rintro ⟨⟨a, b⟩, c⟩
      exact ⟨a, fun j hj => by rcases List.mem_append.1 hj with hj | hj; exact b j hj; rw [List.mem_singleton.1 hj]; exact c⟩
    · rintro ⟨a, b⟩
      exact ⟨⟨a, fun j hj => b j (List.mem_append_left _ hj)⟩, b i (by simp)⟩
theorem ToldBy.of {C0 : Ck} {X : (Nat → Nat) → Prop} (hX : Lin X) (h0 : C0.told = 0) (hb : Byt C0) (ha : ∀ k, k < C0.count → X (C0.m k)) : ∀ (L' L : List Nat) (C : Ck), ToldBy C0 X L C → tells C0 L = some C →
    (∃ C', tells C0 (L ++ L') = some C' ∧ ToldBy C0 X (L ++ L') C') ∨ (tells C0 (L ++ L') = none ∧ ∃ pre i, (pre ++ [i]) <+: (L ++ L') ∧ ∀ v, Span (From C0 0) v → (∀ j ∈ pre, v j = 0) → v i = 0)
  | [], L, C, h, e => .inl ⟨C, by simpa using e, by simpa using h⟩
  | i :: L', L, C, h, e => by
    have e1 : L ++ i :: L' = (L ++ [i]) ++ L' := by simp
    cases ht : tell C i with
    | none =>
      right
      have e2 : tells C0 (L ++ [i]) = none := by rw [tells_snoc, e]; exact ht
      refine ⟨by rw [e1]; exact tells_none_append _ _ _ e2, L, i, by rw [e1]; exact List.prefix_append _ _, ?_⟩
      intro v hv hz
      have hn : spareAt C i = none := by
        unfold tell at ht; exact Option.map_eq_none_iff.1 ht
      exact Span.nought (fun r hr => by obtain ⟨k, k1, k2, rfl⟩ := hr; exact spareAt_none hn k k1 k2) ((h.spare v).2 ⟨hv, hz⟩)
    | some C' =>
      have h' := h.snoc hX ht
      have e2 : tells C0 (L ++ [i]) = some C' := by rw [tells_snoc, e]; exact ht
      rw [e1]
      exact ToldBy.of hX h0 hb ha L' (L ++ [i]) C' h' e2
end Go.Proofs.YtogdeaaphdlchaaGreatDoor.Gf
