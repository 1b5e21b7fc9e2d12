import Derived.Test.YthhommjlomphdabDoorPart01
import Derived.Test.YthhommjlomphdabDoorRows
import Derived.WalkKit
import Derived.ProofKit
import Derived.OpenShut
import Derived.WalkSpells
import Derived.Deep.OwnRows
import Derived.Deep.Slices
import Derived.Deep.Matrix
/-
  Full rank: all rows are spanned. A matrix of inverses of sums spans them. Plain reckoning over the field.
-/
namespace Go.Proofs.YthhommjlomphdabDoor.Gf

/-- all that lies on the m columns from c on is spanned -/
def Full (R : (Nat → Nat) → Prop) (c m : Nat) : Prop := ∀ v, byteV v → (∀ j, j < c ∨ c + m ≤ j → v j = 0) → Span R v
def unitV (m : Nat) : Nat → Nat := fun j => if j = m then 1 else 0
theorem unitV_byte (m : Nat) : byteV (unitV m) := fun j => by unfold unitV; split <;> decide
theorem Taken.le : ∀ n (R : (Nat → Nat) → Prop) (c k m : Nat), (∀ j, c + m ≤ j → ∀ r, R r → r j = 0) → Taken n R c k → k ≤ m
  | 0, _, _, _, _, _, h => by rw [h]; exact Nat.zero_le _
  | n + 1, R, c, k, m, hz, h => by
    rcases h with ⟨_, h⟩ | ⟨⟨p, hp, hpc⟩, R1, hb1, h1, k1, rfl, h⟩
    · cases m with
      | zero => exact Taken.le n R (c + 1) k 0 (fun j hj => hz j (by omega)) h
      | succ m => exact Nat.le_succ_of_le (Taken.le n R (c + 1) k m (fun j hj => hz j (by omega)) h)
    · cases m with
      | zero => exact absurd (hz c (by omega) p hp) hpc
      | succ m =>
        have := Taken.le n R1 (c + 1) k1 m (fun j hj r hr => Span.nought (hz j (by omega)) ((h1 r).1 (Span.mem (hb1 r hr) hr)).1) h
        omega
theorem Taken.full_of : ∀ n (R : (Nat → Nat) → Prop) (c m : Nat), (∀ r, R r → byteV r) → (∀ j, c + m ≤ j → ∀ r, R r → r j = 0) → (∀ j, j < c → ∀ r, R r → r j = 0) → Taken n R c m → Full R c m
  | 0, R, c, m, hb, hz, hl, h => by
    intro v _ hv
    obtain rfl : m = 0 := h
    have e : v = fun _ => 0 := by funext j; exact hv j (by omega)
    rw [e]; exact Span.zero R
  | n + 1, R, c, m, hb, hz, hl, h => by
    cases m with
    | zero =>
      intro v _ hv
      have e : v = fun _ => 0 := by funext j; exact hv j (by omega)
      rw [e]; exact Span.zero R
    | succ m =>
      rcases h with ⟨h0, h⟩ | ⟨⟨p, hp, hpc⟩, R1, hb1, h1, k1, e, h⟩
      · have := Taken.le n R (c + 1) (m + 1) m (fun j hj => hz j (by omega)) h
        omega
      · obtain rfl : k1 = m := by omega
        have sub := fun r (hr : R1 r) => (h1 r).1 (Span.mem (hb1 r hr) hr)
        have ih := Taken.full_of n R1 (c + 1) k1 hb1 (fun j hj r hr => Span.nought (hz j (by omega)) (sub r hr).1)
          (fun j hj r hr => by
            by_cases e : j = c
            · rw [e]; exact (sub r hr).2
            · exact Span.nought (hl j (by omega)) (sub r hr).1) h
        intro v hv hvz
        have hvc := hv c
        have hpl := hb p hp c
        have hbl := gm_lt (gi (p c)) hvc
        have hs := ih (addV v (gm (v c) (gi (p c))) p) (fun j => xlt (hv j) (gm_lt _ hbl)) (by
          intro j hj
          show v j ^^^ gm (gm (v c) (gi (p c))) (p j) = 0
          by_cases e : j = c
          · rw [e]; exact off_zero hvc hpl hpc
          · have e1 : v j = 0 := hvz j (by omega)
            have e2 : p j = 0 := by
              rcases hj with hj | hj
              · exact hl j (by omega) p hp
              · exact hz j (by omega) p hp
            rw [e1, e2, gm_zero, Nat.xor_self])
        have := ((h1 _).1 hs).1.step hbl hp
        rwa [addV_twice] at this
theorem Taken.of_full : ∀ n (R : (Nat → Nat) → Prop) (c k m : Nat), m ≤ n → (∀ j, c + m ≤ j → ∀ r, R r → r j = 0) → Full R c m → Taken n R c k → k = m
  | 0, _, _, _, m, hm, _, _, h => by rw [h]; omega
  | n + 1, R, c, k, m, hm, hz, hF, h => by
    cases m with
    | zero => have := Taken.le (n + 1) R c k 0 hz h; omega
    | succ m =>
      rcases h with ⟨h0, h⟩ | ⟨⟨p, hp, hpc⟩, R1, hb1, h1, k1, rfl, h⟩
      · have h2 := hF (unitV c) (unitV_byte c) (fun j hj => if_neg (by omega))
        have := Span.nought h0 h2
        simp [unitV] at this
      · have := Taken.of_full n R1 (c + 1) k1 m (by omega) (fun j hj r hr => Span.nought (hz j (by omega)) ((h1 r).1 (Span.mem (hb1 r hr) hr)).1)
          (fun v hv hvz => (h1 v).2 ⟨hF v hv (fun j hj => hvz j (by omega)), hvz c (by omega)⟩) h
        omega
/-- rows of m numbers: their rank is m if and only if they span all -/
theorem rank_full {D : List (List Nat)} {k m : Nat} (hb : ∀ l ∈ D, ∀ x ∈ l, x < 256) (hl : ∀ l ∈ D, l.length ≤ m) (hm : m ≤ 64) (h : RankIs D k) : k = m ↔ Full (Rem D 0) 0 m := by
  have hz : ∀ j, 0 + m ≤ j → ∀ r, Rem D 0 r → r j = 0 := by
    rintro j hj r ⟨i, hi, _, rfl⟩
    unfold vec
    have := hl _ (List.getElem_mem hi)
    simp [List.getElem?_eq_none (show (D[i]).length ≤ j by omega)]
  constructor
  · rintro rfl
    exact Taken.full_of 64 _ 0 k (rem_byte hb 0) hz (fun j hj => absurd hj (by omega)) h
  · intro hF
    exact Taken.of_full 64 _ 0 k m hm hz hF h
theorem Full.mono {R R' : (Nat → Nat) → Prop} {c m : Nat} (h : Full R c m) (hs : ∀ r, R r → R' r) : Full R' c m :=
  fun v hv hz S h0 hS => h v hv hz S h0 (fun a r u ha hr hu => hS a r u ha (hs r hr) hu)
theorem Full.units {R : (Nat → Nat) → Prop} (hR : ∀ r, R r → byteV r) {m : Nat} (h : ∀ j, j < m → Span R (unitV j)) : Full R 0 m := by
  intro v hv hz
  have key : ∀ t, t ≤ m → Span R (fun j => if j < t then v j else 0) := by
    intro t
    induction t with
    | zero => intro _; exact Span.zero R
    | succ t ih =>
      intro ht
      have := Span.add hR (ih (by omega)) (hv t) (h t (by omega))
      have e : addV (fun j => if j < t then v j else 0) (v t) (unitV t) = fun j => if j < t + 1 then v j else 0 := by
        funext j
        show (if j < t then v j else 0) ^^^ gm (v t) (if j = t then 1 else 0) = if j < t + 1 then v j else 0
        by_cases e1 : j = t
        · subst e1; simp [gm_one _ (hv j)]
        · rw [if_neg e1, gm_zero, Nat.xor_zero]
          by_cases e2 : j < t
          · rw [if_pos e2, if_pos (by omega)]
          · rw [if_neg e2, if_neg (by omega)]
      rwa [e] at this
  have := key m (Nat.le_refl _)
  have e : (fun j => if j < m then v j else 0) = v := by
    funext j
    by_cases hj : j < m
    · rw [if_pos hj]
    · rw [if_neg hj]; exact (hz j (by omega)).symm
  rwa [e] at this

/-! ### Inverses of sums -/
/-- a row of inverses of sums, on some columns, each times its number -/
def cauV (L : List Nat) (u : Nat → Nat) (x : Nat) : Nat → Nat := fun j => if j ∈ L then gm (u j) (gi (x ^^^ j)) else 0
theorem xor_ne {x y : Nat} (h : x ≠ y) : x ^^^ y ≠ 0 := fun e => h (by
  have := congrArg (fun t => t ^^^ y) e
  simpa [Nat.xor_assoc] using this)
theorem gm_ne {a b : Nat} (ha : a < 256) (hb : b < 256) (h1 : a ≠ 0) (h2 : b ≠ 0) : gm a b ≠ 0 := by
  intro e
  have := gm_assoc ha hb (gi_lt hb)
  rw [e, zero_gm, gm_gi b hb h2, gm_one a ha] at this
  exact h1 this.symm
theorem gi_ne {a : Nat} (ha : a < 256) (h : a ≠ 0) : gi a ≠ 0 := by
  intro e
  have := gm_gi a ha h
  rw [e, gm_zero] at this
  exact absurd this (by decide)
/-- a * (1 / b) where a = b + d: 1 + d * (1 / b) -/
theorem gm_part {a b : Nat} (ha : a < 256) (hb : b < 256) (h : b ≠ 0) : gm a (gi b) = 1 ^^^ gm (a ^^^ b) (gi b) := by
  rw [add_gm _ ha hb, gm_gi b hb h, Nat.xor_comm (gm a (gi b)) 1, ← Nat.xor_assoc, Nat.xor_self, Nat.zero_xor]
/-- 1 / a + 1 / b = (a + b) * (1 / a) * (1 / b) -/
theorem gi_add {a b : Nat} (ha : a < 256) (hb : b < 256) (h1 : a ≠ 0) (h2 : b ≠ 0) : gi a ^^^ gi b = gm (a ^^^ b) (gm (gi a) (gi b)) := by
  have ia := gi_lt ha
  have ib := gi_lt hb
  rw [add_gm _ ha hb, ← gm_assoc ha ia ib, gm_gi a ha h1, gm_comm ia ib, ← gm_assoc hb ib ia, gm_gi b hb h2, gm_comm (by decide) ib, gm_comm (by decide) ia, gm_one _ ia, gm_one _ ib, Nat.xor_comm]
theorem xor_cancel (x y z : Nat) : (x ^^^ z) ^^^ (y ^^^ z) = x ^^^ y := by
  rw [Nat.xor_comm y z, Nat.xor_assoc, ← Nat.xor_assoc z z, Nat.xor_self, Nat.zero_xor]
/-- one step at one column -/
theorem cau_step {x x0 m j u : Nat} (hx : x < 256) (hx0 : x0 < 256) (hm : m < 256) (hj : j < 256) (hu : u < 256) (h1 : x ≠ x0) (h2 : x ≠ j) (h3 : x0 ≠ j) :
    gm (gi (x ^^^ x0)) (gm (x ^^^ m) (gm u (gi (x ^^^ j))) ^^^ gm (x0 ^^^ m) (gm u (gi (x0 ^^^ j)))) = gm (gm u (gm (j ^^^ m) (gi (x0 ^^^ j)))) (gi (x ^^^ j)) := by
  have b1 := xlt hx hx0
  have b2 := xlt hx hj
  have b3 := xlt hx0 hj
  have b4 := xlt hx hm
  have b5 := xlt hx0 hm
  have b6 := xlt hj hm
  have i1 := gi_lt b1
  have i2 := gi_lt b2
  have i3 := gi_lt b3
  have sw : ∀ t g, t < 256 → g < 256 → gm t (gm u g) = gm u (gm t g) := fun t g ht hg => by
    rw [← gm_assoc ht hu hg, gm_comm ht hu, gm_assoc hu ht hg]
  rw [sw _ _ b4 i2, sw _ _ b5 i3, ← gm_add, gm_part b4 b2 (xor_ne h2), gm_part b5 b3 (xor_ne h3)]
  have e1 : (x ^^^ m) ^^^ (x ^^^ j) = j ^^^ m := by rw [Nat.xor_comm x m, Nat.xor_comm x j, xor_cancel, Nat.xor_comm]
  have e2 : (x0 ^^^ m) ^^^ (x0 ^^^ j) = j ^^^ m := by rw [Nat.xor_comm x0 m, Nat.xor_comm x0 j, xor_cancel, Nat.xor_comm]
  rw [e1, e2, xor4, Nat.xor_self, Nat.zero_xor, ← gm_add, gi_add b2 b3 (xor_ne h2) (xor_ne h3), xor_cancel]
  have b7 : gm (gi (x ^^^ j)) (gi (x0 ^^^ j)) < 256 := gm_lt _ i2
  have b8 : gm (x ^^^ x0) (gm (gi (x ^^^ j)) (gi (x0 ^^^ j))) < 256 := gm_lt _ b1
  have b9 : gm (j ^^^ m) (gi (x0 ^^^ j)) < 256 := gm_lt _ b6
  rw [sw _ _ i1 (gm_lt _ b6), gm_assoc hu b9 i2, gm_assoc b6 i3 i2]
  refine congrArg (gm u) ?_
  have e3 : gm (gi (x ^^^ x0)) (gm (x ^^^ x0) (gm (gi (x ^^^ j)) (gi (x0 ^^^ j)))) = gm (gi (x ^^^ j)) (gi (x0 ^^^ j)) := by
    rw [← gm_assoc i1 b1 b7, gm_comm i1 b1, gm_gi _ b1 (xor_ne h1), gm_comm (a := 1) (by decide) b7, gm_one _ b7]
  rw [← gm_assoc i1 b6 b8, gm_comm i1 b6, gm_assoc b6 i1 b8, e3, gm_comm i2 i3]
theorem cauchy (R : (Nat → Nat) → Prop) (hR : ∀ r, R r → byteV r) : ∀ (L X : List Nat) (u : Nat → Nat), L.Nodup → X.Nodup → L.length ≤ X.length → (∀ j ∈ L, j < 256 ∧ u j < 256 ∧ u j ≠ 0) → (∀ x ∈ X, x < 256 ∧ ∀ j ∈ L, x ≠ j) →
    (∀ x ∈ X, Span R (cauV L u x)) → ∀ j ∈ L, Span R (unitV j)
  | [], _, _, _, _, _, _, _, _ => fun j hj => by cases hj
  | m :: L, [], _, _, _, h, _, _, _ => by simp at h
  | m :: L, x0 :: X, u, hL, hX, hle, hl, hx, hs => by
    obtain ⟨hmL, hL'⟩ := List.nodup_cons.1 hL
    obtain ⟨h0X, hX'⟩ := List.nodup_cons.1 hX
    obtain ⟨hm, hum, hu0⟩ := hl m List.mem_cons_self
    obtain ⟨hx0, hx0j⟩ := hx x0 List.mem_cons_self
    have s0 := hs x0 List.mem_cons_self
    have ih := cauchy R hR L X (fun j => gm (u j) (gm (j ^^^ m) (gi (x0 ^^^ j)))) hL' hX' (by simpa using hle)
      (fun j hj => by
        obtain ⟨a1, a2, a3⟩ := hl j (List.mem_cons_of_mem _ hj)
        have b1 := xlt a1 hm
        have b2 := xlt hx0 a1
        have ne : j ≠ m := fun e => hmL (e ▸ hj)
        exact ⟨a1, gm_lt _ a2, gm_ne a2 (gm_lt _ b1) a3 (gm_ne b1 (gi_lt b2) (xor_ne ne) (gi_ne b2 (xor_ne (hx0j j (List.mem_cons_of_mem _ hj)))))⟩)
      (fun x hxx => ⟨(hx x (List.mem_cons_of_mem _ hxx)).1, fun j hj => (hx x (List.mem_cons_of_mem _ hxx)).2 j (List.mem_cons_of_mem _ hj)⟩)
      (fun x hxx => by
        obtain ⟨a1, a2⟩ := hx x (List.mem_cons_of_mem _ hxx)
        have ne : x ≠ x0 := fun e => h0X (e ▸ hxx)
        have b1 := xlt a1 hx0
        have i1 := gi_lt b1
        have b2 := xlt a1 hm
        have b3 := xlt hx0 hm
        have t1 := Span.add hR (Span.add hR (Span.zero R) (gm_lt (x ^^^ m) i1) (hs x (List.mem_cons_of_mem _ hxx))) (gm_lt (x0 ^^^ m) i1) s0
        have e : addV (addV (fun _ => 0) (gm (gi (x ^^^ x0)) (x ^^^ m)) (cauV (m :: L) u x)) (gm (gi (x ^^^ x0)) (x0 ^^^ m)) (cauV (m :: L) u x0) = cauV L (fun j => gm (u j) (gm (j ^^^ m) (gi (x0 ^^^ j)))) x := by
          funext j
          show (0 ^^^ gm (gm (gi (x ^^^ x0)) (x ^^^ m)) (cauV (m :: L) u x j)) ^^^ gm (gm (gi (x ^^^ x0)) (x0 ^^^ m)) (cauV (m :: L) u x0 j) = _
          rw [Nat.zero_xor]
          by_cases hj : j ∈ L
          · obtain ⟨c1, c2, c3⟩ := hl j (List.mem_cons_of_mem _ hj)
            have d1 := a2 j (List.mem_cons_of_mem _ hj)
            have d2 := hx0j j (List.mem_cons_of_mem _ hj)
            unfold cauV
            rw [if_pos (List.mem_cons_of_mem _ hj), if_pos (List.mem_cons_of_mem _ hj), if_pos hj, gm_assoc i1 b2 (gm_lt _ c2), gm_assoc i1 b3 (gm_lt _ c2), ← gm_add, cau_step a1 hx0 hm c1 c2 ne d1 d2]
          · by_cases hjm : j = m
            · subst hjm
              unfold cauV
              have d1 := a2 j List.mem_cons_self
              have d2 := hx0j j List.mem_cons_self
              have sw : ∀ t, t < 256 → t ≠ 0 → gm t (gm (u j) (gi t)) = u j := fun t ht h => by
                rw [← gm_assoc ht hum (gi_lt ht), gm_comm ht hum, gm_assoc hum ht (gi_lt ht), gm_gi t ht h, gm_one _ hum]
              rw [if_pos List.mem_cons_self, if_pos List.mem_cons_self, if_neg hj, gm_assoc i1 b2 (gm_lt _ hum), gm_assoc i1 b3 (gm_lt _ hum), sw _ b2 (xor_ne d1), sw _ b3 (xor_ne d2), Nat.xor_self]
            · unfold cauV
              have hn : j ∉ m :: L := by simp [hjm, hj]
              rw [if_neg hn, if_neg hn, if_neg hj, gm_zero, gm_zero, Nat.xor_self]
        rwa [e] at t1)
    have hmS : Span R (unitV m) := by
      have key : ∀ K : List Nat, (∀ j ∈ K, j ∈ L) → K.Nodup → Span R (fun j => if j ∈ K then 0 else cauV (m :: L) u x0 j) := by
        intro K
        induction K with
        | nil => intro _ _; simpa using s0
        | cons k K ihK =>
          intro hK hnd
          obtain ⟨hkK, hnd'⟩ := List.nodup_cons.1 hnd
          have hkL := hK k List.mem_cons_self
          have hcb : cauV (m :: L) u x0 k < 256 := s0.byte k
          have t := Span.add hR (ihK (fun j hj => hK j (List.mem_cons_of_mem _ hj)) hnd') hcb (ih k hkL)
          have e : addV (fun j => if j ∈ K then 0 else cauV (m :: L) u x0 j) (cauV (m :: L) u x0 k) (unitV k) = fun j => if j ∈ k :: K then 0 else cauV (m :: L) u x0 j := by
            funext j
            show (if j ∈ K then 0 else cauV (m :: L) u x0 j) ^^^ gm (cauV (m :: L) u x0 k) (if j = k then 1 else 0) = _
            by_cases e1 : j = k
            · subst e1
              rw [if_neg hkK, if_pos rfl, gm_one _ hcb, Nat.xor_self, if_pos List.mem_cons_self]
            · rw [if_neg e1, gm_zero, Nat.xor_zero]
              by_cases e2 : j ∈ K
              · rw [if_pos e2, if_pos (List.mem_cons_of_mem _ e2)]
              · rw [if_neg e2, if_neg (by simp [e1, e2])]
          rwa [e] at t
      have t := key L (fun _ h => h) hL'
      have b := xlt hx0 hm
      have ne := xor_ne (hx0j m List.mem_cons_self)
      have hc : gm (u m) (gi (x0 ^^^ m)) < 256 := gm_lt _ hum
      have hc0 : gm (u m) (gi (x0 ^^^ m)) ≠ 0 := gm_ne hum (gi_lt b) hu0 (gi_ne b ne)
      have t2 := Span.add hR (Span.zero R) (gi_lt hc) t
      have e : addV (fun _ => 0) (gi (gm (u m) (gi (x0 ^^^ m)))) (fun j => if j ∈ L then 0 else cauV (m :: L) u x0 j) = unitV m := by
        funext j
        show 0 ^^^ gm (gi (gm (u m) (gi (x0 ^^^ m)))) (if j ∈ L then 0 else cauV (m :: L) u x0 j) = unitV m j
        rw [Nat.zero_xor]
        unfold unitV cauV
        by_cases e1 : j = m
        · subst e1
          rw [if_neg hmL, if_pos List.mem_cons_self, if_pos rfl, gm_comm (gi_lt hc) hc, gm_gi _ hc hc0]
        · rw [if_neg e1]
          by_cases e2 : j ∈ L
          · rw [if_pos e2, gm_zero]
          · rw [if_neg e2, if_neg (by simp [e1, e2]), gm_zero]
      rwa [e] at t2
    intro j hj
    rcases List.mem_cons.1 hj with rfl | hj
    · exact hmS
    · exact ih j hj
end Go.Proofs.YthhommjlomphdabDoor.Gf
/-
  Memory that a call makes: rows of bytes, and lists of such rows.
-/
namespace Go.Proofs.YthhommjlomphdabDoor
open Go.RowKit Go.Deep

theorem wrap64_nat {n : Nat} (h : n ≤ 1000000000000) : wrap64 (n : Int) = (n : Int) := by unfold wrap64; omega
/-- a byte -/
def vb (l : List Nat) (i : Nat) : Value := .int .u8 ((l.getD i 0 : Nat) : Int)
/-- block b is a row of just these bytes -/
def Brow (w : World) (b : Nat) (l : List Nat) : Prop := w.rowIs b 5 l.length (vb l)
/-- a slice's value: its block, how long it is, and all the bytes of the block -/
def hdr (p : Nat × Nat × List Nat) : Value := .slice (some ⟨p.1, 0, none⟩) p.2.1 p.2.2.length
/-- a list of rows that the call has made -/
structure Tab (w : World) (base : Nat) (v : Value) (L : List (Nat × Nat × List Nat)) : Prop where
  own : w.ownsRow base 59 1 v L.length (L.map hdr)
  row : ∀ p ∈ L, base ≤ p.1 ∧ Brow w p.1 p.2.2 ∧ p.2.1 ≤ p.2.2.length ∧ (p.2.1 ≤ 140737488355328 ∧ p.2.2.length ≤ 9223372036854775807) ∧ ∀ x ∈ p.2.2, x < 256
  nodup : (L.map (fun p => p.1)).Nodup

theorem getD_lt {l : List Nat} (h : ∀ x ∈ l, x < 256) (i : Nat) : l.getD i 0 < 256 := by
  by_cases hi : i < l.length
  · have e : l.getD i 0 = l[i] := by simp [hi]
    rw [e]; exact h _ (List.getElem_mem hi)
  · have e : l.getD i 0 = 0 := by simp [List.getElem?_eq_none (show l.length ≤ i by omega)]
    rw [e]; decide

theorem Brow.below {w w' : World} {b : Nat} {l : List Nat} (h : Brow w b l) (hb : Below w.heap.size w w') : Brow w' b l :=
  World.rowIs.of_block h (hb.block b h.lt)
theorem Brow.cell {w : World} {b : Nat} {l : List Nat} (h : Brow w b l) (i : Nat) (hi : i < l.length) : w.cell? ⟨b, i, none⟩ = some (.int .u8 ((l.getD i 0 : Nat) : Int)) :=
  World.rowIs.cell h hi
theorem Brow.frozen {w : World} {b : Nat} {l : List Nat} (h : Brow w b l) (i : Nat) : w.frozen? ⟨b, i, none⟩ = false := World.rowIs.frozen h i
theorem Brow.set {w : World} {b : Nat} {l : List Nat} (h : Brow w b l) (i x : Nat) : Brow (w.setCell ⟨b, i, none⟩ (.int .u8 (x : Int))) b (l.set i x) := by
  have h1 := World.rowIs.set h i (.int .u8 (x : Int))
  unfold Brow
  rw [List.length_set]
  refine h1.congr fun j hj => ?_
  unfold vb
  by_cases e : j = i
  · subst e
    simp [hj]
  · simp only [if_neg e]
    rw [List.getD_eq_getElem?_getD, List.getD_eq_getElem?_getD, List.getElem?_set_ne (fun h => e h.symm)]
theorem Brow.other {w : World} {b : Nat} {l : List Nat} (h : Brow w b l) {a : Addr} (ha : b ≠ a.block) (v : Value) : Brow (w.setCell a v) b l := World.rowIs.setOther h ha v
theorem Brow.alloc {w : World} {b : Nat} {l : List Nat} (h : Brow w b l) (o : Obj) : Brow (w.alloc o) b l := World.rowIs.alloc h o
theorem Brow.lt {w : World} {b : Nat} {l : List Nat} (h : Brow w b l) : b < w.heap.size := World.rowIs.lt h
theorem Brow.grown {w w' : World} {b : Nat} {l : List Nat} {row : Option Nat} (h : Brow w b l) (hg : w.grownBy w' row) (hne : some b ≠ row) : Brow w' b l :=
  World.rowIs.of_block h (hg.block b h.lt hne)
/-- a made row: all 0 -/
theorem Brow.made (w : World) (n : Nat) : Brow (w.alloc (.cells (madeCells #[.int .u8 0] n) 5)) w.heap.size (List.replicate n 0) := by
  have h := World.rowIs_made w (.int .u8 0) n 5
  unfold Brow
  rw [List.length_replicate]
  refine h.congr fun i hi => ?_
  simp [vb, hi]

theorem ownsRow_below {w w' : World} {base : Nat} {e : TypeId} {size : Nat} {v : Value} {n : Nat} {xs : List Value} (h : w.ownsRow base e size v n xs) (hb : Below w.heap.size w w') : w'.ownsRow base e size v n xs := by
  refine ⟨h.1, ?_⟩
  rcases h.2 with h0 | ⟨g, cap, cur, e1, e2, e3, e4⟩
  · exact .inl h0
  · refine .inr ⟨g, cap, cur, e1, e2, ?_, e4⟩
    obtain ⟨hlt, _⟩ := Array.getElem?_eq_some_iff.1 e3
    rw [hb.block g hlt]; exact e3
theorem ownsRow_weaken {w : World} {base base' : Nat} {e : TypeId} {size : Nat} {v : Value} {n : Nat} {xs : List Value} (h : w.ownsRow base e size v n xs) (hb : base' ≤ base) : w.ownsRow base' e size v n xs := by
  refine ⟨h.1, ?_⟩
  rcases h.2 with h0 | ⟨g, cap, cur, e1, e2, e3⟩
  · exact .inl h0
  · exact .inr ⟨g, cap, cur, e1, by omega, e3⟩
/-- a list's own block is none of bytes -/
theorem own_ne {w : World} {base : Nat} {v : Value} {n : Nat} {xs : List Value} (h : w.ownsRow base 59 1 v n xs) {b : Nat} {l : List Nat} (hb : Brow w b l) : v.ownBlock ≠ some b := by
  intro e
  rcases h.2 with ⟨h0, _⟩ | ⟨g, cap, cur, e1, e2, e3, e4⟩
  · rw [h0] at e; simp [Value.ownBlock] at e
  · rw [e1] at e
    simp [Value.ownBlock] at e
    subst e
    obtain ⟨c, hc, _⟩ := hb
    rw [hc] at e3
    simp at e3

theorem Tab.weaken {w : World} {base base' : Nat} {v : Value} {L : List (Nat × Nat × List Nat)} (h : Tab w base v L) (hb : base' ≤ base) : Tab w base' v L :=
  ⟨ownsRow_weaken h.own hb, fun p hp => by obtain ⟨a, b⟩ := h.row p hp; exact ⟨by omega, b⟩, h.nodup⟩
theorem Tab.nil (w : World) (base : Nat) : Tab w base (.slice none 0 0) [] :=
  ⟨World.ownsRow_nil _ _ _ _, fun p hp => by simp at hp, by simp⟩
theorem Tab.below {w w' : World} {base : Nat} {v : Value} {L : List (Nat × Nat × List Nat)} (h : Tab w base v L) (hb : Below w.heap.size w w') : Tab w' base v L :=
  ⟨ownsRow_below h.own hb, fun p hp => by obtain ⟨a, b, c⟩ := h.row p hp; exact ⟨a, b.below hb, c⟩, h.nodup⟩
theorem Tab.alloc {w : World} {base : Nat} {v : Value} {L : List (Nat × Nat × List Nat)} (h : Tab w base v L) (o : Obj) : Tab (w.alloc o) base v L :=
  h.below ((Below.refl _ _).alloc (Nat.le_refl _) _)
/-- behind an append of one row -/
theorem Tab.push {w w' : World} {base : Nat} {v v' : Value} {L : List (Nat × Nat × List Nat)} {p : Nat × Nat × List Nat} (h : Tab w base v L) (hg : w.grownBy w' v.ownBlock) (hown : w'.ownsRow base 59 1 v' (L.length + 1) (L.map hdr ++ [hdr p]))
    (hp : base ≤ p.1 ∧ Brow w p.1 p.2.2 ∧ p.2.1 ≤ p.2.2.length ∧ (p.2.1 ≤ 140737488355328 ∧ p.2.2.length ≤ 9223372036854775807) ∧ ∀ x ∈ p.2.2, x < 256) (hne : ∀ q ∈ L, q.1 ≠ p.1) : Tab w' base v' (L ++ [p]) := by
  refine ⟨by simpa using hown, fun q hq => ?_, ?_⟩
  · rcases List.mem_append.1 hq with hq | hq
    · obtain ⟨a, b, c⟩ := h.row q hq
      exact ⟨a, b.grown hg (fun e => own_ne h.own b e.symm), c⟩
    · simp at hq; subst hq
      exact ⟨hp.1, hp.2.1.grown hg (fun e => own_ne h.own hp.2.1 e.symm), hp.2.2⟩
  · rw [List.map_append, List.nodup_append]
    refine ⟨h.nodup, by simp, ?_⟩
    intro a ha b hb
    obtain ⟨q, hq, rfl⟩ := List.mem_map.1 ha
    simp at hb
    subst hb
    exact hne q hq
theorem add0 (g i : Nat) : (⟨g, 0, none⟩ : Addr).add i = ⟨g, i, none⟩ := by
  unfold Addr.add
  split
  · rename_i h; simp_all
  · simp
theorem Tab.shape {w : World} {base : Nat} {v : Value} {L : List (Nat × Nat × List Nat)} (h : Tab w base v L) : (v = .slice none 0 0 ∧ L = []) ∨ ∃ g cap, v = .slice (some ⟨g, 0, none⟩) L.length cap ∧ base ≤ g ∧ L.length ≤ cap ∧ cap ≤ maxLen ∧ g < w.heap.size ∧ (∀ i (hi : i < L.length), w.cell? ⟨g, i, none⟩ = some (hdr L[i])) ∧ (∀ i, w.frozen? ⟨g, i, none⟩ = false) ∧ ∀ p ∈ L, p.1 ≠ g := by
  rcases h.own.2 with ⟨h0, h1⟩ | ⟨g, cap, cur, e1, e2, e3, e4, e5, e6, e7⟩
  · exact .inl ⟨h0, List.eq_nil_of_length_eq_zero h1⟩
  · obtain ⟨hlt, _⟩ := Array.getElem?_eq_some_iff.1 e3
    refine .inr ⟨g, cap, e1, e2, e4, e5, hlt, fun i hi => ?_, fun i => ?_, fun p hp e => ?_⟩
    · have := h.own.cells (g := g) (by rw [e1]; rfl) i (hdr L[i]) (by simp [hi])
      rw [add0] at this
      exact this
    · simp [World.frozen?, e3]
    · have := own_ne h.own (h.row p hp).2.1
      rw [e1] at this
      exact this (by rw [e]; rfl)

theorem Tryd.infoByte : (Tryd.prog.info? 5).map (fun i => (i.zero, i.size, i.bytes)) = some (some (.int .u8 0), 1, 1) := by kernel_rfl
theorem Tryd.infoBytes : (Tryd.prog.info? 59).map (fun i => (i.zero, i.size, i.bytes)) = some (some (.slice none 0 0), 1, 24) := by kernel_rfl
/-- make([]byte, n) -/
theorem wpList_mk (w : World) {ops : Array Oper} {rest : List Oper} {o : Oper} {a : Act} {Q : Exit → Act → World → Prop}
    (hg : o.guard = none) (l c : Operand) (hop : o.op = Op.makeSlice 59 l c) (C : Int) (n : Nat) (hl : a.eval l = .int .i64 C) (hc : a.eval c = .int .i64 C) (hC : C = (n : Int)) (hn : n ≤ 140737488355328)
    (hK : ∀ w', Brow w' w.heap.size (List.replicate n 0) → Below w.heap.size w w' → w'.heap.size = w.heap.size + 1 → wpList Tryd.prog ops Q rest (a.put o.dst (.slice (some ⟨w.heap.size, 0, none⟩) n n)) w') :
    wpList Tryd.prog ops Q (o :: rest) a w := by
  refine wpList_plain hg fun K hK' => ?_
  have hrun := run_make_row' (P := Tryd.prog) 59 5 (.int .u8 0) 1 Tryd.underlying59 Tryd.infoByte rfl .i64 .i64 n (by omega) (by omega) w
  subst hC
  unfold Oper.wp
  simp [execOp, hop, hl, hc, hrun, Result.andThen]
  exact hK' _ _ (hK _ (Brow.made w n) ((Below.refl _ _).alloc (Nat.le_refl _) _) (nblk_alloc _ _))
end Go.Proofs.YthhommjlomphdabDoor
/-
  Params: whether they are right; the program's word and the document's.
-/
namespace Go.Proofs.YthhommjlomphdabDoor
open Go.RowKit Go.Deep

/-- params that are right -/
def rightB (D L G : Int) : Bool := decide (1 ≤ D ∧ D ≤ 12 ∧ 1 ≤ L ∧ L ≤ 4 ∧ 0 ≤ G ∧ G ≤ 4 ∧ D % L = 0 ∧ D + L + G ≤ 16)
theorem ret_bool {a b : Bool} (h : a = b) : Ending.returned (.bool a) = .returned (.bool b) := by rw [h]
def pv (D L G : Int) : Value := .agg #[.int .i64 D, .int .i64 L, .int .i64 G]

set_option maxRecDepth 100000 in
set_option maxHeartbeats 1000000 in
theorem shards_any (D L G : Int) (w : World) (h1 : 0 ≤ D ∧ D ≤ 100) (h2 : 0 ≤ L ∧ L ≤ 100) (h3 : 0 ≤ G ∧ G ≤ 100) :
    Calls Tryd.prog 26 #[.agg #[.int .i64 D, .int .i64 L, .int .i64 G]] w fun e w' => e = .returned (.int .i64 (D + L + G)) ∧ Below w.heap.size w w' := by
  obtain ⟨a1, a2⟩ := h1
  obtain ⟨b1, b2⟩ := h2
  obtain ⟨c1, c2⟩ := h3
  go_enter Tryd.func26, Tryd.ntmps26
  go_wp2
  go_ret
  exact ⟨rfl, (Below.refl _ _).alloc (Nat.le_refl _) _⟩

set_option maxRecDepth 100000 in
set_option maxHeartbeats 1000000 in
theorem right_any (D L G : Int) (w : World) :
    Calls Tryd.prog 24 #[.agg #[.int .i64 D, .int .i64 L, .int .i64 G]] w fun e w' => e = .returned (.bool (rightB D L G)) ∧ Below w.heap.size w w' := by
  go_enter Tryd.func24, Tryd.ntmps24
  go_wp2_with (go_at_call 26; refine (shards_any D L G _ (by omega) (by omega) (by omega)).mono ?_; rintro e w' ⟨rfl, hb⟩)
  all_goals go_ret
  · refine ⟨ret_bool (b := rightB D L G) ?_, ((Below.refl _ _).alloc (Nat.le_refl _) _).trans (hb.mono (by simp))⟩
    unfold rightB
    rw [decide_eq_decide]
    constructor
    · intro h; exact ⟨by omega, by omega, by omega, by omega, by omega, by omega, by assumption, h⟩
    · intro h; exact h.2.2.2.2.2.2.2
  all_goals
    refine ⟨ret_bool (b := rightB D L G) ?_, (Below.refl _ _).alloc (Nat.le_refl _) _⟩
    unfold rightB
    symm
    rw [decide_eq_false_iff_not]
    intro h
    omega

set_option maxRecDepth 100000 in
set_option maxHeartbeats 1000000 in
theorem rshards_any (D L G : Int) (w : World) (h1 : 0 ≤ D ∧ D ≤ 100) (h2 : 0 ≤ L ∧ L ≤ 100) (h3 : 0 ≤ G ∧ G ≤ 100) :
    Calls Tryd.prog 12 #[.agg #[.int .i64 D, .int .i64 L, .int .i64 G]] w fun e w' => e = .returned (.int .i64 (D + L + G)) ∧ Below w.heap.size w w' := by
  obtain ⟨a1, a2⟩ := h1
  obtain ⟨b1, b2⟩ := h2
  obtain ⟨c1, c2⟩ := h3
  go_enter Tryd.func12, Tryd.ntmps12
  go_wp2
  go_ret
  exact ⟨rfl, (Below.refl _ _).alloc (Nat.le_refl _) _⟩

set_option maxRecDepth 100000 in
set_option maxHeartbeats 1000000 in
theorem rright_any (D L G : Int) (w : World) :
    Calls Tryd.prog 9 #[.agg #[.int .i64 D, .int .i64 L, .int .i64 G]] w fun e w' => e = .returned (.bool (rightB D L G)) ∧ Below w.heap.size w w' := by
  go_enter Tryd.func9, Tryd.ntmps9
  go_wp2
  all_goals go_ret
  rotate_left
  · refine ⟨ret_bool (b := rightB D L G) ?_, (Below.refl _ _).alloc (Nat.le_refl _) _⟩
    unfold rightB
    rw [decide_eq_decide]
    constructor
    · intro h; exact ⟨by omega, by omega, by omega, by omega, by omega, by omega, by assumption, h⟩
    · intro h; exact h.2.2.2.2.2.2.2
  all_goals
    refine ⟨ret_bool (b := rightB D L G) ?_, (Below.refl _ _).alloc (Nat.le_refl _) _⟩
    unfold rightB
    symm
    rw [decide_eq_false_iff_not]
    intro h
    omega

set_option maxRecDepth 100000 in
set_option maxHeartbeats 1000000 in
theorem theirs_any (D L G : Int) (w : World) :
    Calls Tryd.prog 7 #[.agg #[.int .i64 D, .int .i64 L, .int .i64 G]] w fun e w' => e = .returned (.agg #[.int .i64 D, .int .i64 L, .int .i64 G]) ∧ Below w.heap.size w w' := by
  go_enter Tryd.func7, Tryd.ntmps7
  go_wp2
  exact bodyPost_ret (v := .agg #[.int .i64 D, .int .i64 L, .int .i64 G]) (by simp [results, Tryd.results7, go_sem]) rfl ⟨rfl, ((Below.refl _ _).alloc (Nat.le_refl _) _).alloc (by simp) _⟩
end Go.Proofs.YthhommjlomphdabDoor
