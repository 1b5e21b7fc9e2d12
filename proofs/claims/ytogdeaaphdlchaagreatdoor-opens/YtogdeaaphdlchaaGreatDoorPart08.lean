import Derived.Test.YtogdeaaphdlchaaGreatDoorPart07
import Derived.Test.YtogdeaaphdlchaaGreatDoorPart02
import Derived.Lib.TrailingZeros
import Derived.Laws.Bits64b
import Derived.Laws.BitsAllLaws
import Derived.RangeFuncNested
import Derived.RangeFuncBound
import Derived.RangeFuncLeaves
import Derived.Shelf.Abstract
import Derived.Shelf.RegionOpen
import Derived.WalkKit
import Derived.OwnWalkIn
import Derived.TacticsInMore
import Derived.LoopNIn
import Derived.LoopIn
/-
  The search for checks that read the fewest shards: what it finds, and that none reads fewer. Nothing of the program is imported here.
-/
namespace Go.Proofs.YtogdeaaphdlchaaGreatDoor.Gf

def readsB (C : Ck) (i : Nat) : Bool := (List.range C.told).any (fun r => decide (C.m r i ≠ 0))
theorem readsB_false {C : Ck} {i : Nat} : readsB C i = false ↔ ∀ r, r < C.told → C.m r i = 0 := by
  unfold readsB
  rw [List.any_eq_false]
  constructor
  · intro h r hr; have := h r (List.mem_range.2 hr); simpa using this
  · intro h r hr; simp [h r (List.mem_range.1 hr)]
theorem readsB_true {C : Ck} {i r : Nat} (h1 : r < C.told) (h2 : C.m r i ≠ 0) : readsB C i = true := by
  cases h : readsB C i with
  | true => rfl
  | false => exact absurd (readsB_false.1 h r h1) h2
/-- how many shards of a list are read -/
def cntR (K : List Nat) (C : Ck) : Nat := (K.filter (readsB C)).length
abbrev Srch := Ck × Nat
def stepS (K : List Nat) (s : Srch) (C : Ck) : Srch := if cntR K C = 0 ∨ cntR K C < s.2 then (C, cntR K C) else s
/-- the shards of a set -/
def mems (s : Nat) : List Nat := (List.range 16).filter (fun i => s.testBit i)
/-- those of them behind one -/
def behindN (s i : Nat) : Nat := s / 2 ^ (i + 1) * 2 ^ (i + 1)
theorem behindN_bit (s i j : Nat) : (behindN s i).testBit j = (decide (i < j) && s.testBit j) := by
  unfold behindN
  rw [Nat.testBit_mul_two_pow]
  by_cases h : i + 1 ≤ j
  · simp only [Nat.testBit_div_two_pow]
    rw [show j - (i + 1) + (i + 1) = j by omega]
    simp [h, show i < j by omega]
  · simp [h, show ¬ i < j by omega]
theorem mems_sorted (s : Nat) : (mems s).Pairwise (· < ·) := (List.pairwise_lt_range (n := 16)).filter _
theorem mem_mems {s i : Nat} : i ∈ mems s ↔ i < 16 ∧ s.testBit i = true := by unfold mems; rw [List.mem_filter, List.mem_range]
theorem mems_behind {s i : Nat} {pre R : List Nat} (h : mems s = pre ++ i :: R) : mems (behindN s i) = R := by
  have e : mems (behindN s i) = (mems s).filter (fun j => decide (i < j)) := by
    unfold mems
    rw [List.filter_filter]
    apply List.filter_congr
    intro j _
    rw [behindN_bit]
  have hs := mems_sorted s
  rw [h] at hs
  rw [e, h, List.filter_append, List.filter_cons]
  obtain ⟨h1, h2, h3⟩ := List.pairwise_append.1 hs
  obtain ⟨h4, h5⟩ := List.pairwise_cons.1 h2
  have e1 : pre.filter (fun j => decide (i < j)) = [] := List.filter_eq_nil_iff.2 (fun j hj => by have := h3 j hj i (by simp); simp; omega)
  have e2 : R.filter (fun j => decide (i < j)) = R := List.filter_eq_self.2 (fun j hj => by have := h4 j hj; simp; omega)
  rw [e1, e2]
  simp

/-! ### the search -/
/-- what one shard does: passed over so far; the best so far; is the loop left? -/
def visF (rec : Ck → Nat → Nat → Srch → Srch) (C : Ck) (of : Nat) (a : Nat × Srch × Bool) (i : Nat) : Nat × Srch × Bool :=
  if a.2.2 = true then a else if ¬ a.1 < a.2.1.2 then (a.1, a.2.1, true) else
    match leave C i with
    | none => a
    | some C' => (a.1 + 1, rec C' (behindN of i) a.1 a.2.1, false)
def visitS (K : List Nat) : Nat → Ck → Nat → Nat → Srch → Srch
  | 0, C, of, p, st => ((mems of).foldl (visF (fun _ _ _ s => s) C of) (p, stepS K st C, false)).2.1
  | n + 1, C, of, p, st => ((mems of).foldl (visF (visitS K n) C of) (p, stepS K st C, false)).2.1
def recS (K : List Nat) : Nat → Ck → Nat → Nat → Srch → Srch
  | 0 => fun _ _ _ s => s
  | n + 1 => visitS K n
theorem visitS_eq (K : List Nat) (n : Nat) (C : Ck) (of p : Nat) (st : Srch) : visitS K n C of p st = ((mems of).foldl (visF (recS K n) C of) (p, stepS K st C, false)).2.1 := by
  cases n <;> rfl
theorem stepS_le (K : List Nat) (s : Srch) (C : Ck) : (stepS K s C).2 ≤ s.2 := by
  unfold stepS; split
  · show cntR K C ≤ s.2; omega
  · exact Nat.le_refl _
theorem stepS_cnt (K : List Nat) (s : Srch) (C : Ck) : (stepS K s C).2 ≤ cntR K C := by
  unfold stepS; split
  · exact Nat.le_refl _
  · show s.2 ≤ cntR K C; omega
theorem visF_le {rec : Ck → Nat → Nat → Srch → Srch} (h : ∀ C of p s, (rec C of p s).2 ≤ s.2) (C : Ck) (of : Nat) (a : Nat × Srch × Bool) (i : Nat) : (visF rec C of a i).2.1.2 ≤ a.2.1.2 := by
  unfold visF
  split
  · exact Nat.le_refl _
  · split
    · exact Nat.le_refl _
    · split
      · exact Nat.le_refl _
      · exact h _ _ _ _
theorem foldF_le {rec : Ck → Nat → Nat → Srch → Srch} (h : ∀ C of p s, (rec C of p s).2 ≤ s.2) (C : Ck) (of : Nat) : ∀ (L : List Nat) (a : Nat × Srch × Bool), (L.foldl (visF rec C of) a).2.1.2 ≤ a.2.1.2
  | [], _ => Nat.le_refl _
  | i :: L, a => Nat.le_trans (foldF_le h C of L (visF rec C of a i)) (visF_le h C of a i)
theorem visitS_le (K : List Nat) : ∀ n C of p s, (visitS K n C of p s).2 ≤ s.2
  | 0, C, of, _, s => Nat.le_trans (foldF_le (fun _ _ _ _ => Nat.le_refl _) C of _ _) (stepS_le K s C)
  | n + 1, C, of, _, s => Nat.le_trans (foldF_le (visitS_le K n) C of _ _) (stepS_le K s C)
theorem recS_le (K : List Nat) (n : Nat) : ∀ C of p s, (recS K n C of p s).2 ≤ s.2 := by
  cases n with
  | zero => exact fun _ _ _ _ => Nat.le_refl _
  | succ n => exact visitS_le K n
theorem visF_done (rec : Ck → Nat → Nat → Srch → Srch) (C : Ck) (of : Nat) (p : Nat) (s : Srch) : ∀ L : List Nat, L.foldl (visF rec C of) (p, s, true) = (p, s, true)
  | [] => rfl
  | i :: L => by
    have e : visF rec C of (p, s, true) i = (p, s, true) := by unfold visF; rw [if_pos rfl]
    rw [List.foldl_cons, e]
    exact visF_done rec C of p s L

/-! ### none reads fewer -/
/-- to each check that tells, spare ones can be added so that it is nought on U -/
def Tgt (U : Nat → Prop) (C : Ck) : Prop := ∀ k, k < C.told → ∃ u, Span (From C C.told) (addV u 1 (C.m k)) ∧ byteV u ∧ ∀ j, U j → u j = 0
def Dead (C : Ck) (j : Nat) : Prop := ∀ r, C.told ≤ r → r < C.count → C.m r j = 0
theorem Dead.span {C : Ck} {j : Nat} (h : Dead C j) {v : Nat → Nat} (hv : Span (From C C.told) v) : v j = 0 :=
  Span.nought (fun r hr => by obtain ⟨k, k1, k2, rfl⟩ := hr; exact h k k1 k2) hv
theorem leave_cases {C C' : Ck} {i : Nat} (h : leave C i = some C') : ∃ r, C' = leaveAt C i r ∧ C.told ≤ r ∧ r < C.count ∧ C.m r i ≠ 0 := by
  unfold leave at h
  rw [Option.map_eq_some_iff] at h
  obtain ⟨r, hr, rfl⟩ := h
  obtain ⟨h1, h2, h3⟩ := spareAt_some hr
  exact ⟨r, rfl, h1, h2, h3⟩
theorem leave_none_dead {C : Ck} {i : Nat} (h : leave C i = none) : Dead C i := by
  unfold leave at h
  exact fun r h1 h2 => spareAt_none (Option.map_eq_none_iff.1 h) r h1 h2
theorem leave_dead {C C' : Ck} {i j : Nat} (hb : Byt C) (h : leave C i = some C') (hd : Dead C j ∨ j = i) : Dead C' j := by
  obtain ⟨r, rfl, h1, h2, h3⟩ := leave_cases h
  intro k k1 k2
  have := (leave_rows (t := C.told) hb (Nat.le_refl _) h1 h2 h3 ((leaveAt C i r).m k)).1 (Span.mem (leave_byte hb k) ⟨k, k1, k2, rfl⟩)
  rcases hd with hd | rfl
  · exact hd.span this.1
  · exact this.2
theorem addV_one (u r : Nat → Nat) (hr : byteV r) (j : Nat) : addV u 1 r j = u j ^^^ r j := by
  show u j ^^^ gm 1 (r j) = _; rw [gm_comm (by decide) (hr j), gm_one _ (hr j)]
theorem xor_eq {x y : Nat} (h : x ^^^ y = 0) : x = y := by
  have := congrArg (· ^^^ y) h
  simp only [Nat.zero_xor] at this
  rwa [Nat.xor_assoc, Nat.xor_self, Nat.xor_zero] at this
theorem leave_tgt {C C' : Ck} {i : Nat} {U : Nat → Prop} (hb : Byt C) (h : leave C i = some C') (hi : U i) (ht : Tgt U C) : Tgt U C' := by
  obtain ⟨r, rfl, h1, h2, h3⟩ := leave_cases h
  intro k hk
  have hk' : k < C.told := hk
  obtain ⟨u, hu, hub, hz⟩ := ht k hk'
  refine ⟨u, ?_, hub, hz⟩
  have e := leave_told (i := i) hk' h1 h2
  have hf : gm (C.m k i) (gi (C.m r i)) < 256 := gm_lt _ (hb k i)
  show Span (From (leaveAt C i r) C.told) _
  rw [leave_rows (t := C.told) hb (Nat.le_refl _) h1 h2 h3]
  constructor
  · rw [e]
    have e2 : addV u 1 (addV (C.m k) (gm (C.m k i) (gi (C.m r i))) (C.m r)) = addV (addV u 1 (C.m k)) (gm (C.m k i) (gi (C.m r i))) (C.m r) := by
      funext j
      rw [addV_one _ _ (addV_byte (hb k) hf)]
      show u j ^^^ (C.m k j ^^^ gm _ (C.m r j)) = (addV u 1 (C.m k) j) ^^^ gm _ (C.m r j)
      rw [addV_one _ _ (hb k), Nat.xor_assoc]
    rw [e2]
    exact hu.step hf ⟨r, h1, h2, rfl⟩
  · rw [addV_one _ _ (leave_byte hb k), hz i hi, e]
    show 0 ^^^ (C.m k i ^^^ gm (gm (C.m k i) (gi (C.m r i))) (C.m r i)) = 0
    rw [off_at (hb k i) (hb r i) h3]
    rfl
theorem tgt_dead {C : Ck} {U : Nat → Prop} (hb : Byt C) (ht : Tgt U C) (j : Nat) (hj : U j) (hd : Dead C j) : readsB C j = false := by
  rw [readsB_false]
  intro k hk
  obtain ⟨u, hu, hub, hz⟩ := ht k hk
  have := hd.span hu
  rw [addV_one _ _ (hb k), hz j hj, Nat.zero_xor] at this
  exact this
theorem cnt_bound {K : List Nat} {C : Ck} {U : Nat → Prop} [DecidablePred U] (h : ∀ j, j ∈ K → U j → readsB C j = false) : cntR K C ≤ (K.filter (fun j => decide (¬ U j))).length := by
  unfold cntR
  induction K with
  | nil => exact Nat.le_refl _
  | cons a K ih =>
    have ih' := ih (fun j hj => h j (List.mem_cons_of_mem _ hj))
    by_cases hu : U a
    · rw [List.filter_cons_of_neg (by simp [h a List.mem_cons_self hu]), List.filter_cons_of_neg (by simp [hu])]
      exact ih'
    · rw [List.filter_cons_of_pos (p := fun j => decide (¬ U j)) (by simp [hu])]
      by_cases hr : readsB C a = true
      · rw [List.filter_cons_of_pos hr]; simp only [List.length_cons]; omega
      · rw [List.filter_cons_of_neg hr]; simp only [List.length_cons]; omega
theorem visit_opt (K : List Nat) (U : Nat → Prop) [DecidablePred U] (q : Nat) (hq : (K.filter (fun j => decide (¬ U j))).length ≤ q) : ∀ n (C : Ck) (of p : Nat) (st : Srch), Byt C → C.count ≤ C.told + n → Tgt U C →
    (∀ j ∈ K, U j → j ∉ mems of → Dead C j) → p + ((mems of).filter (fun j => decide (¬ U j))).length ≤ q → (visitS K n C of p st).2 ≤ q := by
  intro n
  induction n with
  | zero =>
    intro C of p st hb hc ht hd hp
    have hdead : ∀ j, Dead C j := fun j r h1 h2 => by omega
    have hcn : cntR K C ≤ q := Nat.le_trans (cnt_bound (U := U) (fun j _ hj => tgt_dead hb ht j hj (hdead j))) hq
    exact Nat.le_trans (foldF_le (fun _ _ _ _ => Nat.le_refl _) C of _ _) (Nat.le_trans (stepS_cnt K st C) hcn)
  | succ n ih =>
    intro C of p st hb hc ht hd hp
    have key : ∀ (R pre : List Nat) (p : Nat) (s : Srch), mems of = pre ++ R → (∀ j ∈ K, U j → j ∉ R → Dead C j) → p + (R.filter (fun j => decide (¬ U j))).length ≤ q → s.2 ≤ cntR K C →
        (R.foldl (visF (visitS K n) C of) (p, s, false)).2.1.2 ≤ q := by
      intro R
      induction R with
      | nil =>
        intro pre p s _ hdd _ hs
        exact Nat.le_trans hs (Nat.le_trans (cnt_bound (U := U) (fun j hjK hj => tgt_dead hb ht j hj (hdd j hjK hj (by simp)))) hq)
      | cons i R ihR =>
        intro pre p s hm hdd hpp hs
        rw [List.foldl_cons]
        have hm' : mems of = (pre ++ [i]) ++ R := by rw [hm]; simp
        by_cases hlt : p < s.2
        · cases hl : leave C i with
          | none =>
            have e : visF (visitS K n) C of (p, s, false) i = (p, s, false) := by unfold visF; simp [hlt, hl]
            rw [e]
            refine ihR (pre ++ [i]) p s hm' (fun j hjK hj hjR => ?_) ?_ hs
            · by_cases e : j = i
              · rw [e]; exact leave_none_dead hl
              · exact hdd j hjK hj (by simp [e, hjR])
            · by_cases hu : U i
              · rwa [List.filter_cons_of_neg (by simp [hu])] at hpp
              · rw [List.filter_cons_of_pos (by simp [hu]), List.length_cons] at hpp; omega
          | some C' =>
            have e : visF (visitS K n) C of (p, s, false) i = (p + 1, visitS K n C' (behindN of i) p s, false) := by unfold visF; simp [hlt, hl]
            rw [e]
            by_cases hu : U i
            · refine Nat.le_trans (foldF_le (visitS_le K n) C of R _) ?_
              obtain ⟨r, hC', h1, h2, h3⟩ := leave_cases hl
              refine ih C' (behindN of i) p s (by rw [hC']; exact leave_byte hb) (by rw [hC']; show C.count - 1 ≤ C.told + n; omega) (leave_tgt hb hl hu ht) ?_ ?_
              · rw [mems_behind hm]
                intro j hjK hj hjR
                refine leave_dead hb hl ?_
                by_cases e : j = i
                · exact .inr e
                · exact .inl (hdd j hjK hj (by simp [e, hjR]))
              · rw [mems_behind hm]
                rwa [List.filter_cons_of_neg (by simp [hu])] at hpp
            · rw [List.filter_cons_of_pos (by simp [hu]), List.length_cons] at hpp
              refine ihR (pre ++ [i]) (p + 1) _ hm' (fun j hjK hj hjR => ?_) (by omega) (Nat.le_trans (visitS_le K n _ _ _ _) hs)
              exact hdd j hjK hj (by
                intro hm2
                rcases List.mem_cons.1 hm2 with e | e
                · exact hu (e ▸ hj)
                · exact hjR e)
        · have e : visF (visitS K n) C of (p, s, false) i = (p, s, true) := by unfold visF; simp [hlt]
          rw [e, visF_done]
          show s.2 ≤ q
          omega
    exact key (mems of) [] p (stepS K st C) rfl (fun j hjK hj hn => hd j hjK hj hn) hp (stepS_cnt K st C)

/-! ### what is found -/
inductive Reach (C : Ck) : Ck → Prop
  | refl : Reach C C
  | step {C1 C2 : Ck} {i : Nat} : Reach C C1 → leave C1 i = some C2 → Reach C C2
theorem Reach.trans {A B C : Ck} (h : Reach A B) (h' : Reach B C) : Reach A C := by
  induction h' with
  | refl => exact h
  | step _ hl ih => exact .step ih hl
def Found (K : List Nat) (C : Ck) (s s' : Srch) : Prop := s' = s ∨ (Reach C s'.1 ∧ s'.2 = cntR K s'.1)
theorem stepS_found (K : List Nat) (s : Srch) (C : Ck) : Found K C s (stepS K s C) := by
  unfold stepS; split
  · exact .inr ⟨.refl, rfl⟩
  · exact .inl rfl
theorem fold_found {K : List Nat} {rec : Ck → Nat → Nat → Srch → Srch} (h : ∀ C of p s, Found K C s (rec C of p s)) (C : Ck) (of : Nat) : ∀ (L : List Nat) (a : Nat × Srch × Bool), Found K C a.2.1 (L.foldl (visF rec C of) a).2.1
  | [], _ => .inl rfl
  | i :: L, a => by
    have h1 : Found K C a.2.1 (visF rec C of a i).2.1 := by
      unfold visF
      split
      · exact .inl rfl
      · split
        · exact .inl rfl
        · split
          · exact .inl rfl
          · rename_i C' hl
            rcases h C' (behindN of i) a.1 a.2.1 with e | ⟨hr, hc⟩
            · exact .inl e
            · exact .inr ⟨Reach.trans (.step .refl hl) hr, hc⟩
    rcases fold_found h C of L (visF rec C of a i) with e | hr
    · rw [List.foldl_cons, e]; exact h1
    · exact .inr hr
theorem visitS_found (K : List Nat) : ∀ n C of p s, Found K C s (visitS K n C of p s) := by
  have comb : ∀ {rec : Ck → Nat → Nat → Srch → Srch} (_ : ∀ C of p s, Found K C s (rec C of p s)) C of p s, Found K C s ((mems of).foldl (visF rec C of) (p, stepS K s C, false)).2.1 := by
    intro rec h C of p s
    rcases fold_found h C of (mems of) (p, stepS K s C, false) with e | hr
    · rw [e]; exact stepS_found K s C
    · exact .inr hr
  intro n
  induction n with
  | zero => exact comb (fun _ _ _ _ => .inl rfl)
  | succ n ih => exact comb ih
/-- the whole search, over the shards K of the set kept: the best, and how many it reads -/
def fewestS (n : Nat) (C : Ck) (kept : Nat) : Srch := visitS (mems kept) n C kept 0 (C, (mems kept).length)
theorem cntR_le (K : List Nat) (C : Ck) : cntR K C ≤ K.length := List.length_filter_le _ _
theorem fewest_found (n : Nat) (C : Ck) (kept : Nat) : Reach C (fewestS n C kept).1 ∧ (fewestS n C kept).2 = cntR (mems kept) (fewestS n C kept).1 := by
  rcases visitS_found (mems kept) n C kept 0 (C, (mems kept).length) with e | h
  · have hle : (fewestS n C kept).2 ≤ cntR (mems kept) C := by
      unfold fewestS
      rw [visitS_eq]
      exact Nat.le_trans (foldF_le (recS_le _ n) C kept _ _) (stepS_cnt _ _ C)
    have e' : fewestS n C kept = (C, (mems kept).length) := e
    rw [e'] at hle ⊢
    exact ⟨.refl, Nat.le_antisymm hle (cntR_le _ _)⟩
  · exact h
theorem fewest_opt (n : Nat) (C : Ck) (kept : Nat) (U : Nat → Prop) [DecidablePred U] (hb : Byt C) (hn : C.count ≤ C.told + n) (ht : Tgt U C) :
    cntR (mems kept) (fewestS n C kept).1 ≤ ((mems kept).filter (fun j => decide (¬ U j))).length := by
  rw [← (fewest_found n C kept).2]
  exact visit_opt (mems kept) U _ (Nat.le_refl _) n C kept 0 _ hb hn ht (fun j h1 _ h2 => absurd h1 h2) (by omega)
/-- what abides when shards are left -/
theorem Reach.good {C C' : Ck} {X : (Nat → Nat) → Prop} {L : List Nat} (hX : Lin X) (hr : Reach C C') (hb : Byt C) (hle : C.told ≤ C.count) (hall : ∀ k, k < C.count → X (C.m k))
    (hsp : ∀ j ∈ L, Dead C j) :
    Byt C' ∧ C'.told = C.told ∧ C'.told ≤ C'.count ∧ C'.count ≤ C.count ∧ (∀ k, k < C'.count → X (C'.m k)) ∧ (∀ k, k < C.told → ∀ j ∈ L, C'.m k j = C.m k j) ∧ ∀ j ∈ L, Dead C' j := by
  induction hr with
  | refl => exact ⟨hb, rfl, hle, Nat.le_refl _, hall, fun _ _ _ _ => rfl, hsp⟩
  | step _ hl ih =>
    obtain ⟨b, t, le, cc, al, on, sp⟩ := ih
    rename_i C1 C2 i _
    obtain ⟨r, hC', h1, h2, h3⟩ := leave_cases hl
    refine ⟨by rw [hC']; exact leave_byte b, by rw [hC']; exact t, by rw [hC']; show C1.told ≤ C1.count - 1; omega, by rw [hC']; show C1.count - 1 ≤ _; omega, by rw [hC']; exact leave_all hX b h2 al, ?_, fun j hj => leave_dead b hl (.inl (sp j hj))⟩
    intro k hk j hj
    rw [hC', leave_told (by omega) h1 h2]
    show C1.m k j ^^^ gm _ (C1.m r j) = _
    rw [sp j hj r h1 h2, gm_zero, Nat.xor_zero, on k hk j hj]
end Go.Proofs.YtogdeaaphdlchaaGreatDoor.Gf
/-
  Sets of shards as numbers: the least one, the others, how many there are.
-/
namespace Go.Proofs.YtogdeaaphdlchaaGreatDoor
open Go.RowKit Gf

/-- the table of math/bits, where the program has it -/
def tabLaid (w : World) : Prop := ∀ j, j < 64 → w.cell? ⟨1, j, none⟩ = some (.int .u8 ((Lib.deBruijn64tab.getD j 0 : Nat) : Int))
theorem tabLaid.mono {w w' : World} {B : Nat} (h : tabLaid w) (hB : 1 < B) (hb : Below B w w') : tabLaid w' := fun j hj => (hb.cell (p := ⟨1, j, none⟩) hB).trans (h j hj)
theorem tz_key (x a : Nat) (hx : x < 18446744073709551616) (hx0 : x ≠ 0) (hlow : x &&& (18446744073709551616 - x) = a) :
    IntKind.u64.wrap (bits BinOp.and IntKind.u64 (x : Int) (IntKind.u64.wrap (-(x : Int))) * 285870213051353865) / 288230376151711744 = ((a * 285870213051353865 % 18446744073709551616 / 288230376151711744 : Nat) : Int) := by
  have e1 : IntKind.u64.wrap (-(x : Int)) = ((18446744073709551616 - x : Nat) : Int) := by rw [IntKind.wrap_u64]; omega
  rw [e1, bits_and_u64_nat x _ hx (by omega), hlow, IntKind.wrap_u64]
  omega
/-- the least shard of a set -/
def low (x : Nat) : Nat := Lib.ctzFrom 64 x
theorem low_spec {x : Nat} (h0 : x ≠ 0) (hx : x < 65536) : ∃ m, x = 2 ^ low x * (2 * m + 1) ∧ low x < 64 := Lib.ctzFrom_spec 64 x (by omega) (by omega)
set_option maxHeartbeats 1000000 in
theorem tz_core (x k idx : Nat) (w : World) (hx0 : ((x : Int) == 0) = false)
    (key : IntKind.u64.wrap (bits BinOp.and IntKind.u64 (x : Int) (IntKind.u64.wrap (-(x : Int))) * 285870213051353865) / 288230376151711744 = (idx : Int))
    (hi : idx < 64) (hk : k < 64) (hcell : w.cell? ⟨1, idx, none⟩ = some (.int .u8 k)) :
    Calls Tryz.prog 86 #[.int .u64 x] w fun e w' => e = .returned (.int .i64 k) ∧ w' = w := by
  go_enter Tryz.func86, Tryz.ntmps86
  go_wp2_with (simp only [key])
  go_ret
  exact ⟨rfl, rfl⟩
theorem tz_any (x : Nat) (h0 : x ≠ 0) (hx : x < 65536) (w : World) (hT : tabLaid w) :
    Calls Tryz.prog 86 #[.int .u64 x] w fun e w' => e = .returned (.int .i64 (low x)) ∧ w' = w := by
  obtain ⟨m, hm, hk⟩ := low_spec h0 hx
  have hlow : x &&& (18446744073709551616 - x) = 2 ^ low x := by
    have := Lib.and_neg 64 (low x) m (by rw [← hm]; omega)
    rw [← hm] at this; exact this
  obtain ⟨hi, htab⟩ := Lib.deBruijn64_at _ hk
  have hcell := hT _ hi
  rw [htab] at hcell
  exact tz_core x _ _ w (by simp; omega) (tz_key x _ (by omega) h0 hlow) hi hk hcell
/-- the others -/
theorem low_and {x : Nat} (h0 : x ≠ 0) (hx : x < 65536) : x &&& (x - 1) = behindN x (low x) := by
  obtain ⟨m, hm, _⟩ := low_spec h0 hx
  generalize low x = k at hm
  have hp : 0 < 2 ^ k := Nat.two_pow_pos k
  have hpp : 2 ^ (k + 1) = 2 * 2 ^ k := by rw [Nat.pow_succ]; omega
  have e1 : x = 2 ^ (k + 1) * m + 2 ^ k := by rw [hm, hpp, Nat.mul_add, Nat.mul_one, Nat.mul_comm 2 (2 ^ k), Nat.mul_assoc]
  have e2 : x - 1 = 2 ^ (k + 1) * m + (2 ^ k - 1) := by omega
  apply Nat.eq_of_testBit_eq
  intro j
  rw [Nat.testBit_and, e2, behindN_bit]
  have e3 := Nat.testBit_two_pow_mul_add m (i := k + 1) (b := 2 ^ k) (by omega) j
  have e4 := Nat.testBit_two_pow_mul_add m (i := k + 1) (b := 2 ^ k - 1) (by omega) j
  rw [e4, e1, e3]
  by_cases hj : j < k + 1
  · rw [if_pos hj, if_pos hj, Nat.testBit_two_pow, Nat.testBit_two_pow_sub_one]
    have h1 : decide (k < j) = false := by simp; omega
    rw [h1, Bool.false_and]
    by_cases e : k = j
    · simp [e]
    · simp [e]
  · rw [if_neg hj, if_neg hj]
    have h1 : decide (k < j) = true := by simp; omega
    rw [h1, Bool.true_and, Bool.and_self]
theorem low_bit {x : Nat} (h0 : x ≠ 0) (hx : x < 65536) : x.testBit (low x) = true ∧ ∀ j, j < low x → x.testBit j = false := by
  obtain ⟨m, hm, _⟩ := low_spec h0 hx
  generalize low x = k at hm
  have hp : 0 < 2 ^ k := Nat.two_pow_pos k
  have hpp : 2 ^ (k + 1) = 2 * 2 ^ k := by rw [Nat.pow_succ]; omega
  have e1 : x = 2 ^ (k + 1) * m + 2 ^ k := by rw [hm, hpp, Nat.mul_add, Nat.mul_one, Nat.mul_comm 2 (2 ^ k), Nat.mul_assoc]
  have e3 := fun j => Nat.testBit_two_pow_mul_add m (i := k + 1) (b := 2 ^ k) (by omega) j
  constructor
  · rw [e1, e3, if_pos (by omega), Nat.testBit_two_pow_self]
  · intro j hj
    rw [e1, e3, if_pos (by omega), Nat.testBit_two_pow]
    simp; omega
theorem low_lt {x : Nat} (h0 : x ≠ 0) (hx : x < 65536) : low x < 16 := by
  refine Nat.lt_of_not_le fun h => ?_
  have := Nat.testBit_lt_two_pow (x := x) (i := low x) (Nat.lt_of_lt_of_le hx (Nat.pow_le_pow_right (n := 2) (by decide) h))
  rw [(low_bit h0 hx).1] at this; cases this
theorem mems_low {x : Nat} (h0 : x ≠ 0) (hx : x < 65536) : mems x = low x :: mems (behindN x (low x)) := by
  have hm : low x ∈ mems x := mem_mems.2 ⟨low_lt h0 hx, (low_bit h0 hx).1⟩
  obtain ⟨pre, R, e⟩ := List.append_of_mem hm
  rw [mems_behind e]
  have hs := mems_sorted x
  rw [e] at hs
  cases pre with
  | nil => exact e
  | cons a pre =>
    have h1 := (List.pairwise_append.1 hs).2.2 a (by simp) (low x) (by simp)
    have h2 := (mem_mems.1 (show a ∈ mems x by rw [e]; simp)).2
    rw [(low_bit h0 hx).2 a h1] at h2; cases h2
theorem behind_lt (x k : Nat) (hx : x < 65536) : behindN x k < 65536 := by
  unfold behindN; exact Nat.lt_of_le_of_lt (Nat.div_mul_le_self _ _) hx
theorem mems_zero : mems 0 = [] := by decide

/-! ### how many there are -/
def sw1 (x : Nat) : Nat := (x / 2 &&& 6148914691236517205) + (x &&& 6148914691236517205)
def sw2 (x : Nat) : Nat := (x / 4 &&& 3689348814741910323) + (x &&& 3689348814741910323)
def sw3 (x : Nat) : Nat := (x / 16 + x) &&& 1085102592571150095
def sw (x : Nat) : Nat := sw3 (sw2 (sw1 x))
def pb (b : Nat) : Nat := b % 2 + b / 2 % 2 + b / 4 % 2 + b / 8 % 2 + b / 16 % 2 + b / 32 % 2 + b / 64 % 2 + b / 128 % 2
def tst (n : Nat) : Nat → Bool
  | 0 => true
  | k + 1 => (sw (n * 256 + k) == pb n * 256 + pb k) && tst n k
def tsts : Nat → Bool
  | 0 => true
  | n + 1 => tst n 256 && tsts n
theorem pops : tsts 256 = true := by decide +kernel
theorem tst_at {n : Nat} : ∀ {k}, tst n k = true → ∀ j, j < k → sw (n * 256 + j) = pb n * 256 + pb j
  | 0, _, j, h => absurd h (by omega)
  | k + 1, h, j, hj => by
    obtain ⟨h1, h2⟩ := Bool.and_eq_true_iff.1 h
    by_cases e : j = k
    · rw [e]; exact eq_of_beq h1
    · exact tst_at h2 j (by omega)
theorem tsts_at : ∀ {n}, tsts n = true → ∀ i, i < n → tst i 256 = true
  | 0, _, i, h => absurd h (by omega)
  | n + 1, h, i, hi => by
    obtain ⟨h1, h2⟩ := Bool.and_eq_true_iff.1 h
    by_cases e : i = n
    · rw [e]; exact h1
    · exact tsts_at h2 i (by omega)
theorem sw_eq {x : Nat} (hx : x < 65536) : sw x = pb (x / 256) * 256 + pb (x % 256) := by
  have := tst_at (tsts_at pops (x / 256) (by omega)) (x % 256) (by omega)
  rwa [show x / 256 * 256 + x % 256 = x by omega] at this
theorem bit_eq (x i : Nat) : (if x.testBit i = true then 1 else 0) = x / 2 ^ i % 2 := by
  rw [Nat.testBit_eq_decide_div_mod_eq]
  by_cases h : x / 2 ^ i % 2 = 1
  · simp [h]
  · have := Nat.mod_two_eq_zero_or_one (x / 2 ^ i)
    simp [h]; omega
theorem pb_lt (b : Nat) : pb b ≤ 8 := by unfold pb; omega
theorem mems_len (x : Nat) : (mems x).length = pb (x / 256) + pb (x % 256) := by
  have h : ∀ n, ((List.range n).filter (fun i => x.testBit i)).length = ((List.range n).map (fun i => x / 2 ^ i % 2)).sum := by
    intro n
    induction n with
    | zero => rfl
    | succ n ih =>
      rw [List.range_succ, List.filter_append, List.length_append, ih, List.map_append, List.sum_append]
      have e := bit_eq x n
      have e1 : ([n].map (fun i => x / 2 ^ i % 2)).sum = x / 2 ^ n % 2 := by simp
      rw [e1, ← e]
      by_cases e : x.testBit n = true
      · simp [e]
      · simp [e]
  unfold mems pb
  rw [h]
  have e16 : List.range 16 = [0, 1, 2, 3, 4, 5, 6, 7, 8, 9, 10, 11, 12, 13, 14, 15] := by decide
  rw [e16]
  simp only [List.map_cons, List.map_nil, List.sum_cons, List.sum_nil, Nat.reducePow, Nat.div_one]
  have h0 : x % 256 % 2 = x % 2 := by omega
  have h1 : x % 256 / 2 % 2 = x / 2 % 2 := by omega
  have h2 : x % 256 / 4 % 2 = x / 4 % 2 := by omega
  have h3 : x % 256 / 8 % 2 = x / 8 % 2 := by omega
  have h4 : x % 256 / 16 % 2 = x / 16 % 2 := by omega
  have h5 : x % 256 / 32 % 2 = x / 32 % 2 := by omega
  have h6 : x % 256 / 64 % 2 = x / 64 % 2 := by omega
  have h7 : x % 256 / 128 % 2 = x / 128 % 2 := by omega
  rw [h0, h1, h2, h3, h4, h5, h6, h7]
  clear h0 h1 h2 h3 h4 h5 h6 h7 h e16
  simp only [Nat.div_div_eq_div_mul, Nat.reduceMul]
  generalize x % 2 = a0; generalize x / 2 % 2 = a1; generalize x / 4 % 2 = a2; generalize x / 8 % 2 = a3; generalize x / 16 % 2 = a4; generalize x / 32 % 2 = a5; generalize x / 64 % 2 = a6; generalize x / 128 % 2 = a7
  generalize x / 256 % 2 = b0; generalize x / 512 % 2 = b1; generalize x / 1024 % 2 = b2; generalize x / 2048 % 2 = b3; generalize x / 4096 % 2 = b4; generalize x / 8192 % 2 = b5; generalize x / 16384 % 2 = b6; generalize x / 32768 % 2 = b7
  omega
end Go.Proofs.YtogdeaaphdlchaaGreatDoor
/-
  Sets of shards: the program's own functions on them.
-/
namespace Go.Proofs.YtogdeaaphdlchaaGreatDoor
open Go.RowKit Gf

theorem pow_lt64 {k : Nat} (h : k < 64) : 2 ^ k < 18446744073709551616 := Nat.lt_of_lt_of_le (Nat.pow_lt_pow_right (by decide) h) (Nat.le_refl _)
theorem first_key (k : Nat) (h : k ≤ 16) : IntKind.u64.wrap (IntKind.u64.wrap (2 ^ k) - 1) = ((2 ^ k - 1 : Nat) : Int) := by
  have h1 := pow_lt64 (k := k) (by omega)
  have h2 : 0 < 2 ^ k := Nat.two_pow_pos k
  have e : ((2 : Int) ^ k) = ((2 ^ k : Nat) : Int) := by rw [Int.natCast_pow]; rfl
  rw [e, IntKind.wrap_u64, IntKind.wrap_u64]
  omega
set_option maxHeartbeats 1000000 in
theorem first_any (k : Nat) (hk : k ≤ 16) (w : World) :
    Calls Tryz.prog 69 #[.int .i64 k] w fun e w' => e = .returned (.int .u64 ((2 ^ k - 1 : Nat) : Int)) ∧ w' = w := by
  have key := first_key k hk
  go_enter Tryz.func69, Tryz.ntmps69
  go_wp2
  go_ret
  exact ⟨rfl, rfl⟩
theorem and_u64 (a b : Nat) (ha : a < 18446744073709551616) (hb : b < 18446744073709551616) : bits .and .u64 (a : Int) (b : Int) = ((a &&& b : Nat) : Int) := bits_and_u64_nat a b ha hb
theorem k1 (x : Nat) (hx : x < 65536) : IntKind.u64.wrap (bits .and .u64 ((x : Int) / 2) 6148914691236517205 + bits .and .u64 (x : Int) 6148914691236517205) = ((sw1 x : Nat) : Int) ∧ sw1 x < 131072 := by
  have e : (x : Int) / 2 = ((x / 2 : Nat) : Int) := by omega
  have h1 := and_u64 (x / 2) 6148914691236517205 (by omega) (by decide)
  have h2 := and_u64 x 6148914691236517205 (by omega) (by decide)
  have b1 := Nat.and_le_left (n := x / 2) (m := 6148914691236517205)
  have b2 := Nat.and_le_left (n := x) (m := 6148914691236517205)
  unfold sw1
  rw [e]
  refine ⟨?_, by omega⟩
  have h1' : bits .and .u64 ((x / 2 : Nat) : Int) 6148914691236517205 = ((x / 2 &&& 6148914691236517205 : Nat) : Int) := h1
  have h2' : bits .and .u64 (x : Int) 6148914691236517205 = ((x &&& 6148914691236517205 : Nat) : Int) := h2
  rw [h1', h2', IntKind.wrap_u64]
  generalize (x / 2 &&& 6148914691236517205) = a at *
  generalize (x &&& 6148914691236517205) = b at *
  omega
theorem k2 (x : Nat) (hx : x < 131072) : IntKind.u64.wrap (bits .and .u64 ((x : Int) / 4) 3689348814741910323 + bits .and .u64 (x : Int) 3689348814741910323) = ((sw2 x : Nat) : Int) ∧ sw2 x < 262144 := by
  have e : (x : Int) / 4 = ((x / 4 : Nat) : Int) := by omega
  have h1 := and_u64 (x / 4) 3689348814741910323 (by omega) (by decide)
  have h2 := and_u64 x 3689348814741910323 (by omega) (by decide)
  have b1 := Nat.and_le_left (n := x / 4) (m := 3689348814741910323)
  have b2 := Nat.and_le_left (n := x) (m := 3689348814741910323)
  unfold sw2
  rw [e]
  refine ⟨?_, by omega⟩
  have h1' : bits .and .u64 ((x / 4 : Nat) : Int) 3689348814741910323 = ((x / 4 &&& 3689348814741910323 : Nat) : Int) := h1
  have h2' : bits .and .u64 (x : Int) 3689348814741910323 = ((x &&& 3689348814741910323 : Nat) : Int) := h2
  rw [h1', h2', IntKind.wrap_u64]
  generalize (x / 4 &&& 3689348814741910323) = a at *
  generalize (x &&& 3689348814741910323) = b at *
  omega
theorem k3 (x : Nat) (hx : x < 262144) : bits .and .u64 (IntKind.u64.wrap ((x : Int) / 16 + (x : Int))) 1085102592571150095 = ((sw3 x : Nat) : Int) := by
  have e : IntKind.u64.wrap ((x : Int) / 16 + (x : Int)) = ((x / 16 + x : Nat) : Int) := by rw [IntKind.wrap_u64]; omega
  rw [e]
  exact and_u64 (x / 16 + x) 1085102592571150095 (by omega) (by decide)
theorem k4 (x c : Nat) (hx : x < 1048576) : IntKind.u64.wrap ((x : Int) + (x : Int) / (c : Int)) = ((x + x / c : Nat) : Int) := by
  have := Nat.div_le_self x c
  have e : (x : Int) / (c : Int) = ((x / c : Nat) : Int) := (Int.natCast_ediv x c).symm
  rw [IntKind.wrap_u64, e]
  generalize x / c = d at *
  omega
theorem and127 (x : Nat) : x &&& 127 = x % 128 := Nat.and_two_pow_sub_one_eq_mod x 7
set_option maxHeartbeats 1000000 in
theorem ones_any (x : Nat) (hx : x < 65536) (w : World) :
    Calls Tryz.prog 153 #[.int .u64 x] w fun e w' => e = .returned (.int .i64 ((mems x).length : Nat)) ∧ w' = w := by
  obtain ⟨a1, b1⟩ := k1 x hx
  obtain ⟨a2, b2⟩ := k2 _ b1
  have a3 := k3 _ b2
  have hs := sw_eq hx
  have p1 := pb_lt (x / 256)
  have p2 := pb_lt (x % 256)
  have hlen := mems_len x
  have e : sw3 (sw2 (sw1 x)) = pb (x / 256) * 256 + pb (x % 256) := hs
  generalize pb (x / 256) = p at *
  generalize pb (x % 256) = q at *
  have a4 := k4 (p * 256 + q) 256 (by omega)
  have e4 : p * 256 + q + (p * 256 + q) / 256 = p * 257 + q := by omega
  have a5 := k4 (p * 257 + q) 65536 (by omega)
  have e5 : p * 257 + q + (p * 257 + q) / 65536 = p * 257 + q := by rw [Nat.div_eq_of_lt (by omega), Nat.add_zero]
  have a6 := k4 (p * 257 + q) 4294967296 (by omega)
  have e6 : p * 257 + q + (p * 257 + q) / 4294967296 = p * 257 + q := by rw [Nat.div_eq_of_lt (by omega), Nat.add_zero]
  rw [e4] at a4
  rw [e5] at a5
  rw [e6] at a6
  have a7 := i64_and (p * 257 + q) 127 (by omega) (by decide)
  rw [and127, show (p * 257 + q) % 128 = p + q by omega, ← hlen] at a7
  have a8 : wrap64 ((p * 257 + q : Nat) : Int) = ((p * 257 + q : Nat) : Int) := by unfold wrap64; omega
  rw [e] at a3
  clear e hs hlen e4 e5 e6
  have H := hide (And.intro a1 (And.intro a2 (And.intro a3 (And.intro a4 (And.intro a5 (And.intro a6 (And.intro a7 a8)))))))
  clear a1 a2 a3 a4 a5 a6 a7 a8
  go_enter Tryz.func153, Tryz.ntmps153
  go_wp2
  obtain ⟨a1, a2, a3, a4, a5, a6, a7, a8⟩ := H.out
  simp only [a1]
  simp only [a2]
  simp only [a3]
  have a4' : IntKind.u64.wrap (((p * 256 + q : Nat) : Int) + ((p * 256 + q : Nat) : Int) / 256) = ((p * 257 + q : Nat) : Int) := a4
  have a5' : IntKind.u64.wrap (((p * 257 + q : Nat) : Int) + ((p * 257 + q : Nat) : Int) / 65536) = ((p * 257 + q : Nat) : Int) := a5
  have a6' : IntKind.u64.wrap (((p * 257 + q : Nat) : Int) + ((p * 257 + q : Nat) : Int) / 4294967296) = ((p * 257 + q : Nat) : Int) := a6
  have a7' : bits .and .i64 ((p * 257 + q : Nat) : Int) 127 = (((mems x).length : Nat) : Int) := a7
  simp only [a4', a5', a6', a8, a7']
  go_ret
  exact ⟨rfl, rfl⟩
set_option maxHeartbeats 1000000 in
theorem size_any (x : Nat) (hx : x < 65536) (w : World) :
    Calls Tryz.prog 149 #[.int .u64 x] w fun e w' => e = .returned (.int .i64 ((mems x).length : Nat)) ∧ w' = w := by
  go_enter Tryz.func149, Tryz.ntmps149
  go_wp2_with fail
  refine (ones_any x hx _).mono ?_
  rintro e w' ⟨rfl, rfl⟩
  go_wp2
  go_ret
  exact ⟨rfl, rfl⟩
theorem behind_key (x k : Nat) (hx : x < 65536) (hk : k ≤ 16) : bits .andNot .u64 (x : Int) ((2 ^ k - 1 : Nat) : Int) = ((x / 2 ^ k * 2 ^ k : Nat) : Int) := by
  have h1 := pow_lt64 (k := k) (by omega)
  have h2 : 0 < 2 ^ k := Nat.two_pow_pos k
  have h := u64_andNot_nat x (2 ^ k - 1) (by omega) (by omega)
  rw [h]
  congr 1
  apply Nat.eq_of_testBit_eq
  intro j
  rw [Nat.testBit_and, Nat.testBit_mul_two_pow, show 18446744073709551615 - (2 ^ k - 1) = 2 ^ 64 - (2 ^ k - 1 + 1) by omega, Nat.testBit_two_pow_sub_succ (by omega), Nat.testBit_two_pow_sub_one, Nat.testBit_div_two_pow]
  by_cases hj : k ≤ j
  · rw [show j - k + k = j by omega]
    by_cases h64 : j < 64
    · simp [hj, h64, show ¬ j < k by omega]
    · have : x.testBit j = false := Nat.testBit_lt_two_pow (Nat.lt_of_lt_of_le hx (Nat.pow_le_pow_right (n := 2) (i := 16) (by decide) (by omega)))
      simp [this]
  · simp [hj, show j < k by omega]
set_option maxHeartbeats 1000000 in
theorem behind_any (x k : Nat) (hx : x < 65536) (hk : k < 16) (w : World) :
    Calls Tryz.prog 157 #[.int .u64 x, .int .i64 k] w fun e w' => e = .returned (.int .u64 (behindN x k : Nat)) ∧ w' = w := by
  have key := behind_key x (k + 1) hx (by omega)
  have hw : wrap64 ((k : Int) + 1) = ((k + 1 : Nat) : Int) := by unfold wrap64; omega
  have hw2 : IntKind.i64.wrap ((k : Int) + 1) = ((k + 1 : Nat) : Int) := by rw [IntKind.wrap_i64]; omega
  have H := hide key
  clear key
  go_enter Tryz.func157, Tryz.ntmps157
  go_wp2_with fail
  refine (first_any (k + 1) (by omega) _).mono ?_
  rintro e w' ⟨rfl, rfl⟩
  go_wp2
  rw [H.out]
  go_ret
  exact ⟨rfl, rfl⟩
end Go.Proofs.YtogdeaaphdlchaaGreatDoor
/-
  A range over a function whose rounds the function itself looks at: what the loop's variables hold is told to it, and it keeps to blocks of its own.
-/
namespace Go.Proofs.YtogdeaaphdlchaaGreatDoor
open Go.RowKit Go.Shelf

/-- whatever lay from block B on lies as it lay; below it, what is no cells -/
structure Above (B : Nat) (w w' : World) : Prop where
  os : w'.os = w.os
  tape : w'.tape = w.tape
  output : w'.output = w.output
  size : w.heap.size ≤ w'.heap.size
  block : ∀ k, B ≤ k → k < w.heap.size → w'.heap[k]? = w.heap[k]?
theorem Above.refl (B : Nat) (w : World) : Above B w w := ⟨rfl, rfl, rfl, Nat.le_refl _, fun _ _ _ => rfl⟩
theorem Above.trans {B : Nat} {a b c : World} (h : Above B a b) (k : Above B b c) : Above B a c :=
  ⟨k.os.trans h.os, k.tape.trans h.tape, k.output.trans h.output, Nat.le_trans h.size k.size, fun i h1 h2 => (k.block i h1 (by have := h.size; omega)).trans (h.block i h1 h2)⟩
theorem Above.mono {B B' : Nat} {w w' : World} (h : Above B w w') (hB : B ≤ B') : Above B' w w' := ⟨h.os, h.tape, h.output, h.size, fun k h1 h2 => h.block k (by omega) h2⟩
/-- nothing that lay has turned -/
theorem Above.of_below {B : Nat} {w w' : World} (h : Below w.heap.size w w') : Above B w w' := ⟨h.os, h.tape, h.output, h.size, fun k _ h2 => h.block k h2⟩
theorem Above.zero {w w' : World} (h : Above 0 w w') : Below w.heap.size w w' := ⟨h.os, h.tape, h.output, h.size, fun k hk => h.block k (Nat.zero_le _) hk⟩
theorem Above.setCell {B : Nat} {a w : World} (h : Above B a w) {p : Addr} (hp : p.block < B ∨ a.heap.size ≤ p.block) (u : Value) : Above B a (w.setCell p u) :=
  ⟨h.os, h.tape, h.output, by have := h.size; simpa [World.setCell] using this, fun k h1 h2 => (Below.heap_setCell _ _ _ _ (by omega)).trans (h.block k h1 h2)⟩
theorem Above.putObj {B : Nat} {a w : World} (h : Above B a w) {l : Nat} (hp : l < B ∨ a.heap.size ≤ l) (o : Obj) : Above B a (w.putObj l o) :=
  ⟨h.os, h.tape, h.output, by have := h.size; have := (grownBy_putObj' w l o).size; omega, fun k h1 h2 => (World.putObj_heap_other (by omega)).trans (h.block k h1 h2)⟩
theorem Below.putObj' {B : Nat} {a w : World} (h : Below B a w) {l : Nat} (hp : B ≤ l) (hl : l < w.heap.size) (o : Obj) : Below B a (w.putObj l o) :=
  h.grown (grownBy_putObj' w l o) (by omega) (fun k e => by cases e; exact hp)
theorem Above.keeps {B C : Nat} {w w' : World} (h : Above B w w') (hB : B ≤ C) : KeepsFrom C w w' :=
  ⟨h.size, fun k o h1 h2 _ => (h.block k (by omega) (Array.getElem?_eq_some_iff.1 h2).1).trans h2⟩

/-- a call inside the widest fence, by a plain contract; the same within a round -/
theorem at_wide {n m : Nat} {P : Program} {f : FuncId} {args : Array Value} {w : World} {R R' : Ending → World → Prop} (h : Calls P f args w R) (k : ∀ e w', R e w' → R' e w') :
    Fence.wide.fn f ∧ (Fence.wide.depth.isSome = true → 1 ≤ n) ∧ CallsIn Fence.wide m P f args w R' :=
  ⟨trivial, fun h => (by cases h), callsIn_wide.2 (h.mono k)⟩
theorem at_round {l n m : Nat} {P : Program} {f : FuncId} {args : Array Value} {w : World} {R R' : Ending → World → Prop} (h : Calls P f args w R) (k : ∀ e w', R e w' → R' e w') :
    (Fence.wide.inRound l).fn f ∧ ((Fence.wide.inRound l).depth.isSome = true → 1 ≤ n) ∧ CallsIn (Fence.wide.inRound l) m P f args w R' :=
  ⟨trivial, fun h => (by cases h), CallsIn.inRound l (callsIn_wide.2 (h.mono k))⟩

/-- a scope that no jump leaves, inside a fence -/
def noJump (Q : Exit → Act → World → Prop) : Exit → Act → World → Prop
  | .goto _, _, _ => False
  | .exit _, _, _ => False
  | e, a, w => Q e a w
theorem stepR_scope' {P : Program} {b : Frame} {a : Act} {k : List Item} {cs : List Frame} {w : World} {c : Code} : step P (lone (b.atR a (.code (.scope c) :: k)) cs w) = .next (lone (b.atR a (.code c :: .inScope c :: k)) cs w) :=
  step_lone_go (by simp [stepG, stepG.exec, Frame.atR])
theorem stepR_inScope' {P : Program} {b : Frame} {a : Act} {k : List Item} {cs : List Frame} {w : World} {c : Code} : step P (lone (b.atR a (.inScope c :: k)) cs w) = .next (lone (b.atR a k) cs w) :=
  step_lone_go (by simp [stepG, stepG.exec, Frame.atR])
theorem in_scope {F : Fence} {n : Nat} {P : Program} {c : Code} {Q : Exit → Act → World → Prop} {a : Act} {w : World} (h : c.wpIn F n P (noJump Q) a w) : (Code.scope c).wpIn F n P Q a w := by
  intro b k cs hro hb hr
  have h0 : (lone (b.atR a (.code (.scope c) :: k)) cs w).fenced P F := fenced_calm hb hr rfl
  obtain ⟨e, a₁, w₁, hq, harr⟩ := h b (.inScope c :: k) cs hro hb hr
  cases e with
  | normal => exact ⟨.normal, a₁, w₁, hq, .head h0 stepR_scope' (StepsIn.trans harr (.one (fenced_calm hb hr rfl) stepR_inScope'))⟩
  | exit id => exact hq.elim
  | goto l => exact hq.elim
  | ret => exact ⟨_, a₁, w₁, hq, .of_steps (.one h0 stepR_scope') harr⟩
  | panic ch => exact ⟨_, a₁, w₁, hq, .of_steps (.one h0 stepR_scope') harr⟩
  | outgrown => exact ⟨_, a₁, w₁, hq, .of_steps (.one h0 stepR_scope') harr⟩

/-- how the body of a round is left: off its end alone -/
def lkPost {σ : Type} (B : Nat) (I : σ → World → Prop) (s : σ) (W : World) : Exit → Act → World → Prop
  | .normal, _, W' => I s W' ∧ Above B W W'
  | _, _, _ => False

theorem room_none (k : Nat) : Fence.wide.room k := fun d h => by cases h
theorem round_any {m m' : Nat} {P : Program} {l : Nat} {f : FuncId} {tmps : Array Value} {assign body : Code} {w : World} {R : Ending → World → Prop} (h : RoundIn Fence.wide m P l f tmps assign body w R) : RoundIn Fence.wide m' P l f tmps assign body w R := ⟨h.1, fun c cs _ => h.2 c cs (room_none _)⟩
/-- the statement: I is what the loop's variables hold, in blocks that lay ahead of it -/
theorem range_lk {P : Program} {n : Nat} (m : Nat) {α σ : Type} {g : Operand} {ps : Array Tmp} {assign body : Code} {Q : Exit → Act → World → Prop} {a : Act} {w : World}
    {gf : Nat} {lb : Array Value} (hg : a.eval g = .func (.func gf) #[] lb) (eg : ∀ args w, (callFunc gf args).run P w = .ok (.enter gf args) w)
    {encs : α → Array Value} (hps : ∀ x, (encs x).size = ps.size) (step : σ → α → σ) (Ok : α → Prop)
    (I : σ → World → Prop) (hI : ∀ s A B, I s A → Below w.heap.size A B → I s B) (S : σ → Prop) (s0 : σ)
    (hcall : ∀ (l : Nat) (J : σ → World → Prop) (W : World), Below w.heap.size w W → W.heap.size = w.heap.size + 2 →
      (∀ s A B, J s A → Below (w.heap.size + 2) A B → J s B) → (∀ s A, J s A → I s A ∧ w.heap.size + 2 ≤ A.heap.size) →
      (∀ m s x W1, J s W1 → Ok x → YieldAt Fence.wide m P l (encs x) W1 fun e W' => e = .returned (.bool true) ∧ J (step s x) W' ∧ Above (w.heap.size + 2) W1 W') → J s0 W →
      CallsIn Fence.wide (n - 1) P gf (#[.func (.yield l) #[] #[]] ++ lb) W fun e W' => (∃ v, e = .returned v) ∧ ∃ s, S s ∧ J s W')
    (h0 : I s0 w) (Ax : Nat → α → Act → World → Prop) (hAx : ∀ B x a' A A', Ax B x a' A → Above B A A' → Ax B x a' A')
    (hassign : ∀ (l : Nat) (s : σ) (x : α) (W : World) (K : Act → World → Prop), I s W → Ok x → (∀ a' W', Below W.heap.size W W' → Ax W.heap.size x a' W' → K a' W') →
      assign.wpIn (Fence.wide.inRound l) m P (Exit.then K (fun _ _ _ => False)) { tmps := (ps.zip (encs x)).foldl (fun t (p, v) => t.setIfInBounds p v) a.tmps, defers := [] } W)
    (hbody : ∀ (l B : Nat) (s : σ) (x : α) (a' : Act) (W : World), w.heap.size ≤ l → l < B → B ≤ W.heap.size → (∃ r, W.heap[l]? = some (.loop r)) → I s W → Ok x → Ax B x a' W → body.wpIn (Fence.wide.inRound l) m P (lkPost w.heap.size I (step s x) W) a' W)
    (hdone : ∀ (D : Nat) (s : σ) (W : World), w.heap.size ≤ D → S s → I s W → W.heap[D]? = some (.deferred (some [])) → Q .normal { a with defers := { target := .collected D, args := #[] } :: a.defers } W) :
    (Code.rangeFunc g ps assign body).wpIn Fence.wide n P Q a w := by
  refine wpIn_rangeFunc fun fn hfn => ?_
  obtain ⟨rc, hrc⟩ : ∃ rc : LoopState → Loop, rc = fun st => { state := st, pending := none, fn, tmps := a.tmps, params := ps, assign, body, defers := w.heap.size } := ⟨_, rfl⟩
  obtain ⟨W1, hW1⟩ : ∃ W1, (w.alloc (.deferred (some []))).alloc (.loop (rc .ready)) = W1 := ⟨_, rfl⟩
  have hb1 : Below w.heap.size w W1 := by rw [← hW1]; exact ((Below.refl _ w).alloc (Nat.le_refl _) _).alloc (by simp) _
  have hsz : W1.heap.size = w.heap.size + 2 := by rw [← hW1]; simp
  have hL1 : W1.heap[w.heap.size + 1]? = some (.loop (rc .ready)) := by
    rw [← hW1]; have := World.alloc_heap_new (w.alloc (.deferred (some []))) (.loop (rc .ready)); rwa [World.size_alloc] at this
  have hD1 : W1.heap[w.heap.size]? = some (.deferred (some [])) := by
    rw [← hW1]; exact (Below.heap_alloc _ _ _ (by simp)).trans (World.alloc_heap_new w _)
  refine ⟨w.heap.size + 1, [{ target := .collected w.heap.size, args := #[] }], W1, { target := .fn (.func gf) lb, args := #[.func (.yield (w.heap.size + 1)) #[] #[]] }, W1, gf,
    #[.func (.yield (w.heap.size + 1)) #[] #[]] ++ lb, W1, ?_, ?_, fun _ _ => trivial, ?_, fun h => (by cases h), ?_⟩
  · rw [← hW1, hrc]; exact run_enterLoop_outer _ _ _ _ _
  · simp only [resolve, hg]; simp [go_sem]
  · simp [invoke, go_sem, eg]
  -- what the function is told: the variables, the record, the block for deferred calls
  refine (hcall (w.heap.size + 1) (fun s W => I s W ∧ W.heap[w.heap.size + 1]? = some (.loop (rc .ready)) ∧ W.heap[w.heap.size]? = some (.deferred (some []))) W1 hb1 hsz ?_ ?_ ?_ ⟨hI _ _ _ h0 hb1, hL1, hD1⟩).mono ?_
  · rintro s A B ⟨hi, hl, hd⟩ hb
    exact ⟨hI _ _ _ hi (hb.mono (by omega)), (hb.block _ (by omega)).trans hl, (hb.block _ (by omega)).trans hd⟩
  · rintro s A ⟨hi, hl, _⟩
    exact ⟨hi, (Array.getElem?_eq_some_iff.1 hl).1⟩
  · -- one round
    rintro m' s x W ⟨hi, hl, hd⟩ hok
    have hlt : w.heap.size + 1 < W.heap.size := (Array.getElem?_eq_some_iff.1 hl).1
    have hy := run_yield (P := P) (args := encs x) hl (by rw [hrc]; exact hps x)
    rw [hrc] at hy
    refine ⟨fn, _, assign, body, hy, round_any (roundIn_of_wpIn (n := m) hfn (hassign _ s x W _ hi hok ?_))⟩
    clear hy
    intro a' Wa hba hax
    have hla := (hba.block _ hlt).trans hl
    have hda := (hba.block _ (by omega)).trans hd
    have hlta : w.heap.size + 1 < Wa.heap.size := (Array.getElem?_eq_some_iff.1 hla).1
    refine ⟨_, run_beginRound hla (by rw [hrc]), ?_⟩
    obtain ⟨Wb, hWb⟩ : ∃ Wb, Wa.putObj (w.heap.size + 1) (.loop { rc .ready with state := .busy }) = Wb := ⟨_, rfl⟩
    have hbb : Below w.heap.size Wa Wb := by rw [← hWb]; exact Below.putObj' (Below.refl _ _) (by omega) hlta _
    have hab : Above (w.heap.size + 2) W Wb := by
      rw [← hWb]; exact ((Above.of_below hba).trans ((Above.refl _ Wa).putObj (.inl (by omega)) _))
    have hlb : Wb.heap[w.heap.size + 1]? = some (.loop { rc .ready with state := .busy }) := by rw [← hWb]; exact World.putObj_heap_same hlta
    have hdb : Wb.heap[w.heap.size]? = some (.deferred (some [])) := by rw [← hWb]; exact (World.putObj_heap_other (by omega)).trans hda
    rw [hWb]
    refine wpIn_mono (hbody _ W.heap.size s x a' Wb (by omega) hlt hab.size ⟨_, hlb⟩ (hI _ _ _ (hI _ _ _ hi (hba.mono (by omega))) hbb) hok (hAx _ _ _ _ _ hax (by rw [← hWb]; exact (Above.refl _ Wa).putObj (.inl hlt) _))) ?_
    rintro e a3 W3 hp
    cases e with
    | normal =>
      obtain ⟨hi3, ha3⟩ := hp
      have hl3 := (ha3.block _ (by omega) (Array.getElem?_eq_some_iff.1 hlb).1).trans hlb
      have hd3 := (ha3.block _ (Nat.le_refl _) (Array.getElem?_eq_some_iff.1 hdb).1).trans hdb
      have hlt3 := (Array.getElem?_eq_some_iff.1 hl3).1
      have hr := run_endRound (P := P) none hl3
      refine ⟨_, _, hr, rfl, ⟨hI _ _ _ hi3 (Below.putObj' (Below.refl _ _) (by omega) hlt3 _), ?_, (World.putObj_heap_other (by omega)).trans hd3⟩, ?_⟩
      · rw [World.putObj_heap_same hlt3, hrc]; rfl
      · exact (hab.trans (ha3.mono (by omega))).putObj (.inl (by omega)) _
    | ret => exact hp.elim
    | exit id => exact hp.elim
    | goto t => exact hp.elim
    | panic ch => exact hp.elim
    | outgrown => exact hp.elim
  · -- behind it
    rintro e W2 ⟨⟨v, rfl⟩, s, hS, hi, hl, hd⟩
    have hlt := (Array.getElem?_eq_some_iff.1 hl).1
    refine ⟨none, _, by have := run_endLoop (P := P) hl (by rw [hrc]; simp); rw [hrc] at this; exact this, ?_⟩
    exact hdone _ s _ (Nat.le_refl _) hS (hI _ _ _ hi (Below.putObj' (Below.refl _ _) (by omega) hlt _)) ((World.putObj_heap_other (by omega)).trans hd)
end Go.Proofs.YtogdeaaphdlchaaGreatDoor
