/-
  The search for checks that read the fewest shards: what it finds, and that none reads fewer. Nothing of the program is imported here.
-/
import Derived.Test.YthhommjlomphdabDoorCkMath
namespace Go.Proofs.YthhommjlomphdabDoor.Gf

def readsB (C : Ck) (i : Nat) : Bool := (List.range C.told).any (fun r => decide (C.m r i ≠ 0))
theorem readsB_false {C : Ck} {i : Nat} : readsB C i = false ↔ ∀ r, r < C.told → C.m r i = 0 := by
  unfold readsB
  rw [List.any_eq_false]
  constructor
  · intro h r hr; have := h r (List.mem_range.2 hr); simpa using this
  · intro h r hr; simp [h r (List.mem_range.1 hr)]
theorem readsB_true {C : Ck} {i r : Nat} (h1 : r < C.told) (h2 : C.m r i ≠ 0) : readsB C i = true := by
  cases h : readsB C i with
  | true => rfl
  | false => exact absurd (readsB_false.1 h r h1) h2
/-- how many shards of a list are read -/
def cntR (K : List Nat) (C : Ck) : Nat := (K.filter (readsB C)).length
abbrev Srch := Ck × Nat
def stepS (K : List Nat) (s : Srch) (C : Ck) : Srch := if cntR K C = 0 ∨ cntR K C < s.2 then (C, cntR K C) else s
/-- the shards of a set -/
def mems (s : Nat) : List Nat := (List.range 16).filter (fun i => s.testBit i)
/-- those of them behind one -/
def behindN (s i : Nat) : Nat := s / 2 ^ (i + 1) * 2 ^ (i + 1)
theorem behindN_bit (s i j : Nat) : (behindN s i).testBit j = (decide (i < j) && s.testBit j) := by
  unfold behindN
  rw [Nat.testBit_mul_two_pow]
  by_cases h : i + 1 ≤ j
  · simp only [Nat.testBit_div_two_pow]
    rw [show j - (i + 1) + (i + 1) = j by omega]
    simp [h, show i < j by omega]
  · simp [h, show ¬ i < j by omega]
theorem mems_sorted (s : Nat) : (mems s).Pairwise (· < ·) := (List.pairwise_lt_range (n := 16)).filter _
theorem mem_mems {s i : Nat} : i ∈ mems s ↔ i < 16 ∧ s.testBit i = true := by unfold mems; rw [List.mem_filter, List.mem_range]
theorem mems_behind {s i : Nat} {pre R : List Nat} (h : mems s = pre ++ i :: R) : mems (behindN s i) = R := by
  have e : mems (behindN s i) = (mems s).filter (fun j => decide (i < j)) := by
    unfold mems
    rw [List.filter_filter]
    apply List.filter_congr
    intro j _
    rw [behindN_bit]
  have hs := mems_sorted s
  rw [h] at hs
  rw [e, h, List.filter_append, List.filter_cons]
  obtain ⟨h1, h2, h3⟩ := List.pairwise_append.1 hs
  obtain ⟨h4, h5⟩ := List.pairwise_cons.1 h2
  have e1 : pre.filter (fun j => decide (i < j)) = [] := List.filter_eq_nil_iff.2 (fun j hj => by have := h3 j hj i (by simp); simp; omega)
  have e2 : R.filter (fun j => decide (i < j)) = R := List.filter_eq_self.2 (fun j hj => by have := h4 j hj; simp; omega)
  rw [e1, e2]
  simp

/-! ### the search -/
/-- what one shard does: passed over so far; the best so far; is the loop left? -/
def visF (rec : Ck → Nat → Nat → Srch → Srch) (C : Ck) (of : Nat) (a : Nat × Srch × Bool) (i : Nat) : Nat × Srch × Bool :=
  if a.2.2 = true then a else if ¬ a.1 < a.2.1.2 then (a.1, a.2.1, true) else
    match leave C i with
    | none => a
    | some C' => (a.1 + 1, rec C' (behindN of i) a.1 a.2.1, false)
def visitS (K : List Nat) : Nat → Ck → Nat → Nat → Srch → Srch
  | 0, C, of, p, st => ((mems of).foldl (visF (fun _ _ _ s => s) C of) (p, stepS K st C, false)).2.1
  | n + 1, C, of, p, st => ((mems of).foldl (visF (visitS K n) C of) (p, stepS K st C, false)).2.1
def recS (K : List Nat) : Nat → Ck → Nat → Nat → Srch → Srch
  | 0 => fun _ _ _ s => s
  | n + 1 => visitS K n
theorem visitS_eq (K : List Nat) (n : Nat) (C : Ck) (of p : Nat) (st : Srch) : visitS K n C of p st = ((mems of).foldl (visF (recS K n) C of) (p, stepS K st C, false)).2.1 := by
  cases n <;> rfl
theorem stepS_le (K : List Nat) (s : Srch) (C : Ck) : (stepS K s C).2 ≤ s.2 := by
  unfold stepS; split
  · show cntR K C ≤ s.2; omega
  · exact Nat.le_refl _
theorem stepS_cnt (K : List Nat) (s : Srch) (C : Ck) : (stepS K s C).2 ≤ cntR K C := by
  unfold stepS; split
  · exact Nat.le_refl _
  · show s.2 ≤ cntR K C; omega
theorem visF_le {rec : Ck → Nat → Nat → Srch → Srch} (h : ∀ C of p s, (rec C of p s).2 ≤ s.2) (C : Ck) (of : Nat) (a : Nat × Srch × Bool) (i : Nat) : (visF rec C of a i).2.1.2 ≤ a.2.1.2 := by
  unfold visF
  split
  · exact Nat.le_refl _
  · split
    · exact Nat.le_refl _
    · split
      · exact Nat.le_refl _
      · exact h _ _ _ _
theorem foldF_le {rec : Ck → Nat → Nat → Srch → Srch} (h : ∀ C of p s, (rec C of p s).2 ≤ s.2) (C : Ck) (of : Nat) : ∀ (L : List Nat) (a : Nat × Srch × Bool), (L.foldl (visF rec C of) a).2.1.2 ≤ a.2.1.2
  | [], _ => Nat.le_refl _
  | i :: L, a => Nat.le_trans (foldF_le h C of L (visF rec C of a i)) (visF_le h C of a i)
theorem visitS_le (K : List Nat) : ∀ n C of p s, (visitS K n C of p s).2 ≤ s.2
  | 0, C, of, _, s => Nat.le_trans (foldF_le (fun _ _ _ _ => Nat.le_refl _) C of _ _) (stepS_le K s C)
  | n + 1, C, of, _, s => Nat.le_trans (foldF_le (visitS_le K n) C of _ _) (stepS_le K s C)
theorem recS_le (K : List Nat) (n : Nat) : ∀ C of p s, (recS K n C of p s).2 ≤ s.2 := by
  cases n with
  | zero => exact fun _ _ _ _ => Nat.le_refl _
  | succ n => exact visitS_le K n
theorem visF_done (rec : Ck → Nat → Nat → Srch → Srch) (C : Ck) (of : Nat) (p : Nat) (s : Srch) : ∀ L : List Nat, L.foldl (visF rec C of) (p, s, true) = (p, s, true)
  | [] => rfl
  | i :: L => by
    have e : visF rec C of (p, s, true) i = (p, s, true) := by unfold visF; rw [if_pos rfl]
    rw [List.foldl_cons, e]
    exact visF_done rec C of p s L

/-! ### none reads fewer -/
/-- to each check that tells, spare ones can be added so that it is nought on U -/
def Tgt (U : Nat → Prop) (C : Ck) : Prop := ∀ k, k < C.told → ∃ u, Span (From C C.told) (addV u 1 (C.m k)) ∧ byteV u ∧ ∀ j, U j → u j = 0
def Dead (C : Ck) (j : Nat) : Prop := ∀ r, C.told ≤ r → r < C.count → C.m r j = 0
theorem Dead.span {C : Ck} {j : Nat} (h : Dead C j) {v : Nat → Nat} (hv : Span (From C C.told) v) : v j = 0 :=
  Span.nought (fun r hr => by obtain ⟨k, k1, k2, rfl⟩ := hr; exact h k k1 k2) hv
theorem leave_cases {C C' : Ck} {i : Nat} (h : leave C i = some C') : ∃ r, C' = leaveAt C i r ∧ C.told ≤ r ∧ r < C.count ∧ C.m r i ≠ 0 := by
  unfold leave at h
  rw [Option.map_eq_some_iff] at h
  obtain ⟨r, hr, rfl⟩ := h
  obtain ⟨h1, h2, h3⟩ := spareAt_some hr
  exact ⟨r, rfl, h1, h2, h3⟩
theorem leave_none_dead {C : Ck} {i : Nat} (h : leave C i = none) : Dead C i := by
  unfold leave at h
  exact fun r h1 h2 => spareAt_none (Option.map_eq_none_iff.1 h) r h1 h2
theorem leave_dead {C C' : Ck} {i j : Nat} (hb : Byt C) (h : leave C i = some C') (hd : Dead C j ∨ j = i) : Dead C' j := by
  obtain ⟨r, rfl, h1, h2, h3⟩ := leave_cases h
  intro k k1 k2
  have := (leave_rows (t := C.told) hb (Nat.le_refl _) h1 h2 h3 ((leaveAt C i r).m k)).1 (Span.mem (leave_byte hb k) ⟨k, k1, k2, rfl⟩)
  rcases hd with hd | rfl
  · exact hd.span this.1
  · exact this.2
theorem addV_one (u r : Nat → Nat) (hr : byteV r) (j : Nat) : addV u 1 r j = u j ^^^ r j := by
  show u j ^^^ gm 1 (r j) = _; rw [gm_comm (by decide) (hr j), gm_one _ (hr j)]
theorem xor_eq {x y : Nat} (h : x ^^^ y = 0) : x = y := by
  have := congrArg (· ^^^ y) h
  simp only [Nat.zero_xor] at this
  rwa [Nat.xor_assoc, Nat.xor_self, Nat.xor_zero] at this
theorem leave_tgt {C C' : Ck} {i : Nat} {U : Nat → Prop} (hb : Byt C) (h : leave C i = some C') (hi : U i) (ht : Tgt U C) : Tgt U C' := by
  obtain ⟨r, rfl, h1, h2, h3⟩ := leave_cases h
  intro k hk
  have hk' : k < C.told := hk
  obtain ⟨u, hu, hub, hz⟩ := ht k hk'
  refine ⟨u, ?_, hub, hz⟩
  have e := leave_told (i := i) hk' h1 h2
  have hf : gm (C.m k i) (gi (C.m r i)) < 256 := gm_lt _ (hb k i)
  show Span (From (leaveAt C i r) C.told) _
  rw [leave_rows (t := C.told) hb (Nat.le_refl _) h1 h2 h3]
  constructor
  · rw [e]
    have e2 : addV u 1 (addV (C.m k) (gm (C.m k i) (gi (C.m r i))) (C.m r)) = addV (addV u 1 (C.m k)) (gm (C.m k i) (gi (C.m r i))) (C.m r) := by
      funext j
      rw [addV_one _ _ (addV_byte (hb k) hf)]
      show u j ^^^ (C.m k j ^^^ gm _ (C.m r j)) = (addV u 1 (C.m k) j) ^^^ gm _ (C.m r j)
      rw [addV_one _ _ (hb k), Nat.xor_assoc]
    rw [e2]
    exact hu.step hf ⟨r, h1, h2, rfl⟩
  · rw [addV_one _ _ (leave_byte hb k), hz i hi, e]
    show 0 ^^^ (C.m k i ^^^ gm (gm (C.m k i) (gi (C.m r i))) (C.m r i)) = 0
    rw [off_at (hb k i) (hb r i) h3]
    rfl
theorem tgt_dead {C : Ck} {U : Nat → Prop} (hb : Byt C) (ht : Tgt U C) (j : Nat) (hj : U j) (hd : Dead C j) : readsB C j = false := by
  rw [readsB_false]
  intro k hk
  obtain ⟨u, hu, hub, hz⟩ := ht k hk
  have := hd.span hu
  rw [addV_one _ _ (hb k), hz j hj, Nat.zero_xor] at this
  exact this
theorem cnt_bound {K : List Nat} {C : Ck} {U : Nat → Prop} [DecidablePred U] (h : ∀ j, j ∈ K → U j → readsB C j = false) : cntR K C ≤ (K.filter (fun j => decide (¬ U j))).length := by
  unfold cntR
  induction K with
  | nil => exact Nat.le_refl _
  | cons a K ih =>
    have ih' := ih (fun j hj => h j (List.mem_cons_of_mem _ hj))
    by_cases hu : U a
    · rw [List.filter_cons_of_neg (by simp [h a List.mem_cons_self hu]), List.filter_cons_of_neg (by simp [hu])]
      exact ih'
    · rw [List.filter_cons_of_pos (p := fun j => decide (¬ U j)) (by simp [hu])]
      by_cases hr : readsB C a = true
      · rw [List.filter_cons_of_pos hr]; simp only [List.length_cons]; omega
      · rw [List.filter_cons_of_neg hr]; simp only [List.length_cons]; omega
theorem visit_opt (K : List Nat) (U : Nat → Prop) [DecidablePred U] (q : Nat) (hq : (K.filter (fun j => decide (¬ U j))).length ≤ q) : ∀ n (C : Ck) (of p : Nat) (st : Srch), Byt C → C.count ≤ C.told + n → Tgt U C →
    (∀ j ∈ K, U j → j ∉ mems of → Dead C j) → p + ((mems of).filter (fun j => decide (¬ U j))).length ≤ q → (visitS K n C of p st).2 ≤ q := by
  intro n
  induction n with
  | zero =>
    intro C of p st hb hc ht hd hp
    have hdead : ∀ j, Dead C j := fun j r h1 h2 => by omega
    have hcn : cntR K C ≤ q := Nat.le_trans (cnt_bound (U := U) (fun j _ hj => tgt_dead hb ht j hj (hdead j))) hq
    exact Nat.le_trans (foldF_le (fun _ _ _ _ => Nat.le_refl _) C of _ _) (Nat.le_trans (stepS_cnt K st C) hcn)
  | succ n ih =>
    intro C of p st hb hc ht hd hp
    have key : ∀ (R pre : List Nat) (p : Nat) (s : Srch), mems of = pre ++ R → (∀ j ∈ K, U j → j ∉ R → Dead C j) → p + (R.filter (fun j => decide (¬ U j))).length ≤ q → s.2 ≤ cntR K C →
        (R.foldl (visF (visitS K n) C of) (p, s, false)).2.1.2 ≤ q := by
      intro R
      induction R with
      | nil =>
        intro pre p s _ hdd _ hs
        exact Nat.le_trans hs (Nat.le_trans (cnt_bound (U := U) (fun j hjK hj => tgt_dead hb ht j hj (hdd j hjK hj (by simp)))) hq)
      | cons i R ihR =>
        intro pre p s hm hdd hpp hs
        rw [List.foldl_cons]
        have hm' : mems of = (pre ++ [i]) ++ R := by rw [hm]; simp
        by_cases hlt : p < s.2
        · cases hl : leave C i with
          | none =>
            have e : visF (visitS K n) C of (p, s, false) i = (p, s, false) := by unfold visF; simp [hlt, hl]
            rw [e]
            refine ihR (pre ++ [i]) p s hm' (fun j hjK hj hjR => ?_) ?_ hs
            · by_cases e : j = i
              · rw [e]; exact leave_none_dead hl
              · exact hdd j hjK hj (by simp [e, hjR])
            · by_cases hu : U i
              · rwa [List.filter_cons_of_neg (by simp [hu])] at hpp
              · rw [List.filter_cons_of_pos (by simp [hu]), List.length_cons] at hpp; omega
          | some C' =>
            have e : visF (visitS K n) C of (p, s, false) i = (p + 1, visitS K n C' (behindN of i) p s, false) := by unfold visF; simp [hlt, hl]
            rw [e]
            by_cases hu : U i
            · refine Nat.le_trans (foldF_le (visitS_le K n) C of R _) ?_
              obtain ⟨r, hC', h1, h2, h3⟩ := leave_cases hl
              refine ih C' (behindN of i) p s (by rw [hC']; exact leave_byte hb) (by rw [hC']; show C.count - 1 ≤ C.told + n; omega) (leave_tgt hb hl hu ht) ?_ ?_
              · rw [mems_behind hm]
                intro j hjK hj hjR
                refine leave_dead hb hl ?_
                by_cases e : j = i
                · exact .inr e
                · exact .inl (hdd j hjK hj (by simp [e, hjR]))
              · rw [mems_behind hm]
                rwa [List.filter_cons_of_neg (by simp [hu])] at hpp
            · rw [List.filter_cons_of_pos (by simp [hu]), List.length_cons] at hpp
              refine ihR (pre ++ [i]) (p + 1) _ hm' (fun j hjK hj hjR => ?_) (by omega) (Nat.le_trans (visitS_le K n _ _ _ _) hs)
              exact hdd j hjK hj (by
                intro hm2
                rcases List.mem_cons.1 hm2 with e | e
                · exact hu (e ▸ hj)
                · exact hjR e)
        · have e : visF (visitS K n) C of (p, s, false) i = (p, s, true) := by unfold visF; simp [hlt]
          rw [e, visF_done]
          show s.2 ≤ q
          omega
    exact key (mems of) [] p (stepS K st C) rfl (fun j hjK hj hn => hd j hjK hj hn) hp (stepS_cnt K st C)

/-! ### what is found -/
inductive Reach (C : Ck) : Ck → Prop
  | refl : Reach C C
  | step {C1 C2 : Ck} {i : Nat} : Reach C C1 → leave C1 i = some C2 → Reach C C2
theorem Reach.trans {A B C : Ck} (h : Reach A B) (h' : Reach B C) : Reach A C := by
  induction h' with
  | refl => exact h
  | step _ hl ih => exact .step ih hl
def Found (K : List Nat) (C : Ck) (s s' : Srch) : Prop := s' = s ∨ (Reach C s'.1 ∧ s'.2 = cntR K s'.1)
theorem stepS_found (K : List Nat) (s : Srch) (C : Ck) : Found K C s (stepS K s C) := by
  unfold stepS; split
  · exact .inr ⟨.refl, rfl⟩
  · exact .inl rfl
theorem fold_found {K : List Nat} {rec : Ck → Nat → Nat → Srch → Srch} (h : ∀ C of p s, Found K C s (rec C of p s)) (C : Ck) (of : Nat) : ∀ (L : List Nat) (a : Nat × Srch × Bool), Found K C a.2.1 (L.foldl (visF rec C of) a).2.1
  | [], _ => .inl rfl
  | i :: L, a => by
    have h1 : Found K C a.2.1 (visF rec C of a i).2.1 := by
      unfold visF
      split
      · exact .inl rfl
      · split
        · exact .inl rfl
        · split
          · exact .inl rfl
          · rename_i C' hl
            rcases h C' (behindN of i) a.1 a.2.1 with e | ⟨hr, hc⟩
            · exact .inl e
            · exact .inr ⟨Reach.trans (.step .refl hl) hr, hc⟩
    rcases fold_found h C of L (visF rec C of a i) with e | hr
    · rw [List.foldl_cons, e]; exact h1
    · exact .inr hr
theorem visitS_found (K : List Nat) : ∀ n C of p s, Found K C s (visitS K n C of p s) := by
  have comb : ∀ {rec : Ck → Nat → Nat → Srch → Srch} (_ : ∀ C of p s, Found K C s (rec C of p s)) C of p s, Found K C s ((mems of).foldl (visF rec C of) (p, stepS K s C, false)).2.1 := by
    intro rec h C of p s
    rcases fold_found h C of (mems of) (p, stepS K s C, false) with e | hr
    · rw [e]; exact stepS_found K s C
    · exact .inr hr
  intro n
  induction n with
  | zero => exact comb (fun _ _ _ _ => .inl rfl)
  | succ n ih => exact comb ih
/-- the whole search, over the shards K of the set kept: the best, and how many it reads -/
def fewestS (n : Nat) (C : Ck) (kept : Nat) : Srch := visitS (mems kept) n C kept 0 (C, (mems kept).length)
theorem cntR_le (K : List Nat) (C : Ck) : cntR K C ≤ K.length := List.length_filter_le _ _
theorem fewest_found (n : Nat) (C : Ck) (kept : Nat) : Reach C (fewestS n C kept).1 ∧ (fewestS n C kept).2 = cntR (mems kept) (fewestS n C kept).1 := by
  rcases visitS_found (mems kept) n C kept 0 (C, (mems kept).length) with e | h
  · have hle : (fewestS n C kept).2 ≤ cntR (mems kept) C := by
      unfold fewestS
      rw [visitS_eq]
      exact Nat.le_trans (foldF_le (recS_le _ n) C kept _ _) (stepS_cnt _ _ C)
    have e' : fewestS n C kept = (C, (mems kept).length) := e
    rw [e'] at hle ⊢
    exact ⟨.refl, Nat.le_antisymm hle (cntR_le _ _)⟩
  · exact h
theorem fewest_opt (n : Nat) (C : Ck) (kept : Nat) (U : Nat → Prop) [DecidablePred U] (hb : Byt C) (hn : C.count ≤ C.told + n) (ht : Tgt U C) :
    cntR (mems kept) (fewestS n C kept).1 ≤ ((mems kept).filter (fun j => decide (¬ U j))).length := by
  rw [← (fewest_found n C kept).2]
  exact visit_opt (mems kept) U _ (Nat.le_refl _) n C kept 0 _ hb hn ht (fun j h1 _ h2 => absurd h1 h2) (by omega)
/-- what abides when shards are left -/
theorem Reach.good {C C' : Ck} {X : (Nat → Nat) → Prop} {L : List Nat} (hX : Lin X) (hr : Reach C C') (hb : Byt C) (hle : C.told ≤ C.count) (hall : ∀ k, k < C.count → X (C.m k))
    (hsp : ∀ j ∈ L, Dead C j) :
    Byt C' ∧ C'.told = C.told ∧ C'.told ≤ C'.count ∧ C'.count ≤ C.count ∧ (∀ k, k < C'.count → X (C'.m k)) ∧ (∀ k, k < C.told → ∀ j ∈ L, C'.m k j = C.m k j) ∧ ∀ j ∈ L, Dead C' j := by
  induction hr with
  | refl => exact ⟨hb, rfl, hle, Nat.le_refl _, hall, fun _ _ _ _ => rfl, hsp⟩
  | step _ hl ih =>
    obtain ⟨b, t, le, cc, al, on, sp⟩ := ih
    rename_i C1 C2 i _
    obtain ⟨r, hC', h1, h2, h3⟩ := leave_cases hl
    refine ⟨by rw [hC']; exact leave_byte b, by rw [hC']; exact t, by rw [hC']; show C1.told ≤ C1.count - 1; omega, by rw [hC']; show C1.count - 1 ≤ _; omega, by rw [hC']; exact leave_all hX b h2 al, ?_, fun j hj => leave_dead b hl (.inl (sp j hj))⟩
    intro k hk j hj
    rw [hC', leave_told (by omega) h1 h2]
    show C1.m k j ^^^ gm _ (C1.m r j) = _
    rw [sp j hj r h1 h2, gm_zero, Nat.xor_zero, on k hk j hj]
end Go.Proofs.YthhommjlomphdabDoor.Gf
