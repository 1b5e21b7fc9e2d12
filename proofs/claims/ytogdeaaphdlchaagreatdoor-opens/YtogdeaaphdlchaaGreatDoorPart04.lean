import Derived.Test.YtogdeaaphdlchaaGreatDoorRows
import Derived.WalkKit
import Derived.ProofKit
import Derived.RegionTactic
import Derived.Test.YtogdeaaphdlchaaGreatDoorPart03
/-
  A region that draws its order, by what each operation leaves: no order is gone through. What an operation leaves is said of its slot's value and of the world; it must stay whatever comes behind it; whoever reads it waits for it.
-/
namespace Go.Proofs.YtogdeaaphdlchaaGreatDoor
open Go.RowKit

theorem rf_same (a : Act) (i : Nat) (v : Value) (h : i < a.tmps.size) : (a.put (some i) v).eval (.tmp i) = v := by simp [Act.put, Act.eval, h]
theorem rf_other (a : Act) (i j : Nat) (v : Value) (h : i ≠ j) : (a.put (some i) v).eval (.tmp j) = a.eval (.tmp j) := by
  simp [Act.put, Act.eval, Array.getD_eq_getD_getElem?, h]
theorem rf_size (a : Act) (d : Option Nat) (v : Value) : (a.put d v).tmps.size = a.tmps.size := by
  cases d <;> simp [Act.put]
/-- only slots from lo to hi have changed -/
structure Framed (lo hi : Nat) (a a' : Act) : Prop where
  size : a'.tmps.size = a.tmps.size
  defers : a'.defers = a.defers
  slot : ∀ s, s < lo ∨ hi ≤ s → a'.eval (.tmp s) = a.eval (.tmp s)
theorem Framed.refl (lo hi : Nat) (a : Act) : Framed lo hi a a := ⟨rfl, rfl, fun _ _ => rfl⟩
theorem Framed.put {lo hi : Nat} {a a' : Act} (h : Framed lo hi a a') {d : Option Nat} (v : Value) (hd : ∀ i, d = some i → lo ≤ i ∧ i < hi) : Framed lo hi a (a'.put d v) := by
  cases d with
  | none => exact h
  | some d =>
    obtain ⟨h1, h2⟩ := hd d rfl
    exact ⟨by rw [rf_size]; exact h.size, h.defers, fun s hs => by rw [rf_other _ _ _ _ (by omega)]; exact h.slot s hs⟩
def Act.putFrom (a : Act) : Nat → List Value → Act
  | _, [] => a
  | d, v :: r => Act.putFrom (a.put (some d) v) (d + 1) r
theorem putFrom_size : ∀ (vs : List Value) (a : Act) (d : Nat), (Act.putFrom a d vs).tmps.size = a.tmps.size ∧ (Act.putFrom a d vs).defers = a.defers
  | [], _, _ => ⟨rfl, rfl⟩
  | v :: r, a, d => by
    obtain ⟨h1, h2⟩ := putFrom_size r (a.put (some d) v) (d + 1)
    exact ⟨h1.trans (rf_size _ _ _), h2⟩
theorem putFrom_eval : ∀ (vs : List Value) (a : Act) (d s : Nat), d + vs.length ≤ a.tmps.size → (Act.putFrom a d vs).eval (.tmp s) = if d ≤ s ∧ s < d + vs.length then vs.getD (s - d) undef else a.eval (.tmp s)
  | [], a, d, s, _ => by
    show a.eval (.tmp s) = if d ≤ s ∧ s < d + 0 then _ else _
    rw [if_neg (by omega)]
  | v :: r, a, d, s, h => by
    simp only [List.length_cons] at h ⊢
    show (Act.putFrom (a.put (some d) v) (d + 1) r).eval (.tmp s) = _
    rw [putFrom_eval r _ _ _ (by rw [rf_size]; omega)]
    by_cases e : s = d
    · subst e
      rw [if_neg (by omega), if_pos (by omega), Nat.sub_self, rf_same _ _ _ (by omega)]; rfl
    · rw [rf_other _ _ _ _ (fun q => e q.symm)]
      by_cases e2 : d + 1 ≤ s ∧ s < d + 1 + r.length
      · rw [if_pos e2, if_pos (by omega), show s - d = (s - (d + 1)) + 1 by omega]; rfl
      · rw [if_neg e2, if_neg (by omega)]
theorem act_ext {a b : Act} (h1 : a.tmps.size = b.tmps.size) (h2 : a.defers = b.defers) (h3 : ∀ s, s < a.tmps.size → a.eval (.tmp s) = b.eval (.tmp s)) : a = b := by
  obtain ⟨ta, da⟩ := a
  obtain ⟨tb, db⟩ := b
  simp only at h1 h2
  subst h2
  congr 1
  refine Array.ext h1 fun i q1 q2 => ?_
  have := h3 i q1
  simpa [Act.eval, q1, q2] using this
/-- the frame behind, written out -/
theorem Framed.out {lo hi : Nat} {a a' : Act} (h : Framed lo hi a a') (vs : List Value) (hl : lo + vs.length = hi) (hs : hi ≤ a.tmps.size) (hv : ∀ i, i < vs.length → a'.eval (.tmp (lo + i)) = vs.getD i undef) : a' = Act.putFrom a lo vs := by
  obtain ⟨p1, p2⟩ := putFrom_size vs a lo
  refine act_ext (h.size.trans p1.symm) (h.defers.trans p2.symm) fun s _ => ?_
  rw [putFrom_eval vs a lo s (by omega)]
  by_cases e : lo ≤ s ∧ s < lo + vs.length
  · rw [if_pos e]
    have := hv (s - lo) (by omega)
    rwa [show lo + (s - lo) = s by omega] at this
  · rw [if_neg e]; exact h.slot s (by omega)

/-- for which others an operation waits -/
def depsOf (ops : Array Oper) (i : Nat) : List Nat := match ops[i]? with
  | some o => (o.after.toList.filter (fun e => Region.binds .any e)).map (fun e => e.on)
  | none => []
theorem ready_iff {ops : Array Oper} {listed : Array Bool} {i : Nat} : i ∈ Region.ready .any ops listed ↔ i < ops.size ∧ listed.getD i true = false ∧ ∀ k ∈ depsOf ops i, listed.getD k false = true := by
  unfold Region.ready depsOf
  rw [List.mem_filter, List.mem_range, Bool.and_eq_true_iff]
  constructor
  · rintro ⟨h1, h2, h3⟩
    refine ⟨h1, by simpa using h2, fun k hk => ?_⟩
    rw [Array.getElem?_eq_getElem h1] at h3 hk
    simp only [Option.map_some, Option.getD_some] at h3
    rw [List.mem_map] at hk
    obtain ⟨e, he, rfl⟩ := hk
    obtain ⟨m1, m2⟩ := List.mem_filter.1 he
    have := Array.all_eq_true'.1 h3 e (by simpa using m1)
    simpa [m2] using this
  · rintro ⟨h1, h2, h3⟩
    refine ⟨h1, by simpa using h2, ?_⟩
    rw [Array.getElem?_eq_getElem h1] at h3 ⊢
    simp only [Option.map_some, Option.getD_some]
    rw [Array.all_eq_true']
    intro e he
    by_cases hb : Region.binds .any e = true
    · have := h3 e.on (List.mem_map.2 ⟨e, List.mem_filter.2 ⟨by simpa using he, hb⟩, rfl⟩)
      simp [this]
    · simp [hb]
/-- how many are still to come -/
def toCome (listed : Array Bool) : Nat := (listed.toList.filter (fun b => !b)).length
theorem toCome_set {listed : Array Bool} {i : Nat} (h : listed.getD i true = false) : toCome (listed.setIfInBounds i true) + 1 = toCome listed := by
  have hi : i < listed.size := by
    by_cases h' : i < listed.size
    · exact h'
    · simp [Array.getD_eq_getD_getElem?, h'] at h
  unfold toCome
  rw [Array.toList_setIfInBounds]
  have hg : listed.toList[i]? = some false := by
    simp [Array.getD_eq_getD_getElem?, hi] at h
    simp [hi, h]
  generalize listed.toList = l at hg
  clear h hi
  induction l generalizing i with
  | nil => simp at hg
  | cons b l ih =>
    cases i with
    | zero =>
      simp at hg
      subst hg
      simp
    | succ i =>
      simp at hg
      have := ih hg
      cases b <;> simp [List.set_cons_succ] <;> omega
theorem toCome_zero {listed : Array Bool} (h : toCome listed = 0) (i : Nat) (hi : i < listed.size) : listed.getD i false = true := by
  unfold toCome at h
  have h2 := List.length_eq_zero_iff.1 h
  rw [List.filter_eq_nil_iff] at h2
  have := h2 listed[i] (by simp)
  simpa [Array.getD_eq_getD_getElem?, hi] using this
def slotD (d : Option Nat) (a : Act) : Value := match d with
  | some d => a.eval (.tmp d)
  | none => undef
def slotOf (ops : Array Oper) (i : Nat) (a : Act) : Value := slotD ((ops[i]?).bind (fun o => o.dst)) a
theorem slotOf_at {ops : Array Oper} {i : Nat} {o : Oper} (h : ops[i]? = some o) (a : Act) : slotOf ops i a = slotD o.dst a := by unfold slotOf; rw [h]; rfl
/-- what is asked of the region's text: how many operations, for whom each waits, its slot; no guard -/
structure RegShape (ops : Array Oper) (lo hi : Nat) (sh : List (Op × Option Nat × List Nat)) : Prop where
  at_ : (List.range ops.size).map (fun i => ((ops[i]?.map fun o => (o.op, o.dst, o.guard)), depsOf ops i)) = sh.map (fun x => (some (x.1, x.2.1, none), x.2.2))
  early : ∀ i, i < sh.length → ∀ k ∈ (sh.getD i (.move (.const undef), none, [])).2.2, k < i
  slots : ∀ i j d, i < sh.length → j < sh.length → (sh.getD i (.move (.const undef), none, [])).2.1 = some d → (lo ≤ d ∧ d < hi) ∧ ((sh.getD j (.move (.const undef), none, [])).2.1 = some d → i = j)
def shOk (lo hi : Nat) (sh : List (Op × Option Nat × List Nat)) : Bool := (List.range sh.length).all fun i => (sh.getD i (.move (.const undef), none, [])).2.2.all (fun k => decide (k < i)) && match (sh.getD i (.move (.const undef), none, [])).2.1 with
  | none => true
  | some d => decide (lo ≤ d) && decide (d < hi) && (List.range sh.length).all fun j => (sh.getD j (.move (.const undef), none, [])).2.1 != some d || i == j
theorem regShape {ops : Array Oper} {lo hi : Nat} {sh : List (Op × Option Nat × List Nat)} (h1 : (List.range ops.size).map (fun i => ((ops[i]?.map fun o => (o.op, o.dst, o.guard)), depsOf ops i)) = sh.map (fun x => (some (x.1, x.2.1, none), x.2.2))) (h2 : shOk lo hi sh = true) : RegShape ops lo hi sh := by
  unfold shOk at h2
  rw [List.all_eq_true] at h2
  refine ⟨h1, fun i hi' k hk => ?_, fun i j d hi' hj hd => ?_⟩
  · have := h2 i (List.mem_range.2 hi')
    rw [Bool.and_eq_true_iff, List.all_eq_true] at this
    exact of_decide_eq_true (this.1 k hk)
  · have := (Bool.and_eq_true_iff.1 (h2 i (List.mem_range.2 hi'))).2
    rw [hd] at this
    simp only [Bool.and_eq_true_iff, decide_eq_true_eq, List.all_eq_true] at this
    refine ⟨this.1, fun hjd => ?_⟩
    have q := this.2 j (List.mem_range.2 hj)
    rw [hjd] at q
    simpa using q
theorem RegShape.size {ops : Array Oper} {lo hi : Nat} {sh : List (Op × Option Nat × List Nat)} (h : RegShape ops lo hi sh) : ops.size = sh.length := by
  have := congrArg List.length h.at_
  simpa using this
theorem RegShape.get {ops : Array Oper} {lo hi : Nat} {sh : List (Op × Option Nat × List Nat)} (h : RegShape ops lo hi sh) (i : Nat) (hi : i < sh.length) :
    ∃ o, ops[i]? = some o ∧ o.op = (sh.getD i (.move (.const undef), none, [])).1 ∧ o.dst = (sh.getD i (.move (.const undef), none, [])).2.1 ∧ o.guard = none ∧ depsOf ops i = (sh.getD i (.move (.const undef), none, [])).2.2 := by
  have hs := h.size
  have := congrArg (fun l => l[i]?) h.at_
  have hi' : i < ops.size := by omega
  simp only [List.getElem?_map, List.getElem?_range hi', Option.map_some, List.getElem?_eq_getElem hi, Option.some.injEq, Prod.mk.injEq, Option.map_eq_some_iff] at this
  obtain ⟨⟨o, h1, h2, h3, h4⟩, h5⟩ := this
  have e : sh.getD i (.move (.const undef), none, []) = sh[i] := by simp [hi]
  rw [e]
  exact ⟨o, h1, h2, h3, h4, h5⟩
theorem RegShape.slot {ops : Array Oper} {lo hi : Nat} {sh : List (Op × Option Nat × List Nat)} (h : RegShape ops lo hi sh) (i : Nat) (hi : i < sh.length) (a : Act) : slotOf ops i a = slotD (sh.getD i (.move (.const undef), none, [])).2.1 a := by
  obtain ⟨o, h1, _, h3, _⟩ := h.get i hi
  rw [slotOf_at h1, h3]
/-- one more is done -/
def upd (D : Nat → Bool) (i : Nat) : Nat → Bool := fun j => if j = i then true else D j
abbrev shAt (sh : List (Op × Option Nat × List Nat)) (i : Nat) : Op × Option Nat × List Nat := sh.getD i (.move (.const undef), none, [])
/-- what is asked of each operation -/
def StepOk (P : Program) (Q : Exit → Act → World → Prop) (lo hi : Nat) (sh : List (Op × Option Nat × List Nat)) (a0 : Act) (V : Nat → Value → World → Prop) (B : (Nat → Bool) → World → Prop) (i : Nat) : Prop :=
  ∀ (o : Oper) (a : Act) (w : World) (D : Nat → Bool), o.guard = none → o.op = (shAt sh i).1 → o.dst = (shAt sh i).2.1 → Framed lo hi a0 a → D i = false → (∀ j, D j = true → j < sh.length ∧ ∀ k ∈ (shAt sh j).2.2, D k = true) →
    (∀ k ∈ (shAt sh i).2.2, D k = true) → B D w → (∀ j, D j = true → V j (slotD (shAt sh j).2.1 a) w) →
    o.wp P a w (fun a' w' => ∃ v, a' = a.put o.dst v ∧ (o.dst = none → v = undef) ∧ B (upd D i) w' ∧ V i v w' ∧ ∀ j u, D j = true → V j u w → V j u w') Q
/-- the region -/
theorem any_factsS {P : Program} {ops : Array Oper} {Q : Exit → Act → World → Prop} {lo hi : Nat} {sh : List (Op × Option Nat × List Nat)} (hsh : RegShape ops lo hi sh) (a0 : Act) (hhi : hi ≤ a0.tmps.size)
    (V : Nat → Value → World → Prop) (B : (Nat → Bool) → World → Prop) (hstep : ∀ i, i < sh.length → StepOk P Q lo hi sh a0 V B i)
    (hend : ∀ (a : Act) (w : World), Framed lo hi a0 a → (∀ s, (∀ i, i < sh.length → (shAt sh i).2.1 ≠ some s) → a.eval (.tmp s) = a0.eval (.tmp s)) → (∃ D, (∀ i, i < sh.length → D i = true) ∧ B D w) → (∀ i, i < sh.length → V i (slotD (shAt sh i).2.1 a) w) → Q .normal a w) :
    ∀ (f : Nat) (listed : Array Bool) (a : Act) (w : World), listed.size = sh.length → toCome listed = f → Framed lo hi a0 a → (∀ s, (∀ i, i < sh.length → (shAt sh i).2.1 ≠ some s) → a.eval (.tmp s) = a0.eval (.tmp s)) → (∀ j, listed.getD j false = true → j < sh.length ∧ ∀ k ∈ (shAt sh j).2.2, listed.getD k false = true) → B (fun j => listed.getD j false) w →
      (∀ i, listed.getD i false = true → V i (slotD (shAt sh i).2.1 a) w) → wpAny P .any ops Q f listed a w := by
  have hsz := hsh.size
  have hready : ∀ listed : Array Bool, listed.size = sh.length → toCome listed ≠ 0 → Region.ready .any ops listed ≠ [] := by
    intro listed hl hc hr
    have hall : ∀ i, i < sh.length → listed.getD i false = true := by
      intro i
      induction i using Nat.strongRecOn with
      | ind i ih =>
        intro hi'
        by_cases hd : listed.getD i false = true
        · exact hd
        · exfalso
          have hm : i ∈ Region.ready .any ops listed := ready_iff.2 ⟨by omega, by simpa [Array.getD_eq_getD_getElem?, show i < listed.size by omega] using hd, fun k hk => by
            obtain ⟨o, _, _, _, _, e⟩ := hsh.get i hi'
            rw [e] at hk
            have := hsh.early i hi' k hk
            exact ih k this (by omega)⟩
          rw [hr] at hm
          cases hm
    apply hc
    unfold toCome
    rw [List.length_eq_zero_iff, List.filter_eq_nil_iff]
    intro b hb
    obtain ⟨i, hi', rfl⟩ := List.getElem_of_mem hb
    have hi2 : i < listed.size := by simpa using hi'
    have := hall i (by omega)
    simp [Array.getD_eq_getD_getElem?, hi2] at this
    simp [this]
  intro f
  induction f with
  | zero =>
    intro listed a w hl hc hk hsame hcl hB hV
    refine ⟨?_, hend a w hk hsame ⟨_, fun i hi' => toCome_zero hc i (by omega), hB⟩ fun i hi' => hV i (toCome_zero hc i (by omega))⟩
    rw [List.eq_nil_iff_forall_not_mem]
    intro i hm
    obtain ⟨h1, h2, _⟩ := ready_iff.1 hm
    have := toCome_zero hc i (by omega)
    simp [Array.getD_eq_getD_getElem?, show i < listed.size by omega] at this h2
    rw [this] at h2
    cases h2
  | succ f ih =>
    intro listed a w hl hc hk hsame hcl hB hV
    refine ⟨fun e => absurd e (hready listed hl (by omega)), fun i hm => ?_⟩
    obtain ⟨h1, h2, h3⟩ := ready_iff.1 hm
    have hi' : i < sh.length := by omega
    have hil : i < listed.size := by omega
    obtain ⟨o, e1, e2, e3, e4, e5⟩ := hsh.get i hi'
    have hDi : listed.getD i false = false := by simpa [Array.getD_eq_getD_getElem?, hil] using h2
    have hupd : ∀ j, (listed.setIfInBounds i true).getD j false = upd (fun j => listed.getD j false) i j := by
      intro j
      unfold upd
      by_cases ej : j = i
      · subst ej
        rw [if_pos rfl]
        simp [Array.getD_eq_getD_getElem?, hil]
      · rw [if_neg ej, Array.getD_eq_getD_getElem?, Array.getElem?_setIfInBounds, if_neg (fun q : i = j => ej q.symm), ← Array.getD_eq_getD_getElem?]
    unfold wpOp
    rw [e1]
    show if Region.wanted o (yielded ops a.tmps) = true then _ else _
    rw [if_pos (by simp [Region.wanted, e4])]
    refine .inl (Oper.wp_mono (fun a' w' h => ?_) (hstep i hi' o a w (fun j => listed.getD j false) e4 e2 e3 hk hDi hcl (fun k hk' => ?_) hB hV))
    · obtain ⟨v, rfl, hu, hB', hVi, hst⟩ := h
      have hdst : ∀ d, o.dst = some d → lo ≤ d ∧ d < hi := fun d hd => by rw [e3] at hd; exact (hsh.slots i i d hi' hi' hd).1
      refine ih _ _ _ (by simpa using hl) (by have := toCome_set h2; omega) (hk.put v hdst) (fun s hs => ?_) (fun j hj => ?_) ?_ fun j hlj => ?_
      · refine Eq.trans ?_ (hsame s hs)
        cases hd : o.dst with
        | none => rfl
        | some d => exact rf_other _ _ _ _ (fun e => hs i hi' (by rw [show (shAt sh i).2.1 = o.dst from e3.symm, hd, e]))
      · rw [hupd] at hj
        unfold upd at hj
        by_cases ej : j = i
        · subst ej
          refine ⟨hi', fun k hk' => ?_⟩
          rw [hupd]; unfold upd
          by_cases ek : k = j
          · rw [if_pos ek]
          · rw [if_neg ek]; rw [← e5] at hk'; exact h3 k hk'
        · rw [if_neg ej] at hj
          obtain ⟨q1, q2⟩ := hcl j hj
          refine ⟨q1, fun k hk' => ?_⟩
          rw [hupd]; unfold upd
          by_cases ek : k = i
          · rw [if_pos ek]
          · rw [if_neg ek]; exact q2 k hk'
      · have e : (fun j => (listed.setIfInBounds i true).getD j false) = upd (fun j => listed.getD j false) i := funext hupd
        rw [e]; exact hB'
      · rw [hupd] at hlj
        unfold upd at hlj
        by_cases ej : j = i
        · subst ej
          have : slotD (shAt sh j).2.1 (a.put o.dst v) = v := by
            show slotD (sh.getD j (.move (.const undef), none, [])).2.1 (a.put o.dst v) = v
            rw [← e3]
            cases hd : o.dst with
            | none => exact (hu hd).symm
            | some d => exact rf_same _ _ _ (Nat.lt_of_lt_of_le (hdst d hd).2 (by rw [hk.size]; exact hhi))
          rw [this]; exact hVi
        · rw [if_neg ej] at hlj
          have : slotD (shAt sh j).2.1 (a.put o.dst v) = slotD (shAt sh j).2.1 a := by
            cases hd' : (shAt sh j).2.1 with
            | none => rfl
            | some d' =>
              cases hd : o.dst with
              | none => rfl
              | some d =>
                refine rf_other _ _ _ _ fun q => ej ?_
                subst q
                rw [e3] at hd
                exact (hsh.slots j i d (hcl j hlj).1 hi' hd').2 hd
          rw [this]
          exact hst j _ hlj (hV j hlj)
    · exact h3 k (by rw [e5]; exact hk')
/-- as the walk meets it -/
theorem region_factsS {P : Program} {ops : Array Oper} {Q : Exit → Act → World → Prop} {m lo hi : Nat} {sh : List (Op × Option Nat × List Nat)} (hm : P.follows .mixedOrders = true) (hsh : RegShape ops lo hi sh) (a0 : Act) (w0 : World) (hhi : hi ≤ a0.tmps.size)
    (V : Nat → Value → World → Prop) (B : (Nat → Bool) → World → Prop) (hB : B (fun _ => false) w0.drew) (hstep : ∀ i, i < sh.length → StepOk P Q lo hi sh a0 V B i)
    (hend : ∀ (a : Act) (w : World), Framed lo hi a0 a → (∀ s, (∀ i, i < sh.length → (shAt sh i).2.1 ≠ some s) → a.eval (.tmp s) = a0.eval (.tmp s)) → (∃ D, (∀ i, i < sh.length → D i = true) ∧ B D w) → (∀ i, i < sh.length → V i (slotD (shAt sh i).2.1 a) w) → Q .normal a w) : (Code.region m ops true).wp P Q a0 w0 := by
  refine wp_region_any hm ?_
  have hsz := hsh.size
  have h0 : ∀ i, (Array.replicate ops.size false).getD i false = false := fun i => by
    simp only [Array.getD_eq_getD_getElem?, Array.getElem?_replicate]
    split <;> rfl
  refine any_factsS hsh a0 hhi V B hstep hend _ _ a0 w0.drew (by simp [hsz]) ?_ (Framed.refl _ _ _) (fun _ _ => rfl) (fun j hj => ?_) ?_ fun i h => ?_
  · unfold toCome
    simp
  · rw [h0] at hj; cases hj
  · have e : (fun j => (Array.replicate ops.size false).getD j false) = fun _ => false := funext h0
    rw [e]; exact hB
  · rw [h0] at h; cases h

/-- as the walk meets it -/
theorem region_facts {P : Program} {ops : Array Oper} {Q : Exit → Act → World → Prop} {m lo hi : Nat} {sh : List (Op × Option Nat × List Nat)} (hm : P.follows .mixedOrders = true) (hsh : RegShape ops lo hi sh) (a0 : Act) (w0 : World) (hhi : hi ≤ a0.tmps.size)
    (V : Nat → Value → World → Prop) (B : (Nat → Bool) → World → Prop) (hB : B (fun _ => false) w0.drew) (hstep : ∀ i, i < sh.length → StepOk P Q lo hi sh a0 V B i)
    (hend : ∀ (a : Act) (w : World), Framed lo hi a0 a → (∃ D, (∀ i, i < sh.length → D i = true) ∧ B D w) → (∀ i, i < sh.length → V i (slotD (shAt sh i).2.1 a) w) → Q .normal a w) : (Code.region m ops true).wp P Q a0 w0 :=
  region_factsS hm hsh a0 w0 hhi V B hB hstep fun a w h1 _ h2 h3 => hend a w h1 h2 h3

/-! ### what operations do -/
theorem op_val {P : Program} {Q : Exit → Act → World → Prop} {o : Oper} {a : Act} {w w' : World} {v : Value} {B : World → Prop} {Vi : Value → World → Prop} {S : World → Prop} (hr : (execOp a.eval o).run P w = .ok (.value v) w') {d : Nat} (hd : o.dst = some d) (h : B w' ∧ Vi v w' ∧ S w') :
    o.wp P a w (fun a' w' => ∃ v, a' = a.put o.dst v ∧ (o.dst = none → v = undef) ∧ B w' ∧ Vi v w' ∧ S w') Q := by
  unfold Oper.wp; rw [hr]; exact ⟨v, rfl, fun h => (by rw [hd] at h; cases h), h⟩
theorem op_skip {P : Program} {Q : Exit → Act → World → Prop} {o : Oper} {a : Act} {w w' : World} {B : World → Prop} {Vi : Value → World → Prop} {S : World → Prop} (hr : (execOp a.eval o).run P w = .ok .skip w') (h : B w' ∧ Vi undef w' ∧ S w') :
    o.wp P a w (fun a' w' => ∃ v, a' = a.put o.dst v ∧ (o.dst = none → v = undef) ∧ B w' ∧ Vi v w' ∧ S w') Q := by
  unfold Oper.wp; rw [hr]; exact ⟨undef, rfl, fun _ => rfl, h⟩
theorem op_call {P : Program} {Q : Exit → Act → World → Prop} {o : Oper} {a : Act} {w w1 : World} {f : FuncId} {args : Array Value} {Rr : Ending → World → Prop} {B : World → Prop} {Vi : Value → World → Prop} {S : World → Prop} (hr : (execOp a.eval o).run P w = .ok (.enter f args) w1) {d : Nat} (hd : o.dst = some d) (hc : Calls P f args w1 Rr)
    (h : ∀ e w', Rr e w' → ∃ v, e = .returned v ∧ B w' ∧ Vi v w' ∧ S w') : o.wp P a w (fun a' w' => ∃ v, a' = a.put o.dst v ∧ (o.dst = none → v = undef) ∧ B w' ∧ Vi v w' ∧ S w') Q := by
  unfold Oper.wp
  rw [hr]
  refine hc.mono fun e w' he => ?_
  obtain ⟨v, rfl, h1⟩ := h e w' he
  exact ⟨v, rfl, fun h => (by rw [hd] at h; cases h), h1⟩
theorem run_op_move {P : Program} {o : Oper} {a : Act} {x : Operand} {v : Value} (ho : o.op = .move x) (hx : a.eval x = v) (w : World) : (execOp a.eval o).run P w = .ok (.value v) w := by simp [execOp, ho, hx]
theorem run_max_int {P : Program} (ats : Array TypeId) (ty : TypeId) (x y : Int) (w : World) : (Builtin.max_ ats ty #[.int .i64 x, .int .i64 y]).run P w = .ok (.int .i64 (if y > x then y else x)) w := by
  simp [Builtin.max_, Builtin.max2]
theorem run_min_int {P : Program} (ats : Array TypeId) (ty : TypeId) (x y : Int) (w : World) : (Builtin.min_ ats ty #[.int .i64 x, .int .i64 y]).run P w = .ok (.int .i64 (if y < x then y else x)) w := by
  simp [Builtin.min_, Builtin.min2]
theorem run_op_max {P : Program} {o : Oper} {a : Act} {s t : Operand} {ats : Array TypeId} (ho : o.op = .call { callee := .builtin .max, args := #[s, t], argTypes := ats }) {x y : Int} (hx : a.eval s = .int .i64 x) (hy : a.eval t = .int .i64 y) (w : World) :
    (execOp a.eval o).run P w = .ok (.value (.int .i64 (if y > x then y else x))) w := by
  unfold execOp
  simp only [ho, resolve, invoke, builtin, Sem.run_bind, Sem.run_pure, Result.andThen_ok, List.map_toArray, List.map_cons, List.map_nil, hx, hy, run_max_int]
def rgf : Code → Nat → Option (Array Oper)
  | .region i ops _, n => if i = n then some ops else none
  | .seq a b, n => (rgf a n).orElse fun _ => rgf b n
  | .cond _ a b, n => (rgf a n).orElse fun _ => rgf b n
  | .block _ a, n => rgf a n
  | .loop a, n => rgf a n
  | .scope a, n => rgf a n
  | .rangeFunc _ _ a b, n => (rgf a n).orElse fun _ => rgf b n
  | _, _ => none
end Go.Proofs.YtogdeaaphdlchaaGreatDoor
/-
  Records: a block read, a block written.
-/
namespace Go.Proofs.YtogdeaaphdlchaaGreatDoor
open Go.RowKit Go.Deep

/-- a record as a value -/
def recV : Rec → Value
  | .blank => .iface 138 (.agg #[])
  | .root D L G t f n => .iface 63 (.agg (rootA D L G t f n))
  | .filled => .iface 141 (.agg #[])
  | .shard l => .iface 212 (.agg (bts l).toArray)
theorem blk_range {w : World} {b : Nat} {l : List Nat} (h : BlkAt w b l) : w.rangeAt b 0 (bts l) := fun j v hv => by
  have : (blkA l)[j]? = some v := by unfold blkA; simpa using hv
  have h' : w.heap[b]? = some (.cells (blkA l) 157 (0, 0)) := h
  simp [World.cell?, h', this]
theorem blk_cell {w : World} {b : Nat} {l : List Nat} (h : BlkAt w b l) (i : Nat) (hi : i < l.length) : w.cell? ⟨b, i, none⟩ = some (.int .u8 ((l.getD i 0 : Nat) : Int)) := by
  have := blk_range h i (.int .u8 ((l.getD i 0 : Nat) : Int)) (by unfold bts; rw [List.getElem?_map, List.getElem?_eq_getElem hi, List.getD_eq_getElem?_getD, List.getElem?_eq_getElem hi]; rfl)
  rwa [Nat.zero_add] at this
theorem take_one (l : List Nat) (i : Nat) (h : i < l.length) : (l.drop i).take 1 = [l.getD i 0] := by
  rw [List.drop_eq_getElem_cons h, List.getD_eq_getElem?_getD, List.getElem?_eq_getElem h]; rfl
theorem prs_root {l : List Nat} (hl : l.length = 64) (h4 : l.getD 4 0 = 1) : prs l = .root (ofB ((l.drop 5).take 1)) (ofB (((l.drop 5).drop 1).take 1)) (ofB (((l.drop 5).drop 2).take 1)) (ofB (((l.drop 5).drop 3).take 8)) (ofB (((l.drop 5).drop 11).take 4)) (ofB (((l.drop 5).drop 15).take 4)) := by
  unfold prs
  rw [if_pos h4, List.drop_drop, List.drop_drop, List.drop_drop, List.drop_drop, List.drop_drop, take_one l 5 (by omega), take_one l (5 + 1) (by omega), take_one l (5 + 2) (by omega)]
theorem fold_ins : ∀ (l : List Value) (k : Nat) (z : Array Value), ((l.zipIdx k).foldl (fun cs x => cs.setIfInBounds x.2 x.1) z).size = z.size ∧ ∀ i, ((l.zipIdx k).foldl (fun cs x => cs.setIfInBounds x.2 x.1) z)[i]? = if k ≤ i ∧ i < k + l.length ∧ i < z.size then l[i - k]? else z[i]?
  | [], k, z => ⟨rfl, fun i => by
      show z[i]? = if k ≤ i ∧ i < k + 0 ∧ i < z.size then _ else z[i]?
      rw [if_neg (by omega)]⟩
  | v :: l, k, z => by
    obtain ⟨h1, h2⟩ := fold_ins l (k + 1) (z.setIfInBounds k v)
    rw [List.zipIdx_cons, List.foldl_cons]
    refine ⟨by rw [h1]; simp, fun i => ?_⟩
    rw [h2 i, Array.size_setIfInBounds, Array.getElem?_setIfInBounds]
    simp only [List.length_cons]
    by_cases e : k = i
    · subst e
      rw [if_neg (by omega), if_pos rfl]
      by_cases e2 : k < z.size
      · rw [if_pos e2, if_pos (by omega), Nat.sub_self]; rfl
      · rw [if_neg e2, if_neg (by omega)]
        simp [e2]
    · rw [if_neg e]
      by_cases e2 : k + 1 ≤ i ∧ i < k + 1 + l.length ∧ i < z.size
      · rw [if_pos e2, if_pos (by omega), show i - k = (i - (k + 1)) + 1 by omega]; rfl
      · rw [if_neg e2, if_neg (by omega)]
/-- a struct built of one array -/
theorem build_one (z sa : Array Value) (n : Nat) (hz : z.size = n) (hs : sa.size = n) : Array.foldl (fun cs x => cs.setIfInBounds x.snd x.fst) z sa.zipIdx 0 n = sa := by
  have e : Array.foldl (fun cs x => cs.setIfInBounds x.snd x.fst) z sa.zipIdx 0 n = (sa.toList.zipIdx).foldl (fun cs x => cs.setIfInBounds x.2 x.1) z := by
    rw [← hs, show sa.size = sa.zipIdx.size by simp, ← Array.foldl_toList, Array.toList_zipIdx]
  rw [e]
  obtain ⟨h1, h2⟩ := fold_ins sa.toList 0 z
  apply Array.ext_getElem?
  intro i
  rw [h2 i]
  by_cases hi : i < n
  · rw [if_pos (by simp; omega)]
    simp
  · rw [if_neg (by omega)]
    simp [Array.getElem?_eq_none (show z.size ≤ i by omega), Array.getElem?_eq_none (show sa.size ≤ i by omega)]
set_option maxRecDepth 100000 in
set_option maxHeartbeats 2000000 in
theorem parse_any (l : List Nat) (w : World) (hl : l.length = 64) (hx : ∀ x ∈ l, x < 256) :
    Calls Tryz.prog 76 #[.agg (blkA l)] w fun e w' => e = .returned (recV (prs l)) ∧ Below w.heap.size w w' := by
  have hb := BlkAt.new w l
  have hbw : Below w.heap.size w (w.alloc (.cells (blkA l) 157)) := (Below.refl _ w).alloc (Nat.le_refl _) _
  have hz : (w.alloc (.cells (blkA l) 157)).heap.size = w.heap.size + 1 := by simp
  have hszz : (blkA l).size = 64 := by rw [blkA_size, hl]
  obtain ⟨w1, hw1⟩ : ∃ w1, w.alloc (.cells (blkA l) 157) = w1 := ⟨_, rfl⟩
  rw [hw1] at hb hbw hz
  have c4 := blk_cell hb 4 (by omega)
  have hr5 : w1.rangeAt w.heap.size 5 (bts (l.drop 5)) := by have := range_drop 5 (blk_range hb); rwa [Nat.zero_add] at this
  have hr20 : w1.rangeAt w.heap.size 20 (bts (l.drop 20)) := by have := range_drop 20 (blk_range hb); rwa [Nat.zero_add] at this
  have hx5 : ∀ x ∈ l.drop 5, x < 256 := fun x h => hx x (List.mem_of_mem_drop h)
  have hl5 : (l.drop 5).length = 59 := by rw [List.length_drop, hl]
  have hl20 : (l.drop 20).length = 44 := by rw [List.length_drop, hl]
  by_cases h1 : l.getD 4 0 = 1
  · have hp := prs_root hl h1
    rw [h1] at c4
    have hc := rootOf_any w.heap.size 5 (l.drop 5) w1 hl5 hx5 hr5 (by omega)
    rw [hl5] at hc
    rw [hp]
    obtain ⟨ra, hra⟩ : ∃ ra, rootA (ofB ((l.drop 5).take 1)) (ofB (((l.drop 5).drop 1).take 1)) (ofB (((l.drop 5).drop 2).take 1)) (ofB (((l.drop 5).drop 3).take 8)) (ofB (((l.drop 5).drop 11).take 4)) (ofB (((l.drop 5).drop 15).take 4)) = ra := ⟨_, rfl⟩
    rw [hra] at hc
    have HR := hide hra
    clear hra
    have H := hide (And.intro hbw hz)
    clear hp hr20 hr5 hx5 hl20 hx hl5 hbw hz
    go_enter Tryz.func76, Tryz.ntmps76
    go_wp2_with fail
    refine hc.mono ?_
    rintro e w2 ⟨rfl, hb2⟩
    clear hc
    have H2 := hide hb2
    clear hb2
    go_wp2
    go_ret
    exact ⟨by rw [show recV (.root (ofB ((l.drop 5).take 1)) (ofB (((l.drop 5).drop 1).take 1)) (ofB (((l.drop 5).drop 2).take 1)) (ofB (((l.drop 5).drop 3).take 8)) (ofB (((l.drop 5).drop 11).take 4)) (ofB (((l.drop 5).drop 15).take 4))) = .iface 63 (.agg ra) from (by unfold recV; rw [← HR.out])]; rfl, H.out.1.trans (H2.out.mono (by have := H.out.2; omega))⟩
  · by_cases h2 : l.getD 4 0 = 2
    · have hp : prs l = .filled := by unfold prs; rw [if_neg h1, if_pos h2]
      rw [h2] at c4
      rw [hp]
      have H := hide (And.intro hbw hz)
      clear hp hr20 hr5 hx5 hl20 hx hl5 hbw hz
      unfold recV
      go_enter Tryz.func76, Tryz.ntmps76
      go_wp2
      go_ret
      exact ⟨rfl, H.out.1⟩
    · by_cases h3 : l.getD 4 0 = 3
      · have hp : prs l = .shard (l.drop 20) := by unfold prs; rw [if_neg h1, if_neg h2, if_pos h3]
        rw [h3] at c4
        rw [hp]
        have H := hide (And.intro hbw (And.intro hz (And.intro hr20 hl20)))
        clear hp hr20 hr5 hx5 hl20 hx hl5 hbw hz
        have hat : ∀ (ad : Addr) (w : World), (Instr.arrayAt 210 (.slice (some ad) 44 44)).run Tryz.prog w = .ok (.pointer (some ad)) w := fun ad w => by simp [Instr.arrayAt, run_underlying Tryz.underlying210]
        have hsh : (bts (l.drop 20)).toArray.size = 44 := by rw [List.size_toArray, bts_len]; exact H.out.2.2.2
        go_enter Tryz.func76, Tryz.ntmps76
        obtain ⟨sa, hsa⟩ : ∃ sa, (bts (l.drop 20)).toArray = sa := ⟨_, rfl⟩
        rw [hsa] at hsh
        have HS := hide hsa
        go_wp2_with (refine wpList_load_mid rfl 210 (.tmp 17) rfl w.heap.size 20 rfl (bts (l.drop 20)) _ H.out.2.2.1 Tryz.underlying210 rfl (by rw [bts_len, H.out.2.2.2]; kernel_rfl) ?_; rw [HS.out]; clear hsa)
        have hbo : ∀ z : Array Value, z.size = 44 → Array.foldl (fun cs x => cs.setIfInBounds x.snd x.fst) z sa.zipIdx 0 44 = sa := fun z hz => build_one z sa 44 hz hsh
        rw [hbo _ rfl]
        go_ret
        exact ⟨by rw [show recV (.shard (l.drop 20)) = .iface 212 (.agg sa) from (by unfold recV; rw [← HS.out])]; rfl, H.out.1⟩
      · have hp : prs l = .blank := by unfold prs; rw [if_neg h1, if_neg h2, if_neg h3]
        rw [hp]
        have H := hide (And.intro hbw hz)
        have n1 : ¬ ((l.getD 4 0 : Nat) : Int) = 1 := by omega
        have n2 : ¬ ((l.getD 4 0 : Nat) : Int) = 2 := by omega
        have n3 : ¬ ((l.getD 4 0 : Nat) : Int) = 3 := by omega
        clear hp hr20 hr5 hx5 hl20 hx hl5 hbw hz
        generalize l.getD 4 0 = x at *
        unfold recV
        go_enter Tryz.func76, Tryz.ntmps76
        go_wp2
        go_ret
        exact ⟨rfl, H.out.1⟩
/-- bytes laid over others -/
def spl (l : List Nat) (off : Nat) (src : List Nat) : List Nat := l.take off ++ (src ++ l.drop (off + src.length))
theorem spl_len {l src : List Nat} {off : Nat} (h : off + src.length ≤ l.length) : (spl l off src).length = l.length := by unfold spl; simp; omega
theorem blk_copy {w : World} {b off n cap : Nat} {l src : List Nat} {v : Value} (ty : TypeId) (hB : BlkAt w b l) (hS : Bs w v src) (h0 : src ≠ []) (hn : src.length ≤ n) (hf : off + src.length ≤ l.length) :
    (Builtin.copy_ #[166, 166] ty #[.slice (some ⟨b, off, none⟩) n cap, v]).run Tryz.prog w = .ok (.int .i64 (src.length : Nat)) (w.setRow b (blkA (spl l off src))) := by
  obtain ⟨ao, c, rfl, h1, h2, h3, h4⟩ := hS
  obtain ⟨g, o, rfl, hc⟩ := h4 h0
  have hrun := run_copy_row (P := Tryz.prog) w 166 166 ty 5 b off n cap ⟨g, o, none⟩ src.length c (blkA l) 157 (bts src) Tryz.underlying166 (by kernel_rfl) hB (by rw [bts_len]; exact (Nat.min_eq_left hn).symm) (fun j u hj => by
      have hjl : j < src.length := by obtain ⟨q, _⟩ := List.getElem?_eq_some_iff.1 hj; rwa [bts_len] at q
      rw [Addr.add_mid, hc j hjl, ← hj]
      unfold bts
      rw [List.getElem?_map, List.getElem?_eq_getElem hjl, List.getD_eq_getElem?_getD, List.getElem?_eq_getElem hjl]; rfl) (by rw [bts_len, blkA_size]; exact hf) (fun u hu => by
      unfold bts at hu; rw [List.mem_map] at hu; obtain ⟨x, _, rfl⟩ := hu; rfl)
  rw [hrun]
  have e : (List.take off (blkA l).toList ++ bts src ++ List.drop (off + (bts src).length) (blkA l).toList).toArray = blkA (spl l off src) := by
    rw [blkA_list, bts_len]
    unfold blkA spl
    rw [bts_append, bts_append, List.append_assoc]
    unfold bts
    rw [List.map_take, List.map_drop]
  simp only [List.append_assoc] at e ⊢
  rw [e, bts_len]
  rfl
theorem Bs.len4 (n : Nat) : (be n 4).length = 4 := be_len n 4
noncomputable def RBk : Array Oper := ((Tryz.f77.body.bind (rgf · 5))).getD #[]
def shBk : List (Op × Option Nat × List Nat) := [(Op.slice 157 (Operand.tmp 3) none (some (Operand.const (Value.int IntKind.i64 4))) none, some 13, []),
    (Op.slice 157 (Operand.tmp 3) (some (Operand.const (Value.int IntKind.i64 4))) none none, some 14, []),
    (Op.call { callee := Callee.value (Operand.func 96), args := #[Operand.tmp 14], argTypes := #[166] }, some 15, [1]),
    (Op.convert 213 61 (Operand.tmp 15), some 16, [2]),
    (Op.call { callee := Callee.value (Operand.func 93), args := #[Operand.const (Value.slice none 0 0), Operand.tmp 16, Operand.const (Value.int IntKind.i64 4)], argTypes := #[166, 61, 3] }, some 17, [3, 2]),
    (Op.call { callee := Callee.builtin Builtin.copy, args := #[Operand.tmp 13, Operand.tmp 17], argTypes := #[166, 166] }, some 18, [0, 4, 4])]
theorem RBk_shape : RegShape RBk 13 19 shBk := regShape (by kernel_rfl) (by kernel_rfl)
def VBk (w0 : World) (b c : Nat) (i : Nat) (u : Value) (w : World) : Prop := match i with
  | 0 => u = .slice (some ⟨b, 0, none⟩) 4 64
  | 1 => u = .slice (some ⟨b, 4, none⟩) 60 60
  | 2 => u = .int .u32 (c : Nat)
  | 3 => u = .int .u64 (c : Nat)
  | 4 => w.ownsRow w0.heap.size 5 1 u (0 + 4) (bts (be c 4))
  | _ => True
theorem VBk_keep {w0 : World} {b c : Nat} {w w' : World} (hb : b < w0.heap.size) (hk : ∀ k, k ≠ b → k < w.heap.size → w'.heap[k]? = w.heap[k]?) (hs : w.os = w'.os ∧ w.tape = w'.tape ∧ w.output = w'.output ∧ w.heap.size ≤ w'.heap.size) (i : Nat) (u : Value) (h : VBk w0 b c i u w) : VBk w0 b c i u w' := by
  match i with
  | 0 | 1 | 2 | 3 => exact h
  | 4 => exact World.ownsRow.kept h (row := some b) ⟨hs.1.symm, hs.2.1.symm, hs.2.2.1.symm, hs.2.2.2, fun k hk' hne => hk k (fun e => hne (by rw [e])) hk'⟩ (.inr fun e => by have := (World.ownsRow.lt h b e).1; omega)
  | n + 5 => trivial
def BBk (w0 : World) (b c : Nat) (l : List Nat) (D : Nat → Bool) (w : World) : Prop := BlkAt w b (if D 5 = true then spl l 0 (be c 4) else l) ∧ Outside (fun k => k = b) w0 w
theorem BBk_upd {w0 : World} {b c : Nat} {l : List Nat} {D : Nat → Bool} {w w' : World} (h : BBk w0 b c l D w) (i : Nat) (hi : i ≠ 5) (hw : Outside (fun _ => False) w w') : BBk w0 b c l (upd D i) w' := by
  refine ⟨?_, h.2.later hw (fun _ _ q => q.elim)⟩
  unfold upd
  rw [if_neg (fun e : 5 = i => hi e.symm)]
  exact h.1.keep (hw.block _ h.1.lt (fun q => q))
theorem hvLaid.out {w w' : World} {b : Nat} (h : hvLaid w) (hO : Outside (fun k => k = b) w w') (hb : b ≠ 2) : hvLaid w' := fun j hj => by
  have := h j hj
  rw [← this]
  exact World.cell?_of_block (hO.block _ (block_lt_of_cell this) (fun e => hb e.symm))
set_option maxRecDepth 100000 in
set_option maxHeartbeats 1000000 in
theorem block_region {ops : Array Oper} {Q : Exit → Act → World → Prop} {a : Act} {w : World} {b : Nat} {l : List Nat} (hops : RBk = ops) (hB : BlkAt w b l) (hl : l.length = 64) (hx : ∀ x ∈ l, x < 256) (hv : hvLaid w) (hb : b ≠ 2) (hsz : a.tmps.size = 20)
    (e3 : a.eval (.tmp 3) = .pointer (some ⟨b, 0, none⟩)) (hQ : ∀ (w' : World) (vs : List Value), vs.length = 6 → BlkAt w' b (spl l 0 (be (crc (l.drop 4)) 4)) → Outside (fun k => k = b) w w' → Q .normal (Act.putFrom a 13 vs) w') : (Code.region 5 ops true).wp Tryz.prog Q a w := by
  subst hops
  obtain ⟨c, hc⟩ : ∃ c, crc (l.drop 4) = c := ⟨_, rfl⟩
  have hcl : c < 4294967296 := hc ▸ crc_lt _
  rw [hc] at hQ
  have hbl := hB.lt
  refine region_facts (by kernel_rfl) RBk_shape a w (by omega) (VBk w b c) (BBk w b c l) ⟨hB, Outside.drew w⟩ ?_ ?_
  · intro i hi
    match i, hi with
    | 0, _ =>
      intro o a' w' D hg ho hdst hk hDi hcl hdep hB hV
      have u0 : a'.eval (.tmp 3) = .pointer (some ⟨b, 0, none⟩) := (hk.slot 3 (by omega)).trans e3
      exact op_val (v := .slice (some ⟨b, 0, none⟩) 4 64) (by simp only [execOp, show o.op = Op.slice 157 (Operand.tmp 3) none (some (Operand.const (Value.int IntKind.i64 4))) none from ho, u0]; go_simp) hdst ⟨BBk_upd hB 0 (by decide) (Outside.refl _ _), rfl, fun _ _ _ q => q⟩
    | 1, _ =>
      intro o a' w' D hg ho hdst hk hDi hcl hdep hB hV
      have u0 : a'.eval (.tmp 3) = .pointer (some ⟨b, 0, none⟩) := (hk.slot 3 (by omega)).trans e3
      exact op_val (v := .slice (some ⟨b, 4, none⟩) 60 60) (by simp only [execOp, show o.op = Op.slice 157 (Operand.tmp 3) (some (Operand.const (Value.int IntKind.i64 4))) none none from ho, u0]; go_simp) hdst ⟨BBk_upd hB 1 (by decide) (Outside.refl _ _), rfl, fun _ _ _ q => q⟩
    | 2, _ =>
      intro o a' w' D hg ho hdst hk hDi hcl hdep hB hV
      have u0 : a'.eval (.tmp 14) = .slice (some ⟨b, 4, none⟩) 60 60 := hV 1 (hdep 1 (by decide))
      have hD5 : D 5 = false := by
        cases q : D 5 with
        | false => rfl
        | true => have := (hcl 5 q).2 4 (by decide); have := (hcl 4 this).2 2 (by decide); rw [hDi] at this; cases this
      have hBl : BlkAt w' b l := by have := hB.1; rw [if_neg (by rw [hD5]; decide)] at this; exact this
      have hbs : Bs w' (.slice (some ⟨b, 4, none⟩) (l.drop 4).length 60) (l.drop 4) := Bs.mid (by rw [List.length_drop, hl]; decide) (by rw [List.length_drop, hl]; decide) (fun x h => hx x (List.mem_of_mem_drop h)) (by have := range_drop 4 (blk_range hBl); rwa [Nat.zero_add] at this)
      rw [show (l.drop 4).length = 60 by rw [List.length_drop, hl]] at hbs
      refine op_call (f := 96) (args := #[.slice (some ⟨b, 4, none⟩) 60 60]) (w1 := w') (by simp only [execOp, show o.op = Op.call { callee := Callee.value (Operand.func 96), args := #[Operand.tmp 14], argTypes := #[166] } from ho]; go_simp; simpa [Act.eval] using u0) hdst (sum_any _ (l.drop 4) w' hbs (hv.out hB.2 hb)) ?_
      rintro e w'' ⟨rfl, rfl⟩
      rw [hc]
      exact ⟨_, rfl, BBk_upd hB 2 (by decide) (Outside.refl _ _), rfl, fun _ _ _ q => q⟩
    | 3, _ =>
      intro o a' w' D hg ho hdst hk hDi hcl' hdep hB hV
      have u0 : a'.eval (.tmp 15) = .int .u32 (c : Nat) := hV 2 (hdep 2 (by decide))
      exact op_val (v := .int .u64 (c : Nat)) (by simp only [execOp, show o.op = Op.convert 213 61 (Operand.tmp 15) from ho, u0]; go_simp; rw [IntKind.wrap_u64]; omega) hdst ⟨BBk_upd hB 3 (by decide) (Outside.refl _ _), rfl, fun _ _ _ q => q⟩
    | 4, _ =>
      intro o a' w' D hg ho hdst hk hDi hcl' hdep hB hV
      have u0 : a'.eval (.tmp 16) = .int .u64 (c : Nat) := hV 3 (hdep 3 (by decide))
      refine op_call (f := 93) (args := #[.slice none 0 0, .int .u64 (c : Nat), .int .i64 (4 : Nat)]) (w1 := w') (by simp only [execOp, show o.op = Op.call { callee := Callee.value (Operand.func 93), args := #[Operand.const (Value.slice none 0 0), Operand.tmp 16, Operand.const (Value.int IntKind.i64 4)], argTypes := #[166, 61, 3] } from ho]; go_simp; simpa [Act.eval] using u0) hdst (append_num w.heap.size (.slice none 0 0) 0 [] c 4 w' (World.ownsRow_nil _ _ _ _) hB.2.size (by decide) (by decide)) ?_
      rintro e w'' ⟨v', rfl, ho', hO', hat⟩
      have hO2 : Outside (fun _ => False) w' w'' := hO'.mono (fun k _ q => by simp [Value.ownBlock] at q)
      refine ⟨v', rfl, BBk_upd hB 4 (by decide) hO2, ho', fun j u hj q => VBk_keep hbl (fun k _ hk => hO2.block k hk (fun q => q)) ⟨hO2.os.symm, hO2.tape.symm, hO2.output.symm, hO2.size⟩ j u q⟩
    | 5, _ =>
      intro o a' w' D hg ho hdst hk hDi hcl' hdep hB hV
      have u0 : a'.eval (.tmp 13) = .slice (some ⟨b, 0, none⟩) 4 64 := hV 0 (hdep 0 (by decide))
      have u1 : w'.ownsRow w.heap.size 5 1 (a'.eval (.tmp 17)) (0 + 4) (bts (be c 4)) := hV 4 (hdep 4 (by decide))
      have hBl : BlkAt w' b l := by have := hB.1; rw [if_neg (by rw [hDi]; decide)] at this; exact this
      have hcp := blk_copy (n := 4) (cap := 64) (off := 0) o.type hBl (Bs.of_owns u1 (be_lt _ _) (by rw [be_len]; decide)) (by intro e; have := be_len c 4; rw [e] at this; cases this) (by rw [be_len]; decide) (by rw [be_len, hl]; decide)
      refine op_val (v := .int .i64 ((be c 4).length : Nat)) (w' := w'.setRow b (blkA (spl l 0 (be c 4)))) (by simp only [execOp, show o.op = Op.call { callee := Callee.builtin Builtin.copy, args := #[Operand.tmp 13, Operand.tmp 17], argTypes := #[166, 166] } from ho, resolve, invoke, builtin, Sem.run_bind, Sem.run_pure, Result.andThen_ok, List.map_toArray, List.map_cons, List.map_nil, u0, hcp]) hdst ⟨⟨?_, hB.2.later (Outside.setRow (S := fun k => k = b) _ _ _ rfl) (fun _ _ q => q)⟩, trivial, fun j u hj q => VBk_keep hbl (fun k hne hk => (grown_setRow' _ _ _).block k hk (fun e => hne (by cases e; rfl))) ⟨rfl, rfl, rfl, by simp [World.setRow]⟩ j u q⟩
      show BlkAt _ b (if upd D 5 5 = true then _ else _)
      rw [if_pos (by unfold upd; rw [if_pos rfl])]
      exact hBl.setRow _
    | n + 6, hn => exact absurd hn (by show ¬ n + 6 < 6; omega)
  · rintro a' w' hk' ⟨D, hD, hB'⟩ hV
    have e : a' = Act.putFrom a 13 ((List.range 6).map fun i => a'.eval (.tmp (13 + i))) := hk'.out _ (by rw [List.length_map, List.length_range]) (by omega) (fun i hi => by
      rw [List.length_map, List.length_range] at hi
      rw [List.getD_eq_getElem?_getD, List.getElem?_map, List.getElem?_range hi]; rfl)
    rw [e]
    have := hB'.1
    rw [if_pos (hD 5 (by decide))] at this
    exact hQ w' _ (by rw [List.length_map, List.length_range]) this hB'.2
end Go.Proofs.YtogdeaaphdlchaaGreatDoor
