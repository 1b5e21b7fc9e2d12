import Derived.Test.YtogdeaaphdlchaaGreatDoorPart04
import Derived.Test.YtogdeaaphdlchaaGreatDoorPart18
import Derived.Test.YtogdeaaphdlchaaGreatDoorPart19
/-
  A region that draws its order, some of whose operations are guarded, by what each operation leaves.
-/
namespace Go.Proofs.YtogdeaaphdlchaaGreatDoor
open Go.RowKit

/-- what is asked of the region's text: how many operations, for whom each waits, its slot, its guard -/
structure RegShapeG (ops : Array Oper) (lo hi : Nat) (sh : List (Op × Option Nat × Option (Nat × Bool) × List Nat)) : Prop where
  at_ : (List.range ops.size).map (fun i => ((ops[i]?.map fun o => (o.op, o.dst, o.guard)), depsOf ops i)) = sh.map (fun x => (some (x.1, x.2.1, x.2.2.1), x.2.2.2))
  early : ∀ i, i < sh.length → ∀ k ∈ (sh.getD i (.move (.const undef), none, none, [])).2.2.2, k < i
  slots : ∀ i j d, i < sh.length → j < sh.length → (sh.getD i (.move (.const undef), none, none, [])).2.1 = some d → (lo ≤ d ∧ d < hi) ∧ ((sh.getD j (.move (.const undef), none, none, [])).2.1 = some d → i = j)
def shOkG (lo hi : Nat) (sh : List (Op × Option Nat × Option (Nat × Bool) × List Nat)) : Bool := (List.range sh.length).all fun i => (sh.getD i (.move (.const undef), none, none, [])).2.2.2.all (fun k => decide (k < i)) && match (sh.getD i (.move (.const undef), none, none, [])).2.1 with
  | none => true
  | some d => decide (lo ≤ d) && decide (d < hi) && (List.range sh.length).all fun j => (sh.getD j (.move (.const undef), none, none, [])).2.1 != some d || i == j
theorem regShapeG {ops : Array Oper} {lo hi : Nat} {sh : List (Op × Option Nat × Option (Nat × Bool) × List Nat)} (h1 : (List.range ops.size).map (fun i => ((ops[i]?.map fun o => (o.op, o.dst, o.guard)), depsOf ops i)) = sh.map (fun x => (some (x.1, x.2.1, x.2.2.1), x.2.2.2))) (h2 : shOkG lo hi sh = true) : RegShapeG ops lo hi sh := by
  unfold shOkG at h2
  rw [List.all_eq_true] at h2
  refine ⟨h1, fun i hi' k hk => ?_, fun i j d hi' hj hd => ?_⟩
  · have := h2 i (List.mem_range.2 hi')
    rw [Bool.and_eq_true_iff, List.all_eq_true] at this
    exact of_decide_eq_true (this.1 k hk)
  · have := (Bool.and_eq_true_iff.1 (h2 i (List.mem_range.2 hi'))).2
    rw [hd] at this
    simp only [Bool.and_eq_true_iff, decide_eq_true_eq, List.all_eq_true] at this
    refine ⟨this.1, fun hjd => ?_⟩
    have q := this.2 j (List.mem_range.2 hj)
    rw [hjd] at q
    simpa using q
theorem RegShapeG.size {ops : Array Oper} {lo hi : Nat} {sh : List (Op × Option Nat × Option (Nat × Bool) × List Nat)} (h : RegShapeG ops lo hi sh) : ops.size = sh.length := by
  have := congrArg List.length h.at_
  simpa using this
theorem RegShapeG.get {ops : Array Oper} {lo hi : Nat} {sh : List (Op × Option Nat × Option (Nat × Bool) × List Nat)} (h : RegShapeG ops lo hi sh) (i : Nat) (hi : i < sh.length) :
    ∃ o, ops[i]? = some o ∧ o.op = (sh.getD i (.move (.const undef), none, none, [])).1 ∧ o.dst = (sh.getD i (.move (.const undef), none, none, [])).2.1 ∧ o.guard = (sh.getD i (.move (.const undef), none, none, [])).2.2.1 ∧ depsOf ops i = (sh.getD i (.move (.const undef), none, none, [])).2.2.2 := by
  have hs := h.size
  have := congrArg (fun l => l[i]?) h.at_
  have hi' : i < ops.size := by omega
  simp only [List.getElem?_map, List.getElem?_range hi', Option.map_some, List.getElem?_eq_getElem hi, Option.some.injEq, Prod.mk.injEq, Option.map_eq_some_iff] at this
  obtain ⟨⟨o, h1, h2, h3, h4⟩, h5⟩ := this
  have e : sh.getD i (.move (.const undef), none, none, []) = sh[i] := by simp [hi]
  rw [e]
  exact ⟨o, h1, h2, h3, h4, h5⟩
theorem RegShapeG.slot {ops : Array Oper} {lo hi : Nat} {sh : List (Op × Option Nat × Option (Nat × Bool) × List Nat)} (h : RegShapeG ops lo hi sh) (i : Nat) (hi : i < sh.length) (a : Act) : slotOf ops i a = slotD (sh.getD i (.move (.const undef), none, none, [])).2.1 a := by
  obtain ⟨o, h1, _, h3, _⟩ := h.get i hi
  rw [slotOf_at h1, h3]
abbrev shAtG (sh : List (Op × Option Nat × Option (Nat × Bool) × List Nat)) (i : Nat) : Op × Option Nat × Option (Nat × Bool) × List Nat := sh.getD i (.move (.const undef), none, none, [])
/-- what an operation yielded to its guards -/
def ylG (sh : List (Op × Option Nat × Option (Nat × Bool) × List Nat)) (a : Act) (j : Nat) : Option Bool := match (shAtG sh j).2.1.bind (fun d => a.tmps[d]?) with
  | some (.bool b) => some b
  | _ => none
theorem ylG_at {sh : List (Op × Option Nat × Option (Nat × Bool) × List Nat)} {a : Act} {j d : Nat} {b : Bool} (hd : (shAtG sh j).2.1 = some d) (h : a.eval (.tmp d) = .bool b) : ylG sh a j = some b := by
  unfold ylG
  rw [hd]
  simp only [Option.bind_some]
  cases e : a.tmps[d]? with
  | none => simp [Act.eval, Array.getD_eq_getD_getElem?, e, undef] at h
  | some v =>
    have : v = .bool b := by simpa [Act.eval, Array.getD_eq_getD_getElem?, e] using h
    subst this; rfl
theorem wanted_free {o : Oper} (h : o.guard = none) (f : Nat → Option Bool) : Region.wanted o f = true := by simp [Region.wanted, h]
theorem wanted_at {sh : List (Op × Option Nat × Option (Nat × Bool) × List Nat)} {a : Act} {o : Oper} {j d : Nat} {b x : Bool} (hg : o.guard = some (j, x)) (hd : (shAtG sh j).2.1 = some d) (h : a.eval (.tmp d) = .bool b) : Region.wanted o (ylG sh a) = (b == x) := by
  simp only [Region.wanted, hg, ylG_at hd h]
  cases b <;> cases x <;> rfl
/-- what is asked of each operation -/
def StepOkG (P : Program) (Q : Exit → Act → World → Prop) (lo hi : Nat) (sh : List (Op × Option Nat × Option (Nat × Bool) × List Nat)) (a0 : Act) (V : Nat → Value → World → Prop) (B : (Nat → Bool) → World → Prop) (i : Nat) : Prop :=
  ∀ (o : Oper) (a : Act) (w : World) (D : Nat → Bool), o.guard = (shAtG sh i).2.2.1 → o.op = (shAtG sh i).1 → o.dst = (shAtG sh i).2.1 → Framed lo hi a0 a → D i = false → (∀ j, D j = true → j < sh.length ∧ ∀ k ∈ (shAtG sh j).2.2.2, D k = true) →
    (∀ k ∈ (shAtG sh i).2.2.2, D k = true) → B D w → (∀ j, D j = true → V j (slotD (shAtG sh j).2.1 a) w) →
    (Region.wanted o (ylG sh a) = true ∧ o.wp P a w (fun a' w' => ∃ v, a' = a.put o.dst v ∧ (o.dst = none → v = undef) ∧ B (upd D i) w' ∧ V i v w' ∧ ∀ j u, D j = true → V j u w → V j u w') Q) ∨
    (Region.wanted o (ylG sh a) = false ∧ B (upd D i) w ∧ V i undef w)
theorem RegShapeG.yl {ops : Array Oper} {lo hi : Nat} {sh : List (Op × Option Nat × Option (Nat × Bool) × List Nat)} (h : RegShapeG ops lo hi sh) (a : Act) : yielded ops a.tmps = ylG sh a := by
  funext j
  unfold yielded ylG
  by_cases hj : j < sh.length
  · obtain ⟨o, h1, _, h3, _⟩ := h.get j hj
    rw [h1]
    simp only [Option.bind_some]
    rw [h3]
    rfl
  · have hs := h.size
    have e : ops[j]? = none := by simp; omega
    have e2 : shAtG sh j = (.move (.const undef), none, none, []) := by simp [shAtG, List.getD_eq_getElem?_getD, List.getElem?_eq_none (by omega : sh.length ≤ j)]
    rw [e, e2]
    rfl
/-- the region -/
theorem any_factsSG {P : Program} {ops : Array Oper} {Q : Exit → Act → World → Prop} {lo hi : Nat} {sh : List (Op × Option Nat × Option (Nat × Bool) × List Nat)} (hsh : RegShapeG ops lo hi sh) (a0 : Act) (hhi : hi ≤ a0.tmps.size)
    (V : Nat → Value → World → Prop) (B : (Nat → Bool) → World → Prop) (hstep : ∀ i, i < sh.length → StepOkG P Q lo hi sh a0 V B i)
    (hend : ∀ (a : Act) (w : World), Framed lo hi a0 a → (∀ s, (∀ i, i < sh.length → (shAtG sh i).2.1 ≠ some s) → a.eval (.tmp s) = a0.eval (.tmp s)) → (∃ D, (∀ i, i < sh.length → D i = true) ∧ B D w) → (∀ i, i < sh.length → V i (slotD (shAtG sh i).2.1 a) w) → Q .normal a w) :
    ∀ (f : Nat) (listed : Array Bool) (a : Act) (w : World), listed.size = sh.length → toCome listed = f → Framed lo hi a0 a → (∀ s, (∀ i, i < sh.length → (shAtG sh i).2.1 ≠ some s) → a.eval (.tmp s) = a0.eval (.tmp s)) → (∀ j, listed.getD j false = true → j < sh.length ∧ ∀ k ∈ (shAtG sh j).2.2.2, listed.getD k false = true) → B (fun j => listed.getD j false) w →
      (∀ i, listed.getD i false = true → V i (slotD (shAtG sh i).2.1 a) w) → wpAny P .any ops Q f listed a w := by
  have hsz := hsh.size
  have hready : ∀ listed : Array Bool, listed.size = sh.length → toCome listed ≠ 0 → Region.ready .any ops listed ≠ [] := by
    intro listed hl hc hr
    have hall : ∀ i, i < sh.length → listed.getD i false = true := by
      intro i
      induction i using Nat.strongRecOn with
      | ind i ih =>
        intro hi'
        by_cases hd : listed.getD i false = true
        · exact hd
        · exfalso
          have hm : i ∈ Region.ready .any ops listed := ready_iff.2 ⟨by omega, by simpa [Array.getD_eq_getD_getElem?, show i < listed.size by omega] using hd, fun k hk => by
            obtain ⟨o, _, _, _, _, e⟩ := hsh.get i hi'
            rw [e] at hk
            have := hsh.early i hi' k hk
            exact ih k this (by omega)⟩
          rw [hr] at hm
          cases hm
    apply hc
    unfold toCome
    rw [List.length_eq_zero_iff, List.filter_eq_nil_iff]
    intro b hb
    obtain ⟨i, hi', rfl⟩ := List.getElem_of_mem hb
    have hi2 : i < listed.size := by simpa using hi'
    have := hall i (by omega)
    simp [Array.getD_eq_getD_getElem?, hi2] at this
    simp [this]
  intro f
  induction f with
  | zero =>
    intro listed a w hl hc hk hsame hcl hB hV
    refine ⟨?_, hend a w hk hsame ⟨_, fun i hi' => toCome_zero hc i (by omega), hB⟩ fun i hi' => hV i (toCome_zero hc i (by omega))⟩
    rw [List.eq_nil_iff_forall_not_mem]
    intro i hm
    obtain ⟨h1, h2, _⟩ := ready_iff.1 hm
    have := toCome_zero hc i (by omega)
    simp [Array.getD_eq_getD_getElem?, show i < listed.size by omega] at this h2
    rw [this] at h2
    cases h2
  | succ f ih =>
    intro listed a w hl hc hk hsame hcl hB hV
    refine ⟨fun e => absurd e (hready listed hl (by omega)), fun i hm => ?_⟩
    obtain ⟨h1, h2, h3⟩ := ready_iff.1 hm
    have hi' : i < sh.length := by omega
    have hil : i < listed.size := by omega
    obtain ⟨o, e1, e2, e3, e4, e5⟩ := hsh.get i hi'
    have hDi : listed.getD i false = false := by simpa [Array.getD_eq_getD_getElem?, hil] using h2
    have hupd : ∀ j, (listed.setIfInBounds i true).getD j false = upd (fun j => listed.getD j false) i j := by
      intro j
      unfold upd
      by_cases ej : j = i
      · subst ej
        rw [if_pos rfl]
        simp [Array.getD_eq_getD_getElem?, hil]
      · rw [if_neg ej, Array.getD_eq_getD_getElem?, Array.getElem?_setIfInBounds, if_neg (fun q : i = j => ej q.symm), ← Array.getD_eq_getD_getElem?]
    have hgo : ∀ a' w', (∃ v, a' = a.put o.dst v ∧ (o.dst = none → v = undef) ∧ B (upd (fun j => listed.getD j false) i) w' ∧ V i v w' ∧ ∀ j u, listed.getD j false = true → V j u w → V j u w') → wpAny P .any ops Q f (listed.setIfInBounds i true) a' w' := by
      intro a' w' h
      obtain ⟨v, rfl, hu, hB', hVi, hst⟩ := h
      have hdst : ∀ d, o.dst = some d → lo ≤ d ∧ d < hi := fun d hd => by rw [e3] at hd; exact (hsh.slots i i d hi' hi' hd).1
      refine ih _ _ _ (by simpa using hl) (by have := toCome_set h2; omega) (hk.put v hdst) (fun s hs => ?_) (fun j hj => ?_) ?_ fun j hlj => ?_
      · refine Eq.trans ?_ (hsame s hs)
        cases hd : o.dst with
        | none => rfl
        | some d => exact rf_other _ _ _ _ (fun e => hs i hi' (by rw [show (shAtG sh i).2.1 = o.dst from e3.symm, hd, e]))
      · rw [hupd] at hj
        unfold upd at hj
        by_cases ej : j = i
        · subst ej
          refine ⟨hi', fun k hk' => ?_⟩
          rw [hupd]; unfold upd
          by_cases ek : k = j
          · rw [if_pos ek]
          · rw [if_neg ek]; rw [← e5] at hk'; exact h3 k hk'
        · rw [if_neg ej] at hj
          obtain ⟨q1, q2⟩ := hcl j hj
          refine ⟨q1, fun k hk' => ?_⟩
          rw [hupd]; unfold upd
          by_cases ek : k = i
          · rw [if_pos ek]
          · rw [if_neg ek]; exact q2 k hk'
      · have e : (fun j => (listed.setIfInBounds i true).getD j false) = upd (fun j => listed.getD j false) i := funext hupd
        rw [e]; exact hB'
      · rw [hupd] at hlj
        unfold upd at hlj
        by_cases ej : j = i
        · subst ej
          have : slotD (shAtG sh j).2.1 (a.put o.dst v) = v := by
            show slotD (sh.getD j (.move (.const undef), none, none, [])).2.1 (a.put o.dst v) = v
            rw [← e3]
            cases hd : o.dst with
            | none => exact (hu hd).symm
            | some d => exact rf_same _ _ _ (Nat.lt_of_lt_of_le (hdst d hd).2 (by rw [hk.size]; exact hhi))
          rw [this]; exact hVi
        · rw [if_neg ej] at hlj
          have : slotD (shAtG sh j).2.1 (a.put o.dst v) = slotD (shAtG sh j).2.1 a := by
            cases hd' : (shAtG sh j).2.1 with
            | none => rfl
            | some d' =>
              cases hd : o.dst with
              | none => rfl
              | some d =>
                refine rf_other _ _ _ _ fun q => ej ?_
                subst q
                rw [e3] at hd
                exact (hsh.slots j i d (hcl j hlj).1 hi' hd').2 hd
          rw [this]
          exact hst j _ hlj (hV j hlj)
    unfold wpOp
    rw [e1]
    show if Region.wanted o (yielded ops a.tmps) = true then _ else _
    rw [hsh.yl]
    rcases hstep i hi' o a w (fun j => listed.getD j false) e4 e2 e3 hk hDi hcl (fun k hk' => h3 k (by rw [e5]; exact hk')) hB hV with ⟨q1, q2⟩ | ⟨q1, q2, q3⟩
    · rw [if_pos q1]
      exact .inl (Oper.wp_mono hgo q2)
    · rw [if_neg (by rw [q1]; decide)]
      exact hgo _ _ ⟨undef, rfl, fun _ => rfl, q2, q3, fun _ _ _ q => q⟩
/-- as the walk meets it -/
theorem region_factsSG {P : Program} {ops : Array Oper} {Q : Exit → Act → World → Prop} {m lo hi : Nat} {sh : List (Op × Option Nat × Option (Nat × Bool) × List Nat)} (hm : P.follows .mixedOrders = true) (hsh : RegShapeG ops lo hi sh) (a0 : Act) (w0 : World) (hhi : hi ≤ a0.tmps.size)
    (V : Nat → Value → World → Prop) (B : (Nat → Bool) → World → Prop) (hB : B (fun _ => false) w0.drew) (hstep : ∀ i, i < sh.length → StepOkG P Q lo hi sh a0 V B i)
    (hend : ∀ (a : Act) (w : World), Framed lo hi a0 a → (∀ s, (∀ i, i < sh.length → (shAtG sh i).2.1 ≠ some s) → a.eval (.tmp s) = a0.eval (.tmp s)) → (∃ D, (∀ i, i < sh.length → D i = true) ∧ B D w) → (∀ i, i < sh.length → V i (slotD (shAtG sh i).2.1 a) w) → Q .normal a w) : (Code.region m ops true).wp P Q a0 w0 := by
  refine wp_region_any hm ?_
  have hsz := hsh.size
  have h0 : ∀ i, (Array.replicate ops.size false).getD i false = false := fun i => by
    simp only [Array.getD_eq_getD_getElem?, Array.getElem?_replicate]
    split <;> rfl
  refine any_factsSG hsh a0 hhi V B hstep hend _ _ a0 w0.drew (by simp [hsz]) ?_ (Framed.refl _ _ _) (fun _ _ => rfl) (fun j hj => ?_) ?_ fun i h => ?_
  · unfold toCome
    simp
  · rw [h0] at hj; cases hj
  · have e : (fun j => (Array.replicate ops.size false).getD j false) = fun _ => false := funext h0
    rw [e]; exact hB
  · rw [h0] at h; cases h
end Go.Proofs.YtogdeaaphdlchaaGreatDoor
/-
  The frame behind a region that draws, where its slots lie in two places.
-/
namespace Go.Proofs.YtogdeaaphdlchaaGreatDoor
open Go.RowKit

def inTwo (ds : List (Option Nat)) (l1 n1 l2 n2 : Nat) : Bool := ds.all fun x => match x with
  | none => true
  | some d => (decide (l1 ≤ d) && decide (d < l1 + n1)) || (decide (l2 ≤ d) && decide (d < l2 + n2))
theorem out2 {a a' : Act} {l1 l2 : Nat} {vs1 vs2 : List Value} {ds : List (Option Nat)} (h1 : a'.tmps.size = a.tmps.size) (h2 : a'.defers = a.defers) (hsame : ∀ s, (∀ x ∈ ds, x ≠ some s) → a'.eval (.tmp s) = a.eval (.tmp s)) (hin : inTwo ds l1 vs1.length l2 vs2.length = true)
    (h12 : l1 + vs1.length ≤ l2) (hs : l2 + vs2.length ≤ a.tmps.size) (hv1 : ∀ i, i < vs1.length → a'.eval (.tmp (l1 + i)) = vs1.getD i undef) (hv2 : ∀ i, i < vs2.length → a'.eval (.tmp (l2 + i)) = vs2.getD i undef) : a' = Act.putFrom (Act.putFrom a l1 vs1) l2 vs2 := by
  obtain ⟨p1, p2⟩ := putFrom_size vs1 a l1
  obtain ⟨q1, q2⟩ := putFrom_size vs2 (Act.putFrom a l1 vs1) l2
  refine act_ext (h1.trans (q1.trans p1).symm) (h2.trans (q2.trans p2).symm) fun s _ => ?_
  rw [putFrom_eval vs2 _ l2 s (by rw [p1]; exact hs)]
  by_cases e : l2 ≤ s ∧ s < l2 + vs2.length
  · rw [if_pos e]
    have := hv2 (s - l2) (by omega)
    rwa [show l2 + (s - l2) = s by omega] at this
  · rw [if_neg e, putFrom_eval vs1 a l1 s (by omega)]
    by_cases e1 : l1 ≤ s ∧ s < l1 + vs1.length
    · rw [if_pos e1]
      have := hv1 (s - l1) (by omega)
      rwa [show l1 + (s - l1) = s by omega] at this
    · rw [if_neg e1]
      refine hsame s fun x hx hxs => ?_
      unfold inTwo at hin
      rw [List.all_eq_true] at hin
      have := hin x hx
      rw [hxs] at this
      simp at this
      omega
theorem same_ds {sh : List (Op × Option Nat × List Nat)} {a a' : Act} (h : ∀ s, (∀ i, i < sh.length → (shAt sh i).2.1 ≠ some s) → a'.eval (.tmp s) = a.eval (.tmp s)) : ∀ s, (∀ x ∈ sh.map (fun x => x.2.1), x ≠ some s) → a'.eval (.tmp s) = a.eval (.tmp s) := fun s hs => h s fun i hi e => hs _ (List.mem_map.2 ⟨sh[i], List.getElem_mem hi, rfl⟩) (by
  have : shAt sh i = sh[i] := by simp [shAt, hi]
  rw [← this]; exact e)
theorem same_dsG {sh : List (Op × Option Nat × Option (Nat × Bool) × List Nat)} {a a' : Act} (h : ∀ s, (∀ i, i < sh.length → (shAtG sh i).2.1 ≠ some s) → a'.eval (.tmp s) = a.eval (.tmp s)) : ∀ s, (∀ x ∈ sh.map (fun x => x.2.1), x ≠ some s) → a'.eval (.tmp s) = a.eval (.tmp s) := fun s hs => h s fun i hi e => hs _ (List.mem_map.2 ⟨sh[i], List.getElem_mem hi, rfl⟩) (by
  have : shAtG sh i = sh[i] := by simp [shAtG, hi]
  rw [← this]; exact e)
end Go.Proofs.YtogdeaaphdlchaaGreatDoor
/-
  readPages: its regions that draw.
-/
namespace Go.Proofs.YtogdeaaphdlchaaGreatDoor
open Go.RowKit Go.Deep Gf

def BP4 (w : World) (v N : Nat) (Dn : Nat → Bool) (w' : World) : Prop := Below w.heap.size w w' ∧ (Dn 6 = false → w'.heap.size = w.heap.size) ∧ (Dn 6 = true → RdAt w' (w.heap.size + 2) v 0 (w.heap.size + 1) N 0 0 ∧ w'.rowIs (w.heap.size + 1) 166 N (fun _ => .slice none 0 0))
theorem BP4_upd {w w' : World} {v N : Nat} {Dn : Nat → Bool} (h : BP4 w v N Dn w') (i : Nat) (hi : 6 ≠ i) : BP4 w v N (upd Dn i) w' := by unfold BP4; rw [upd_ne hi]; exact h
theorem run_op_min {P : Program} {o : Oper} {a : Act} {s t : Operand} {ats : Array TypeId} (ho : o.op = .call { callee := .builtin .min, args := #[s, t], argTypes := ats }) {x y : Int} (hx : a.eval s = .int .i64 x) (hy : a.eval t = .int .i64 y) {w : World} :
    (execOp a.eval o).run P w = .ok (.value (.int .i64 (if y < x then y else x))) w := by
  unfold execOp
  simp only [ho, resolve, invoke, builtin, Sem.run_bind, Sem.run_pure, Result.andThen_ok, List.map_toArray, List.map_cons, List.map_nil, hx, hy, run_min_int]
theorem run_op_len {P : Program} {o : Oper} {a : Act} {s : Operand} {t : TypeId} (ho : o.op = .call { callee := .builtin .len, args := #[s], argTypes := #[t] }) {e : TypeId} (ht : P.underlying t = some (.slice e)) {pa : Option Addr} {n c : Nat} (hx : a.eval s = .slice pa n c) (w : World) : (execOp a.eval o).run P w = .ok (.value (.int .i64 n)) w := by
  unfold execOp
  simp only [ho, resolve, invoke, builtin, Sem.run_bind, Sem.run_pure, Result.andThen_ok, List.map_toArray, List.map_cons, List.map_nil, hx]
  simp [Builtin.len_, run_underlying ht, goInt]
noncomputable def RP4 : Array Oper := ((Tryz.f57.body.bind (rgf · 4))).getD #[]
def shP4 : List (Op × Option Nat × List Nat) := [(Op.fieldAddr 63 (Operand.tmp 3) 2, some 25, []),
    (Op.load 3 (Operand.tmp 25), some 26, [0]),
    (Op.move (Operand.tmp 0), some 27, []),
    (Op.nilCheck (Operand.tmp 27), some 28, [2]),
    (Op.fieldAddr 68 (Operand.tmp 28) 0, some 29, [3]),
    (Op.load 59 (Operand.tmp 29), some 30, [4]),
    (Op.call { callee := Callee.value (Operand.func 79), args := #[Operand.tmp 30], argTypes := #[59] }, some 31, [5]),
    (Op.assign (Operand.tmp 26), some 8, [1, 6, 0, 1]),
    (Op.assign (Operand.tmp 31), some 9, [6, 7, 0, 1, 2, 3, 4, 5, 6, 7])]
theorem RP4_shape : RegShape RP4 8 32 shP4 := regShape (by kernel_rfl) (by kernel_rfl)
def vsP4 (w : World) (ar v q f1 : Nat) : List Value := [.pointer (some ⟨q, 4, none⟩), .int .i64 f1, .pointer (some ⟨ar, 0, none⟩), .pointer (some ⟨ar, 0, none⟩), .pointer (some ⟨ar, 0, none⟩), .pointer (some ⟨v, 0, none⟩), .pointer (some ⟨w.heap.size + 2, 0, none⟩), .int .i64 f1, .pointer (some ⟨w.heap.size + 2, 0, none⟩)]
set_option maxRecDepth 100000 in
set_option maxHeartbeats 1000000 in
theorem readPages_region4 {ops : Array Oper} {Q : Exit → Act → World → Prop} {a : Act} {w : World} {ar v p D L G ps hl0 q D1 L1 G1 t1 f1 n1 N : Nat} {cs : Array Value} (hV : VolAt w v p D L G ps hl0) (hD : D ≤ 12) (hL : L ≤ 4) (hG : G ≤ 4) (hN : N = D + L + G) (har : w.heap[ar]? = some (.cells cs 68 (0, 0))) (h0 : cs[0]? = some (.pointer (some ⟨v, 0, none⟩))) (hq : w.heap[q]? = some (.cells (rootA D1 L1 G1 t1 f1 n1) 63 (0, 0))) (hops : RP4 = ops) (hsz : a.tmps.size = 69)
    (e0 : a.eval (.tmp 0) = .pointer (some ⟨ar, 0, none⟩)) (e3 : a.eval (.tmp 3) = .pointer (some ⟨q, 0, none⟩))
    (hQ : ∀ (w' : World), Below w.heap.size w w' → RdAt w' (w.heap.size + 2) v 0 (w.heap.size + 1) N 0 0 → w'.rowIs (w.heap.size + 1) 166 N (fun _ => .slice none 0 0) → Q .normal (Act.putFrom (Act.putFrom a 8 [.int .i64 f1, .pointer (some ⟨w.heap.size + 2, 0, none⟩)]) 25 [.pointer (some ⟨q, 4, none⟩), .int .i64 f1, .pointer (some ⟨ar, 0, none⟩), .pointer (some ⟨ar, 0, none⟩), .pointer (some ⟨ar, 0, none⟩), .pointer (some ⟨v, 0, none⟩), .pointer (some ⟨w.heap.size + 2, 0, none⟩)]) w') : (Code.region 4 ops true).wp Tryz.prog Q a w := by
  subst hops
  have harl : ar < w.heap.size := (Array.getElem?_eq_some_iff.1 har).1
  have hql : q < w.heap.size := (Array.getElem?_eq_some_iff.1 hq).1
  have har' : ∀ w', Below w.heap.size w w' → w'.cell? ⟨ar, 0, none⟩ = some (.pointer (some ⟨v, 0, none⟩)) := fun w' hO => by
    have := (hO.block ar harl).trans har
    simp [World.cell?, this, h0]
  have hq' : ∀ w', Below w.heap.size w w' → w'.cell? ⟨q, 4, none⟩ = some (.int .i64 f1) := fun w' hO => by
    have := (hO.block q hql).trans hq
    simp [World.cell?, this, rootA]
  refine region_factsS (by kernel_rfl) RP4_shape a w (by omega) (fun i u _ => u = (vsP4 w ar v q f1).getD i undef) (BP4 w v N) ⟨(Below.refl _ w).drew, fun _ => rfl, fun h => (by cases h)⟩ ?_ ?_
  · intro i hi
    match i, hi with
    | 0, _ =>
      intro o a' w' Dn hg ho hdst hk hDi hcl hdep hB hV'
      have u0 : a'.eval (.tmp 3) = .pointer (some ⟨q, 0, none⟩) := (hk.slot 3 (by omega)).trans e3
      exact op_val (v := .pointer (some ⟨q, 4, none⟩)) (by simp only [execOp, show o.op = Op.fieldAddr 63 (Operand.tmp 3) 2 from ho, u0]; go_simp) hdst ⟨BP4_upd hB 0 (by decide), rfl, fun _ _ _ q => q⟩
    | 1, _ =>
      intro o a' w' Dn hg ho hdst hk hDi hcl hdep hB hV'
      have u0 : a'.eval (.tmp 25) = .pointer (some ⟨q, 4, none⟩) := hV' 0 (hdep 0 (by decide))
      have c := hq' w' hB.1
      exact op_val (v := .int .i64 f1) (by simp only [execOp, show o.op = Op.load 3 (Operand.tmp 25) from ho, u0]; go_simp) hdst ⟨BP4_upd hB 1 (by decide), rfl, fun _ _ _ q => q⟩
    | 2, _ =>
      intro o a' w' Dn hg ho hdst hk hDi hcl hdep hB hV'
      have u0 : a'.eval (.tmp 0) = .pointer (some ⟨ar, 0, none⟩) := (hk.slot 0 (by omega)).trans e0
      exact op_val (run_op_move ho u0 w') hdst ⟨BP4_upd hB 2 (by decide), rfl, fun _ _ _ q => q⟩
    | 3, _ =>
      intro o a' w' Dn hg ho hdst hk hDi hcl hdep hB hV'
      have u0 : a'.eval (.tmp 27) = .pointer (some ⟨ar, 0, none⟩) := hV' 2 (hdep 2 (by decide))
      exact op_val (v := .pointer (some ⟨ar, 0, none⟩)) (by simp only [execOp, show o.op = Op.nilCheck (Operand.tmp 27) from ho, u0]; go_simp) hdst ⟨BP4_upd hB 3 (by decide), rfl, fun _ _ _ q => q⟩
    | 4, _ =>
      intro o a' w' Dn hg ho hdst hk hDi hcl hdep hB hV'
      have u0 : a'.eval (.tmp 28) = .pointer (some ⟨ar, 0, none⟩) := hV' 3 (hdep 3 (by decide))
      exact op_val (v := .pointer (some ⟨ar, 0, none⟩)) (by simp only [execOp, show o.op = Op.fieldAddr 68 (Operand.tmp 28) 0 from ho, u0]; go_simp) hdst ⟨BP4_upd hB 4 (by decide), rfl, fun _ _ _ q => q⟩
    | 5, _ =>
      intro o a' w' Dn hg ho hdst hk hDi hcl hdep hB hV'
      have u0 : a'.eval (.tmp 29) = .pointer (some ⟨ar, 0, none⟩) := hV' 4 (hdep 4 (by decide))
      have c := har' w' hB.1
      exact op_val (v := .pointer (some ⟨v, 0, none⟩)) (by simp only [execOp, show o.op = Op.load 59 (Operand.tmp 29) from ho, u0]; go_simp) hdst ⟨BP4_upd hB 5 (by decide), rfl, fun _ _ _ q => q⟩
    | 6, _ =>
      intro o a' w' Dn hg ho hdst hk hDi hcl hdep hB hV'
      have u0 : a'.eval (.tmp 30) = .pointer (some ⟨v, 0, none⟩) := hV' 5 (hdep 5 (by decide))
      refine op_call (f := 79) (args := #[.pointer (some ⟨v, 0, none⟩)]) (w1 := w') (by simp only [execOp, show o.op = Op.call { callee := Callee.value (Operand.func 79), args := #[Operand.tmp 30], argTypes := #[59] } from ho]; go_simp; simpa [Act.eval] using u0) hdst (reader_at (hV.keep (hB.1.block _ hV.lt)) hD hL hG hN) ?_
      rintro e w'' ⟨rfl, hr1, hr2, hb⟩
      have hz := hB.2.1 hDi
      rw [hz] at hr1 hr2 ⊢
      exact ⟨_, rfl, ⟨hB.1.trans (hb.mono hB.1.size), fun h => (by rw [upd_eq] at h; cases h), fun _ => ⟨hr1, hr2⟩⟩, rfl, fun _ _ _ q => q⟩
    | 7, _ =>
      intro o a' w' Dn hg ho hdst hk hDi hcl hdep hB hV'
      have u0 : a'.eval (.tmp 26) = .int .i64 f1 := hV' 1 (hdep 1 (by decide))
      exact op_val (v := .int .i64 f1) (by simp only [execOp, show o.op = Op.assign (Operand.tmp 26) from ho, u0]; go_simp) hdst ⟨BP4_upd hB 7 (by decide), rfl, fun _ _ _ q => q⟩
    | 8, _ =>
      intro o a' w' Dn hg ho hdst hk hDi hcl hdep hB hV'
      have u0 : a'.eval (.tmp 31) = .pointer (some ⟨w.heap.size + 2, 0, none⟩) := hV' 6 (hdep 6 (by decide))
      exact op_val (v := .pointer (some ⟨w.heap.size + 2, 0, none⟩)) (by simp only [execOp, show o.op = Op.assign (Operand.tmp 31) from ho, u0]; go_simp) hdst ⟨BP4_upd hB 8 (by decide), rfl, fun _ _ _ q => q⟩
    | n + 9, hn => exact absurd hn (by show ¬ n + 9 < 9; omega)
  · rintro a' w' hk' hsame ⟨Dn, hD', hB⟩ hV'
    have e : a' = Act.putFrom (Act.putFrom a 8 [.int .i64 f1, .pointer (some ⟨w.heap.size + 2, 0, none⟩)]) 25 [.pointer (some ⟨q, 4, none⟩), .int .i64 f1, .pointer (some ⟨ar, 0, none⟩), .pointer (some ⟨ar, 0, none⟩), .pointer (some ⟨ar, 0, none⟩), .pointer (some ⟨v, 0, none⟩), .pointer (some ⟨w.heap.size + 2, 0, none⟩)] := out2 hk'.size hk'.defers (same_ds hsame) (by rfl) (by show 8 + 2 ≤ 25; omega) (by show 32 ≤ _; omega) (fun i hi => ?_) (fun i hi => ?_)
    · rw [e]; exact hQ w' hB.1 (hB.2.2 (hD' 6 (by decide))).1 (hB.2.2 (hD' 6 (by decide))).2
    · match i, hi with
      | 0, _ => exact hV' 7 (by decide)
      | 1, _ => exact hV' 8 (by decide)
      | n + 2, hn => exact absurd hn (by simp)
    · match i, hi with
      | 0, _ => exact hV' 0 (by decide)
      | 1, _ => exact hV' 1 (by decide)
      | 2, _ => exact hV' 2 (by decide)
      | 3, _ => exact hV' 3 (by decide)
      | 4, _ => exact hV' 4 (by decide)
      | 5, _ => exact hV' 5 (by decide)
      | 6, _ => exact hV' 6 (by decide)
      | n + 7, hn => exact absurd hn (by simp)
noncomputable def RP7 : Array Oper := ((Tryz.f57.body.bind (rgf · 7))).getD #[]
def shP7 : List (Op × Option Nat × List Nat) := [(Op.fieldAddr 63 (Operand.tmp 3) 3, some 35, []),
    (Op.load 3 (Operand.tmp 35), some 36, [0]),
    (Op.move (Operand.tmp 4), some 37, []),
    (Op.call { callee := Callee.builtin Builtin.len, args := #[Operand.tmp 37], argTypes := #[166] }, some 38, [2]),
    (Op.binOp BinOp.sub 3 (Operand.tmp 36) (Operand.tmp 38) 3, some 39, [1, 3]),
    (Op.move (Operand.tmp 0), some 40, []),
    (Op.call { callee := Callee.value (Operand.func 72), args := #[Operand.tmp 40], argTypes := #[51] }, some 41, [5]),
    (Op.call { callee := Callee.builtin Builtin.min, args := #[Operand.tmp 39, Operand.tmp 41], argTypes := #[3, 3] }, some 42, [4, 6]),
    (Op.assign (Operand.tmp 42), some 10, [7, 6, 0, 1, 2, 3, 4, 5, 6, 7])]
theorem RP7_shape : RegShape RP7 10 43 shP7 := regShape (by kernel_rfl) (by kernel_rfl)
def vsP7 (ar D n1 pl pc q : Nat) (pa : Option Addr) : List Value := [.pointer (some ⟨q, 5, none⟩), .int .i64 n1, .slice pa pl pc, .int .i64 pl, .int .i64 ((n1 - pl : Nat) : Int), .pointer (some ⟨ar, 0, none⟩), .int .i64 ((D * 44 - 4 : Nat) : Int), .int .i64 ((min (n1 - pl) (D * 44 - 4) : Nat) : Int), .int .i64 ((min (n1 - pl) (D * 44 - 4) : Nat) : Int)]
set_option maxRecDepth 100000 in
set_option maxHeartbeats 1000000 in
theorem readPages_region7 {ops : Array Oper} {Q : Exit → Act → World → Prop} {a : Act} {w : World} {ar v p D L G ps hl0 D' L' G' t f nn q D1 L1 G1 t1 f1 n1 pl pc : Nat} {pa : Option Addr} {pg ob : Value} {off : Bool} (hA : ArcAt w ar v D' L' G' t f nn pg ob off) (hV : VolAt w v p D L G ps hl0) (hD1 : 1 ≤ D) (hD : D ≤ 12) (hq : w.heap[q]? = some (.cells (rootA D1 L1 G1 t1 f1 n1) 63 (0, 0))) (hn1 : n1 ≤ 1000000) (hpl : pl ≤ n1) (hops : RP7 = ops) (hsz : a.tmps.size = 69)
    (e0 : a.eval (.tmp 0) = .pointer (some ⟨ar, 0, none⟩)) (e3 : a.eval (.tmp 3) = .pointer (some ⟨q, 0, none⟩)) (e4 : a.eval (.tmp 4) = .slice pa pl pc)
    (hQ : ∀ (w' : World), w' = w.drew → Q .normal (Act.putFrom (Act.putFrom a 10 [.int .i64 ((min (n1 - pl) (D * 44 - 4) : Nat) : Int)]) 35 [.pointer (some ⟨q, 5, none⟩), .int .i64 n1, .slice pa pl pc, .int .i64 pl, .int .i64 ((n1 - pl : Nat) : Int), .pointer (some ⟨ar, 0, none⟩), .int .i64 ((D * 44 - 4 : Nat) : Int), .int .i64 ((min (n1 - pl) (D * 44 - 4) : Nat) : Int)]) w') : (Code.region 7 ops true).wp Tryz.prog Q a w := by
  subst hops
  have hq' : w.cell? ⟨q, 5, none⟩ = some (.int .i64 n1) := by simp [World.cell?, hq, rootA]
  have hs1 : ((n1 : Nat) : Int) - (pl : Int) = ((n1 - pl : Nat) : Int) := by omega
  have hmn : (if (((D * 44 - 4 : Nat) : Int)) < ((n1 - pl : Nat) : Int) then ((D * 44 - 4 : Nat) : Int) else ((n1 - pl : Nat) : Int)) = ((min (n1 - pl) (D * 44 - 4) : Nat) : Int) := by split <;> omega
  refine region_factsS (by kernel_rfl) RP7_shape a w (by omega) (fun i u _ => u = (vsP7 ar D n1 pl pc q pa).getD i undef) (fun _ w' => w' = w.drew) rfl ?_ ?_
  · intro i hi
    match i, hi with
    | 0, _ =>
      intro o a' w' Dn hg ho hdst hk hDi hcl hdep hB hV'
      have u0 : a'.eval (.tmp 3) = .pointer (some ⟨q, 0, none⟩) := (hk.slot 3 (by omega)).trans e3
      exact op_val (v := .pointer (some ⟨q, 5, none⟩)) (by simp only [execOp, show o.op = Op.fieldAddr 63 (Operand.tmp 3) 3 from ho, u0]; go_simp) hdst ⟨hB, rfl, fun _ _ _ q => q⟩
    | 1, _ =>
      intro o a' w' Dn hg ho hdst hk hDi hcl hdep hB hV'
      have u0 : a'.eval (.tmp 35) = .pointer (some ⟨q, 5, none⟩) := hV' 0 (hdep 0 (by decide))
      have c : w'.cell? ⟨q, 5, none⟩ = some (.int .i64 n1) := by rw [hB]; exact hq'
      exact op_val (v := .int .i64 n1) (by simp only [execOp, show o.op = Op.load 3 (Operand.tmp 35) from ho, u0]; go_simp) hdst ⟨hB, rfl, fun _ _ _ q => q⟩
    | 2, _ =>
      intro o a' w' Dn hg ho hdst hk hDi hcl hdep hB hV'
      have u0 : a'.eval (.tmp 4) = .slice pa pl pc := (hk.slot 4 (by omega)).trans e4
      exact op_val (run_op_move ho u0 w') hdst ⟨hB, rfl, fun _ _ _ q => q⟩
    | 3, _ =>
      intro o a' w' Dn hg ho hdst hk hDi hcl hdep hB hV'
      have u0 : a'.eval (.tmp 37) = .slice pa pl pc := hV' 2 (hdep 2 (by decide))
      exact op_val (run_op_len ho Tryz.underlying166 u0 w') hdst ⟨hB, rfl, fun _ _ _ q => q⟩
    | 4, _ =>
      intro o a' w' Dn hg ho hdst hk hDi hcl hdep hB hV'
      have u0 : a'.eval (.tmp 36) = .int .i64 n1 := hV' 1 (hdep 1 (by decide))
      have u1 : a'.eval (.tmp 38) = .int .i64 pl := hV' 3 (hdep 3 (by decide))
      have hw2 : IntKind.i64.wrap ((n1 - pl : Nat) : Int) = ((n1 - pl : Nat) : Int) := by rw [IntKind.wrap_i64]; omega
      exact op_val (v := .int .i64 ((n1 - pl : Nat) : Int)) (by simp only [execOp, show o.op = Op.binOp BinOp.sub 3 (Operand.tmp 36) (Operand.tmp 38) 3 from ho, u0, u1]; go_simp) hdst ⟨hB, rfl, fun _ _ _ q => q⟩
    | 5, _ =>
      intro o a' w' Dn hg ho hdst hk hDi hcl hdep hB hV'
      have u0 : a'.eval (.tmp 0) = .pointer (some ⟨ar, 0, none⟩) := (hk.slot 0 (by omega)).trans e0
      exact op_val (run_op_move ho u0 w') hdst ⟨hB, rfl, fun _ _ _ q => q⟩
    | 6, _ =>
      intro o a' w' Dn hg ho hdst hk hDi hcl hdep hB hV'
      have u0 : a'.eval (.tmp 40) = .pointer (some ⟨ar, 0, none⟩) := hV' 5 (hdep 5 (by decide))
      refine op_call (f := 72) (args := #[.pointer (some ⟨ar, 0, none⟩)]) (w1 := w') (by simp only [execOp, show o.op = Op.call { callee := Callee.value (Operand.func 72), args := #[Operand.tmp 40], argTypes := #[51] } from ho]; go_simp; simpa [Act.eval] using u0) hdst (pageSize_any (show ArcAt w' ar v D' L' G' t f nn pg ob off by rw [hB]; exact hA) (show VolAt w' v p D L G ps hl0 by rw [hB]; exact hV) hD1 (by omega)) ?_
      rintro e w'' ⟨rfl, hw⟩
      exact ⟨_, rfl, by rw [hw]; exact hB, rfl, fun _ _ _ q => q⟩
    | 7, _ =>
      intro o a' w' Dn hg ho hdst hk hDi hcl hdep hB hV'
      have u0 : a'.eval (.tmp 39) = .int .i64 ((n1 - pl : Nat) : Int) := hV' 4 (hdep 4 (by decide))
      have u1 : a'.eval (.tmp 41) = .int .i64 ((D * 44 - 4 : Nat) : Int) := hV' 6 (hdep 6 (by decide))
      exact op_val (v := .int .i64 ((min (n1 - pl) (D * 44 - 4) : Nat) : Int)) (by rw [run_op_min ho u0 u1, hmn]) hdst ⟨hB, rfl, fun _ _ _ q => q⟩
    | 8, _ =>
      intro o a' w' Dn hg ho hdst hk hDi hcl hdep hB hV'
      have u0 : a'.eval (.tmp 42) = .int .i64 ((min (n1 - pl) (D * 44 - 4) : Nat) : Int) := hV' 7 (hdep 7 (by decide))
      exact op_val (v := .int .i64 ((min (n1 - pl) (D * 44 - 4) : Nat) : Int)) (by simp only [execOp, show o.op = Op.assign (Operand.tmp 42) from ho, u0]; go_simp) hdst ⟨hB, rfl, fun _ _ _ q => q⟩
    | n + 9, hn => exact absurd hn (by show ¬ n + 9 < 9; omega)
  · rintro a' w' hk' hsame ⟨Dn, hD', hB⟩ hV'
    have e : a' = Act.putFrom (Act.putFrom a 10 [.int .i64 ((min (n1 - pl) (D * 44 - 4) : Nat) : Int)]) 35 [.pointer (some ⟨q, 5, none⟩), .int .i64 n1, .slice pa pl pc, .int .i64 pl, .int .i64 ((n1 - pl : Nat) : Int), .pointer (some ⟨ar, 0, none⟩), .int .i64 ((D * 44 - 4 : Nat) : Int), .int .i64 ((min (n1 - pl) (D * 44 - 4) : Nat) : Int)] := out2 hk'.size hk'.defers (same_ds hsame) (by rfl) (by show 10 + 1 ≤ 35; omega) (by show 43 ≤ _; omega) (fun i hi => ?_) (fun i hi => ?_)
    · rw [e]; exact hQ w' hB
    · match i, hi with
      | 0, _ => exact hV' 8 (by decide)
      | n + 1, hn => exact absurd hn (by simp)
    · match i, hi with
      | 0, _ => exact hV' 0 (by decide)
      | 1, _ => exact hV' 1 (by decide)
      | 2, _ => exact hV' 2 (by decide)
      | 3, _ => exact hV' 3 (by decide)
      | 4, _ => exact hV' 4 (by decide)
      | 5, _ => exact hV' 5 (by decide)
      | 6, _ => exact hV' 6 (by decide)
      | 7, _ => exact hV' 7 (by decide)
      | n + 8, hn => exact absurd hn (by simp)
end Go.Proofs.YtogdeaaphdlchaaGreatDoor
