import Derived.RegionTactic
import Derived.Test.YtpaemkanfnddoaaGreatDoorM05
set_option maxRecDepth 100000
set_option maxHeartbeats 8000000
namespace Go.Proofs.YtpaemkanfnddoaaGreatDoor
open Go.RowKit
variable {listed : Array Bool} {ops : Array Oper} {sh : List (Op × Option Nat × List Nat)} {l src : List Nat} {lo hi b i m off c : Nat} {D : Nat → Bool} {o : Oper} {x : Operand} {P : Program} {v : Value} {Vi : Value → World → Prop} {w w' w0 : World} {B S : World → Prop}
theorem rf_same (a : Act) (i : Nat) (v : Value) (h : i < a.tmps.size) : (a.put (some i) v).eval (.tmp i) = v := by simp [Act.put, Act.eval, h]
theorem rf_other (a : Act) (i j : Nat) (v : Value) (h : i ≠ j) : (a.put (some i) v).eval (.tmp j) = a.eval (.tmp j) := by
 simp [Act.put, Act.eval, Array.getD_eq_getD_getElem?, h]
theorem rf_size (a : Act) (d : Option Nat) (v : Value) : (a.put d v).tmps.size = a.tmps.size := by
 cases d <;> simp [Act.put]
structure Framed (lo hi : Nat) (a a' : Act) : Prop where
 size : a'.tmps.size = a.tmps.size
 defers : a'.defers = a.defers
 slot : ∀ s, s < lo ∨ hi ≤ s → a'.eval (.tmp s) = a.eval (.tmp s)
theorem Framed.refl (lo hi : Nat) (a : Act) : Framed lo hi a a := ⟨rfl, rfl, fun _ _ => rfl⟩
theorem Framed.put {a a' : Act} (h : Framed lo hi a a') {d : Option Nat} (v : Value) (hd : ∀ i, d = some i → lo ≤ i ∧ i < hi) : Framed lo hi a (a'.put d v) := by
 cases d with
 | none => exact h
 | some d =>
  obtain ⟨h1, h2⟩ := hd d rfl
  exact ⟨by rw [rf_size]; exact h.size, h.defers, fun s hs => by rw [rf_other _ _ _ _ (by omega)]; exact h.slot s hs⟩
def Act.putFrom (a : Act) : Nat → List Value → Act
 | _, [] => a
 | d, v :: r => Act.putFrom (a.put (some d) v) (d + 1) r
theorem putFrom_size : ∀ (vs : List Value) (a : Act) (d : Nat), (Act.putFrom a d vs).tmps.size = a.tmps.size ∧ (Act.putFrom a d vs).defers = a.defers
 | [], _, _ => ⟨rfl, rfl⟩
 | v :: r, a, d => by
  obtain ⟨h1, h2⟩ := putFrom_size r (a.put (some d) v) (d + 1)
  exact ⟨h1.trans (rf_size _ _ _), h2⟩
theorem putFrom_eval : ∀ (vs : List Value) (a : Act) (d s : Nat), d + vs.length ≤ a.tmps.size → (Act.putFrom a d vs).eval (.tmp s) = if d ≤ s ∧ s < d + vs.length then vs.getD (s - d) undef else a.eval (.tmp s)
 | [], a, d, s, _ => by
  show a.eval (.tmp s) = if d ≤ s ∧ s < d + 0 then _ else _
  rw [if_neg (by omega)]
 | v :: r, a, d, s, h => by
  simp only [List.length_cons] at h ⊢
  show (Act.putFrom (a.put (some d) v) (d + 1) r).eval (.tmp s) = _
  rw [putFrom_eval r _ _ _ (by rw [rf_size]; omega)]
  by_cases e : s = d
  · subst e
    rw [if_neg (by omega), if_pos (by omega), Nat.sub_self, rf_same _ _ _ (by omega)]; rfl
  · rw [rf_other _ _ _ _ (fun q => e q.symm)]
    by_cases e2 : d + 1 ≤ s ∧ s < d + 1 + r.length
    · rw [if_pos e2, if_pos (by omega), show s - d = (s - (d + 1)) + 1 by omega]; rfl
    · rw [if_neg e2, if_neg (by omega)]
theorem act_ext {a b : Act} (h1 : a.tmps.size = b.tmps.size) (h2 : a.defers = b.defers) (h3 : ∀ s, s < a.tmps.size → a.eval (.tmp s) = b.eval (.tmp s)) : a = b := by
 obtain ⟨ta, da⟩ := a
 obtain ⟨tb, db⟩ := b
 simp only at h1 h2
 subst h2
 congr 1
 refine Array.ext h1 fun i q1 q2 => ?_
 have := h3 i q1
 simpa [Act.eval, q1, q2] using this
theorem Framed.out {a a' : Act} (h : Framed lo hi a a') (vs : List Value) (hl : lo + vs.length = hi) (hs : hi ≤ a.tmps.size) (hv : ∀ i, i < vs.length → a'.eval (.tmp (lo + i)) = vs.getD i undef) : a' = Act.putFrom a lo vs := by
 obtain ⟨p1, p2⟩ := putFrom_size vs a lo
 refine act_ext (h.size.trans p1.symm) (h.defers.trans p2.symm) fun s _ => ?_
 rw [putFrom_eval vs a lo s (by omega)]
 by_cases e : lo ≤ s ∧ s < lo + vs.length
 · rw [if_pos e]
   have := hv (s - lo) (by omega)
   rwa [show lo + (s - lo) = s by omega] at this
 · rw [if_neg e]; exact h.slot s (by omega)
def depsOf (ops : Array Oper) (i : Nat) : List Nat := match ops[i]? with
 | some o => (o.after.toList.filter (fun e => Region.binds .any e)).map (fun e => e.on)
 | none => []
theorem ready_iff : i ∈ Region.ready .any ops listed ↔ i < ops.size ∧ listed.getD i true = false ∧ ∀ k ∈ depsOf ops i, listed.getD k false = true := by
 unfold Region.ready depsOf
 rw [List.mem_filter, List.mem_range, Bool.and_eq_true_iff]
 constructor
 · rintro ⟨h1, h2, h3⟩
   refine ⟨h1, by simpa using h2, fun k hk => ?_⟩
   rw [Array.getElem?_eq_getElem h1] at h3 hk
   simp only [Option.map_some, Option.getD_some] at h3
   rw [List.mem_map] at hk
   obtain ⟨e, he, rfl⟩ := hk
   obtain ⟨m1, m2⟩ := List.mem_filter.1 he
   have := Array.all_eq_true'.1 h3 e (by simpa using m1)
   simpa [m2] using this
 · rintro ⟨h1, h2, h3⟩
   refine ⟨h1, by simpa using h2, ?_⟩
   rw [Array.getElem?_eq_getElem h1] at h3 ⊢
   simp only [Option.map_some, Option.getD_some]
   rw [Array.all_eq_true']
   intro e he
   by_cases hb : Region.binds .any e = true
   · have := h3 e.on (List.mem_map.2 ⟨e, List.mem_filter.2 ⟨by simpa using he, hb⟩, rfl⟩)
     simp [this]
   · simp [hb]
def toCome (listed : Array Bool) : Nat := (listed.toList.filter (fun b => !b)).length
theorem toCome_set (h : listed.getD i true = false) : toCome (listed.setIfInBounds i true) + 1 = toCome listed := by
 have hi : i < listed.size := by
  by_cases h' : i < listed.size
  · exact h'
  · simp [Array.getD_eq_getD_getElem?, h'] at h
 unfold toCome
 rw [Array.toList_setIfInBounds]
 have hg : listed.toList[i]? = some false := by
  simp [Array.getD_eq_getD_getElem?, hi] at h
  simp [hi, h]
 generalize listed.toList = l at hg
 clear h hi
 induction l generalizing i with
 | nil => simp at hg
 | cons b l ih =>
  cases i with
  | zero =>
   simp at hg
   subst hg
   simp
  | succ i =>
   simp at hg
   have := ih hg
   cases b <;> simp [List.set_cons_succ] <;> omega
theorem toCome_zero (h : toCome listed = 0) (i : Nat) (hi : i < listed.size) : listed.getD i false = true := by
 unfold toCome at h
 have h2 := List.length_eq_zero_iff.1 h
 rw [List.filter_eq_nil_iff] at h2
 have := h2 listed[i] (by simp)
 simpa [Array.getD_eq_getD_getElem?, hi] using this
def slotD (d : Option Nat) (a : Act) : Value := match d with
 | some d => a.eval (.tmp d)
 | none => undef
structure RegShape (ops : Array Oper) (lo hi : Nat) (sh : List (Op × Option Nat × List Nat)) : Prop where
 at_ : (List.range ops.size).map (fun i => ((ops[i]?.map fun o => (o.op, o.dst, o.guard)), depsOf ops i)) = sh.map (fun x => (some (x.1, x.2.1, none), x.2.2))
 early : ∀ i, i < sh.length → ∀ k ∈ (sh.getD i (.move (.const undef), none, [])).2.2, k < i
 slots : ∀ i j d, i < sh.length → j < sh.length → (sh.getD i (.move (.const undef), none, [])).2.1 = some d → (lo ≤ d ∧ d < hi) ∧ ((sh.getD j (.move (.const undef), none, [])).2.1 = some d → i = j)
def shOk (lo hi : Nat) (sh : List (Op × Option Nat × List Nat)) : Bool := (List.range sh.length).all fun i => (sh.getD i (.move (.const undef), none, [])).2.2.all (fun k => decide (k < i)) && match (sh.getD i (.move (.const undef), none, [])).2.1 with
 | none => true
 | some d => decide (lo ≤ d) && decide (d < hi) && (List.range sh.length).all fun j => (sh.getD j (.move (.const undef), none, [])).2.1 != some d || i == j
theorem regShape (h1 : (List.range ops.size).map (fun i => ((ops[i]?.map fun o => (o.op, o.dst, o.guard)), depsOf ops i)) = sh.map (fun x => (some (x.1, x.2.1, none), x.2.2))) (h2 : shOk lo hi sh = true) : RegShape ops lo hi sh := by
 unfold shOk at h2
 rw [List.all_eq_true] at h2
 refine ⟨h1, fun i h0 k hk => ?_, fun i j d h0 hj hd => ?_⟩
 · have := h2 i (List.mem_range.2 h0)
   rw [Bool.and_eq_true_iff, List.all_eq_true] at this
   exact of_decide_eq_true (this.1 k hk)
 · have := (Bool.and_eq_true_iff.1 (h2 i (List.mem_range.2 h0))).2
   rw [hd] at this
   simp only [Bool.and_eq_true_iff, decide_eq_true_eq, List.all_eq_true] at this
   refine ⟨this.1, fun h3 => ?_⟩
   have q := this.2 j (List.mem_range.2 hj)
   rw [h3] at q
   simpa using q
theorem RegShape.size (h : RegShape ops lo hi sh) : ops.size = sh.length := by
 have := congrArg List.length h.at_
 simpa using this
theorem RegShape.get (h : RegShape ops lo hi sh) (i : Nat) (hi : i < sh.length) :
 ∃ o, ops[i]? = some o ∧ o.op = (sh.getD i (.move (.const undef), none, [])).1 ∧ o.dst = (sh.getD i (.move (.const undef), none, [])).2.1 ∧ o.guard = none ∧ depsOf ops i = (sh.getD i (.move (.const undef), none, [])).2.2 := by
 have hs := h.size
 have := congrArg (fun l => l[i]?) h.at_
 have h0 : i < ops.size := by omega
 simp only [List.getElem?_map, List.getElem?_range h0, Option.map_some, List.getElem?_eq_getElem hi, Option.some.injEq, Prod.mk.injEq, Option.map_eq_some_iff] at this
 obtain ⟨⟨o, h1, h2, h3, h4⟩, h5⟩ := this
 have e : sh.getD i (.move (.const undef), none, []) = sh[i] := by simp [hi]
 rw [e]
 exact ⟨o, h1, h2, h3, h4, h5⟩
def upd (D : Nat → Bool) (i : Nat) : Nat → Bool := fun j => if j = i then true else D j
abbrev shAt (sh : List (Op × Option Nat × List Nat)) (i : Nat) : Op × Option Nat × List Nat := sh.getD i (.move (.const undef), none, [])
def StepOk (P : Program) (Q : Exit → Act → World → Prop) (lo hi : Nat) (sh : List (Op × Option Nat × List Nat)) (a0 : Act) (V : Nat → Value → World → Prop) (B : (Nat → Bool) → World → Prop) (i : Nat) : Prop :=
 ∀ (o : Oper) (a : Act) (w : World) (D : Nat → Bool), o.guard = none → o.op = (shAt sh i).1 → o.dst = (shAt sh i).2.1 → Framed lo hi a0 a → D i = false → (∀ j, D j = true → j < sh.length ∧ ∀ k ∈ (shAt sh j).2.2, D k = true) →
  (∀ k ∈ (shAt sh i).2.2, D k = true) → B D w → (∀ j, D j = true → V j (slotD (shAt sh j).2.1 a) w) →
  o.wp P a w (fun a' w' => ∃ v, a' = a.put o.dst v ∧ (o.dst = none → v = undef) ∧ B (upd D i) w' ∧ V i v w' ∧ ∀ j u, D j = true → V j u w → V j u w') Q
theorem any_factsS {Q : Exit → Act → World → Prop} (h7 : RegShape ops lo hi sh) (a0 : Act) (hp : hi ≤ a0.tmps.size)
 (V : Nat → Value → World → Prop) (B : (Nat → Bool) → World → Prop) (ha : ∀ i, i < sh.length → StepOk P Q lo hi sh a0 V B i)
 (hg : ∀ (a : Act) (w : World), Framed lo hi a0 a → (∀ s, (∀ i, i < sh.length → (shAt sh i).2.1 ≠ some s) → a.eval (.tmp s) = a0.eval (.tmp s)) → (∃ D, (∀ i, i < sh.length → D i = true) ∧ B D w) → (∀ i, i < sh.length → V i (slotD (shAt sh i).2.1 a) w) → Q .normal a w) :
 ∀ (f : Nat) (listed : Array Bool) (a : Act) (w : World), listed.size = sh.length → toCome listed = f → Framed lo hi a0 a → (∀ s, (∀ i, i < sh.length → (shAt sh i).2.1 ≠ some s) → a.eval (.tmp s) = a0.eval (.tmp s)) → (∀ j, listed.getD j false = true → j < sh.length ∧ ∀ k ∈ (shAt sh j).2.2, listed.getD k false = true) → B (fun j => listed.getD j false) w →
  (∀ i, listed.getD i false = true → V i (slotD (shAt sh i).2.1 a) w) → wpAny P .any ops Q f listed a w := by
 have k6 := h7.size
 have h6 : ∀ listed : Array Bool, listed.size = sh.length → toCome listed ≠ 0 → Region.ready .any ops listed ≠ [] := by
  intro listed hl hc hr
  have hh : ∀ i, i < sh.length → listed.getD i false = true := by
   intro i
   induction i using Nat.strongRecOn with
   | ind i ih =>
    intro h0
    by_cases hd : listed.getD i false = true
    · exact hd
    · exfalso
      have hm : i ∈ Region.ready .any ops listed := ready_iff.2 ⟨by omega, by simpa [Array.getD_eq_getD_getElem?, show i < listed.size by omega] using hd, fun k hk => by
       obtain ⟨o, _, _, _, _, e⟩ := h7.get i h0
       rw [e] at hk
       have := h7.early i h0 k hk
       exact ih k this (by omega)⟩
      rw [hr] at hm
      cases hm
  apply hc
  unfold toCome
  rw [List.length_eq_zero_iff, List.filter_eq_nil_iff]
  intro b hb
  obtain ⟨i, h0, rfl⟩ := List.getElem_of_mem hb
  have hq : i < listed.size := by simpa using h0
  have := hh i (by omega)
  simp [Array.getD_eq_getD_getElem?, hq] at this
  simp [this]
 intro f
 induction f with
 | zero =>
  intro listed a w hl hc hk h4 hf hB hV
  refine ⟨?_, hg a w hk h4 ⟨_, fun i h0 => toCome_zero hc i (by omega), hB⟩ fun i h0 => hV i (toCome_zero hc i (by omega))⟩
  rw [List.eq_nil_iff_forall_not_mem]
  intro i hm
  obtain ⟨h1, h2, _⟩ := ready_iff.1 hm
  have := toCome_zero hc i (by omega)
  simp [Array.getD_eq_getD_getElem?, show i < listed.size by omega] at this h2
  rw [this] at h2
  cases h2
 | succ f ih =>
  intro listed a w hl hc hk h4 hf hB hV
  refine ⟨fun e => absurd e (h6 listed hl (by omega)), fun i hm => ?_⟩
  obtain ⟨h1, h2, h3⟩ := ready_iff.1 hm
  have h0 : i < sh.length := by omega
  have hn : i < listed.size := by omega
  obtain ⟨o, e1, e2, e3, e4, e5⟩ := h7.get i h0
  have hx : listed.getD i false = false := by simpa [Array.getD_eq_getD_getElem?, hn] using h2
  have h5 : ∀ j, (listed.setIfInBounds i true).getD j false = upd (fun j => listed.getD j false) i j := by
   intro j
   unfold upd
   by_cases ej : j = i
   · subst ej
     rw [if_pos rfl]
     simp [Array.getD_eq_getD_getElem?, hn]
   · rw [if_neg ej, Array.getD_eq_getD_getElem?, Array.getElem?_setIfInBounds, if_neg (fun q : i = j => ej q.symm), ← Array.getD_eq_getD_getElem?]
  unfold wpOp
  rw [e1]
  show if Region.wanted o (yielded ops a.tmps) = true then _ else _
  rw [if_pos (by simp [Region.wanted, e4])]
  refine .inl (Oper.wp_mono (fun a' w' h => ?_) (ha i h0 o a w (fun j => listed.getD j false) e4 e2 e3 hk hx hf (fun k h8 => ?_) hB hV))
  · obtain ⟨v, rfl, hu, hy, hz, k0⟩ := h
    have he : ∀ d, o.dst = some d → lo ≤ d ∧ d < hi := fun d hd => by rw [e3] at hd; exact (h7.slots i i d h0 h0 hd).1
    refine ih _ _ _ (by simpa using hl) (by have := toCome_set h2; omega) (hk.put v he) (fun s hs => ?_) (fun j hj => ?_) ?_ fun j h9 => ?_
    · refine Eq.trans ?_ (h4 s hs)
      cases hd : o.dst with
      | none => rfl
      | some d => exact rf_other _ _ _ _ (fun e => hs i h0 (by rw [show (shAt sh i).2.1 = o.dst from e3.symm, hd, e]))
    · rw [h5] at hj
      unfold upd at hj
      by_cases ej : j = i
      · subst ej
        refine ⟨h0, fun k h8 => ?_⟩
        rw [h5]; unfold upd
        by_cases ek : k = j
        · rw [if_pos ek]
        · rw [if_neg ek]; rw [← e5] at h8; exact h3 k h8
      · rw [if_neg ej] at hj
        obtain ⟨q1, q2⟩ := hf j hj
        refine ⟨q1, fun k h8 => ?_⟩
        rw [h5]; unfold upd
        by_cases ek : k = i
        · rw [if_pos ek]
        · rw [if_neg ek]; exact q2 k h8
    · have e : (fun j => (listed.setIfInBounds i true).getD j false) = upd (fun j => listed.getD j false) i := funext h5
      rw [e]; exact hy
    · rw [h5] at h9
      unfold upd at h9
      by_cases ej : j = i
      · subst ej
        have : slotD (shAt sh j).2.1 (a.put o.dst v) = v := by
         show slotD (sh.getD j (.move (.const undef), none, [])).2.1 (a.put o.dst v) = v
         rw [← e3]
         cases hd : o.dst with
         | none => exact (hu hd).symm
         | some d => exact rf_same _ _ _ (Nat.lt_of_lt_of_le (he d hd).2 (by rw [hk.size]; exact hp))
        rw [this]; exact hz
      · rw [if_neg ej] at h9
        have : slotD (shAt sh j).2.1 (a.put o.dst v) = slotD (shAt sh j).2.1 a := by
         cases k5 : (shAt sh j).2.1 with
         | none => rfl
         | some d' =>
          cases hd : o.dst with
          | none => rfl
          | some d =>
           refine rf_other _ _ _ _ fun q => ej ?_
           subst q
           rw [e3] at hd
           exact (h7.slots j i d (hf j h9).1 h0 k5).2 hd
        rw [this]
        exact k0 j _ h9 (hV j h9)
  · exact h3 k (by rw [e5]; exact h8)
theorem region_factsS {Q : Exit → Act → World → Prop} (hm : P.follows .mixedOrders = true) (h3 : RegShape ops lo hi sh) (a0 : Act) (w0 : World) (h4 : hi ≤ a0.tmps.size)
 (V : Nat → Value → World → Prop) (B : (Nat → Bool) → World → Prop) (hB : B (fun _ => false) w0.drew) (h1 : ∀ i, i < sh.length → StepOk P Q lo hi sh a0 V B i)
 (h2 : ∀ (a : Act) (w : World), Framed lo hi a0 a → (∀ s, (∀ i, i < sh.length → (shAt sh i).2.1 ≠ some s) → a.eval (.tmp s) = a0.eval (.tmp s)) → (∃ D, (∀ i, i < sh.length → D i = true) ∧ B D w) → (∀ i, i < sh.length → V i (slotD (shAt sh i).2.1 a) w) → Q .normal a w) : (Code.region m ops true).wp P Q a0 w0 := by
 refine wp_region_any hm ?_
 have h5 := h3.size
 have h0 : ∀ i, (Array.replicate ops.size false).getD i false = false := fun i => by
  simp only [Array.getD_eq_getD_getElem?, Array.getElem?_replicate]
  split <;> rfl
 refine any_factsS h3 a0 h4 V B h1 h2 _ _ a0 w0.drew (by simp [h5]) ?_ (Framed.refl _ _ _) (fun _ _ => rfl) (fun j hj => ?_) ?_ fun i h => ?_
 · unfold toCome
   simp
 · rw [h0] at hj; cases hj
 · have e : (fun j => (Array.replicate ops.size false).getD j false) = fun _ => false := funext h0
   rw [e]; exact hB
 · rw [h0] at h; cases h
theorem region_facts {Q : Exit → Act → World → Prop} (hm : P.follows .mixedOrders = true) (h5 : RegShape ops lo hi sh) (a0 : Act) (w0 : World) (h6 : hi ≤ a0.tmps.size)
 (V : Nat → Value → World → Prop) (B : (Nat → Bool) → World → Prop) (hB : B (fun _ => false) w0.drew) (h0 : ∀ i, i < sh.length → StepOk P Q lo hi sh a0 V B i)
 (h4 : ∀ (a : Act) (w : World), Framed lo hi a0 a → (∃ D, (∀ i, i < sh.length → D i = true) ∧ B D w) → (∀ i, i < sh.length → V i (slotD (shAt sh i).2.1 a) w) → Q .normal a w) : (Code.region m ops true).wp P Q a0 w0 :=
 region_factsS hm h5 a0 w0 h6 V B hB h0 fun a w h1 _ h2 h3 => h4 a w h1 h2 h3
theorem op_val {Q : Exit → Act → World → Prop} {a : Act} (hr : (execOp a.eval o).run P w = .ok (.value v) w') {d : Nat} (hd : o.dst = some d) (h : B w' ∧ Vi v w' ∧ S w') :
 o.wp P a w (fun a' w' => ∃ v, a' = a.put o.dst v ∧ (o.dst = none → v = undef) ∧ B w' ∧ Vi v w' ∧ S w') Q := by
 unfold Oper.wp; rw [hr]; exact ⟨v, rfl, fun h => (by rw [hd] at h; cases h), h⟩
theorem op_skip {Q : Exit → Act → World → Prop} {a : Act} (hr : (execOp a.eval o).run P w = .ok .skip w') (h : B w' ∧ Vi undef w' ∧ S w') :
 o.wp P a w (fun a' w' => ∃ v, a' = a.put o.dst v ∧ (o.dst = none → v = undef) ∧ B w' ∧ Vi v w' ∧ S w') Q := by
 unfold Oper.wp; rw [hr]; exact ⟨undef, rfl, fun _ => rfl, h⟩
theorem op_call {Q : Exit → Act → World → Prop} {a : Act} {w1 : World} {f : FuncId} {args : Array Value} {Rr : Ending → World → Prop} (hr : (execOp a.eval o).run P w = .ok (.enter f args) w1) {d : Nat} (hd : o.dst = some d) (hc : Calls P f args w1 Rr)
 (h : ∀ e w', Rr e w' → ∃ v, e = .returned v ∧ B w' ∧ Vi v w' ∧ S w') : o.wp P a w (fun a' w' => ∃ v, a' = a.put o.dst v ∧ (o.dst = none → v = undef) ∧ B w' ∧ Vi v w' ∧ S w') Q := by
 unfold Oper.wp
 rw [hr]
 refine hc.mono fun e w' he => ?_
 obtain ⟨v, rfl, h1⟩ := h e w' he
 exact ⟨v, rfl, fun h => (by rw [hd] at h; cases h), h1⟩
theorem run_op_move {a : Act} (ho : o.op = .move x) (hx : a.eval x = v) (w : World) : (execOp a.eval o).run P w = .ok (.value v) w := by simp [execOp, ho, hx]
theorem run_op_nil {a : Act} {ad : Addr} (ho : o.op = .nilCheck x) (hx : a.eval x = .pointer (some ad)) (w : World) : (execOp a.eval o).run P w = .ok (.value (.pointer (some ad))) w := by simp only [execOp, ho, hx]; go_simp
theorem kq {V : Nat → Value → Prop} : ∀ j u, D j = true → V j u → V j u := fun _ _ _ q => q
theorem run_max_int (ats : Array TypeId) (ty : TypeId) (x y : Int) (w : World) : (Builtin.max_ ats ty #[.int .i64 x, .int .i64 y]).run P w = .ok (.int .i64 (if y > x then y else x)) w := by
 simp [Builtin.max_, Builtin.max2]
theorem run_min_int (ats : Array TypeId) (ty : TypeId) (x y : Int) (w : World) : (Builtin.min_ ats ty #[.int .i64 x, .int .i64 y]).run P w = .ok (.int .i64 (if y < x then y else x)) w := by
 simp [Builtin.min_, Builtin.min2]
theorem run_op_max {a : Act} {s t : Operand} {ats : Array TypeId} (ho : o.op = .call { callee := .builtin .max, args := #[s, t], argTypes := ats }) {x y : Int} (hx : a.eval s = .int .i64 x) (hy : a.eval t = .int .i64 y) (w : World) :
 (execOp a.eval o).run P w = .ok (.value (.int .i64 (if y > x then y else x))) w := by
 unfold execOp
 simp only [ho, resolve, invoke, builtin, Sem.run_bind, Sem.run_pure, Result.andThen_ok, List.map_toArray, List.map_cons, List.map_nil, hx, hy, run_max_int]
def rgf : Code → Nat → Option (Array Oper)
 | .region i ops _, n => if i = n then some ops else none
 | .seq a b, n => (rgf a n).orElse fun _ => rgf b n
 | .cond _ a b, n => (rgf a n).orElse fun _ => rgf b n
 | .block _ a, n => rgf a n
 | .loop a, n => rgf a n
 | .scope a, n => rgf a n
 | .rangeFunc _ _ a b, n => (rgf a n).orElse fun _ => rgf b n
 | _, _ => none
section
open Go.Deep
def recV : Rec → Value
 | .blank => .iface 218 (.agg #[])
 | .root D L G t f n => .iface 107 (.agg (rootA D L G t f n))
 | .filled => .iface 159 (.agg #[])
 | .shard l => .iface 200 (.agg (bts l).toArray)
theorem blk_range (h : BlkAt w b l) : w.rangeAt b 0 (bts l) := fun j v hv => by
 have : (blkA l)[j]? = some v := by unfold blkA; simpa using hv
 have h' : w.heap[b]? = some (.cells (blkA l) 240 (0, 0)) := h
 simp [World.cell?, h', this]
theorem blk_cell (h : BlkAt w b l) (i : Nat) (hi : i < l.length) : w.cell? ⟨b, i, none⟩ = some (.int .u8 ((l.getD i 0 : Nat) : Int)) := by
 have := blk_range h i (.int .u8 ((l.getD i 0 : Nat) : Int)) (by unfold bts; rw [List.getElem?_map, List.getElem?_eq_getElem hi, List.getD_eq_getElem?_getD, List.getElem?_eq_getElem hi]; rfl)
 rwa [Nat.zero_add] at this
theorem take_one (l : List Nat) (i : Nat) (h : i < l.length) : (l.drop i).take 1 = [l.getD i 0] := by
 rw [List.drop_eq_getElem_cons h, List.getD_eq_getElem?_getD, List.getElem?_eq_getElem h]; rfl
theorem prs_root (hl : l.length = 64) (h4 : l.getD 4 0 = 1) : prs l = .root (ofB ((l.drop 5).take 1)) (ofB (((l.drop 5).drop 1).take 1)) (ofB (((l.drop 5).drop 2).take 1)) (ofB (((l.drop 5).drop 3).take 8)) (ofB (((l.drop 5).drop 11).take 4)) (ofB (((l.drop 5).drop 15).take 4)) := by
 unfold prs
 rw [if_pos h4, List.drop_drop, List.drop_drop, List.drop_drop, List.drop_drop, List.drop_drop, take_one l 5 (by omega), take_one l (5 + 1) (by omega), take_one l (5 + 2) (by omega)]
theorem fold_ins : ∀ (l : List Value) (k : Nat) (z : Array Value), ((l.zipIdx k).foldl (fun cs x => cs.setIfInBounds x.2 x.1) z).size = z.size ∧ ∀ i, ((l.zipIdx k).foldl (fun cs x => cs.setIfInBounds x.2 x.1) z)[i]? = if k ≤ i ∧ i < k + l.length ∧ i < z.size then l[i - k]? else z[i]?
 | [], k, z => ⟨rfl, fun i => by
  show z[i]? = if k ≤ i ∧ i < k + 0 ∧ i < z.size then _ else z[i]?
  rw [if_neg (by omega)]⟩
 | v :: l, k, z => by
  obtain ⟨h1, h2⟩ := fold_ins l (k + 1) (z.setIfInBounds k v)
  rw [List.zipIdx_cons, List.foldl_cons]
  refine ⟨by rw [h1]; simp, fun i => ?_⟩
  rw [h2 i, Array.size_setIfInBounds, Array.getElem?_setIfInBounds]
  simp only [List.length_cons]
  by_cases e : k = i
  · subst e
    rw [if_neg (by omega), if_pos rfl]
    by_cases e2 : k < z.size
    · rw [if_pos e2, if_pos (by omega), Nat.sub_self]; rfl
    · rw [if_neg e2, if_neg (by omega)]
      simp [e2]
  · rw [if_neg e]
    by_cases e2 : k + 1 ≤ i ∧ i < k + 1 + l.length ∧ i < z.size
    · rw [if_pos e2, if_pos (by omega), show i - k = (i - (k + 1)) + 1 by omega]; rfl
    · rw [if_neg e2, if_neg (by omega)]
theorem build_one (z sa : Array Value) (n : Nat) (hz : z.size = n) (hs : sa.size = n) : Array.foldl (fun cs x => cs.setIfInBounds x.snd x.fst) z sa.zipIdx 0 n = sa := by
 have e : Array.foldl (fun cs x => cs.setIfInBounds x.snd x.fst) z sa.zipIdx 0 n = (sa.toList.zipIdx).foldl (fun cs x => cs.setIfInBounds x.2 x.1) z := by
  rw [← hs, show sa.size = sa.zipIdx.size by simp, ← Array.foldl_toList, Array.toList_zipIdx]
 rw [e]
 obtain ⟨h1, h2⟩ := fold_ins sa.toList 0 z
 apply Array.ext_getElem?
 intro i
 rw [h2 i]
 by_cases hi : i < n
 · rw [if_pos (by simp; omega)]
   simp
 · rw [if_neg (by omega)]
   simp [Array.getElem?_eq_none (show z.size ≤ i by omega), Array.getElem?_eq_none (show sa.size ≤ i by omega)]
theorem parse_any (l : List Nat) (w : World) (hl : l.length = 64) (hx : ∀ x ∈ l, x < 256) :
 Calls Tryz.prog 166 #[.agg (blkA l)] w fun e w' => e = .returned (recV (prs l)) ∧ Below w.heap.size w w' := by
 have hb := BlkAt.new w l
 have h5 : Below w.heap.size w (w.alloc (.cells (blkA l) 240)) := (Below.refl _ w).alloc (Nat.le_refl _) _
 have hz : (w.alloc (.cells (blkA l) 240)).heap.size = w.heap.size + 1 := by simp
 have hg : (blkA l).size = 64 := by rw [blkA_size, hl]
 obtain ⟨w1, hh⟩ : ∃ w1, w.alloc (.cells (blkA l) 240) = w1 := ⟨_, rfl⟩
 rw [hh] at hb h5 hz
 have c4 := blk_cell hb 4 (by omega)
 have h7 : w1.rangeAt w.heap.size 5 (bts (l.drop 5)) := by have := range_drop 5 (blk_range hb); rwa [Nat.zero_add] at this
 have h0 : w1.rangeAt w.heap.size 20 (bts (l.drop 20)) := by have := range_drop 20 (blk_range hb); rwa [Nat.zero_add] at this
 have h8 : ∀ x ∈ l.drop 5, x < 256 := fun x h => hx x (List.mem_of_mem_drop h)
 have h6 : (l.drop 5).length = 59 := by rw [List.length_drop, hl]
 have h4 : (l.drop 20).length = 44 := by rw [List.length_drop, hl]
 by_cases h1 : l.getD 4 0 = 1
 · have hp := prs_root hl h1
   rw [h1] at c4
   have hc := rootOf_any w.heap.size 5 (l.drop 5) w1 h6 h8 h7 (by omega)
   rw [h6] at hc
   rw [hp]
   obtain ⟨ra, h9⟩ : ∃ ra, rootA (ofB ((l.drop 5).take 1)) (ofB (((l.drop 5).drop 1).take 1)) (ofB (((l.drop 5).drop 2).take 1)) (ofB (((l.drop 5).drop 3).take 8)) (ofB (((l.drop 5).drop 11).take 4)) (ofB (((l.drop 5).drop 15).take 4)) = ra := ⟨_, rfl⟩
   rw [h9] at hc
   have HR := hide h9
   clear h9
   have H := hide2 h5 hz
   clear hp h0 h7 h8 h4 hx h6 h5 hz
   go_enter Tryz.func166, Tryz.ntmps166
   go_wp2_with fail
   refine hc.mono ?_
   rintro e w2 ⟨rfl, he⟩
   clear hc
   have H2 := hide he
   clear he
   go_wp2
   go_ret
   exact ⟨by rw [show recV (.root (ofB ((l.drop 5).take 1)) (ofB (((l.drop 5).drop 1).take 1)) (ofB (((l.drop 5).drop 2).take 1)) (ofB (((l.drop 5).drop 3).take 8)) (ofB (((l.drop 5).drop 11).take 4)) (ofB (((l.drop 5).drop 15).take 4))) = .iface 107 (.agg ra) from (by unfold recV; rw [← HR.out])]; rfl, H.out.1.trans (H2.out.mono (by have := H.out.2; omega))⟩
 · by_cases h2 : l.getD 4 0 = 2
   · have hp : prs l = .filled := by unfold prs; rw [if_neg h1, if_pos h2]
     rw [h2] at c4
     rw [hp]
     have H := hide2 h5 hz
     clear hp h0 h7 h8 h4 hx h6 h5 hz
     unfold recV
     go_enter Tryz.func166, Tryz.ntmps166
     go_wp2
     go_ret
     exact ⟨rfl, H.out.1⟩
   · by_cases h3 : l.getD 4 0 = 3
     · have hp : prs l = .shard (l.drop 20) := by unfold prs; rw [if_neg h1, if_neg h2, if_pos h3]
       rw [h3] at c4
       rw [hp]
       have H := hide4 h5 hz h0 h4
       clear hp h0 h7 h8 h4 hx h6 h5 hz
       have hj : ∀ (ad : Addr) (w : World), (Instr.arrayAt 198 (.slice (some ad) 44 44)).run Tryz.prog w = .ok (.pointer (some ad)) w := fun ad w => by simp [Instr.arrayAt, run_underlying Tryz.underlying198]
       have hf : (bts (l.drop 20)).toArray.size = 44 := by rw [List.size_toArray, bts_len]; exact H.out.2.2.2
       go_enter Tryz.func166, Tryz.ntmps166
       obtain ⟨sa, ha⟩ : ∃ sa, (bts (l.drop 20)).toArray = sa := ⟨_, rfl⟩
       rw [ha] at hf
       have HS := hide ha
       go_wp2_with (refine wpList_load_mid rfl 198 (.tmp 17) rfl w.heap.size 20 rfl (bts (l.drop 20)) _ H.out.2.2.1 Tryz.underlying198 rfl (by rw [bts_len, H.out.2.2.2]; kernel_rfl) ?_; rw [HS.out]; clear ha)
       have hi : ∀ z : Array Value, z.size = 44 → Array.foldl (fun cs x => cs.setIfInBounds x.snd x.fst) z sa.zipIdx 0 44 = sa := fun z hz => build_one z sa 44 hz hf
       rw [hi _ rfl]
       go_ret
       exact ⟨by rw [show recV (.shard (l.drop 20)) = .iface 200 (.agg sa) from (by unfold recV; rw [← HS.out])]; rfl, H.out.1⟩
     · have hp : prs l = .blank := by unfold prs; rw [if_neg h1, if_neg h2, if_neg h3]
       rw [hp]
       have H := hide2 h5 hz
       have n1 : ¬ ((l.getD 4 0 : Nat) : Int) = 1 := by omega
       have n2 : ¬ ((l.getD 4 0 : Nat) : Int) = 2 := by omega
       have n3 : ¬ ((l.getD 4 0 : Nat) : Int) = 3 := by omega
       clear hp h0 h7 h8 h4 hx h6 h5 hz
       generalize l.getD 4 0 = x at *
       unfold recV
       go_enter Tryz.func166, Tryz.ntmps166
       go_wp2
       go_ret
       exact ⟨rfl, H.out.1⟩
def spl (l : List Nat) (off : Nat) (src : List Nat) : List Nat := l.take off ++ (src ++ l.drop (off + src.length))
theorem spl_len (h : off + src.length ≤ l.length) : (spl l off src).length = l.length := by unfold spl; simp; omega
theorem blk_copy {n cap : Nat} (ty : TypeId) (hB : BlkAt w b l) (hS : Bs w v src) (h0 : src ≠ []) (hn : src.length ≤ n) (hf : off + src.length ≤ l.length) :
 (Builtin.copy_ #[31, 31] ty #[.slice (some ⟨b, off, none⟩) n cap, v]).run Tryz.prog w = .ok (.int .i64 (src.length : Nat)) (w.setRow b (blkA (spl l off src))) := by
 obtain ⟨ao, c, rfl, h1, h2, h3, h4⟩ := hS
 obtain ⟨g, o, rfl, hc⟩ := h4 h0
 have h5 := run_copy_row (P := Tryz.prog) w 31 31 ty 5 b off n cap ⟨g, o, none⟩ src.length c (blkA l) 240 (bts src) Tryz.underlying31 (by kernel_rfl) hB (by rw [bts_len]; exact (Nat.min_eq_left hn).symm) (fun j u hj => by
  have h6 : j < src.length := by obtain ⟨q, _⟩ := List.getElem?_eq_some_iff.1 hj; rwa [bts_len] at q
  rw [Addr.add_mid, hc j h6, ← hj]
  unfold bts
  rw [List.getElem?_map, List.getElem?_eq_getElem h6, List.getD_eq_getElem?_getD, List.getElem?_eq_getElem h6]; rfl) (by rw [bts_len, blkA_size]; exact hf) (fun u hu => by
  unfold bts at hu; rw [List.mem_map] at hu; obtain ⟨x, _, rfl⟩ := hu; rfl)
 rw [h5]
 have e : (List.take off (blkA l).toList ++ bts src ++ List.drop (off + (bts src).length) (blkA l).toList).toArray = blkA (spl l off src) := by
  rw [blkA_list, bts_len]
  unfold blkA spl
  rw [bts_append, bts_append, List.append_assoc]
  unfold bts
  rw [List.map_take, List.map_drop]
 simp only [List.append_assoc] at e ⊢
 rw [e, bts_len]
 rfl
noncomputable def RBk : Array Oper := ((Tryz.f140.body.bind (rgf · 5))).getD #[]
def shBk : List (Op × Option Nat × List Nat) := [(Op.slice 240 (.tmp 3) none (some (Operand.const (Value.int IntKind.i64 4))) none, some 13, []),
 (Op.slice 240 (.tmp 3) (some (Operand.const (Value.int IntKind.i64 4))) none none, some 14, []),
 (Op.call { callee := Callee.value (Operand.func 165), args := #[.tmp 14], argTypes := #[31] }, some 15, [1]),
 (Op.convert 286 105 (.tmp 15), some 16, [2]),
 (Op.call { callee := Callee.value (Operand.func 133), args := #[Operand.const (Value.slice none 0 0), .tmp 16, Operand.const (Value.int IntKind.i64 4)], argTypes := #[31, 105, 3] }, some 17, [3, 2]),
 (Op.call { callee := Callee.builtin Builtin.copy, args := #[.tmp 13, .tmp 17], argTypes := #[31, 31] }, some 18, [0, 4, 4])]
theorem RBk_shape : RegShape RBk 13 19 shBk := regShape (by kernel_rfl) (by kernel_rfl)
def VBk (w0 : World) (b c : Nat) (i : Nat) (u : Value) (w : World) : Prop := match i with
 | 0 => u = .slice (some ⟨b, 0, none⟩) 4 64
 | 1 => u = .slice (some ⟨b, 4, none⟩) 60 60
 | 2 => u = .int .u32 (c : Nat)
 | 3 => u = .int .u64 (c : Nat)
 | 4 => w.ownsRow w0.heap.size 5 1 u (0 + 4) (bts (be c 4))
 | _ => True
theorem VBk_keep (hb : b < w0.heap.size) (hk : ∀ k, k ≠ b → k < w.heap.size → w'.heap[k]? = w.heap[k]?) (hs : w.os = w'.os ∧ w.tape = w'.tape ∧ w.output = w'.output ∧ w.heap.size ≤ w'.heap.size) (i : Nat) (u : Value) (h : VBk w0 b c i u w) : VBk w0 b c i u w' := by
 match i with
 | 0 | 1 | 2 | 3 => exact h
 | 4 => exact World.ownsRow.kept h (row := some b) ⟨hs.1.symm, hs.2.1.symm, hs.2.2.1.symm, hs.2.2.2, fun k h0 h1 => hk k (fun e => h1 (by rw [e])) h0⟩ (.inr fun e => by have := (World.ownsRow.lt h b e).1; omega)
 | n + 5 => trivial
def BBk (w0 : World) (b c : Nat) (l : List Nat) (D : Nat → Bool) (w : World) : Prop := BlkAt w b (if D 5 = true then spl l 0 (be c 4) else l) ∧ Outside (fun k => k = b) w0 w
theorem BBk_upd (h : BBk w0 b c l D w) (i : Nat) (hi : i ≠ 5) (hw : Outside (fun _ => False) w w') : BBk w0 b c l (upd D i) w' := by
 refine ⟨?_, h.2.later hw (fun _ _ q => q.elim)⟩
 unfold upd
 rw [if_neg (fun e : 5 = i => hi e.symm)]
 exact h.1.keep (hw.block _ h.1.lt (fun q => q))
theorem hvLaid.out (h : hvLaid w) (hO : Outside (fun k => k = b) w w') (hb : b ≠ 2) : hvLaid w' := fun j hj => by
 have := h j hj
 rw [← this]
 exact World.cell?_of_block (hO.block _ (block_lt_of_cell this) (fun e => hb e.symm))
theorem block_region {Q : Exit → Act → World → Prop} {a : Act} (h7 : RBk = ops) (hB : BlkAt w b l) (hl : l.length = 64) (hx : ∀ x ∈ l, x < 256) (hv : hvLaid w) (hb : b ≠ 2) (hr : a.tmps.size = 20)
 (e3 : a.eval (.tmp 3) = .pointer (some ⟨b, 0, none⟩)) (hQ : ∀ (w' : World) (vs : List Value), vs.length = 6 → BlkAt w' b (spl l 0 (be (crc (l.drop 4)) 4)) → Outside (fun k => k = b) w w' → Q .normal (Act.putFrom a 13 vs) w') : (Code.region 5 ops true).wp Tryz.prog Q a w := by
 subst h7
 obtain ⟨c, hc⟩ : ∃ c, crc (l.drop 4) = c := ⟨_, rfl⟩
 have h4 : c < 4294967296 := hc ▸ crc_lt _
 rw [hc] at hQ
 have h8 := hB.lt
 refine region_facts (by kernel_rfl) RBk_shape a w (by omega) (VBk w b c) (BBk w b c l) ⟨hB, Outside.drew w⟩ ?_ ?_
 · intro i hi
   match i, hi with
   | 0, _ =>
    intro o a' w' D hg ho h0 hk h2 h4 h1 hB hV
    have u0 : a'.eval (.tmp 3) = .pointer (some ⟨b, 0, none⟩) := (hk.slot 3 (by omega)).trans e3
    exact op_val (v := .slice (some ⟨b, 0, none⟩) 4 64) (by simp only [execOp, show o.op = Op.slice 240 (.tmp 3) none (some (Operand.const (Value.int IntKind.i64 4))) none from ho, u0]; go_simp) h0 ⟨BBk_upd hB 0 (by decide) (Outside.refl _ _), rfl, kq⟩
   | 1, _ =>
    intro o a' w' D hg ho h0 hk h2 h4 h1 hB hV
    have u0 : a'.eval (.tmp 3) = .pointer (some ⟨b, 0, none⟩) := (hk.slot 3 (by omega)).trans e3
    exact op_val (v := .slice (some ⟨b, 4, none⟩) 60 60) (by simp only [execOp, show o.op = Op.slice 240 (.tmp 3) (some (Operand.const (Value.int IntKind.i64 4))) none none from ho, u0]; go_simp) h0 ⟨BBk_upd hB 1 (by decide) (Outside.refl _ _), rfl, kq⟩
   | 2, _ =>
    intro o a' w' D hg ho h0 hk h2 h4 h1 hB hV
    have u0 : a'.eval (.tmp 14) = .slice (some ⟨b, 4, none⟩) 60 60 := hV 1 (h1 1 (by decide))
    have he : D 5 = false := by
     cases q : D 5 with
     | false => rfl
     | true => have := (h4 5 q).2 4 (by decide); have := (h4 4 this).2 2 (by decide); rw [h2] at this; cases this
    have h6 : BlkAt w' b l := by have := hB.1; rw [if_neg (by rw [he]; decide)] at this; exact this
    have h9 : Bs w' (.slice (some ⟨b, 4, none⟩) (l.drop 4).length 60) (l.drop 4) := Bs.mid (by rw [List.length_drop, hl]; decide) (by rw [List.length_drop, hl]; decide) (fun x h => hx x (List.mem_of_mem_drop h)) (by have := range_drop 4 (blk_range h6); rwa [Nat.zero_add] at this)
    rw [show (l.drop 4).length = 60 by rw [List.length_drop, hl]] at h9
    refine op_call (f := 165) (args := #[.slice (some ⟨b, 4, none⟩) 60 60]) (w1 := w') (by simp only [execOp, show o.op = Op.call { callee := Callee.value (Operand.func 165), args := #[.tmp 14], argTypes := #[31] } from ho]; go_simp; simpa [Act.eval] using u0) h0 (sum_any _ (l.drop 4) w' h9 (hv.out hB.2 hb)) ?_
    rintro e w'' ⟨rfl, rfl⟩
    rw [hc]
    exact ⟨_, rfl, BBk_upd hB 2 (by decide) (Outside.refl _ _), rfl, kq⟩
   | 3, _ =>
    intro o a' w' D hg ho h0 hk h2 h5 h1 hB hV
    have u0 : a'.eval (.tmp 15) = .int .u32 (c : Nat) := hV 2 (h1 2 (by decide))
    exact op_val (v := .int .u64 (c : Nat)) (by simp only [execOp, show o.op = Op.convert 286 105 (.tmp 15) from ho, u0]; go_simp; rw [IntKind.wrap_u64]; omega) h0 ⟨BBk_upd hB 3 (by decide) (Outside.refl _ _), rfl, kq⟩
   | 4, _ =>
    intro o a' w' D hg ho h0 hk h2 h5 h1 hB hV
    have u0 : a'.eval (.tmp 16) = .int .u64 (c : Nat) := hV 3 (h1 3 (by decide))
    refine op_call (f := 133) (args := #[.slice none 0 0, .int .u64 (c : Nat), .int .i64 (4 : Nat)]) (w1 := w') (by simp only [execOp, show o.op = Op.call { callee := Callee.value (Operand.func 133), args := #[Operand.const (Value.slice none 0 0), .tmp 16, Operand.const (Value.int IntKind.i64 4)], argTypes := #[31, 105, 3] } from ho]; go_simp; simpa [Act.eval] using u0) h0 (append_num w.heap.size (.slice none 0 0) 0 [] c 4 w' (World.ownsRow_nil _ _ _ _) hB.2.size (by decide) (by decide)) ?_
    rintro e w'' ⟨v', rfl, hf, hh, hs⟩
    have h3 : Outside (fun _ => False) w' w'' := hh.mono (fun k _ q => by simp [Value.ownBlock] at q)
    refine ⟨v', rfl, BBk_upd hB 4 (by decide) h3, hf, fun j u hj q => VBk_keep h8 (fun k _ hk => h3.block k hk (fun q => q)) ⟨h3.os.symm, h3.tape.symm, h3.output.symm, h3.size⟩ j u q⟩
   | 5, _ =>
    intro o a' w' D hg ho h0 hk h2 h5 h1 hB hV
    have u0 : a'.eval (.tmp 13) = .slice (some ⟨b, 0, none⟩) 4 64 := hV 0 (h1 0 (by decide))
    have u1 : w'.ownsRow w.heap.size 5 1 (a'.eval (.tmp 17)) (0 + 4) (bts (be c 4)) := hV 4 (h1 4 (by decide))
    have h6 : BlkAt w' b l := by have := hB.1; rw [if_neg (by rw [h2]; decide)] at this; exact this
    have hm := blk_copy (n := 4) (cap := 64) (off := 0) o.type h6 (Bs.of_owns u1 (be_lt _ _) (by rw [be_len]; decide)) (by intro e; have := be_len c 4; rw [e] at this; cases this) (by rw [be_len]; decide) (by rw [be_len, hl]; decide)
    refine op_val (v := .int .i64 ((be c 4).length : Nat)) (w' := w'.setRow b (blkA (spl l 0 (be c 4)))) (by simp only [execOp, show o.op = Op.call { callee := Callee.builtin Builtin.copy, args := #[.tmp 13, .tmp 17], argTypes := #[31, 31] } from ho, resolve, invoke, builtin, Sem.run_bind, Sem.run_pure, Result.andThen_ok, List.map_toArray, List.map_cons, List.map_nil, u0, hm]) h0 ⟨⟨?_, hB.2.later (Outside.setRow (S := fun k => k = b) _ _ _ rfl) (fun _ _ q => q)⟩, trivial, fun j u hj q => VBk_keep h8 (fun k hp hk => (grown_setRow' _ _ _).block k hk (fun e => hp (by cases e; rfl))) ⟨rfl, rfl, rfl, by simp [World.setRow]⟩ j u q⟩
    show BlkAt _ b (if upd D 5 5 = true then _ else _)
    rw [if_pos (by unfold upd; rw [if_pos rfl])]
    exact h6.setRow _
   | n + 6, hn => exact absurd hn (by show ¬ n + 6 < 6; omega)
 · rintro a' w' hq ⟨D, hD, ha⟩ hV
   have e : a' = Act.putFrom a 13 ((List.range 6).map fun i => a'.eval (.tmp (13 + i))) := hq.out _ (by rw [List.length_map, List.length_range]) (by omega) (fun i hi => by
    rw [List.length_map, List.length_range] at hi
    rw [List.getD_eq_getElem?_getD, List.getElem?_map, List.getElem?_range hi]; rfl)
   rw [e]
   have := ha.1
   rw [if_pos (hD 5 (by decide))] at this
   exact hQ w' _ (by rw [List.length_map, List.length_range]) this ha.2
end
end Go.Proofs.YtpaemkanfnddoaaGreatDoor
