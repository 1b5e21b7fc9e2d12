/-
  A region of visit that draws its order, inside a round: what the next call is handed is read, and it is called. By an invariant: which have been carried out.
-/
import Derived.Test.YthhommjlomphdabDoorPart11
import Derived.Test.YthhommjlomphdabDoorPart12
namespace Go.Proofs.YthhommjlomphdabDoor
open Go.RowKit Go.Shelf Go.Deep Gf

/-- an operation that yields a value -/
theorem opIn_val {F : Fence} {n : Nat} {P : Program} {ops : Array Oper} {o : Oper} {a : Act} {w w' : World} {K : Act → World → Prop} {Q : Exit → Act → World → Prop} {v : Value} (hg : o.guard = none) (hab : o.about P w a.eval = none) (hnd : ∀ c, o.op ≠ .defer c)
    (hr : (execOp a.eval o).run P w = .ok (.value v) w') (h : K (a.put o.dst v) w') : if Region.wanted o (yielded ops a.tmps) = true then Oper.wpIn F n P o a w K Q else (∀ f, o.about P w a.eval = some f → F.fn f) ∧ K (a.put o.dst undef) w := by
  rw [if_pos (pt_want hg)]
  unfold Oper.wpIn
  refine ⟨fun f hf => (by rw [hab] at hf; cases hf), ?_⟩
  rw [Oper.semAt_plain F _ _ hnd, hr]
  exact h
/-- one that leaves nothing -/
theorem opIn_skip {F : Fence} {n : Nat} {P : Program} {ops : Array Oper} {o : Oper} {a : Act} {w w' : World} {K : Act → World → Prop} {Q : Exit → Act → World → Prop} (hg : o.guard = none) (hab : o.about P w a.eval = none) (hnd : ∀ c, o.op ≠ .defer c)
    (hr : (execOp a.eval o).run P w = .ok .skip w') (h : K (a.put o.dst undef) w') : if Region.wanted o (yielded ops a.tmps) = true then Oper.wpIn F n P o a w K Q else (∀ f, o.about P w a.eval = some f → F.fn f) ∧ K (a.put o.dst undef) w := by
  rw [if_pos (pt_want hg)]
  unfold Oper.wpIn
  refine ⟨fun f hf => (by rw [hab] at hf; cases hf), ?_⟩
  rw [Oper.semAt_plain F _ _ hnd, hr]
  exact h
/-- a call -/
theorem opIn_call {F : Fence} {n : Nat} {P : Program} {ops : Array Oper} {o : Oper} {a : Act} {w w' : World} {K : Act → World → Prop} {Q : Exit → Act → World → Prop} {f : FuncId} {args : Array Value} {R : Ending → World → Prop} (hF : ∀ f, F.fn f) (hd : F.depth = none) (hg : o.guard = none) (hnd : ∀ c, o.op ≠ .defer c)
    (hr : (execOp a.eval o).run P w = .ok (.enter f args) w') (hc : CallsIn F (n - 1) P f args w' R) (h : ∀ e w'', R e w'' → ∃ v, e = .returned v ∧ K (a.put o.dst v) w'') : if Region.wanted o (yielded ops a.tmps) = true then Oper.wpIn F n P o a w K Q else (∀ f, o.about P w a.eval = some f → F.fn f) ∧ K (a.put o.dst undef) w := by
  rw [if_pos (pt_want hg)]
  unfold Oper.wpIn
  refine ⟨fun f _ => hF f, ?_⟩
  rw [Oper.semAt_plain F _ _ hnd, hr]
  refine ⟨fun h => (by rw [hd] at h; cases h), hc.mono fun e w'' he => ?_⟩
  obtain ⟨v, rfl, hk⟩ := h e w'' he
  exact hk

/-- a region of a body, that of a loop over a function too -/
def rgv : Code → Nat → Option (Array Oper)
  | .region i ops _, n => if i = n then some ops else none
  | .seq a b, n => (rgv a n).orElse fun _ => rgv b n
  | .cond _ a b, n => (rgv a n).orElse fun _ => rgv b n
  | .block _ a, n => rgv a n
  | .loop a, n => rgv a n
  | .scope a, n => rgv a n
  | .rangeFunc _ _ a b, n => (rgv a n).orElse fun _ => rgv b n
  | _, _ => none
noncomputable def RVis : Array Oper := ((Tryd.f59.body.bind (rgv · 8))).getD #[]
def mkVis (l : List Nat) : Array Bool := l.foldl (fun a i => a.setIfInBounds i true) (Array.replicate 9 false)
theorem RVis_at : (List.range 9).map (fun i => (RVis[i]?).map fun o => (o.op, o.dst, o.guard)) = [    some (.load 68 (.tmp 12), some 28, none),
    some (.load 63 (.tmp 6), some 29, none),
    some (.move (.tmp 11), some 30, none),
    some (.call { callee := .value (.func 64), args := #[.tmp 29, .tmp 30], argTypes := #[63, 3] }, some 31, none),
    some (.load 3 (.tmp 7), some 32, none),
    some (.load 94 (.tmp 8), some 33, none),
    some (.load 118 (.tmp 9), some 34, none),
    some (.call { callee := .value (.func 59), args := #[.tmp 28, .tmp 31, .tmp 32, .tmp 33, .tmp 34], argTypes := #[68, 63, 3, 94, 118] }, some 35, none),
    some (.unOp .not 4 (.tmp 35), some 36, none)] := by kernel_rfl
theorem RVis_op {i : Nat} {x : Op} {d : Option Nat} (hi : i < 9) (h : ((List.range 9).map (fun i => (RVis[i]?).map fun o => (o.op, o.dst, o.guard)))[i]? = some (some (x, d, none))) : ∃ o, RVis[i]? = some o ∧ o.op = x ∧ o.dst = d ∧ o.guard = none := by
  simp only [List.getElem?_map, List.getElem?_range hi, Option.map_some, Option.some.injEq, Option.map_eq_some_iff, Prod.mk.injEq] at h
  obtain ⟨o, h1, h2, h3, h4⟩ := h
  exact ⟨o, h1, h2, h3, h4⟩
/-- which operations wait for which -/
def edg : Nat → List Nat
  | 3 => [1, 2]
  | 7 => [0, 3, 4, 5, 6, 3]
  | 8 => [7]
  | _ => []
theorem RVis_edg : (List.range 9).map (fun i => (RVis[i]?).map fun o => (o.after.toList.filter (fun e => Region.binds .any e)).map (fun e => e.on)) = (List.range 9).map (fun i => some (edg i)) := by kernel_rfl
theorem vis_ready {listed : Array Bool} {i : Nat} (h : i ∈ Region.ready .any RVis listed) : i < 9 ∧ listed.getD i true = false ∧ ∀ k ∈ edg i, listed.getD k false = true := by
  have hsize : RVis.size = 9 := by kernel_rfl
  unfold Region.ready at h
  rw [List.mem_filter, hsize, List.mem_range] at h
  obtain ⟨h1, h2⟩ := h
  rw [Bool.and_eq_true_iff] at h2
  refine ⟨h1, by simpa using h2.1, fun k hk => ?_⟩
  have he : (RVis[i]?).map (fun o => (o.after.toList.filter (fun e => Region.binds .any e)).map (fun e => e.on)) = some (edg i) := by
    have := congrArg (fun l => l[i]?) RVis_edg
    simp only [List.getElem?_map, List.getElem?_range h1, Option.map_some, Option.some.injEq] at this
    exact this
  rw [Option.map_eq_some_iff] at he
  obtain ⟨o, ho, heq⟩ := he
  rw [ho] at h2
  have h3 := h2.2
  simp only [Option.map_some, Option.getD_some] at h3
  rw [← heq, List.mem_map] at hk
  obtain ⟨e, he, rfl⟩ := hk
  obtain ⟨m1, m2⟩ := List.mem_filter.1 he
  have := Array.all_eq_true'.1 h3 e (by simpa using m1)
  simpa [m2] using this
theorem ready_vis {listed : Array Bool} {i : Nat} (h1 : i < 9) (h2 : listed.getD i true = false) (h3 : ∀ k ∈ edg i, listed.getD k false = true) : i ∈ Region.ready .any RVis listed := by
  have hsize : RVis.size = 9 := by kernel_rfl
  unfold Region.ready
  rw [List.mem_filter, hsize, List.mem_range]
  refine ⟨h1, ?_⟩
  rw [Bool.and_eq_true_iff]
  refine ⟨by simpa using h2, ?_⟩
  have he : (RVis[i]?).map (fun o => (o.after.toList.filter (fun e => Region.binds .any e)).map (fun e => e.on)) = some (edg i) := by
    have := congrArg (fun l => l[i]?) RVis_edg
    simp only [List.getElem?_map, List.getElem?_range h1, Option.map_some, Option.some.injEq] at this
    exact this
  rw [Option.map_eq_some_iff] at he
  obtain ⟨o, ho, heq⟩ := he
  rw [ho]
  simp only [Option.map_some, Option.getD_some]
  rw [Array.all_eq_true']
  intro e he
  by_cases hb : Region.binds .any e = true
  · have := h3 e.on (by rw [← heq]; exact List.mem_map.2 ⟨e, List.mem_filter.2 ⟨by simpa using he, hb⟩, rfl⟩)
    simp [this]
  · simp [hb]
theorem anyIn_inv {F : Fence} {n : Nat} {P : Program} {ops : Array Oper} {Q : Exit → Act → World → Prop} (I : Nat → Array Bool → Act → World → Prop)
    (h0 : ∀ listed a w, I 0 listed a w → Region.ready .any ops listed = [] ∧ Q .normal a w)
    (hs : ∀ f listed a w, I (f + 1) listed a w → Region.ready .any ops listed ≠ [] ∧ ∀ i ∈ Region.ready .any ops listed, wpOpIn F n P ops Q i (I f (listed.setIfInBounds i true)) a w) :
    ∀ f listed a w, I f listed a w → wpAnyIn F n P .any ops Q f listed a w
  | 0, listed, a, w, h => h0 listed a w h
  | f + 1, listed, a, w, h => ⟨fun e => absurd e (hs f listed a w h).1, fun i hi => wpOpIn_mono (fun a' w' h' => anyIn_inv I h0 hs f _ a' w' h') ((hs f listed a w h).2 i hi)⟩
def bn (b : Bool) : Nat := if b = true then 0 else 1
/-- what holds between two operations: which have been carried out, and what they left -/
def VisI (a : Act) (w : World) (R : World → Prop) (i of q : Nat) (C : Ck) (vf vy : Value) (f : Nat) (listed : Array Bool) (a' : Act) (w' : World) : Prop :=
  Kept 28 37 a a' ∧ ((∃ b0 b1 b2 b3 b4 b5 b6 : Bool, listed = #[b0, b1, b2, b3, b4, b5, b6, false, false] ∧ f = 2 + (bn b0 + bn b1 + bn b2 + bn b3 + bn b4 + bn b5 + bn b6) ∧ (b3 = true → b1 = true ∧ b2 = true) ∧ w' = w.drew ∧
      (b0 = true → a'.eval (.tmp 28) = .agg (ckA C)) ∧ (b1 = true → a'.eval (.tmp 29) = .int .u64 (of : Int)) ∧ (b2 = true → a'.eval (.tmp 30) = .int .i64 (i : Int)) ∧ (b3 = true → a'.eval (.tmp 31) = .int .u64 (behindN of i : Nat)) ∧
      (b4 = true → a'.eval (.tmp 32) = .int .i64 (q : Int)) ∧ (b5 = true → a'.eval (.tmp 33) = vf) ∧ (b6 = true → a'.eval (.tmp 34) = vy)) ∨
    (f = 1 ∧ listed = #[true, true, true, true, true, true, true, true, false] ∧ a'.eval (.tmp 35) = .bool true ∧ R w') ∨
    (f = 0 ∧ listed = #[true, true, true, true, true, true, true, true, true] ∧ a'.eval (.tmp 36) = .bool false ∧ R w'))
theorem bn_false {b : Bool} (h : b = false) : bn b = 1 := by rw [h]; rfl
set_option maxRecDepth 100000 in
set_option maxHeartbeats 8000000 in
theorem vis_region {l n : Nat} {ops : Array Oper} {Q : Exit → Act → World → Prop} {a : Act} {w : World} (B12 B6 B7 B8 B9 i of q : Nat) (C : Ck) (vf vy : Value) (R : World → Prop) (hR : RVis = ops)
    (sz : a.tmps.size = 39) (hi : i < 16) (hof : of < 65536) (i12 : a.eval (.tmp 12) = .pointer (some ⟨B12, 0, none⟩)) (i6 : a.eval (.tmp 6) = .pointer (some ⟨B6, 0, none⟩)) (i11 : a.eval (.tmp 11) = .int .i64 (i : Int)) (i7 : a.eval (.tmp 7) = .pointer (some ⟨B7, 0, none⟩)) (i8 : a.eval (.tmp 8) = .pointer (some ⟨B8, 0, none⟩)) (i9 : a.eval (.tmp 9) = .pointer (some ⟨B9, 0, none⟩))
    (hck : CkAt w.drew B12 C) (c6 : w.drew.cell? ⟨B6, 0, none⟩ = some (.int .u64 (of : Int))) (c7 : w.drew.cell? ⟨B7, 0, none⟩ = some (.int .i64 (q : Int))) (c8 : w.drew.cell? ⟨B8, 0, none⟩ = some vf) (c9 : w.drew.cell? ⟨B9, 0, none⟩ = some vy)
    (hvis : ∀ m, CallsIn Fence.wide m Tryd.prog 59 #[.agg (ckA C), .int .u64 (behindN of i : Nat), .int .i64 (q : Int), vf, vy] w.drew fun e w'' => e = .returned (.bool true) ∧ R w'')
    (h : ∀ a' w'', Kept 28 37 a a' → a'.eval (.tmp 36) = .bool false → R w'' → Q .normal a' w'') : (Code.region 8 ops true).wpIn (Fence.wide.inRound l) n Tryd.prog Q a w := by
  subst hR
  obtain ⟨p0, g0, x0, d0, k0⟩ := RVis_op (i := 0) (by decide) (by rw [RVis_at]; rfl)
  obtain ⟨p1, g1, x1, d1, k1⟩ := RVis_op (i := 1) (by decide) (by rw [RVis_at]; rfl)
  obtain ⟨p2, g2, x2, d2, k2⟩ := RVis_op (i := 2) (by decide) (by rw [RVis_at]; rfl)
  obtain ⟨p3, g3, x3, d3, k3⟩ := RVis_op (i := 3) (by decide) (by rw [RVis_at]; rfl)
  obtain ⟨p4, g4, x4, d4, k4⟩ := RVis_op (i := 4) (by decide) (by rw [RVis_at]; rfl)
  obtain ⟨p5, g5, x5, d5, k5⟩ := RVis_op (i := 5) (by decide) (by rw [RVis_at]; rfl)
  obtain ⟨p6, g6, x6, d6, k6⟩ := RVis_op (i := 6) (by decide) (by rw [RVis_at]; rfl)
  obtain ⟨p7, g7, x7, d7, k7⟩ := RVis_op (i := 7) (by decide) (by rw [RVis_at]; rfl)
  obtain ⟨p8, g8, x8, d8, k8⟩ := RVis_op (i := 8) (by decide) (by rw [RVis_at]; rfl)
  have hsize : RVis.size = 9 := by kernel_rfl
  refine wpIn_region_any (by kernel_rfl) ?_
  rw [hsize]
  refine anyIn_inv (VisI a w R i of q C vf vy) ?_ ?_ 9 _ a _ ⟨Kept.refl _ _ _, .inl ⟨false, false, false, false, false, false, false, rfl, rfl, fun h => (by cases h), rfl, fun h => (by cases h), fun h => (by cases h), fun h => (by cases h), fun h => (by cases h), fun h => (by cases h), fun h => (by cases h), fun h => (by cases h)⟩⟩
  · rintro listed a' w' ⟨hk, ⟨b0, b1, b2, b3, b4, b5, b6, _, hf, _⟩ | ⟨hf, _⟩ | ⟨_, rfl, f36, hw⟩⟩
    · omega
    · omega
    · refine ⟨List.eq_nil_iff_forall_not_mem.2 fun j hj => ?_, h a' w' hk f36 hw⟩
      obtain ⟨h1, h2, _⟩ := vis_ready hj
      have : j = 0 ∨ j = 1 ∨ j = 2 ∨ j = 3 ∨ j = 4 ∨ j = 5 ∨ j = 6 ∨ j = 7 ∨ j = 8 := by omega
      rcases this with rfl | rfl | rfl | rfl | rfl | rfl | rfl | rfl | rfl <;> simp at h2
  · rintro f listed a' w' ⟨hk, ⟨b0, b1, b2, b3, b4, b5, b6, rfl, hf, h3, rfl, q0, q1, q2, q3, q4, q5, q6⟩ | ⟨hf, rfl, f35, hw⟩ | ⟨hf, _⟩⟩
    · constructor
      · -- something is ready
        intro hnil
        have hno : ∀ j, j ∉ Region.ready .any RVis #[b0, b1, b2, b3, b4, b5, b6, false, false] := fun j => by rw [hnil]; simp
        have e0 : b0 = true := eq_true_of_ne_false fun e => hno 0 (ready_vis (by decide) (by simp [e]) (by simp [edg]))
        have e1 : b1 = true := eq_true_of_ne_false fun e => hno 1 (ready_vis (by decide) (by simp [e]) (by simp [edg]))
        have e2 : b2 = true := eq_true_of_ne_false fun e => hno 2 (ready_vis (by decide) (by simp [e]) (by simp [edg]))
        have e3 : b3 = true := eq_true_of_ne_false fun e => hno 3 (ready_vis (by decide) (by simp [e]) (by simp [edg, e1, e2]))
        have e4 : b4 = true := eq_true_of_ne_false fun e => hno 4 (ready_vis (by decide) (by simp [e]) (by simp [edg]))
        have e5 : b5 = true := eq_true_of_ne_false fun e => hno 5 (ready_vis (by decide) (by simp [e]) (by simp [edg]))
        have e6 : b6 = true := eq_true_of_ne_false fun e => hno 6 (ready_vis (by decide) (by simp [e]) (by simp [edg]))
        exact hno 7 (ready_vis (by decide) (by simp) (by simp [edg, e0, e3, e4, e5, e6]))
      · intro j hj
        obtain ⟨h1, h2, h4⟩ := vis_ready hj
        clear hj
        have hj9 : j = 0 ∨ j = 1 ∨ j = 2 ∨ j = 3 ∨ j = 4 ∨ j = 5 ∨ j = 6 ∨ j = 7 ∨ j = 8 := by omega
        rcases hj9 with rfl | rfl | rfl | rfl | rfl | rfl | rfl | rfl | rfl
        · have eb : b0 = false := by simpa using h2
          have s0 := (hk.slot 12 (by omega)).trans i12
          refine wpOpIn_step g0 fun K hK => opIn_val (v := .agg (ckA C)) (w' := w.drew) k0 (by simp [Oper.about, x0]) (by rw [x0]; intro c hc; cases hc) (by simp [execOp, x0, s0, ck_loadAt hck, Result.andThen]) (hK _ _ ?_)
          rw [d0]
          exact ⟨hk.put 28 _ (by decide) (by decide), .inl ⟨true, b1, b2, b3, b4, b5, b6, rfl, by rw [bn_false eb] at hf; simp only [bn, if_true]; simp only [bn] at hf; omega, h3, rfl, fun _ => pt_same _ _ _ (by rw [hk.size, sz]; decide), fun e => (pt_other _ _ _ _ (by decide)).trans (q1 e), fun e => (pt_other _ _ _ _ (by decide)).trans (q2 e), fun e => (pt_other _ _ _ _ (by decide)).trans (q3 e), fun e => (pt_other _ _ _ _ (by decide)).trans (q4 e), fun e => (pt_other _ _ _ _ (by decide)).trans (q5 e), fun e => (pt_other _ _ _ _ (by decide)).trans (q6 e)⟩⟩
        · have eb : b1 = false := by simpa using h2
          have s0 := (hk.slot 6 (by omega)).trans i6
          refine wpOpIn_step g1 fun K hK => opIn_val (v := .int .u64 (of : Int)) (w' := w.drew) k1 (by simp [Oper.about, x1]) (by rw [x1]; intro c hc; cases hc) (by simp only [execOp, x1, s0]; go_simp) (hK _ _ ?_)
          rw [d1]
          exact ⟨hk.put 29 _ (by decide) (by decide), .inl ⟨b0, true, b2, b3, b4, b5, b6, rfl, by rw [bn_false eb] at hf; simp only [bn, if_true]; simp only [bn] at hf; omega, fun e => ⟨rfl, (h3 e).2⟩, rfl, fun e => (pt_other _ _ _ _ (by decide)).trans (q0 e), fun _ => pt_same _ _ _ (by rw [hk.size, sz]; decide), fun e => (pt_other _ _ _ _ (by decide)).trans (q2 e), fun e => (pt_other _ _ _ _ (by decide)).trans (q3 e), fun e => (pt_other _ _ _ _ (by decide)).trans (q4 e), fun e => (pt_other _ _ _ _ (by decide)).trans (q5 e), fun e => (pt_other _ _ _ _ (by decide)).trans (q6 e)⟩⟩
        · have eb : b2 = false := by simpa using h2
          have s0 := (hk.slot 11 (by omega)).trans i11
          refine wpOpIn_step g2 fun K hK => opIn_val (v := .int .i64 (i : Int)) (w' := w.drew) k2 (by simp [Oper.about, x2]) (by rw [x2]; intro c hc; cases hc) (by simp [execOp, x2, s0]) (hK _ _ ?_)
          rw [d2]
          exact ⟨hk.put 30 _ (by decide) (by decide), .inl ⟨b0, b1, true, b3, b4, b5, b6, rfl, by rw [bn_false eb] at hf; simp only [bn, if_true]; simp only [bn] at hf; omega, fun e => ⟨(h3 e).1, rfl⟩, rfl, fun e => (pt_other _ _ _ _ (by decide)).trans (q0 e), fun e => (pt_other _ _ _ _ (by decide)).trans (q1 e), fun _ => pt_same _ _ _ (by rw [hk.size, sz]; decide), fun e => (pt_other _ _ _ _ (by decide)).trans (q3 e), fun e => (pt_other _ _ _ _ (by decide)).trans (q4 e), fun e => (pt_other _ _ _ _ (by decide)).trans (q5 e), fun e => (pt_other _ _ _ _ (by decide)).trans (q6 e)⟩⟩
        · have eb : b3 = false := by simpa using h2
          have e1 : b1 = true := by have := h4 1 (by simp [edg]); simpa using this
          have e2 : b2 = true := by have := h4 2 (by simp [edg]); simpa using this
          have s0 := q1 e1
          have s1 := q2 e2
          refine wpOpIn_step g3 fun K hK => opIn_call (fun _ => trivial) rfl k3 (by rw [x3]; intro c hc; cases hc) (f := 64) (args := #[.int .u64 (of : Int), .int .i64 (i : Int)]) (w' := w.drew) (by have sf : a'.eval (.func 64) = .func (.func 64) #[] #[] := rfl; generalize a'.eval = ev at s0 s1 sf ⊢; simp [execOp, x3, resolve, invoke, s0, s1, sf, go_sem]) (CallsIn.inRound l (callsIn_wide.2 (behind_any of i hof hi _))) ?_
          rintro e w'' ⟨rfl, rfl⟩
          refine ⟨_, rfl, hK _ _ ?_⟩
          rw [d3]
          exact ⟨hk.put 31 _ (by decide) (by decide), .inl ⟨b0, b1, b2, true, b4, b5, b6, rfl, by rw [bn_false eb] at hf; simp only [bn, if_true]; simp only [bn] at hf; omega, fun _ => ⟨e1, e2⟩, rfl, fun e => (pt_other _ _ _ _ (by decide)).trans (q0 e), fun e => (pt_other _ _ _ _ (by decide)).trans (q1 e), fun e => (pt_other _ _ _ _ (by decide)).trans (q2 e), fun _ => pt_same _ _ _ (by rw [hk.size, sz]; decide), fun e => (pt_other _ _ _ _ (by decide)).trans (q4 e), fun e => (pt_other _ _ _ _ (by decide)).trans (q5 e), fun e => (pt_other _ _ _ _ (by decide)).trans (q6 e)⟩⟩
        · have eb : b4 = false := by simpa using h2
          have s0 := (hk.slot 7 (by omega)).trans i7
          refine wpOpIn_step g4 fun K hK => opIn_val (v := .int .i64 (q : Int)) (w' := w.drew) k4 (by simp [Oper.about, x4]) (by rw [x4]; intro c hc; cases hc) (by simp only [execOp, x4, s0]; go_simp) (hK _ _ ?_)
          rw [d4]
          exact ⟨hk.put 32 _ (by decide) (by decide), .inl ⟨b0, b1, b2, b3, true, b5, b6, rfl, by rw [bn_false eb] at hf; simp only [bn, if_true]; simp only [bn] at hf; omega, h3, rfl, fun e => (pt_other _ _ _ _ (by decide)).trans (q0 e), fun e => (pt_other _ _ _ _ (by decide)).trans (q1 e), fun e => (pt_other _ _ _ _ (by decide)).trans (q2 e), fun e => (pt_other _ _ _ _ (by decide)).trans (q3 e), fun _ => pt_same _ _ _ (by rw [hk.size, sz]; decide), fun e => (pt_other _ _ _ _ (by decide)).trans (q5 e), fun e => (pt_other _ _ _ _ (by decide)).trans (q6 e)⟩⟩
        · have eb : b5 = false := by simpa using h2
          have s0 := (hk.slot 8 (by omega)).trans i8
          refine wpOpIn_step g5 fun K hK => opIn_val (v := vf) (w' := w.drew) k5 (by simp [Oper.about, x5]) (by rw [x5]; intro c hc; cases hc) (by simp only [execOp, x5, s0]; go_simp) (hK _ _ ?_)
          rw [d5]
          exact ⟨hk.put 33 _ (by decide) (by decide), .inl ⟨b0, b1, b2, b3, b4, true, b6, rfl, by rw [bn_false eb] at hf; simp only [bn, if_true]; simp only [bn] at hf; omega, h3, rfl, fun e => (pt_other _ _ _ _ (by decide)).trans (q0 e), fun e => (pt_other _ _ _ _ (by decide)).trans (q1 e), fun e => (pt_other _ _ _ _ (by decide)).trans (q2 e), fun e => (pt_other _ _ _ _ (by decide)).trans (q3 e), fun e => (pt_other _ _ _ _ (by decide)).trans (q4 e), fun _ => pt_same _ _ _ (by rw [hk.size, sz]; decide), fun e => (pt_other _ _ _ _ (by decide)).trans (q6 e)⟩⟩
        · have eb : b6 = false := by simpa using h2
          have s0 := (hk.slot 9 (by omega)).trans i9
          refine wpOpIn_step g6 fun K hK => opIn_val (v := vy) (w' := w.drew) k6 (by simp [Oper.about, x6]) (by rw [x6]; intro c hc; cases hc) (by simp only [execOp, x6, s0]; go_simp) (hK _ _ ?_)
          rw [d6]
          exact ⟨hk.put 34 _ (by decide) (by decide), .inl ⟨b0, b1, b2, b3, b4, b5, true, rfl, by rw [bn_false eb] at hf; simp only [bn, if_true]; simp only [bn] at hf; omega, h3, rfl, fun e => (pt_other _ _ _ _ (by decide)).trans (q0 e), fun e => (pt_other _ _ _ _ (by decide)).trans (q1 e), fun e => (pt_other _ _ _ _ (by decide)).trans (q2 e), fun e => (pt_other _ _ _ _ (by decide)).trans (q3 e), fun e => (pt_other _ _ _ _ (by decide)).trans (q4 e), fun e => (pt_other _ _ _ _ (by decide)).trans (q5 e), fun _ => pt_same _ _ _ (by rw [hk.size, sz]; decide)⟩⟩
        · have e0 : b0 = true := by have := h4 0 (by simp [edg]); simpa using this
          have e3 : b3 = true := by have := h4 3 (by simp [edg]); simpa using this
          have e4 : b4 = true := by have := h4 4 (by simp [edg]); simpa using this
          have e5 : b5 = true := by have := h4 5 (by simp [edg]); simpa using this
          have e6 : b6 = true := by have := h4 6 (by simp [edg]); simpa using this
          obtain ⟨e1, e2⟩ := h3 e3
          subst e0 e1 e2 e3 e4 e5 e6
          have s0 := q0 rfl
          have s3 := q3 rfl
          have s4 := q4 rfl
          have s5 := q5 rfl
          have s6 := q6 rfl
          refine wpOpIn_step g7 fun K hK => opIn_call (fun _ => trivial) rfl k7 (by rw [x7]; intro c hc; cases hc) (f := 59) (args := #[.agg (ckA C), .int .u64 (behindN of i : Nat), .int .i64 (q : Int), vf, vy]) (w' := w.drew) (by have sf : a'.eval (.func 59) = .func (.func 59) #[] #[] := rfl; generalize a'.eval = ev at s0 s3 s4 s5 s6 sf ⊢; simp [execOp, x7, resolve, invoke, s0, s3, s4, s5, s6, sf, go_sem]) (CallsIn.inRound l (hvis _)) ?_
          rintro e w'' ⟨rfl, hw⟩
          refine ⟨_, rfl, hK _ _ ?_⟩
          rw [d7]
          exact ⟨hk.put 35 _ (by decide) (by decide), .inr (.inl ⟨by simp only [bn, if_true] at hf; omega, rfl, pt_same _ _ _ (by rw [hk.size, sz]; decide), hw⟩)⟩
        · have := h4 7 (by simp [edg])
          simp at this
    · constructor
      · intro hnil
        have : 8 ∈ Region.ready .any RVis #[true, true, true, true, true, true, true, true, false] := ready_vis (by decide) (by simp) (by simp [edg])
        rw [hnil] at this; cases this
      · intro j hj
        obtain ⟨h1, h2, _⟩ := vis_ready hj
        have : j = 8 := by
          have hj9 : j = 0 ∨ j = 1 ∨ j = 2 ∨ j = 3 ∨ j = 4 ∨ j = 5 ∨ j = 6 ∨ j = 7 ∨ j = 8 := by omega
          rcases hj9 with rfl | rfl | rfl | rfl | rfl | rfl | rfl | rfl | rfl <;> first | rfl | (simp at h2)
        subst this
        refine wpOpIn_step g8 fun K hK => opIn_val (v := .bool false) (w' := w') k8 (by simp [Oper.about, x8]) (by rw [x8]; intro c hc; cases hc) (by simp only [execOp, x8, f35]; go_simp) (hK _ _ ?_)
        rw [d8]
        exact ⟨hk.put 36 _ (by decide) (by decide), .inr (.inr ⟨by omega, rfl, pt_same _ _ _ (by rw [hk.size, sz]; decide), hw⟩)⟩
    · omega
end Go.Proofs.YthhommjlomphdabDoor
