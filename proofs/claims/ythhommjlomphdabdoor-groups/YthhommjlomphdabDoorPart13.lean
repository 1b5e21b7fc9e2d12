import Derived.Test.YthhommjlomphdabDoorVisit
/-
  Two regions of fewest that draw their order: the first best is laid down; a better one is.
-/
namespace Go.Proofs.YthhommjlomphdabDoor
open Go.RowKit Go.Shelf Go.Deep Gf

theorem ready_out {R : Array Oper} {n : Nat} {ed : Nat → List Nat} (hn : R.size = n) (he : (List.range n).map (fun i => (R[i]?).map fun o => (o.after.toList.filter (fun e => Region.binds .any e)).map (fun e => e.on)) = (List.range n).map (fun i => some (ed i)))
    {listed : Array Bool} {i : Nat} (h : i ∈ Region.ready .any R listed) : i < n ∧ listed.getD i true = false ∧ ∀ k ∈ ed i, listed.getD k false = true := by
  unfold Region.ready at h
  rw [List.mem_filter, hn, List.mem_range] at h
  obtain ⟨h1, h2⟩ := h
  rw [Bool.and_eq_true_iff] at h2
  refine ⟨h1, by simpa using h2.1, fun k hk => ?_⟩
  have he : (R[i]?).map (fun o => (o.after.toList.filter (fun e => Region.binds .any e)).map (fun e => e.on)) = some (ed i) := by
    have := congrArg (fun l => l[i]?) he
    simp only [List.getElem?_map, List.getElem?_range h1, Option.map_some, Option.some.injEq] at this
    exact this
  rw [Option.map_eq_some_iff] at he
  obtain ⟨o, ho, heq⟩ := he
  rw [ho] at h2
  have h3 := h2.2
  simp only [Option.map_some, Option.getD_some] at h3
  rw [← heq, List.mem_map] at hk
  obtain ⟨e, he, rfl⟩ := hk
  obtain ⟨m1, m2⟩ := List.mem_filter.1 he
  have := Array.all_eq_true'.1 h3 e (by simpa using m1)
  simpa [m2] using this
theorem ready_in {R : Array Oper} {n : Nat} {ed : Nat → List Nat} (hn : R.size = n) (he : (List.range n).map (fun i => (R[i]?).map fun o => (o.after.toList.filter (fun e => Region.binds .any e)).map (fun e => e.on)) = (List.range n).map (fun i => some (ed i)))
    {listed : Array Bool} {i : Nat} (h1 : i < n) (h2 : listed.getD i true = false) (h3 : ∀ k ∈ ed i, listed.getD k false = true) : i ∈ Region.ready .any R listed := by
  unfold Region.ready
  rw [List.mem_filter, hn, List.mem_range]
  refine ⟨h1, ?_⟩
  rw [Bool.and_eq_true_iff]
  refine ⟨by simpa using h2, ?_⟩
  have he : (R[i]?).map (fun o => (o.after.toList.filter (fun e => Region.binds .any e)).map (fun e => e.on)) = some (ed i) := by
    have := congrArg (fun l => l[i]?) he
    simp only [List.getElem?_map, List.getElem?_range h1, Option.map_some, Option.some.injEq] at this
    exact this
  rw [Option.map_eq_some_iff] at he
  obtain ⟨o, ho, heq⟩ := he
  rw [ho]
  simp only [Option.map_some, Option.getD_some]
  rw [Array.all_eq_true']
  intro e he
  by_cases hb : Region.binds .any e = true
  · have := h3 e.on (by rw [← heq]; exact List.mem_map.2 ⟨e, List.mem_filter.2 ⟨by simpa using he, hb⟩, rfl⟩)
    simp [this]
  · simp [hb]
/-- checks and a number do not lie in one block -/
theorem ck_ne {W : World} {B B' : Nat} {C : Ck} {v : Value} (h : CkAt W B C) (h' : Bx W B' v) : B ≠ B' := by
  rintro rfl
  obtain ⟨t, h'⟩ := h'
  have e := h.heap.symm.trans h'
  simp only [Option.some.injEq, Obj.cells.injEq] at e
  have := congrArg Array.size e.1
  rw [ckA_size] at this
  simp at this

/-! ### the first best -/
noncomputable def RF1 : Array Oper := ((Tryd.f29.body.bind (rgv · 1))).getD #[]
theorem RF1_at : (List.range 7).map (fun i => (RF1[i]?).map fun o => (o.op, o.dst, o.guard)) = [
    some (.load 68 (.tmp 2), some 11, none), some (.load 63 (.tmp 3), some 12, none), some (.call { callee := .value (.func 41), args := #[.tmp 12], argTypes := #[63] }, some 13, none),
    some (.alloc 68, some 5, none), some (.alloc 3, some 6, none), some (.store 68 (.tmp 5) (.tmp 11), none, none), some (.store 3 (.tmp 6) (.tmp 13), none, none)] := by kernel_rfl
theorem RF1_op {i : Nat} {x : Op} {d : Option Nat} (hi : i < 7) (h : ((List.range 7).map (fun i => (RF1[i]?).map fun o => (o.op, o.dst, o.guard)))[i]? = some (some (x, d, none))) : ∃ o, RF1[i]? = some o ∧ o.op = x ∧ o.dst = d ∧ o.guard = none := by
  simp only [List.getElem?_map, List.getElem?_range hi, Option.map_some, Option.some.injEq, Option.map_eq_some_iff, Prod.mk.injEq] at h
  obtain ⟨o, h1, h2, h3, h4⟩ := h
  exact ⟨o, h1, h2, h3, h4⟩
def edF1 : Nat → List Nat
  | 2 => [1]
  | 5 => [3, 0, 2, 0, 3, 4]
  | 6 => [4, 2, 5, 0, 1, 2, 3, 4, 5]
  | _ => []
theorem RF1_size : RF1.size = 7 := by kernel_rfl
theorem RF1_ed : (List.range 7).map (fun i => (RF1[i]?).map fun o => (o.after.toList.filter (fun e => Region.binds .any e)).map (fun e => e.on)) = (List.range 7).map (fun i => some (edF1 i)) := by kernel_rfl
def F1I (a : Act) (w : World) (kept : Nat) (C : Ck) (f : Nat) (listed : Array Bool) (a' : Act) (w' : World) : Prop :=
  Kept 5 14 a a' ∧ Below w.heap.size w w' ∧ ((∃ b0 b1 b2 b3 b4 : Bool, listed = #[b0, b1, b2, b3, b4, false, false] ∧ f = 2 + (bn b0 + bn b1 + bn b2 + bn b3 + bn b4) ∧ (b2 = true → b1 = true) ∧
      (b0 = true → a'.eval (.tmp 11) = .agg (ckA C)) ∧ (b1 = true → a'.eval (.tmp 12) = .int .u64 (kept : Int)) ∧ (b2 = true → a'.eval (.tmp 13) = .int .i64 ((mems kept).length : Nat)) ∧
      (b3 = true → ∃ B, a'.eval (.tmp 5) = .pointer (some ⟨B, 0, none⟩) ∧ w.heap.size ≤ B ∧ CkAt w' B ckZ) ∧ (b4 = true → ∃ B, a'.eval (.tmp 6) = .pointer (some ⟨B, 0, none⟩) ∧ w.heap.size ≤ B ∧ Bx w' B (.int .i64 0))) ∨
    (f = 1 ∧ listed = #[true, true, true, true, true, true, false] ∧ a'.eval (.tmp 13) = .int .i64 ((mems kept).length : Nat) ∧ ∃ B5 B6, a'.eval (.tmp 5) = .pointer (some ⟨B5, 0, none⟩) ∧ a'.eval (.tmp 6) = .pointer (some ⟨B6, 0, none⟩) ∧ w.heap.size ≤ B5 ∧ w.heap.size ≤ B6 ∧ CkAt w' B5 C ∧ Bx w' B6 (.int .i64 0)) ∨
    (f = 0 ∧ listed = #[true, true, true, true, true, true, true] ∧ ∃ B5 B6, a'.eval (.tmp 5) = .pointer (some ⟨B5, 0, none⟩) ∧ a'.eval (.tmp 6) = .pointer (some ⟨B6, 0, none⟩) ∧ w.heap.size ≤ B5 ∧ w.heap.size ≤ B6 ∧ CkAt w' B5 C ∧ Bx w' B6 (.int .i64 ((mems kept).length : Nat))))
set_option maxRecDepth 100000 in
set_option maxHeartbeats 8000000 in
theorem few_first {n : Nat} {ops : Array Oper} {Q : Exit → Act → World → Prop} {a : Act} {w : World} (B2 B3 kept : Nat) (C : Ck) (hR : RF1 = ops) (sz : a.tmps.size = 35) (hk16 : kept < 65536)
    (i2 : a.eval (.tmp 2) = .pointer (some ⟨B2, 0, none⟩)) (i3 : a.eval (.tmp 3) = .pointer (some ⟨B3, 0, none⟩)) (hck : CkAt w B2 C) (hset : Bx w B3 (.int .u64 (kept : Int)))
    (h : ∀ a' w' B5 B6, Kept 5 14 a a' → a'.eval (.tmp 5) = .pointer (some ⟨B5, 0, none⟩) → a'.eval (.tmp 6) = .pointer (some ⟨B6, 0, none⟩) → w.heap.size ≤ B5 → w.heap.size ≤ B6 → CkAt w' B5 C → Bx w' B6 (.int .i64 ((mems kept).length : Nat)) → Below w.heap.size w w' → Q .normal a' w') :
    (Code.region 1 ops true).wpIn Fence.wide n Tryd.prog Q a w := by
  subst hR
  have hbl := hck.lt
  have hbs := hset.lt
  obtain ⟨p0, g0, x0, d0, k0⟩ := RF1_op (i := 0) (by decide) (by rw [RF1_at]; rfl)
  obtain ⟨p1, g1, x1, d1, k1⟩ := RF1_op (i := 1) (by decide) (by rw [RF1_at]; rfl)
  obtain ⟨p2, g2, x2, d2, k2⟩ := RF1_op (i := 2) (by decide) (by rw [RF1_at]; rfl)
  obtain ⟨p3, g3, x3, d3, k3⟩ := RF1_op (i := 3) (by decide) (by rw [RF1_at]; rfl)
  obtain ⟨p4, g4, x4, d4, k4⟩ := RF1_op (i := 4) (by decide) (by rw [RF1_at]; rfl)
  obtain ⟨p5, g5, x5, d5, k5⟩ := RF1_op (i := 5) (by decide) (by rw [RF1_at]; rfl)
  obtain ⟨p6, g6, x6, d6, k6⟩ := RF1_op (i := 6) (by decide) (by rw [RF1_at]; rfl)
  refine wpIn_region_any (by kernel_rfl) ?_
  rw [RF1_size]
  refine anyIn_inv (F1I a w kept C) ?_ ?_ 7 _ a _ ⟨Kept.refl _ _ _, (Below.refl _ w).drew, .inl ⟨false, false, false, false, false, rfl, rfl, fun h => (by cases h), fun h => (by cases h), fun h => (by cases h), fun h => (by cases h), fun h => (by cases h), fun h => (by cases h)⟩⟩
  · rintro listed a' w' ⟨hk, hb, ⟨b0, b1, b2, b3, b4, _, hf, _⟩ | ⟨hf, _⟩ | ⟨_, rfl, B5, B6, e5, e6, l5, l6, c5, c6⟩⟩
    · omega
    · omega
    · refine ⟨List.eq_nil_iff_forall_not_mem.2 fun j hj => ?_, h a' w' B5 B6 hk e5 e6 l5 l6 c5 c6 hb⟩
      obtain ⟨h1, h2, _⟩ := ready_out RF1_size RF1_ed hj
      have : j = 0 ∨ j = 1 ∨ j = 2 ∨ j = 3 ∨ j = 4 ∨ j = 5 ∨ j = 6 := by omega
      rcases this with rfl | rfl | rfl | rfl | rfl | rfl | rfl <;> simp at h2
  · rintro f listed a' w' ⟨hk, hb, ⟨b0, b1, b2, b3, b4, rfl, hf, h21, q0, q1, q2, q3, q4⟩ | ⟨hf, rfl, s13, B5, B6, e5, e6, l5, l6, c5, c6⟩ | ⟨hf, _⟩⟩
    · constructor
      · intro hnil
        have hno : ∀ j, j ∉ Region.ready .any RF1 #[b0, b1, b2, b3, b4, false, false] := fun j => by rw [hnil]; simp
        have e0 : b0 = true := eq_true_of_ne_false fun e => hno 0 (ready_in RF1_size RF1_ed (by decide) (by simp [e]) (by simp [edF1]))
        have e1 : b1 = true := eq_true_of_ne_false fun e => hno 1 (ready_in RF1_size RF1_ed (by decide) (by simp [e]) (by simp [edF1]))
        have e2 : b2 = true := eq_true_of_ne_false fun e => hno 2 (ready_in RF1_size RF1_ed (by decide) (by simp [e]) (by simp [edF1, e1]))
        have e3 : b3 = true := eq_true_of_ne_false fun e => hno 3 (ready_in RF1_size RF1_ed (by decide) (by simp [e]) (by simp [edF1]))
        have e4 : b4 = true := eq_true_of_ne_false fun e => hno 4 (ready_in RF1_size RF1_ed (by decide) (by simp [e]) (by simp [edF1]))
        exact hno 5 (ready_in RF1_size RF1_ed (by decide) (by simp) (by simp [edF1, e0, e2, e3, e4]))
      · intro j hj
        obtain ⟨h1, h2, h4⟩ := ready_out RF1_size RF1_ed hj
        clear hj
        have hj7 : j = 0 ∨ j = 1 ∨ j = 2 ∨ j = 3 ∨ j = 4 ∨ j = 5 ∨ j = 6 := by omega
        rcases hj7 with rfl | rfl | rfl | rfl | rfl | rfl | rfl
        · have eb : b0 = false := by simpa using h2
          have s0 := (hk.slot 2 (by omega)).trans i2
          have hck' := hck.mono hb hbl
          refine wpOpIn_step g0 fun K hK => opIn_val (v := .agg (ckA C)) (w' := w') k0 (by simp [Oper.about, x0]) (by rw [x0]; intro c hc; cases hc) (by simp [execOp, x0, s0, ck_loadAt hck', Result.andThen]) (hK _ _ ?_)
          rw [d0]
          exact ⟨hk.put 11 _ (by decide) (by decide), hb, .inl ⟨true, b1, b2, b3, b4, rfl, by rw [bn_false eb] at hf; simp only [bn, if_true]; simp only [bn] at hf; omega, h21, fun _ => pt_same _ _ _ (by rw [hk.size, sz]; decide), fun e => (pt_other _ _ _ _ (by decide)).trans (q1 e), fun e => (pt_other _ _ _ _ (by decide)).trans (q2 e), fun e => (by obtain ⟨B, e1, e2⟩ := q3 e; exact ⟨B, (pt_other _ _ _ _ (by decide)).trans e1, e2⟩), fun e => (by obtain ⟨B, e1, e2⟩ := q4 e; exact ⟨B, (pt_other _ _ _ _ (by decide)).trans e1, e2⟩)⟩⟩
        · have eb : b1 = false := by simpa using h2
          have s0 := (hk.slot 3 (by omega)).trans i3
          have cs := (hset.keep (hb.block B3 hbs)).cell
          refine wpOpIn_step g1 fun K hK => opIn_val (v := .int .u64 (kept : Int)) (w' := w') k1 (by simp [Oper.about, x1]) (by rw [x1]; intro c hc; cases hc) (by simp only [execOp, x1, s0]; go_simp) (hK _ _ ?_)
          rw [d1]
          exact ⟨hk.put 12 _ (by decide) (by decide), hb, .inl ⟨b0, true, b2, b3, b4, rfl, by rw [bn_false eb] at hf; simp only [bn, if_true]; simp only [bn] at hf; omega, fun _ => rfl, fun e => (pt_other _ _ _ _ (by decide)).trans (q0 e), fun _ => pt_same _ _ _ (by rw [hk.size, sz]; decide), fun e => (pt_other _ _ _ _ (by decide)).trans (q2 e), fun e => (by obtain ⟨B, e1, e2⟩ := q3 e; exact ⟨B, (pt_other _ _ _ _ (by decide)).trans e1, e2⟩), fun e => (by obtain ⟨B, e1, e2⟩ := q4 e; exact ⟨B, (pt_other _ _ _ _ (by decide)).trans e1, e2⟩)⟩⟩
        · have eb : b2 = false := by simpa using h2
          have e1 : b1 = true := by have := h4 1 (by simp [edF1]); simpa using this
          have s0 := q1 e1
          refine wpOpIn_step g2 fun K hK => opIn_call (fun _ => trivial) rfl k2 (by rw [x2]; intro c hc; cases hc) (f := 41) (args := #[.int .u64 (kept : Int)]) (w' := w') (by have sf : a'.eval (.func 41) = .func (.func 41) #[] #[] := rfl; generalize a'.eval = ev at s0 sf ⊢; simp [execOp, x2, resolve, invoke, s0, sf, go_sem]) (callsIn_wide.2 (size_any kept hk16 _)) ?_
          rintro e w'' ⟨rfl, rfl⟩
          refine ⟨_, rfl, hK _ _ ?_⟩
          rw [d2]
          exact ⟨hk.put 13 _ (by decide) (by decide), hb, .inl ⟨b0, b1, true, b3, b4, rfl, by rw [bn_false eb] at hf; simp only [bn, if_true]; simp only [bn] at hf; omega, fun _ => e1, fun e => (pt_other _ _ _ _ (by decide)).trans (q0 e), fun e => (pt_other _ _ _ _ (by decide)).trans (q1 e), fun _ => pt_same _ _ _ (by rw [hk.size, sz]; decide), fun e => (by obtain ⟨B, e1, e2⟩ := q3 e; exact ⟨B, (pt_other _ _ _ _ (by decide)).trans e1, e2⟩), fun e => (by obtain ⟨B, e1, e2⟩ := q4 e; exact ⟨B, (pt_other _ _ _ _ (by decide)).trans e1, e2⟩)⟩⟩
        · have eb : b3 = false := by simpa using h2
          have hz := zeroCk w'
          refine wpOpIn_step g3 fun K hK => opIn_val (v := .pointer (some ⟨w'.heap.size, 0, none⟩)) (w' := w'.alloc (.cells (ckA ckZ) 68)) k3 (by simp [Oper.about, x3]) (by rw [x3]; intro c hc; cases hc) (by simp only [execOp, x3]; go_simp) (hK _ _ ?_)
          rw [d3]
          exact ⟨hk.put 5 _ (by decide) (by decide), hb.alloc hb.size _, .inl ⟨b0, b1, b2, true, b4, rfl, by rw [bn_false eb] at hf; simp only [bn, if_true]; simp only [bn] at hf; omega, h21, fun e => (pt_other _ _ _ _ (by decide)).trans (q0 e), fun e => (pt_other _ _ _ _ (by decide)).trans (q1 e), fun e => (pt_other _ _ _ _ (by decide)).trans (q2 e), fun _ => ⟨w'.heap.size, pt_same _ _ _ (by rw [hk.size, sz]; decide), hb.size, CkAt.new _ _⟩, fun e => (by obtain ⟨B, e1, e2, e3⟩ := q4 e; exact ⟨B, (pt_other _ _ _ _ (by decide)).trans e1, e2, e3.alloc _⟩)⟩⟩
        · have eb : b4 = false := by simpa using h2
          refine wpOpIn_step g4 fun K hK => opIn_val (v := .pointer (some ⟨w'.heap.size, 0, none⟩)) (w' := w'.alloc (.cells #[.int .i64 0] 3)) k4 (by simp [Oper.about, x4]) (by rw [x4]; intro c hc; cases hc) (by simp only [execOp, x4]; go_simp) (hK _ _ ?_)
          rw [d4]
          exact ⟨hk.put 6 _ (by decide) (by decide), hb.alloc hb.size _, .inl ⟨b0, b1, b2, b3, true, rfl, by rw [bn_false eb] at hf; simp only [bn, if_true]; simp only [bn] at hf; omega, h21, fun e => (pt_other _ _ _ _ (by decide)).trans (q0 e), fun e => (pt_other _ _ _ _ (by decide)).trans (q1 e), fun e => (pt_other _ _ _ _ (by decide)).trans (q2 e), fun e => (by obtain ⟨B, e1, e2, e3⟩ := q3 e; exact ⟨B, (pt_other _ _ _ _ (by decide)).trans e1, e2, e3.keep (Below.heap_alloc _ _ _ e3.lt)⟩), fun _ => ⟨w'.heap.size, pt_same _ _ _ (by rw [hk.size, sz]; decide), hb.size, Bx.new _ _ _⟩⟩⟩
        · have e0 : b0 = true := by have := h4 0 (by simp [edF1]); simpa using this
          have e2 : b2 = true := by have := h4 2 (by simp [edF1]); simpa using this
          have e3 : b3 = true := by have := h4 3 (by simp [edF1]); simpa using this
          have e4 : b4 = true := by have := h4 4 (by simp [edF1]); simpa using this
          have e1 := h21 e2
          subst e0 e1 e2 e3 e4
          have s11 := q0 rfl
          obtain ⟨B5, t5, l5, c5⟩ := q3 rfl
          obtain ⟨B6, t6, l6, c6⟩ := q4 rfl
          have hst := ck_storeAt C c5
          refine wpOpIn_step g5 fun K hK => opIn_skip (w' := w'.setRow B5 (ckA C)) k5 (by simp [Oper.about, x5]) (by rw [x5]; intro c hc; cases hc) (by simp [execOp, x5, t5, s11, hst, Result.andThen]) (hK _ _ ?_)
          rw [d5]
          have ne := ck_ne c5 c6
          exact ⟨hk.none _, hb.grown (grown_setRow _ _ _) hb.size (fun k e => by cases e; exact l5), .inr (.inl ⟨by simp only [bn, if_true] at hf; omega, rfl, q2 rfl, B5, B6, t5, t6, l5, l6, c5.setRow C, c6.keep ((grown_setRow w' B5 (ckA C)).block B6 c6.lt (fun e => ne (by cases e; rfl)))⟩)⟩
        · have := h4 5 (by simp [edF1])
          simp at this
    · constructor
      · intro hnil
        have : 6 ∈ Region.ready .any RF1 #[true, true, true, true, true, true, false] := ready_in RF1_size RF1_ed (by decide) (by simp) (by simp [edF1])
        rw [hnil] at this; cases this
      · intro j hj
        obtain ⟨h1, h2, _⟩ := ready_out RF1_size RF1_ed hj
        have : j = 6 := by
          have hj7 : j = 0 ∨ j = 1 ∨ j = 2 ∨ j = 3 ∨ j = 4 ∨ j = 5 ∨ j = 6 := by omega
          rcases hj7 with rfl | rfl | rfl | rfl | rfl | rfl | rfl <;> first | rfl | (simp at h2)
        subst this
        have cc := c6.cell
        have ff := c6.frozen
        refine wpOpIn_step g6 fun K hK => opIn_skip (w' := w'.setCell ⟨B6, 0, none⟩ (.int .i64 ((mems kept).length : Nat))) k6 (by simp [Oper.about, x6]) (by rw [x6]; intro c hc; cases hc) (by simp only [execOp, x6, e6, s13]; go_simp) (hK _ _ ?_)
        rw [d6]
        have ne := ck_ne c5 c6
        exact ⟨hk.none _, hb.setCell (p := ⟨B6, 0, none⟩) l6 _, .inr (.inr ⟨by omega, rfl, B5, B6, e5, e6, l5, l6, c5.keep (Below.heap_setCell _ _ _ _ ne), c6.set _⟩)⟩
    · omega
end Go.Proofs.YthhommjlomphdabDoor
/-
  A better one is laid down: a region of fewest that draws its order, inside a round.
-/
namespace Go.Proofs.YthhommjlomphdabDoor
open Go.RowKit Go.Shelf Go.Deep Gf

noncomputable def RF11 : Array Oper := ((Tryd.f29.body.bind (rgv · 11))).getD #[]
theorem RF11_at : (List.range 4).map (fun i => (RF11[i]?).map fun o => (o.op, o.dst, o.guard)) = [
    some (.load 68 (.tmp 8), some 32, none), some (.load 3 (.tmp 9), some 33, none), some (.store 68 (.tmp 5) (.tmp 32), none, none), some (.store 3 (.tmp 6) (.tmp 33), none, none)] := by kernel_rfl
theorem RF11_op {i : Nat} {x : Op} {d : Option Nat} (hi : i < 4) (h : ((List.range 4).map (fun i => (RF11[i]?).map fun o => (o.op, o.dst, o.guard)))[i]? = some (some (x, d, none))) : ∃ o, RF11[i]? = some o ∧ o.op = x ∧ o.dst = d ∧ o.guard = none := by
  simp only [List.getElem?_map, List.getElem?_range hi, Option.map_some, Option.some.injEq, Option.map_eq_some_iff, Prod.mk.injEq] at h
  obtain ⟨o, h1, h2, h3, h4⟩ := h
  exact ⟨o, h1, h2, h3, h4⟩
def edF11 : Nat → List Nat
  | 2 => [0, 0]
  | 3 => [1, 2, 0, 1, 2]
  | _ => []
theorem RF11_size : RF11.size = 4 := by kernel_rfl
theorem RF11_ed : (List.range 4).map (fun i => (RF11[i]?).map fun o => (o.after.toList.filter (fun e => Region.binds .any e)).map (fun e => e.on)) = (List.range 4).map (fun i => some (edF11 i)) := by kernel_rfl
def F11I (a : Act) (w : World) (B5 B6 n : Nat) (C : Ck) (f : Nat) (listed : Array Bool) (a' : Act) (w' : World) : Prop :=
  Kept 32 34 a a' ∧ ((∃ b0 b1 b2 : Bool, listed = #[b0, b1, b2, false] ∧ f = 1 + (bn b0 + bn b1 + bn b2) ∧ (b2 = true → b0 = true) ∧ (b0 = true → a'.eval (.tmp 32) = .agg (ckA C)) ∧ (b1 = true → a'.eval (.tmp 33) = .int .i64 (n : Int)) ∧
      w' = (if b2 = true then w.drew.setRow B5 (ckA C) else w.drew)) ∨
    (f = 0 ∧ listed = #[true, true, true, true] ∧ w' = (w.drew.setRow B5 (ckA C)).setCell ⟨B6, 0, none⟩ (.int .i64 (n : Int))))
set_option maxRecDepth 100000 in
set_option maxHeartbeats 8000000 in
theorem few_better {l m : Nat} {ops : Array Oper} {Q : Exit → Act → World → Prop} {a : Act} {w : World} (B5 B6 B8 B9 n : Nat) (C C' : Ck) (v : Value) (hR : RF11 = ops) (sz : a.tmps.size = 35)
    (i5 : a.eval (.tmp 5) = .pointer (some ⟨B5, 0, none⟩)) (i6 : a.eval (.tmp 6) = .pointer (some ⟨B6, 0, none⟩)) (i8 : a.eval (.tmp 8) = .pointer (some ⟨B8, 0, none⟩)) (i9 : a.eval (.tmp 9) = .pointer (some ⟨B9, 0, none⟩))
    (h8 : CkAt w B8 C) (h9 : Bx w B9 (.int .i64 (n : Int))) (h5 : CkAt w B5 C') (h6 : Bx w B6 v) (n85 : B8 ≠ B5)
    (h : ∀ a', Kept 32 34 a a' → Q .normal a' ((w.drew.setRow B5 (ckA C)).setCell ⟨B6, 0, none⟩ (.int .i64 (n : Int)))) :
    (Code.region 11 ops true).wpIn (Fence.wide.inRound l) m Tryd.prog Q a w := by
  subst hR
  obtain ⟨p0, g0, x0, d0, k0⟩ := RF11_op (i := 0) (by decide) (by rw [RF11_at]; rfl)
  obtain ⟨p1, g1, x1, d1, k1⟩ := RF11_op (i := 1) (by decide) (by rw [RF11_at]; rfl)
  obtain ⟨p2, g2, x2, d2, k2⟩ := RF11_op (i := 2) (by decide) (by rw [RF11_at]; rfl)
  obtain ⟨p3, g3, x3, d3, k3⟩ := RF11_op (i := 3) (by decide) (by rw [RF11_at]; rfl)
  have hblk : ∀ (b2 : Bool) (k : Nat), k ≠ B5 → k < w.heap.size → (if b2 = true then w.drew.setRow B5 (ckA C) else w.drew).heap[k]? = w.heap[k]? := by
    intro b2 k hk hlt
    cases b2
    · rfl
    · exact (grown_setRow w.drew B5 (ckA C)).block k hlt (fun e => hk (by cases e; rfl))
  have n95 : B9 ≠ B5 := (ck_ne h5 h9).symm
  have n65 : B6 ≠ B5 := (ck_ne h5 h6).symm
  refine wpIn_region_any (by kernel_rfl) ?_
  rw [RF11_size]
  refine anyIn_inv (F11I a w B5 B6 n C) ?_ ?_ 4 _ a _ ⟨Kept.refl _ _ _, .inl ⟨false, false, false, rfl, rfl, fun h => (by cases h), fun h => (by cases h), fun h => (by cases h), rfl⟩⟩
  · rintro listed a' w' ⟨hk, ⟨b0, b1, b2, _, hf, _⟩ | ⟨_, rfl, rfl⟩⟩
    · omega
    · refine ⟨List.eq_nil_iff_forall_not_mem.2 fun j hj => ?_, h a' hk⟩
      obtain ⟨h1, h2, _⟩ := ready_out RF11_size RF11_ed hj
      have : j = 0 ∨ j = 1 ∨ j = 2 ∨ j = 3 := by omega
      rcases this with rfl | rfl | rfl | rfl <;> simp at h2
  · rintro f listed a' w' ⟨hk, ⟨b0, b1, b2, rfl, hf, h20, q0, q1, rfl⟩ | ⟨hf, _⟩⟩
    · constructor
      · intro hnil
        have hno : ∀ j, j ∉ Region.ready .any RF11 #[b0, b1, b2, false] := fun j => by rw [hnil]; simp
        have e0 : b0 = true := eq_true_of_ne_false fun e => hno 0 (ready_in RF11_size RF11_ed (by decide) (by simp [e]) (by simp [edF11]))
        have e1 : b1 = true := eq_true_of_ne_false fun e => hno 1 (ready_in RF11_size RF11_ed (by decide) (by simp [e]) (by simp [edF11]))
        have e2 : b2 = true := eq_true_of_ne_false fun e => hno 2 (ready_in RF11_size RF11_ed (by decide) (by simp [e]) (by simp [edF11, e0]))
        exact hno 3 (ready_in RF11_size RF11_ed (by decide) (by simp) (by simp [edF11, e0, e1, e2]))
      · intro j hj
        obtain ⟨h1, h2, h4⟩ := ready_out RF11_size RF11_ed hj
        clear hj
        have hj4 : j = 0 ∨ j = 1 ∨ j = 2 ∨ j = 3 := by omega
        rcases hj4 with rfl | rfl | rfl | rfl
        · have eb : b0 = false := by simpa using h2
          have s0 := (hk.slot 8 (by omega)).trans i8
          have hck := h8.keep (hblk b2 B8 n85 h8.lt)
          refine wpOpIn_step g0 fun K hK => opIn_val (v := .agg (ckA C)) (w' := if b2 = true then w.drew.setRow B5 (ckA C) else w.drew) k0 (by simp [Oper.about, x0]) (by rw [x0]; intro c hc; cases hc) (by simp [execOp, x0, s0, ck_loadAt hck, Result.andThen]) (hK _ _ ?_)
          rw [d0]
          exact ⟨hk.put 32 _ (by decide) (by decide), .inl ⟨true, b1, b2, rfl, by rw [bn_false eb] at hf; simp only [bn, if_true]; simp only [bn] at hf; omega, fun _ => rfl, fun _ => pt_same _ _ _ (by rw [hk.size, sz]; decide), fun e => (pt_other _ _ _ _ (by decide)).trans (q1 e), rfl⟩⟩
        · have eb : b1 = false := by simpa using h2
          have s0 := (hk.slot 9 (by omega)).trans i9
          have cs := (h9.keep (hblk b2 B9 n95 h9.lt)).cell
          refine wpOpIn_step g1 fun K hK => opIn_val (v := .int .i64 (n : Int)) (w' := if b2 = true then w.drew.setRow B5 (ckA C) else w.drew) k1 (by simp [Oper.about, x1]) (by rw [x1]; intro c hc; cases hc) (by generalize (if b2 = true then w.drew.setRow B5 (ckA C) else w.drew) = wz at cs ⊢; simp only [execOp, x1, s0]; go_simp) (hK _ _ ?_)
          rw [d1]
          exact ⟨hk.put 33 _ (by decide) (by decide), .inl ⟨b0, true, b2, rfl, by rw [bn_false eb] at hf; simp only [bn, if_true]; simp only [bn] at hf; omega, h20, fun e => (pt_other _ _ _ _ (by decide)).trans (q0 e), fun _ => pt_same _ _ _ (by rw [hk.size, sz]; decide), rfl⟩⟩
        · have eb : b2 = false := by simpa using h2
          have e0 : b0 = true := by have := h4 0 (by simp [edF11]); simpa using this
          subst eb e0
          have s32 := q0 rfl
          have s5 := (hk.slot 5 (by omega)).trans i5
          have hst := ck_storeAt C (show CkAt w.drew B5 C' from h5)
          refine wpOpIn_step g2 fun K hK => opIn_skip (w' := w.drew.setRow B5 (ckA C)) k2 (by simp [Oper.about, x2]) (by rw [x2]; intro c hc; cases hc) (by show (execOp a'.eval p2).run Tryd.prog w.drew = _; simp [execOp, x2, s5, s32, hst, Result.andThen]) (hK _ _ ?_)
          rw [d2]
          exact ⟨hk.none _, .inl ⟨true, b1, true, rfl, by simp only [bn, if_true] at hf ⊢; simp at hf ⊢; omega, fun _ => rfl, fun _ => s32, q1, rfl⟩⟩
        · have e1 : b1 = true := by have := h4 1 (by simp [edF11]); simpa using this
          have e2 : b2 = true := by have := h4 2 (by simp [edF11]); simpa using this
          subst e1 e2
          have e0 := h20 rfl
          subst e0
          have s33 := q1 rfl
          have s6 := (hk.slot 6 (by omega)).trans i6
          have h6' := h6.keep (hblk true B6 n65 h6.lt)
          have cc := h6'.cell
          have ff := h6'.frozen
          refine wpOpIn_step g3 fun K hK => opIn_skip (w' := (w.drew.setRow B5 (ckA C)).setCell ⟨B6, 0, none⟩ (.int .i64 (n : Int))) k3 (by simp [Oper.about, x3]) (by rw [x3]; intro c hc; cases hc) (by
            show (execOp a'.eval p3).run Tryd.prog (w.drew.setRow B5 (ckA C)) = _
            have cc' : (w.drew.setRow B5 (ckA C)).cell? ⟨B6, 0, none⟩ = some v := cc
            have ff' : (w.drew.setRow B5 (ckA C)).frozen? ⟨B6, 0, none⟩ = false := ff
            generalize w.drew.setRow B5 (ckA C) = wz at cc' ff' ⊢
            simp only [execOp, x3, s6, s33]; go_simp) (hK _ _ ?_)
          rw [d3]
          exact ⟨hk.none _, .inr ⟨by simp only [bn, if_true] at hf; omega, rfl, rfl⟩⟩
    · omega
end Go.Proofs.YthhommjlomphdabDoor
