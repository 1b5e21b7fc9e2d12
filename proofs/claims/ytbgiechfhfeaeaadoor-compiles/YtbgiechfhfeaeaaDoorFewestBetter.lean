/-
  A better one is laid down: a region of fewest that draws its order, inside a round.
-/
import Derived.Test.YtbgiechfhfeaeaaDoorFewestRegion
namespace Go.Proofs.YtbgiechfhfeaeaaDoor
open Go.RowKit Go.Shelf Go.Deep Gf

noncomputable def RF11 : Array Oper := ((Tryd.f77.body.bind (rgv · 11))).getD #[]
theorem RF11_at : (List.range 4).map (fun i => (RF11[i]?).map fun o => (o.op, o.dst, o.guard)) = [
    some (.load 127 (.tmp 8), some 32, none), some (.load 3 (.tmp 9), some 33, none), some (.store 127 (.tmp 5) (.tmp 32), none, none), some (.store 3 (.tmp 6) (.tmp 33), none, none)] := by kernel_rfl
theorem RF11_op {i : Nat} {x : Op} {d : Option Nat} (hi : i < 4) (h : ((List.range 4).map (fun i => (RF11[i]?).map fun o => (o.op, o.dst, o.guard)))[i]? = some (some (x, d, none))) : ∃ o, RF11[i]? = some o ∧ o.op = x ∧ o.dst = d ∧ o.guard = none := by
  simp only [List.getElem?_map, List.getElem?_range hi, Option.map_some, Option.some.injEq, Option.map_eq_some_iff, Prod.mk.injEq] at h
  obtain ⟨o, h1, h2, h3, h4⟩ := h
  exact ⟨o, h1, h2, h3, h4⟩
def edF11 : Nat → List Nat
  | 2 => [0, 0]
  | 3 => [1, 2, 0, 1, 2]
  | _ => []
theorem RF11_size : RF11.size = 4 := by kernel_rfl
theorem RF11_ed : (List.range 4).map (fun i => (RF11[i]?).map fun o => (o.after.toList.filter (fun e => Region.binds .any e)).map (fun e => e.on)) = (List.range 4).map (fun i => some (edF11 i)) := by kernel_rfl
def F11I (a : Act) (w : World) (B5 B6 n : Nat) (C : Ck) (f : Nat) (listed : Array Bool) (a' : Act) (w' : World) : Prop :=
  Kept 32 34 a a' ∧ ((∃ b0 b1 b2 : Bool, listed = #[b0, b1, b2, false] ∧ f = 1 + (bn b0 + bn b1 + bn b2) ∧ (b2 = true → b0 = true) ∧ (b0 = true → a'.eval (.tmp 32) = .agg (ckA C)) ∧ (b1 = true → a'.eval (.tmp 33) = .int .i64 (n : Int)) ∧
      w' = (if b2 = true then w.drew.setRow B5 (ckA C) else w.drew)) ∨
    (f = 0 ∧ listed = #[true, true, true, true] ∧ w' = (w.drew.setRow B5 (ckA C)).setCell ⟨B6, 0, none⟩ (.int .i64 (n : Int))))
set_option maxRecDepth 100000 in
set_option maxHeartbeats 8000000 in
theorem few_better {l m : Nat} {ops : Array Oper} {Q : Exit → Act → World → Prop} {a : Act} {w : World} (B5 B6 B8 B9 n : Nat) (C C' : Ck) (v : Value) (hR : RF11 = ops) (sz : a.tmps.size = 35)
    (i5 : a.eval (.tmp 5) = .pointer (some ⟨B5, 0, none⟩)) (i6 : a.eval (.tmp 6) = .pointer (some ⟨B6, 0, none⟩)) (i8 : a.eval (.tmp 8) = .pointer (some ⟨B8, 0, none⟩)) (i9 : a.eval (.tmp 9) = .pointer (some ⟨B9, 0, none⟩))
    (h8 : CkAt w B8 C) (h9 : Bx w B9 (.int .i64 (n : Int))) (h5 : CkAt w B5 C') (h6 : Bx w B6 v) (n85 : B8 ≠ B5)
    (h : ∀ a', Kept 32 34 a a' → Q .normal a' ((w.drew.setRow B5 (ckA C)).setCell ⟨B6, 0, none⟩ (.int .i64 (n : Int)))) :
    (Code.region 11 ops true).wpIn (Fence.wide.inRound l) m Tryd.prog Q a w := by
  subst hR
  obtain ⟨p0, g0, x0, d0, k0⟩ := RF11_op (i := 0) (by decide) (by rw [RF11_at]; rfl)
  obtain ⟨p1, g1, x1, d1, k1⟩ := RF11_op (i := 1) (by decide) (by rw [RF11_at]; rfl)
  obtain ⟨p2, g2, x2, d2, k2⟩ := RF11_op (i := 2) (by decide) (by rw [RF11_at]; rfl)
  obtain ⟨p3, g3, x3, d3, k3⟩ := RF11_op (i := 3) (by decide) (by rw [RF11_at]; rfl)
  have hblk : ∀ (b2 : Bool) (k : Nat), k ≠ B5 → k < w.heap.size → (if b2 = true then w.drew.setRow B5 (ckA C) else w.drew).heap[k]? = w.heap[k]? := by
    intro b2 k hk hlt
    cases b2
    · rfl
    · exact (grown_setRow w.drew B5 (ckA C)).block k hlt (fun e => hk (by cases e; rfl))
  have n95 : B9 ≠ B5 := (ck_ne h5 h9).symm
  have n65 : B6 ≠ B5 := (ck_ne h5 h6).symm
  refine wpIn_region_any (by kernel_rfl) ?_
  rw [RF11_size]
  refine anyIn_inv (F11I a w B5 B6 n C) ?_ ?_ 4 _ a _ ⟨Kept.refl _ _ _, .inl ⟨false, false, false, rfl, rfl, fun h => (by cases h), fun h => (by cases h), fun h => (by cases h), rfl⟩⟩
  · rintro listed a' w' ⟨hk, ⟨b0, b1, b2, _, hf, _⟩ | ⟨_, rfl, rfl⟩⟩
    · omega
    · refine ⟨List.eq_nil_iff_forall_not_mem.2 fun j hj => ?_, h a' hk⟩
      obtain ⟨h1, h2, _⟩ := ready_out RF11_size RF11_ed hj
      have : j = 0 ∨ j = 1 ∨ j = 2 ∨ j = 3 := by omega
      rcases this with rfl | rfl | rfl | rfl <;> simp at h2
  · rintro f listed a' w' ⟨hk, ⟨b0, b1, b2, rfl, hf, h20, q0, q1, rfl⟩ | ⟨hf, _⟩⟩
    · constructor
      · intro hnil
        have hno : ∀ j, j ∉ Region.ready .any RF11 #[b0, b1, b2, false] := fun j => by rw [hnil]; simp
        have e0 : b0 = true := eq_true_of_ne_false fun e => hno 0 (ready_in RF11_size RF11_ed (by decide) (by simp [e]) (by simp [edF11]))
        have e1 : b1 = true := eq_true_of_ne_false fun e => hno 1 (ready_in RF11_size RF11_ed (by decide) (by simp [e]) (by simp [edF11]))
        have e2 : b2 = true := eq_true_of_ne_false fun e => hno 2 (ready_in RF11_size RF11_ed (by decide) (by simp [e]) (by simp [edF11, e0]))
        exact hno 3 (ready_in RF11_size RF11_ed (by decide) (by simp) (by simp [edF11, e0, e1, e2]))
      · intro j hj
        obtain ⟨h1, h2, h4⟩ := ready_out RF11_size RF11_ed hj
        clear hj
        have hj4 : j = 0 ∨ j = 1 ∨ j = 2 ∨ j = 3 := by omega
        rcases hj4 with rfl | rfl | rfl | rfl
        · have eb : b0 = false := by simpa using h2
          have s0 := (hk.slot 8 (by omega)).trans i8
          have hck := h8.keep (hblk b2 B8 n85 h8.lt)
          refine wpOpIn_step g0 fun K hK => opIn_val (v := .agg (ckA C)) (w' := if b2 = true then w.drew.setRow B5 (ckA C) else w.drew) k0 (by simp [Oper.about, x0]) (by rw [x0]; intro c hc; cases hc) (by simp [execOp, x0, s0, ck_loadAt hck, Result.andThen]) (hK _ _ ?_)
          rw [d0]
          exact ⟨hk.put 32 _ (by decide) (by decide), .inl ⟨true, b1, b2, rfl, by rw [bn_false eb] at hf; simp only [bn, if_true]; simp only [bn] at hf; omega, fun _ => rfl, fun _ => pt_same _ _ _ (by rw [hk.size, sz]; decide), fun e => (pt_other _ _ _ _ (by decide)).trans (q1 e), rfl⟩⟩
        · have eb : b1 = false := by simpa using h2
          have s0 := (hk.slot 9 (by omega)).trans i9
          have cs := (h9.keep (hblk b2 B9 n95 h9.lt)).cell
          refine wpOpIn_step g1 fun K hK => opIn_val (v := .int .i64 (n : Int)) (w' := if b2 = true then w.drew.setRow B5 (ckA C) else w.drew) k1 (by simp [Oper.about, x1]) (by rw [x1]; intro c hc; cases hc) (by generalize (if b2 = true then w.drew.setRow B5 (ckA C) else w.drew) = wz at cs ⊢; simp only [execOp, x1, s0]; go_simp) (hK _ _ ?_)
          rw [d1]
          exact ⟨hk.put 33 _ (by decide) (by decide), .inl ⟨b0, true, b2, rfl, by rw [bn_false eb] at hf; simp only [bn, if_true]; simp only [bn] at hf; omega, h20, fun e => (pt_other _ _ _ _ (by decide)).trans (q0 e), fun _ => pt_same _ _ _ (by rw [hk.size, sz]; decide), rfl⟩⟩
        · have eb : b2 = false := by simpa using h2
          have e0 : b0 = true := by have := h4 0 (by simp [edF11]); simpa using this
          subst eb e0
          have s32 := q0 rfl
          have s5 := (hk.slot 5 (by omega)).trans i5
          have hst := ck_storeAt C (show CkAt w.drew B5 C' from h5)
          refine wpOpIn_step g2 fun K hK => opIn_skip (w' := w.drew.setRow B5 (ckA C)) k2 (by simp [Oper.about, x2]) (by rw [x2]; intro c hc; cases hc) (by show (execOp a'.eval p2).run Tryd.prog w.drew = _; simp [execOp, x2, s5, s32, hst, Result.andThen]) (hK _ _ ?_)
          rw [d2]
          exact ⟨hk.none _, .inl ⟨true, b1, true, rfl, by simp only [bn, if_true] at hf ⊢; simp at hf ⊢; omega, fun _ => rfl, fun _ => s32, q1, rfl⟩⟩
        · have e1 : b1 = true := by have := h4 1 (by simp [edF11]); simpa using this
          have e2 : b2 = true := by have := h4 2 (by simp [edF11]); simpa using this
          subst e1 e2
          have e0 := h20 rfl
          subst e0
          have s33 := q1 rfl
          have s6 := (hk.slot 6 (by omega)).trans i6
          have h6' := h6.keep (hblk true B6 n65 h6.lt)
          have cc := h6'.cell
          have ff := h6'.frozen
          refine wpOpIn_step g3 fun K hK => opIn_skip (w' := (w.drew.setRow B5 (ckA C)).setCell ⟨B6, 0, none⟩ (.int .i64 (n : Int))) k3 (by simp [Oper.about, x3]) (by rw [x3]; intro c hc; cases hc) (by
            show (execOp a'.eval p3).run Tryd.prog (w.drew.setRow B5 (ckA C)) = _
            have cc' : (w.drew.setRow B5 (ckA C)).cell? ⟨B6, 0, none⟩ = some v := cc
            have ff' : (w.drew.setRow B5 (ckA C)).frozen? ⟨B6, 0, none⟩ = false := ff
            generalize w.drew.setRow B5 (ckA C) = wz at cc' ff' ⊢
            simp only [execOp, x3, s6, s33]; go_simp) (hK _ _ ?_)
          rw [d3]
          exact ⟨hk.none _, .inr ⟨by simp only [bn, if_true] at hf; omega, rfl, rfl⟩⟩
    · omega
end Go.Proofs.YtbgiechfhfeaeaaDoor
