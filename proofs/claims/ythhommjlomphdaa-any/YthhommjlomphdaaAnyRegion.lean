/-
  One region of the law Any, which draws its order and holds a call.
-/
import Derived.Test.YthhommjlomphdaaDecodables
namespace Go.Proofs.Ythhommjlomphdaa
open Go.RowKit Go.Deep Gf

noncomputable def R16 : Array Oper := ((Try.f7.body.bind (rg · 16))).getD #[]
def mk6 (l : List Nat) : Array Bool := l.foldl (fun a i => a.setIfInBounds i true) (Array.replicate 6 false)
theorem R16_at : (List.range 6).map (fun i => (R16[i]?).map fun o => (o.op, o.dst, o.guard)) = [
    some (.load 32 (.tmp 3), some 54, none), some (.move (.tmp 10), some 55, none), some (.binOp .shl 33 (.const (.int .u64 1)) (.tmp 55) 3, some 56, none), some (.binOp .sub 33 (.tmp 56) (.const (.int .u64 1)) 33, some 57, none),
    some (.call { callee := .value (.func 18), args := #[.tmp 54, .tmp 57], argTypes := #[32, 33] }, some 58, none), some (.assign (.tmp 58), some 15, none)] := by kernel_rfl
theorem R16_op {i : Nat} {x : Op} {d : Option Nat} (hi : i < 6) (h : ((List.range 6).map (fun i => (R16[i]?).map fun o => (o.op, o.dst, o.guard)))[i]? = some (some (x, d, none))) : ∃ o, R16[i]? = some o ∧ o.op = x ∧ o.dst = d ∧ o.guard = none := by
  simp only [List.getElem?_map, List.getElem?_range hi, Option.map_some, Option.some.injEq, Option.map_eq_some_iff, Prod.mk.injEq] at h
  obtain ⟨o, h1, h2, h3, h4⟩ := h
  exact ⟨o, h1, h2, h3, h4⟩
theorem shl_run (N : Nat) (hN : N ≤ 16) {o : Oper} {a : Act} {y : Operand} (ho : o.op = .binOp .shl 33 (.const (.int .u64 1)) y 3) (hy : a.eval y = .int .i64 (N : Nat)) (w : World) :
    (execOp a.eval o).run Try.prog w = .ok (.value (.int .u64 (IntKind.u64.wrap (2 ^ N)))) w := by
  have hc : a.eval (.const (.int .u64 1)) = .int .u64 1 := rfl
  simp only [execOp, ho, hy, hc]
  go_simp
theorem sub_run (x z : Int) (hz : IntKind.u64.wrap (x - 1) = z) {o : Oper} {a : Act} {y : Operand} (ho : o.op = .binOp .sub 33 y (.const (.int .u64 1)) 33) (hy : a.eval y = .int .u64 x) (w : World) :
    (execOp a.eval o).run Try.prog w = .ok (.value (.int .u64 z)) w := by
  have hc : a.eval (.const (.int .u64 1)) = .int .u64 1 := rfl
  simp only [execOp, ho, hy, hc]
  go_simp
theorem loadParams_run (b : Nat) (D L G : Int) {o : Oper} {a : Act} {x : Operand} (ho : o.op = .load 32 x) (hx : a.eval x = .pointer (some ⟨b, 0, none⟩)) (w : World) (p0 : w.cell? ⟨b, 0, none⟩ = some (.int .i64 D)) (p1 : w.cell? ⟨b, 1, none⟩ = some (.int .i64 L)) (p2 : w.cell? ⟨b, 2, none⟩ = some (.int .i64 G)) :
    (execOp a.eval o).run Try.prog w = .ok (.value (.agg #[.int .i64 D, .int .i64 L, .int .i64 G])) w := by
  simp only [execOp, ho, hx]
  go_simp
theorem yields_assign {P : Program} {ops : Array Oper} {o : Oper} {a : Act} {x : Operand} {v : Value} (hg : o.guard = none) (ho : o.op = .assign x) (hx : a.eval x = v) : Yields P ops o v a :=
  .inl ⟨wanted_of hg, fun w => by simp [execOp, ho, hx]⟩
theorem call_run {t1 t2 : TypeId} {o : Oper} {a : Act} {x y : Operand} {vx vy : Value} (ho : o.op = .call { callee := .value (.func 18), args := #[x, y], argTypes := #[t1, t2] }) (hx : a.eval x = vx) (hy : a.eval y = vy) (w : World) :
    (execOp a.eval o).run Try.prog w = .ok (.enter 18 #[vx, vy]) w := by
  have hc : a.eval (.func 18) = .func (.func 18) #[] #[] := rfl
  generalize a.eval = ev at *
  subst hx hy
  simp only [execOp, ho, resolve, hc]
  go_simp
def act16 (a : Act) (D L G N A : Int) (b : Bool) : Act :=
  (((((a.put (some 55) (.int .i64 N)).put (some 56) (.int .u64 (IntKind.u64.wrap (2 ^ N.toNat)))).put (some 57) (.int .u64 A)).put (some 54) (.agg #[.int .i64 D, .int .i64 L, .int .i64 G])).put (some 58) (.bool b)).put (some 15) (.bool b)
set_option maxRecDepth 100000 in
set_option maxHeartbeats 1000000 in
theorem region16 {ops : Array Oper} {Q : Exit → Act → World → Prop} {a : Act} {w : World} (bp : Nat) (D L G : Int) (N A : Nat) (hR : R16 = ops) (hQ : ∀ c n v a w, Q (.panic c) (a.put (some n) v) w → Q (.panic c) a w)
    (hsz : a.tmps.size = 84) (h16 : N ≤ 16) (hA : IntKind.u64.wrap (IntKind.u64.wrap (2 ^ N) - 1) = (A : Int)) (e3 : a.eval (.tmp 3) = .pointer (some ⟨bp, 0, none⟩)) (e10 : a.eval (.tmp 10) = .int .i64 (N : Nat))
    (p0 : w.cell? ⟨bp, 0, none⟩ = some (.int .i64 D)) (p1 : w.cell? ⟨bp, 1, none⟩ = some (.int .i64 L)) (p2 : w.cell? ⟨bp, 2, none⟩ = some (.int .i64 G))
    (Pt : Bool → World → Prop) (hc : Calls Try.prog 18 #[.agg #[.int .i64 D, .int .i64 L, .int .i64 G], .int .u64 A] w.drew fun e w' => ∃ b : Bool, e = .returned (.bool b) ∧ Pt b w')
    (h : ∀ b w', Pt b w' → Q .normal (act16 a D L G N A b) w') : (Code.region 16 ops true).wp Try.prog Q a w := by
  subst hR
  obtain ⟨o0, g0, x0, d0, k0⟩ := R16_op (i := 0) (by decide) (by rw [R16_at]; rfl)
  obtain ⟨o1, g1, x1, d1, k1⟩ := R16_op (i := 1) (by decide) (by rw [R16_at]; rfl)
  obtain ⟨o2, g2, x2, d2, k2⟩ := R16_op (i := 2) (by decide) (by rw [R16_at]; rfl)
  obtain ⟨o3, g3, x3, d3, k3⟩ := R16_op (i := 3) (by decide) (by rw [R16_at]; rfl)
  obtain ⟨o4, g4, x4, d4, k4⟩ := R16_op (i := 4) (by decide) (by rw [R16_at]; rfl)
  obtain ⟨o5, g5, x5, d5, k5⟩ := R16_op (i := 5) (by decide) (by rw [R16_at]; rfl)
  have hsel : Region.noSelect R16 = true := by kernel_rfl
  have hsize : R16.size = 6 := by kernel_rfl
  refine wp_region_any (by kernel_rfl) ?_
  rw [hsize]
  change wpAny _ _ _ _ _ (mk6 []) _ (World.drew _)
  refine wpAny_take g1 hsel (by kernel_rfl) (by kernel_rfl) (fun c a w h => hQ c _ _ a w (by rw [d1] at h; exact h)) (yields_move k1 x1 e10) ?_
  rw [d1]
  refine wpAny_take g2 hsel (by kernel_rfl) (by kernel_rfl) (fun c a w h => hQ c _ _ a w (by rw [d2] at h; exact h)) (.inl ⟨wanted_of k2, shl_run N h16 x2 (put_same _ _ _ (by rw [hsz]; decide))⟩) ?_
  rw [d2]
  refine wpAny_take g3 hsel (by kernel_rfl) (by kernel_rfl) (fun c a w h => hQ c _ _ a w (by rw [d3] at h; exact h)) (.inl ⟨wanted_of k3, sub_run _ _ hA x3 (put_same _ _ _ (by rw [put_size, hsz]; decide))⟩) ?_
  rw [d3]
  refine wpAny_ready (rs := [0]) (by kernel_rfl) (by simp) ?_
  refine AllReady.cons g0 (fun K hK => ?_) AllReady.nil
  rw [if_pos (wanted_of k0)]
  unfold Oper.wp
  rw [loadParams_run bp D L G x0 (by rw [put_other _ _ _ _ (by decide), put_other _ _ _ _ (by decide), put_other _ _ _ _ (by decide)]; exact e3) w.drew p0 p1 p2, Oper.upon_value]
  refine hK _ _ ?_
  rw [d0]
  refine wpAny_ready (rs := [4]) (by kernel_rfl) (by simp) ?_
  refine AllReady.cons g4 (fun K hK => ?_) AllReady.nil
  rw [if_pos (wanted_of k4)]
  unfold Oper.wp
  rw [call_run (vy := .int .u64 A) x4 (put_same _ _ _ (by simp only [put_size, hsz]; decide)) ((put_other _ _ _ _ (by decide)).trans (put_same _ _ _ (by simp only [put_size, hsz]; decide))) w.drew, Oper.upon_enter]
  refine hc.mono ?_
  rintro e w' ⟨b, rfl, hP⟩
  refine hK _ _ ?_
  rw [d4]
  refine wpAny_take g5 hsel (by kernel_rfl) (by kernel_rfl) (fun c a w h => hQ c _ _ a w (by rw [d5] at h; exact h)) (yields_assign (v := .bool b) k5 x5 (put_same _ _ _ (by simp only [put_size, hsz]; decide))) ?_
  rw [d5]
  exact wpAny_done (by kernel_rfl) (h b w' hP) _
end Go.Proofs.Ythhommjlomphdaa
