/-
  The exchange of two rows of the grid: a region that draws its order, with two loads of a whole row.
-/
import Derived.Test.YthhommjlomphdaaTable
import Derived.WalkMore
import Derived.Deep.MidRow
namespace Go.Proofs.Ythhommjlomphdaa
open Go.RowKit Go.Deep Gf

theorem put_same (a : Act) (i : Nat) (v : Value) (h : i < a.tmps.size) : (a.put (some i) v).eval (.tmp i) = v := by simp [Act.put, Act.eval, h]
theorem put_other (a : Act) (i j : Nat) (v : Value) (h : i ≠ j) : (a.put (some i) v).eval (.tmp j) = a.eval (.tmp j) := by
  simp [Act.put, Act.eval, Array.getD_eq_getD_getElem?, h]
theorem put_size (a : Act) (d : Option Nat) (v : Value) : (a.put d v).tmps.size = a.tmps.size := by
  cases d <;> simp [Act.put]
theorem put_comm (a : Act) (i j : Nat) (v u : Value) (h : i ≠ j) : (a.put (some i) v).put (some j) u = (a.put (some j) u).put (some i) v := by
  simp only [Act.put]
  rw [Array.setIfInBounds_comm _ _ h]
theorem wanted_of {ops : Array Oper} {o : Oper} {a : Act} (hg : o.guard = none) : Region.wanted o (yielded ops a.tmps) = true := by simp [Region.wanted, hg]
theorem yields_move {P : Program} {ops : Array Oper} {o : Oper} {a : Act} {x : Operand} {v : Value} (hg : o.guard = none) (ho : o.op = .move x) (hx : a.eval x = v) : Yields P ops o v a :=
  .inl ⟨wanted_of hg, fun w => by simp [execOp, ho, hx]⟩

def rg : Code → Nat → Option (Array Oper)
  | .region i ops _, n => if i = n then some ops else none
  | .seq a b, n => (rg a n).orElse fun _ => rg b n
  | .cond _ a b, n => (rg a n).orElse fun _ => rg b n
  | .block _ a, n => rg a n
  | .loop a, n => rg a n
  | .scope a, n => rg a n
  | _, _ => none
noncomputable def R12 : Array Oper := ((Try.f25.body.bind (rg · 12))).getD #[]
def mk12 (l : List Nat) : Array Bool := l.foldl (fun a i => a.setIfInBounds i true) (Array.replicate 12 false)
theorem R12_at : (List.range 12).map (fun i => (R12[i]?).map fun o => (o.op, o.dst, o.guard)) = [
    some (.move (.tmp 4), some 28, none), some (.move (.tmp 6), some 29, none), some (.move (.tmp 6), some 30, none), some (.indexAddr 50 (.tmp 3) (.tmp 30), some 31, none),
    some (.load 48 (.tmp 31), some 32, none), some (.move (.tmp 4), some 33, none), some (.indexAddr 50 (.tmp 3) (.tmp 33), some 34, none), some (.load 48 (.tmp 34), some 35, none),
    some (.indexAddr 50 (.tmp 3) (.tmp 28), some 36, none), some (.store 48 (.tmp 36) (.tmp 32), none, none), some (.indexAddr 50 (.tmp 3) (.tmp 29), some 37, none), some (.store 48 (.tmp 37) (.tmp 35), none, none)] := by kernel_rfl
theorem R12_op {i : Nat} {x : Op} {d : Option Nat} (hi : i < 12) (h : ((List.range 12).map (fun i => (R12[i]?).map fun o => (o.op, o.dst, o.guard)))[i]? = some (some (x, d, none))) : ∃ o, R12[i]? = some o ∧ o.op = x ∧ o.dst = d ∧ o.guard = none := by
  simp only [List.getElem?_map, List.getElem?_range hi, Option.map_some, Option.some.injEq, Option.map_eq_some_iff, Prod.mk.injEq] at h
  obtain ⟨o, h1, h2, h3, h4⟩ := h
  exact ⟨o, h1, h2, h3, h4⟩
theorem idx_grid (gb p : Nat) (hp : p < 64) {o : Oper} {a : Act} {x y : Operand} (ho : o.op = .indexAddr 50 x y) (hx : a.eval x = .pointer (some ⟨gb, 0, none⟩)) (hy : a.eval y = .int .i64 (p : Nat)) (w : World) :
    (execOp a.eval o).run Try.prog w = .ok (.value (.pointer (some ⟨gb, p * 64, none⟩))) w := by
  have h1 : (p : Int) < 64 := by omega
  simp only [execOp, ho, hx, hy]
  go_simp
theorem Try.sizeRow : (Try.prog.info? 48).map (fun i => i.size) = some 64 := by kernel_rfl
/-- the frame behind it -/
def act12 (a : Act) (gb p r : Nat) (cp cr : List Value) : Act :=
  ((((((((((a.put (some 28) (.int .i64 (r : Nat))).put (some 29) (.int .i64 (p : Nat))).put (some 30) (.int .i64 (p : Nat))).put (some 33) (.int .i64 (r : Nat))).put (some 31) (.pointer (some ⟨gb, p * 64, none⟩))).put (some 34) (.pointer (some ⟨gb, r * 64, none⟩))).put (some 32) (.agg cp.toArray)).put (some 35) (.agg cr.toArray)).put (some 36) (.pointer (some ⟨gb, r * 64, none⟩))).put none undef).put (some 37) (.pointer (some ⟨gb, p * 64, none⟩)) |>.put none undef
set_option maxRecDepth 100000 in
set_option maxHeartbeats 1000000 in
theorem exchange {ops : Array Oper} {Q : Exit → Act → World → Prop} {a : Act} {w : World} (gb p r : Nat) (cp cr : List Value) (hR : R12 = ops) (hQ : ∀ c n v a w, Q (.panic c) (a.put (some n) v) w → Q (.panic c) a w)
    (hsz : a.tmps.size = 47) (hp : p < 64) (hr : r < 64) (e3 : a.eval (.tmp 3) = .pointer (some ⟨gb, 0, none⟩)) (e4 : a.eval (.tmp 4) = .int .i64 (r : Nat)) (e6 : a.eval (.tmp 6) = .int .i64 (p : Nat))
    (lp : cp.length = 64) (lr : cr.length = 64) (op : cp.toArray.all (fun v => v.oneCell') = true) (or : cr.toArray.all (fun v => v.oneCell') = true)
    (gp : w.drew.rangeAt gb (p * 64) cp) (gr : w.drew.rangeAt gb (r * 64) cr) (tr : w.drew.there gb (r * 64) 64) (tp : w.drew.there gb (p * 64) 64)
    (h : Q .normal (act12 a gb p r cp cr) ((w.drew.setCells gb (r * 64) cp).setCells gb (p * 64) cr)) : (Code.region 12 ops true).wp Try.prog Q a w := by
  subst hR
  obtain ⟨o0, g0, x0, d0, k0⟩ := R12_op (i := 0) (by decide) (by rw [R12_at]; rfl)
  obtain ⟨o1, g1, x1, d1, k1⟩ := R12_op (i := 1) (by decide) (by rw [R12_at]; rfl)
  obtain ⟨o2, g2, x2, d2, k2⟩ := R12_op (i := 2) (by decide) (by rw [R12_at]; rfl)
  obtain ⟨o3, g3, x3, d3, k3⟩ := R12_op (i := 3) (by decide) (by rw [R12_at]; rfl)
  obtain ⟨o4, g4, x4, d4, k4⟩ := R12_op (i := 4) (by decide) (by rw [R12_at]; rfl)
  obtain ⟨o5, g5, x5, d5, k5⟩ := R12_op (i := 5) (by decide) (by rw [R12_at]; rfl)
  obtain ⟨o6, g6, x6, d6, k6⟩ := R12_op (i := 6) (by decide) (by rw [R12_at]; rfl)
  obtain ⟨o7, g7, x7, d7, k7⟩ := R12_op (i := 7) (by decide) (by rw [R12_at]; rfl)
  obtain ⟨o8, g8, x8, d8, k8⟩ := R12_op (i := 8) (by decide) (by rw [R12_at]; rfl)
  obtain ⟨o9, g9, x9, d9, k9⟩ := R12_op (i := 9) (by decide) (by rw [R12_at]; rfl)
  obtain ⟨o10, g10, x10, d10, k10⟩ := R12_op (i := 10) (by decide) (by rw [R12_at]; rfl)
  obtain ⟨o11, g11, x11, d11, k11⟩ := R12_op (i := 11) (by decide) (by rw [R12_at]; rfl)
  have hsel : Region.noSelect R12 = true := by kernel_rfl
  have hsize : R12.size = 12 := by kernel_rfl
  refine wp_region_any (by kernel_rfl) ?_
  rw [hsize]
  change wpAny _ _ _ _ _ (mk12 []) _ (World.drew _)
  -- what yields in whatever world
  refine wpAny_take g0 hsel (by kernel_rfl) (by kernel_rfl) (fun c a w h => hQ c _ _ a w (by rw [d0] at h; exact h)) (yields_move k0 x0 e4) ?_
  rw [d0]
  refine wpAny_take g1 hsel (by kernel_rfl) (by kernel_rfl) (fun c a w h => hQ c _ _ a w (by rw [d1] at h; exact h)) (yields_move (v := .int .i64 (p : Nat)) k1 x1 (by rw [put_other _ _ _ _ (by decide)]; exact e6)) ?_
  rw [d1]
  refine wpAny_take g2 hsel (by kernel_rfl) (by kernel_rfl) (fun c a w h => hQ c _ _ a w (by rw [d2] at h; exact h)) (yields_move (v := .int .i64 (p : Nat)) k2 x2 (by rw [put_other _ _ _ _ (by decide), put_other _ _ _ _ (by decide)]; exact e6)) ?_
  rw [d2]
  refine wpAny_take g5 hsel (by kernel_rfl) (by kernel_rfl) (fun c a w h => hQ c _ _ a w (by rw [d5] at h; exact h)) (yields_move (v := .int .i64 (r : Nat)) k5 x5 (by rw [put_other _ _ _ _ (by decide), put_other _ _ _ _ (by decide), put_other _ _ _ _ (by decide)]; exact e4)) ?_
  rw [d5]
  generalize hb : (((a.put (some 28) (.int .i64 (r : Nat))).put (some 29) (.int .i64 (p : Nat))).put (some 30) (.int .i64 (p : Nat))).put (some 33) (.int .i64 (r : Nat)) = b
  have sb : b.tmps.size = 47 := by rw [← hb]; simp only [put_size, hsz]
  have b3 : b.eval (.tmp 3) = .pointer (some ⟨gb, 0, none⟩) := by rw [← hb]; simp only [put_other _ _ _ _ (show (33 : Nat) ≠ 3 by decide), put_other _ _ _ _ (show (30 : Nat) ≠ 3 by decide), put_other _ _ _ _ (show (29 : Nat) ≠ 3 by decide), put_other _ _ _ _ (show (28 : Nat) ≠ 3 by decide), e3]
  have b30 : b.eval (.tmp 30) = .int .i64 (p : Nat) := by rw [← hb, put_other _ _ _ _ (by decide), put_same _ _ _ (by simp only [put_size, hsz]; decide)]
  have b33 : b.eval (.tmp 33) = .int .i64 (r : Nat) := by rw [← hb, put_same _ _ _ (by simp only [put_size, hsz]; decide)]
  have b28 : b.eval (.tmp 28) = .int .i64 (r : Nat) := by rw [← hb, put_other _ _ _ _ (by decide), put_other _ _ _ _ (by decide), put_other _ _ _ _ (by decide), put_same _ _ _ (by simp only [hsz]; decide)]
  have b29 : b.eval (.tmp 29) = .int .i64 (p : Nat) := by rw [← hb, put_other _ _ _ _ (by decide), put_other _ _ _ _ (by decide), put_same _ _ _ (by simp only [put_size, hsz]; decide)]
  unfold act12 at h
  rw [hb] at h
  clear hb
  refine wpAny_take g3 hsel (by kernel_rfl) (by kernel_rfl) (fun c a w h => hQ c _ _ a w (by rw [d3] at h; exact h)) (.inl ⟨wanted_of k3, idx_grid gb p hp x3 b3 b30⟩) ?_
  rw [d3]
  refine wpAny_take g6 hsel (by kernel_rfl) (by kernel_rfl) (fun c a w h => hQ c _ _ a w (by rw [d6] at h; exact h)) (.inl ⟨wanted_of k6, idx_grid gb r hr x6 (by rw [put_other _ _ _ _ (by decide)]; exact b3) (by rw [put_other _ _ _ _ (by decide)]; exact b33)⟩) ?_
  rw [d6]
  generalize hc : (b.put (some 31) (.pointer (some ⟨gb, p * 64, none⟩))).put (some 34) (.pointer (some ⟨gb, r * 64, none⟩)) = c
  have sc : c.tmps.size = 47 := by rw [← hc]; simp only [put_size, sb]
  have c3 : c.eval (.tmp 3) = .pointer (some ⟨gb, 0, none⟩) := by rw [← hc, put_other _ _ _ _ (by decide), put_other _ _ _ _ (by decide), b3]
  have c28 : c.eval (.tmp 28) = .int .i64 (r : Nat) := by rw [← hc, put_other _ _ _ _ (by decide), put_other _ _ _ _ (by decide), b28]
  have c29 : c.eval (.tmp 29) = .int .i64 (p : Nat) := by rw [← hc, put_other _ _ _ _ (by decide), put_other _ _ _ _ (by decide), b29]
  have c31 : c.eval (.tmp 31) = .pointer (some ⟨gb, p * 64, none⟩) := by rw [← hc, put_other _ _ _ _ (by decide), put_same _ _ _ (by rw [sb]; decide)]
  have c34 : c.eval (.tmp 34) = .pointer (some ⟨gb, r * 64, none⟩) := by rw [← hc, put_same _ _ _ (by simp only [put_size, sb]; decide)]
  rw [hc] at h
  clear hc
  have zp : (Try.prog.info? 48).map (fun i => i.size) = some cp.length := by rw [lp]; exact Try.sizeRow
  have zr : (Try.prog.info? 48).map (fun i => i.size) = some cr.length := by rw [lr]; exact Try.sizeRow
  -- behind the loads
  have fin : wpAny Try.prog .any R12 Q 4 (mk12 [0, 1, 2, 5, 3, 6, 4, 7]) ((c.put (some 32) (.agg cp.toArray)).put (some 35) (.agg cr.toArray)) w.drew := by
    generalize hd : (c.put (some 32) (.agg cp.toArray)).put (some 35) (.agg cr.toArray) = d
    have sd : d.tmps.size = 47 := by rw [← hd]; simp only [put_size, sc]
    have q3 : d.eval (.tmp 3) = .pointer (some ⟨gb, 0, none⟩) := by rw [← hd, put_other _ _ _ _ (by decide), put_other _ _ _ _ (by decide), c3]
    have q28 : d.eval (.tmp 28) = .int .i64 (r : Nat) := by rw [← hd, put_other _ _ _ _ (by decide), put_other _ _ _ _ (by decide), c28]
    have q29 : d.eval (.tmp 29) = .int .i64 (p : Nat) := by rw [← hd, put_other _ _ _ _ (by decide), put_other _ _ _ _ (by decide), c29]
    have q32 : d.eval (.tmp 32) = .agg cp.toArray := by rw [← hd, put_other _ _ _ _ (by decide), put_same _ _ _ (by rw [sc]; decide)]
    have q35 : d.eval (.tmp 35) = .agg cr.toArray := by rw [← hd, put_same _ _ _ (by simp only [put_size, sc]; decide)]
    rw [hd] at h
    clear hd
    refine wpAny_take g8 hsel (by kernel_rfl) (by kernel_rfl) (fun c a w h => hQ c _ _ a w (by rw [d8] at h; exact h)) (.inl ⟨wanted_of k8, idx_grid gb r hr x8 q3 q28⟩) ?_
    rw [d8]
    refine wpAny_ready (rs := [9]) (by kernel_rfl) (by simp) ?_
    refine AllReady.cons g9 (fun K hK => ?_) AllReady.nil
    rw [if_pos (wanted_of k9)]
    refine wp_store_mid 48 (.tmp 36) (.tmp 32) x9 gb (r * 64) cp.toArray (by rw [put_same _ _ _ (by rw [sd]; decide)]) (by rw [put_other _ _ _ _ (by decide), q32]) (by simpa [lp] using tr) (by simpa using zp) op ?_
    refine hK _ _ ?_
    rw [d9]
    refine wpAny_take g10 hsel (by kernel_rfl) (by kernel_rfl) (fun c a w h => hQ c _ _ a w (by rw [d10] at h; exact h)) (.inl ⟨wanted_of k10, idx_grid gb p hp x10 (by show (d.put (some 36) _).eval _ = _; rw [put_other _ _ _ _ (by decide)]; exact q3) (by show (d.put (some 36) _).eval _ = _; rw [put_other _ _ _ _ (by decide)]; exact q29)⟩) ?_
    rw [d10]
    refine wpAny_ready (rs := [11]) (by kernel_rfl) (by simp) ?_
    refine AllReady.cons g11 (fun K hK => ?_) AllReady.nil
    rw [if_pos (wanted_of k11)]
    refine wp_store_mid 48 (.tmp 37) (.tmp 35) x11 gb (p * 64) cr.toArray (by rw [put_same _ _ _ (by show 37 < (d.put (some 36) _).tmps.size; rw [put_size, sd]; decide)]) (by rw [put_other _ _ _ _ (by decide)]; show (d.put (some 36) _).eval _ = _; rw [put_other _ _ _ _ (by decide), q35]) (by simpa [lr] using World.there_setCells tp gb (r * 64) cp) (by simpa using zr) or ?_
    refine hK _ _ ?_
    rw [d11]
    exact wpAny_done (by kernel_rfl) h _
  refine wpAny_ready (rs := [4, 7]) (by kernel_rfl) (by simp) ?_
  refine AllReady.cons g4 (fun K hK => ?_) (AllReady.cons g7 (fun K hK => ?_) AllReady.nil)
  · rw [if_pos (wanted_of k4)]
    refine wp_load_mid 48 (.tmp 31) x4 gb (p * 64) c31 cp _ gp Try.underlying48 rfl zp ?_
    refine hK _ _ ?_
    rw [d4]
    refine wpAny_ready (rs := [7]) (by kernel_rfl) (by simp) ?_
    refine AllReady.cons g7 (fun K hK => ?_) AllReady.nil
    rw [if_pos (wanted_of k7)]
    refine wp_load_mid 48 (.tmp 34) x7 gb (r * 64) (by rw [put_other _ _ _ _ (by decide)]; exact c34) cr _ gr Try.underlying48 rfl zr ?_
    refine hK _ _ ?_
    rw [d7]
    exact fin
  · rw [if_pos (wanted_of k7)]
    refine wp_load_mid 48 (.tmp 34) x7 gb (r * 64) c34 cr _ gr Try.underlying48 rfl zr ?_
    refine hK _ _ ?_
    rw [d7]
    refine wpAny_ready (rs := [4]) (by kernel_rfl) (by simp) ?_
    refine AllReady.cons g4 (fun K hK => ?_) AllReady.nil
    rw [if_pos (wanted_of k4)]
    refine wp_load_mid 48 (.tmp 31) x4 gb (p * 64) (by rw [put_other _ _ _ _ (by decide)]; exact c31) cp _ gp Try.underlying48 rfl zp ?_
    refine hK _ _ ?_
    rw [d4, put_comm _ _ _ _ _ (by decide)]
    exact fin
end Go.Proofs.Ythhommjlomphdaa
