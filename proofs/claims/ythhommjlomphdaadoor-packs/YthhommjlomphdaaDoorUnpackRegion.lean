/-
  One region of Unpack, which draws its order: a step is read off four bytes, and appended.
-/
import Derived.Test.YthhommjlomphdaaDoorLawProg
import Derived.Deep.RegionHeld
namespace Go.Proofs.YthhommjlomphdaaDoor
open Go.RowKit Go.Deep

theorem put_same' (a : Act) (i : Nat) (v : Value) (h : i < a.tmps.size) : (a.put (some i) v).eval (.tmp i) = v := by simp [Act.put, Act.eval, h]
theorem put_other' (a : Act) (i j : Nat) (v : Value) (h : i ≠ j) : (a.put (some i) v).eval (.tmp j) = a.eval (.tmp j) := by
  simp [Act.put, Act.eval, Array.getD_eq_getD_getElem?, h]
theorem put_size' (a : Act) (d : Option Nat) (v : Value) : (a.put d v).tmps.size = a.tmps.size := by
  cases d <;> simp [Act.put]
theorem put_comm' (a : Act) (i j : Nat) (v u : Value) (h : i ≠ j) : (a.put (some i) v).put (some j) u = (a.put (some j) u).put (some i) v := by
  simp only [Act.put]
  rw [Array.setIfInBounds_comm _ _ h]
theorem wanted' {ops : Array Oper} {o : Oper} {a : Act} (hg : o.guard = none) : Region.wanted o (yielded ops a.tmps) = true := by simp [Region.wanted, hg]
def rgn : Code → Nat → Option (Array Oper)
  | .region i ops _, n => if i = n then some ops else none
  | .seq a b, n => (rgn a n).orElse fun _ => rgn b n
  | .cond _ a b, n => (rgn a n).orElse fun _ => rgn b n
  | .block _ a, n => rgn a n
  | .loop a, n => rgn a n
  | .scope a, n => rgn a n
  | _, _ => none
noncomputable def R7 : Array Oper := ((Tryd.f70.body.bind (rgn · 7))).getD #[]
def mk21 (l : List Nat) : Array Bool := l.foldl (fun a i => a.setIfInBounds i true) (Array.replicate 21 false)
theorem R7_at : (List.range 21).map (fun i => (R7[i]?).map fun o => (o.op, o.dst, o.guard)) = [
    some (.fieldAddr 49 (.tmp 4) 1, some 31, none),
    some (.load 47 (.tmp 31), some 32, none),
    some (.move (.tmp 0), some 33, none),
    some (.indexAddr 44 (.tmp 33) (.const (.int .i64 0)), some 34, none),
    some (.load 5 (.tmp 34), some 35, none),
    some (.move (.tmp 0), some 36, none),
    some (.indexAddr 44 (.tmp 36) (.const (.int .i64 1)), some 37, none),
    some (.load 5 (.tmp 37), some 38, none),
    some (.convert 5 3 (.tmp 38), some 39, none),
    some (.move (.tmp 0), some 40, none),
    some (.indexAddr 44 (.tmp 40) (.const (.int .i64 2)), some 41, none),
    some (.load 5 (.tmp 41), some 42, none),
    some (.convert 5 3 (.tmp 42), some 43, none),
    some (.move (.tmp 0), some 44, none),
    some (.indexAddr 44 (.tmp 44) (.const (.int .i64 3)), some 45, none),
    some (.load 5 (.tmp 45), some 46, none),
    some (.build 92 #[(0, .tmp 35), (1, .tmp 39), (2, .tmp 43), (3, .tmp 46)], some 47, none),
    some (.buildSlice 47 1 #[(0, .tmp 47)], some 48, none),
    some (.call { callee := .builtin .append, args := #[.tmp 32, .tmp 48], argTypes := #[47, 47] }, some 49, none),
    some (.fieldAddr 49 (.tmp 4) 1, some 50, none),
    some (.store 47 (.tmp 50) (.tmp 49), none, none)] := by kernel_rfl
theorem R7_op {i : Nat} {x : Op} {d : Option Nat} (hi : i < 21) (h : ((List.range 21).map (fun i => (R7[i]?).map fun o => (o.op, o.dst, o.guard)))[i]? = some (some (x, d, none))) : ∃ o, R7[i]? = some o ∧ o.op = x ∧ o.dst = d ∧ o.guard = none := by
  simp only [List.getElem?_map, List.getElem?_range hi, Option.map_some, Option.some.injEq, Option.map_eq_some_iff, Prod.mk.injEq] at h
  obtain ⟨o, h1, h2, h3, h4⟩ := h
  exact ⟨o, h1, h2, h3, h4⟩
def act7a (a : Act) (bb off n c ob y0 y1 y2 y3 : Nat) : Act := ((((((((((((((((a.put (some 31) (.pointer (some ⟨ob, 1, none⟩))).put (some 33) (.slice (some ⟨bb, off, none⟩) n c)).put (some 34) (.pointer (some ⟨bb, off, none⟩))).put (some 35) (.int .u8 (y0 : Int))).put (some 36) (.slice (some ⟨bb, off, none⟩) n c)).put (some 37) (.pointer (some ⟨bb, off + 1, none⟩))).put (some 38) (.int .u8 (y1 : Int))).put (some 39) (.int .i64 (y1 : Int))).put (some 40) (.slice (some ⟨bb, off, none⟩) n c)).put (some 41) (.pointer (some ⟨bb, off + 2, none⟩))).put (some 42) (.int .u8 (y2 : Int))).put (some 43) (.int .i64 (y2 : Int))).put (some 44) (.slice (some ⟨bb, off, none⟩) n c)).put (some 45) (.pointer (some ⟨bb, off + 3, none⟩))).put (some 46) (.int .u8 (y3 : Int))).put (some 47) (.agg #[.int .u8 (y0 : Int), .int .i64 (y1 : Int), .int .i64 (y2 : Int), .int .u8 (y3 : Int)]))
def act7 (a : Act) (bb off n c ob y0 y1 y2 y3 hs : Nat) (vv v' : Value) : Act := (((((act7a a bb off n c ob y0 y1 y2 y3).put (some 32) vv).put (some 48) (.slice (some ⟨hs, 0, none⟩) 1 1)).put (some 49) v').put (some 50) (.pointer (some ⟨ob, 1, none⟩))).put none undef
set_option maxRecDepth 100000 in
set_option maxHeartbeats 2000000 in
theorem region7 {ops : Array Oper} {Q : Exit → Act → World → Prop} {a : Act} {w : World} (bb off n c ob y0 y1 y2 y3 base k : Nat) (vv : Value) (xs : List Value) (hR : R7 = ops) (hQ : ∀ c n v a w, Q (.panic c) (a.put (some n) v) w → Q (.panic c) a w)
    (sz : a.tmps.size = 57) (f_0 : a.eval (.tmp 0) = .slice (some ⟨bb, off, none⟩) n c) (f_4 : a.eval (.tmp 4) = .pointer (some ⟨ob, 0, none⟩)) (hn : 4 ≤ n) (hne : ob ≠ bb) (z1 : y1 < 256) (z2 : y2 < 256)
    (c0 : w.cell? ⟨bb, off, none⟩ = some (.int .u8 (y0 : Int))) (c1 : w.cell? ⟨bb, off + 1, none⟩ = some (.int .u8 (y1 : Int))) (c2 : w.cell? ⟨bb, off + 2, none⟩ = some (.int .u8 (y2 : Int))) (c3 : w.cell? ⟨bb, off + 3, none⟩ = some (.int .u8 (y3 : Int)))
    (o1 : w.cell? ⟨ob, 1, none⟩ = some vv) (hbase : base ≤ w.heap.size) (hob : ob < base) (hbb : bb < base) (hk : k ≤ 100000)
    (hown : w.ownsRow base 92 4 vv k xs) (hfr : w.frozen? ⟨ob, 1, none⟩ = false)
    (h : ∀ g' cap' w2, base ≤ g' → w2.ownsRow base 92 4 (.slice (some ⟨g', 0, none⟩) (k + 1) cap') (k + 1) (xs ++ [.int .u8 (y0 : Int), .int .i64 (y1 : Int), .int .i64 (y2 : Int), .int .u8 (y3 : Int)]) →
      (w.alloc (.cells #[.int .u8 (y0 : Int), .int .i64 (y1 : Int), .int .i64 (y2 : Int), .int .u8 (y3 : Int)] 92)).grownBy w2 vv.ownBlock →
      Q .normal (act7 a bb off n c ob y0 y1 y2 y3 w.heap.size vv (.slice (some ⟨g', 0, none⟩) (k + 1) cap')) (w2.setCell ⟨ob, 1, none⟩ (.slice (some ⟨g', 0, none⟩) (k + 1) cap'))) : (Code.region 7 ops true).wp Tryd.prog Q a w := by
  subst hR
  obtain ⟨i0, hi0, hz0, hz1, hz2⟩ := info_parts (show (Tryd.prog.info? 92).map (fun i => (i.zero, i.size, i.bytes)) = some (some (.agg #[.int .u8 0, .int .i64 0, .int .i64 0, .int .u8 0]), 4, 32) by kernel_rfl)
  obtain ⟨p0, g0, x0, d0, k0⟩ := R7_op (i := 0) (by decide) (by rw [R7_at]; rfl)
  obtain ⟨p1, g1, x1, d1, k1⟩ := R7_op (i := 1) (by decide) (by rw [R7_at]; rfl)
  obtain ⟨p2, g2, x2, d2, k2⟩ := R7_op (i := 2) (by decide) (by rw [R7_at]; rfl)
  obtain ⟨p3, g3, x3, d3, k3⟩ := R7_op (i := 3) (by decide) (by rw [R7_at]; rfl)
  obtain ⟨p4, g4, x4, d4, k4⟩ := R7_op (i := 4) (by decide) (by rw [R7_at]; rfl)
  obtain ⟨p5, g5, x5, d5, k5⟩ := R7_op (i := 5) (by decide) (by rw [R7_at]; rfl)
  obtain ⟨p6, g6, x6, d6, k6⟩ := R7_op (i := 6) (by decide) (by rw [R7_at]; rfl)
  obtain ⟨p7, g7, x7, d7, k7⟩ := R7_op (i := 7) (by decide) (by rw [R7_at]; rfl)
  obtain ⟨p8, g8, x8, d8, k8⟩ := R7_op (i := 8) (by decide) (by rw [R7_at]; rfl)
  obtain ⟨p9, g9, x9, d9, k9⟩ := R7_op (i := 9) (by decide) (by rw [R7_at]; rfl)
  obtain ⟨p10, g10, x10, d10, k10⟩ := R7_op (i := 10) (by decide) (by rw [R7_at]; rfl)
  obtain ⟨p11, g11, x11, d11, k11⟩ := R7_op (i := 11) (by decide) (by rw [R7_at]; rfl)
  obtain ⟨p12, g12, x12, d12, k12⟩ := R7_op (i := 12) (by decide) (by rw [R7_at]; rfl)
  obtain ⟨p13, g13, x13, d13, k13⟩ := R7_op (i := 13) (by decide) (by rw [R7_at]; rfl)
  obtain ⟨p14, g14, x14, d14, k14⟩ := R7_op (i := 14) (by decide) (by rw [R7_at]; rfl)
  obtain ⟨p15, g15, x15, d15, k15⟩ := R7_op (i := 15) (by decide) (by rw [R7_at]; rfl)
  obtain ⟨p16, g16, x16, d16, k16⟩ := R7_op (i := 16) (by decide) (by rw [R7_at]; rfl)
  obtain ⟨p17, g17, x17, d17, k17⟩ := R7_op (i := 17) (by decide) (by rw [R7_at]; rfl)
  obtain ⟨p18, g18, x18, d18, k18⟩ := R7_op (i := 18) (by decide) (by rw [R7_at]; rfl)
  obtain ⟨p19, g19, x19, d19, k19⟩ := R7_op (i := 19) (by decide) (by rw [R7_at]; rfl)
  obtain ⟨p20, g20, x20, d20, k20⟩ := R7_op (i := 20) (by decide) (by rw [R7_at]; rfl)
  have hsel : Region.noSelect R7 = true := by kernel_rfl
  have hsize : R7.size = 21 := by kernel_rfl
  have j1 : IntKind.i64.wrap (y1 : Int) = (y1 : Int) := by rw [IntKind.wrap_i64]; omega
  have j2 : IntKind.i64.wrap (y2 : Int) = (y2 : Int) := by rw [IntKind.wrap_i64]; omega
  have m0 : (0 : Int) < (n : Int) := by omega
  have m1 : (1 : Int) < (n : Int) := by omega
  have m2 : (2 : Int) < (n : Int) := by omega
  have m3 : (3 : Int) < (n : Int) := by omega
  have m4 : n ≠ 0 := by omega
  refine wp_region_held_drew (S := fun w' => w'.cell? ⟨bb, off, none⟩ = some (.int .u8 (y0 : Int)) ∧ w'.cell? ⟨bb, off + 1, none⟩ = some (.int .u8 (y1 : Int)) ∧ w'.cell? ⟨bb, off + 2, none⟩ = some (.int .u8 (y2 : Int)) ∧ w'.cell? ⟨bb, off + 3, none⟩ = some (.int .u8 (y3 : Int))) (by kernel_rfl) ⟨c0, c1, c2, c3⟩ (fun hS => ?_)
  rw [hsize]
  change wpAnyH _ _ _ _ _ _ (mk21 []) _ _
  unfold act7 act7a at h
  have y100 : ∀ w, (w.cell? ⟨bb, off, none⟩ = some (.int .u8 (y0 : Int)) ∧ w.cell? ⟨bb, off + 1, none⟩ = some (.int .u8 (y1 : Int)) ∧ w.cell? ⟨bb, off + 2, none⟩ = some (.int .u8 (y2 : Int)) ∧ w.cell? ⟨bb, off + 3, none⟩ = some (.int .u8 (y3 : Int))) → (execOp a.eval p0).run Tryd.prog w = .ok (.value (.pointer (some ⟨ob, 1, none⟩))) w := fun w hS => by obtain ⟨q0, q1, q2, q3⟩ := hS; simp only [execOp, x0, f_4]; (try go_simp)
  refine wpAnyH_take g0 hsel (by kernel_rfl) (by kernel_rfl) (fun c a w h => hQ c _ _ a w (by rw [d0] at h; exact h)) (.inl ⟨wanted' k0, y100⟩) hS ?_
  rw [d0]
  generalize hA : a.put (some 31) (.pointer (some ⟨ob, 1, none⟩)) = b1 at h ⊢
  have sz1 : b1.tmps.size = 57 := by rw [← hA, put_size']; exact sz
  have f1_0 : b1.eval (.tmp 0) = (.slice (some ⟨bb, off, none⟩) n c) := by rw [← hA, put_other' _ _ _ _ (by decide)]; exact f_0
  have f1_4 : b1.eval (.tmp 4) = (.pointer (some ⟨ob, 0, none⟩)) := by rw [← hA, put_other' _ _ _ _ (by decide)]; exact f_4
  have f1_31 : b1.eval (.tmp 31) = (.pointer (some ⟨ob, 1, none⟩)) := by rw [← hA]; exact put_same' _ _ _ (by rw [sz]; decide)
  clear hA y100 f_0 f_4 sz
  have y102 : ∀ w, (w.cell? ⟨bb, off, none⟩ = some (.int .u8 (y0 : Int)) ∧ w.cell? ⟨bb, off + 1, none⟩ = some (.int .u8 (y1 : Int)) ∧ w.cell? ⟨bb, off + 2, none⟩ = some (.int .u8 (y2 : Int)) ∧ w.cell? ⟨bb, off + 3, none⟩ = some (.int .u8 (y3 : Int))) → (execOp b1.eval p2).run Tryd.prog w = .ok (.value (.slice (some ⟨bb, off, none⟩) n c)) w := fun w _ => by simp [execOp, x2, f1_0]
  refine wpAnyH_take g2 hsel (by kernel_rfl) (by kernel_rfl) (fun c a w h => hQ c _ _ a w (by rw [d2] at h; exact h)) (.inl ⟨wanted' k2, y102⟩) hS ?_
  rw [d2]
  generalize hA : b1.put (some 33) (.slice (some ⟨bb, off, none⟩) n c) = b2 at h ⊢
  have sz2 : b2.tmps.size = 57 := by rw [← hA, put_size']; exact sz1
  have f2_0 : b2.eval (.tmp 0) = (.slice (some ⟨bb, off, none⟩) n c) := by rw [← hA, put_other' _ _ _ _ (by decide)]; exact f1_0
  have f2_4 : b2.eval (.tmp 4) = (.pointer (some ⟨ob, 0, none⟩)) := by rw [← hA, put_other' _ _ _ _ (by decide)]; exact f1_4
  have f2_31 : b2.eval (.tmp 31) = (.pointer (some ⟨ob, 1, none⟩)) := by rw [← hA, put_other' _ _ _ _ (by decide)]; exact f1_31
  have f2_33 : b2.eval (.tmp 33) = (.slice (some ⟨bb, off, none⟩) n c) := by rw [← hA]; exact put_same' _ _ _ (by rw [sz1]; decide)
  clear hA y102 f1_0 f1_4 f1_31 sz1
  have y103 : ∀ w, (w.cell? ⟨bb, off, none⟩ = some (.int .u8 (y0 : Int)) ∧ w.cell? ⟨bb, off + 1, none⟩ = some (.int .u8 (y1 : Int)) ∧ w.cell? ⟨bb, off + 2, none⟩ = some (.int .u8 (y2 : Int)) ∧ w.cell? ⟨bb, off + 3, none⟩ = some (.int .u8 (y3 : Int))) → (execOp b2.eval p3).run Tryd.prog w = .ok (.value (.pointer (some ⟨bb, off, none⟩))) w := fun w _ => by simp only [execOp, x3, f2_33]; go_simp
  refine wpAnyH_take g3 hsel (by kernel_rfl) (by kernel_rfl) (fun c a w h => hQ c _ _ a w (by rw [d3] at h; exact h)) (.inl ⟨wanted' k3, y103⟩) hS ?_
  rw [d3]
  generalize hA : b2.put (some 34) (.pointer (some ⟨bb, off, none⟩)) = b3 at h ⊢
  have sz3 : b3.tmps.size = 57 := by rw [← hA, put_size']; exact sz2
  have f3_0 : b3.eval (.tmp 0) = (.slice (some ⟨bb, off, none⟩) n c) := by rw [← hA, put_other' _ _ _ _ (by decide)]; exact f2_0
  have f3_4 : b3.eval (.tmp 4) = (.pointer (some ⟨ob, 0, none⟩)) := by rw [← hA, put_other' _ _ _ _ (by decide)]; exact f2_4
  have f3_31 : b3.eval (.tmp 31) = (.pointer (some ⟨ob, 1, none⟩)) := by rw [← hA, put_other' _ _ _ _ (by decide)]; exact f2_31
  have f3_34 : b3.eval (.tmp 34) = (.pointer (some ⟨bb, off, none⟩)) := by rw [← hA]; exact put_same' _ _ _ (by rw [sz2]; decide)
  clear hA y103 f2_0 f2_4 f2_31 f2_33 sz2
  have y104 : ∀ w, (w.cell? ⟨bb, off, none⟩ = some (.int .u8 (y0 : Int)) ∧ w.cell? ⟨bb, off + 1, none⟩ = some (.int .u8 (y1 : Int)) ∧ w.cell? ⟨bb, off + 2, none⟩ = some (.int .u8 (y2 : Int)) ∧ w.cell? ⟨bb, off + 3, none⟩ = some (.int .u8 (y3 : Int))) → (execOp b3.eval p4).run Tryd.prog w = .ok (.value (.int .u8 (y0 : Int))) w := fun w hS => by obtain ⟨q0, q1, q2, q3⟩ := hS; simp only [execOp, x4, f3_34]; (try go_simp)
  refine wpAnyH_take g4 hsel (by kernel_rfl) (by kernel_rfl) (fun c a w h => hQ c _ _ a w (by rw [d4] at h; exact h)) (.inl ⟨wanted' k4, y104⟩) hS ?_
  rw [d4]
  generalize hA : b3.put (some 35) (.int .u8 (y0 : Int)) = b4 at h ⊢
  have sz4 : b4.tmps.size = 57 := by rw [← hA, put_size']; exact sz3
  have f4_0 : b4.eval (.tmp 0) = (.slice (some ⟨bb, off, none⟩) n c) := by rw [← hA, put_other' _ _ _ _ (by decide)]; exact f3_0
  have f4_4 : b4.eval (.tmp 4) = (.pointer (some ⟨ob, 0, none⟩)) := by rw [← hA, put_other' _ _ _ _ (by decide)]; exact f3_4
  have f4_31 : b4.eval (.tmp 31) = (.pointer (some ⟨ob, 1, none⟩)) := by rw [← hA, put_other' _ _ _ _ (by decide)]; exact f3_31
  have f4_35 : b4.eval (.tmp 35) = (.int .u8 (y0 : Int)) := by rw [← hA]; exact put_same' _ _ _ (by rw [sz3]; decide)
  clear hA y104 f3_0 f3_4 f3_31 f3_34 sz3
  have y105 : ∀ w, (w.cell? ⟨bb, off, none⟩ = some (.int .u8 (y0 : Int)) ∧ w.cell? ⟨bb, off + 1, none⟩ = some (.int .u8 (y1 : Int)) ∧ w.cell? ⟨bb, off + 2, none⟩ = some (.int .u8 (y2 : Int)) ∧ w.cell? ⟨bb, off + 3, none⟩ = some (.int .u8 (y3 : Int))) → (execOp b4.eval p5).run Tryd.prog w = .ok (.value (.slice (some ⟨bb, off, none⟩) n c)) w := fun w _ => by simp [execOp, x5, f4_0]
  refine wpAnyH_take g5 hsel (by kernel_rfl) (by kernel_rfl) (fun c a w h => hQ c _ _ a w (by rw [d5] at h; exact h)) (.inl ⟨wanted' k5, y105⟩) hS ?_
  rw [d5]
  generalize hA : b4.put (some 36) (.slice (some ⟨bb, off, none⟩) n c) = b5 at h ⊢
  have sz5 : b5.tmps.size = 57 := by rw [← hA, put_size']; exact sz4
  have f5_0 : b5.eval (.tmp 0) = (.slice (some ⟨bb, off, none⟩) n c) := by rw [← hA, put_other' _ _ _ _ (by decide)]; exact f4_0
  have f5_4 : b5.eval (.tmp 4) = (.pointer (some ⟨ob, 0, none⟩)) := by rw [← hA, put_other' _ _ _ _ (by decide)]; exact f4_4
  have f5_31 : b5.eval (.tmp 31) = (.pointer (some ⟨ob, 1, none⟩)) := by rw [← hA, put_other' _ _ _ _ (by decide)]; exact f4_31
  have f5_35 : b5.eval (.tmp 35) = (.int .u8 (y0 : Int)) := by rw [← hA, put_other' _ _ _ _ (by decide)]; exact f4_35
  have f5_36 : b5.eval (.tmp 36) = (.slice (some ⟨bb, off, none⟩) n c) := by rw [← hA]; exact put_same' _ _ _ (by rw [sz4]; decide)
  clear hA y105 f4_0 f4_4 f4_31 f4_35 sz4
  have y106 : ∀ w, (w.cell? ⟨bb, off, none⟩ = some (.int .u8 (y0 : Int)) ∧ w.cell? ⟨bb, off + 1, none⟩ = some (.int .u8 (y1 : Int)) ∧ w.cell? ⟨bb, off + 2, none⟩ = some (.int .u8 (y2 : Int)) ∧ w.cell? ⟨bb, off + 3, none⟩ = some (.int .u8 (y3 : Int))) → (execOp b5.eval p6).run Tryd.prog w = .ok (.value (.pointer (some ⟨bb, off + 1, none⟩))) w := fun w _ => by simp only [execOp, x6, f5_36]; go_simp
  refine wpAnyH_take g6 hsel (by kernel_rfl) (by kernel_rfl) (fun c a w h => hQ c _ _ a w (by rw [d6] at h; exact h)) (.inl ⟨wanted' k6, y106⟩) hS ?_
  rw [d6]
  generalize hA : b5.put (some 37) (.pointer (some ⟨bb, off + 1, none⟩)) = b6 at h ⊢
  have sz6 : b6.tmps.size = 57 := by rw [← hA, put_size']; exact sz5
  have f6_0 : b6.eval (.tmp 0) = (.slice (some ⟨bb, off, none⟩) n c) := by rw [← hA, put_other' _ _ _ _ (by decide)]; exact f5_0
  have f6_4 : b6.eval (.tmp 4) = (.pointer (some ⟨ob, 0, none⟩)) := by rw [← hA, put_other' _ _ _ _ (by decide)]; exact f5_4
  have f6_31 : b6.eval (.tmp 31) = (.pointer (some ⟨ob, 1, none⟩)) := by rw [← hA, put_other' _ _ _ _ (by decide)]; exact f5_31
  have f6_35 : b6.eval (.tmp 35) = (.int .u8 (y0 : Int)) := by rw [← hA, put_other' _ _ _ _ (by decide)]; exact f5_35
  have f6_37 : b6.eval (.tmp 37) = (.pointer (some ⟨bb, off + 1, none⟩)) := by rw [← hA]; exact put_same' _ _ _ (by rw [sz5]; decide)
  clear hA y106 f5_0 f5_4 f5_31 f5_35 f5_36 sz5
  have y107 : ∀ w, (w.cell? ⟨bb, off, none⟩ = some (.int .u8 (y0 : Int)) ∧ w.cell? ⟨bb, off + 1, none⟩ = some (.int .u8 (y1 : Int)) ∧ w.cell? ⟨bb, off + 2, none⟩ = some (.int .u8 (y2 : Int)) ∧ w.cell? ⟨bb, off + 3, none⟩ = some (.int .u8 (y3 : Int))) → (execOp b6.eval p7).run Tryd.prog w = .ok (.value (.int .u8 (y1 : Int))) w := fun w hS => by obtain ⟨q0, q1, q2, q3⟩ := hS; simp only [execOp, x7, f6_37]; (try go_simp)
  refine wpAnyH_take g7 hsel (by kernel_rfl) (by kernel_rfl) (fun c a w h => hQ c _ _ a w (by rw [d7] at h; exact h)) (.inl ⟨wanted' k7, y107⟩) hS ?_
  rw [d7]
  generalize hA : b6.put (some 38) (.int .u8 (y1 : Int)) = b7 at h ⊢
  have sz7 : b7.tmps.size = 57 := by rw [← hA, put_size']; exact sz6
  have f7_0 : b7.eval (.tmp 0) = (.slice (some ⟨bb, off, none⟩) n c) := by rw [← hA, put_other' _ _ _ _ (by decide)]; exact f6_0
  have f7_4 : b7.eval (.tmp 4) = (.pointer (some ⟨ob, 0, none⟩)) := by rw [← hA, put_other' _ _ _ _ (by decide)]; exact f6_4
  have f7_31 : b7.eval (.tmp 31) = (.pointer (some ⟨ob, 1, none⟩)) := by rw [← hA, put_other' _ _ _ _ (by decide)]; exact f6_31
  have f7_35 : b7.eval (.tmp 35) = (.int .u8 (y0 : Int)) := by rw [← hA, put_other' _ _ _ _ (by decide)]; exact f6_35
  have f7_38 : b7.eval (.tmp 38) = (.int .u8 (y1 : Int)) := by rw [← hA]; exact put_same' _ _ _ (by rw [sz6]; decide)
  clear hA y107 f6_0 f6_4 f6_31 f6_35 f6_37 sz6
  have y108 : ∀ w, (w.cell? ⟨bb, off, none⟩ = some (.int .u8 (y0 : Int)) ∧ w.cell? ⟨bb, off + 1, none⟩ = some (.int .u8 (y1 : Int)) ∧ w.cell? ⟨bb, off + 2, none⟩ = some (.int .u8 (y2 : Int)) ∧ w.cell? ⟨bb, off + 3, none⟩ = some (.int .u8 (y3 : Int))) → (execOp b7.eval p8).run Tryd.prog w = .ok (.value (.int .i64 (y1 : Int))) w := fun w hS => by obtain ⟨q0, q1, q2, q3⟩ := hS; simp only [execOp, x8, f7_38]; (try go_simp)
  refine wpAnyH_take g8 hsel (by kernel_rfl) (by kernel_rfl) (fun c a w h => hQ c _ _ a w (by rw [d8] at h; exact h)) (.inl ⟨wanted' k8, y108⟩) hS ?_
  rw [d8]
  generalize hA : b7.put (some 39) (.int .i64 (y1 : Int)) = b8 at h ⊢
  have sz8 : b8.tmps.size = 57 := by rw [← hA, put_size']; exact sz7
  have f8_0 : b8.eval (.tmp 0) = (.slice (some ⟨bb, off, none⟩) n c) := by rw [← hA, put_other' _ _ _ _ (by decide)]; exact f7_0
  have f8_4 : b8.eval (.tmp 4) = (.pointer (some ⟨ob, 0, none⟩)) := by rw [← hA, put_other' _ _ _ _ (by decide)]; exact f7_4
  have f8_31 : b8.eval (.tmp 31) = (.pointer (some ⟨ob, 1, none⟩)) := by rw [← hA, put_other' _ _ _ _ (by decide)]; exact f7_31
  have f8_35 : b8.eval (.tmp 35) = (.int .u8 (y0 : Int)) := by rw [← hA, put_other' _ _ _ _ (by decide)]; exact f7_35
  have f8_39 : b8.eval (.tmp 39) = (.int .i64 (y1 : Int)) := by rw [← hA]; exact put_same' _ _ _ (by rw [sz7]; decide)
  clear hA y108 f7_0 f7_4 f7_31 f7_35 f7_38 sz7
  have y109 : ∀ w, (w.cell? ⟨bb, off, none⟩ = some (.int .u8 (y0 : Int)) ∧ w.cell? ⟨bb, off + 1, none⟩ = some (.int .u8 (y1 : Int)) ∧ w.cell? ⟨bb, off + 2, none⟩ = some (.int .u8 (y2 : Int)) ∧ w.cell? ⟨bb, off + 3, none⟩ = some (.int .u8 (y3 : Int))) → (execOp b8.eval p9).run Tryd.prog w = .ok (.value (.slice (some ⟨bb, off, none⟩) n c)) w := fun w _ => by simp [execOp, x9, f8_0]
  refine wpAnyH_take g9 hsel (by kernel_rfl) (by kernel_rfl) (fun c a w h => hQ c _ _ a w (by rw [d9] at h; exact h)) (.inl ⟨wanted' k9, y109⟩) hS ?_
  rw [d9]
  generalize hA : b8.put (some 40) (.slice (some ⟨bb, off, none⟩) n c) = b9 at h ⊢
  have sz9 : b9.tmps.size = 57 := by rw [← hA, put_size']; exact sz8
  have f9_0 : b9.eval (.tmp 0) = (.slice (some ⟨bb, off, none⟩) n c) := by rw [← hA, put_other' _ _ _ _ (by decide)]; exact f8_0
  have f9_4 : b9.eval (.tmp 4) = (.pointer (some ⟨ob, 0, none⟩)) := by rw [← hA, put_other' _ _ _ _ (by decide)]; exact f8_4
  have f9_31 : b9.eval (.tmp 31) = (.pointer (some ⟨ob, 1, none⟩)) := by rw [← hA, put_other' _ _ _ _ (by decide)]; exact f8_31
  have f9_35 : b9.eval (.tmp 35) = (.int .u8 (y0 : Int)) := by rw [← hA, put_other' _ _ _ _ (by decide)]; exact f8_35
  have f9_39 : b9.eval (.tmp 39) = (.int .i64 (y1 : Int)) := by rw [← hA, put_other' _ _ _ _ (by decide)]; exact f8_39
  have f9_40 : b9.eval (.tmp 40) = (.slice (some ⟨bb, off, none⟩) n c) := by rw [← hA]; exact put_same' _ _ _ (by rw [sz8]; decide)
  clear hA y109 f8_0 f8_4 f8_31 f8_35 f8_39 sz8
  have y110 : ∀ w, (w.cell? ⟨bb, off, none⟩ = some (.int .u8 (y0 : Int)) ∧ w.cell? ⟨bb, off + 1, none⟩ = some (.int .u8 (y1 : Int)) ∧ w.cell? ⟨bb, off + 2, none⟩ = some (.int .u8 (y2 : Int)) ∧ w.cell? ⟨bb, off + 3, none⟩ = some (.int .u8 (y3 : Int))) → (execOp b9.eval p10).run Tryd.prog w = .ok (.value (.pointer (some ⟨bb, off + 2, none⟩))) w := fun w _ => by simp only [execOp, x10, f9_40]; go_simp
  refine wpAnyH_take g10 hsel (by kernel_rfl) (by kernel_rfl) (fun c a w h => hQ c _ _ a w (by rw [d10] at h; exact h)) (.inl ⟨wanted' k10, y110⟩) hS ?_
  rw [d10]
  generalize hA : b9.put (some 41) (.pointer (some ⟨bb, off + 2, none⟩)) = b10 at h ⊢
  have sz10 : b10.tmps.size = 57 := by rw [← hA, put_size']; exact sz9
  have f10_0 : b10.eval (.tmp 0) = (.slice (some ⟨bb, off, none⟩) n c) := by rw [← hA, put_other' _ _ _ _ (by decide)]; exact f9_0
  have f10_4 : b10.eval (.tmp 4) = (.pointer (some ⟨ob, 0, none⟩)) := by rw [← hA, put_other' _ _ _ _ (by decide)]; exact f9_4
  have f10_31 : b10.eval (.tmp 31) = (.pointer (some ⟨ob, 1, none⟩)) := by rw [← hA, put_other' _ _ _ _ (by decide)]; exact f9_31
  have f10_35 : b10.eval (.tmp 35) = (.int .u8 (y0 : Int)) := by rw [← hA, put_other' _ _ _ _ (by decide)]; exact f9_35
  have f10_39 : b10.eval (.tmp 39) = (.int .i64 (y1 : Int)) := by rw [← hA, put_other' _ _ _ _ (by decide)]; exact f9_39
  have f10_41 : b10.eval (.tmp 41) = (.pointer (some ⟨bb, off + 2, none⟩)) := by rw [← hA]; exact put_same' _ _ _ (by rw [sz9]; decide)
  clear hA y110 f9_0 f9_4 f9_31 f9_35 f9_39 f9_40 sz9
  have y111 : ∀ w, (w.cell? ⟨bb, off, none⟩ = some (.int .u8 (y0 : Int)) ∧ w.cell? ⟨bb, off + 1, none⟩ = some (.int .u8 (y1 : Int)) ∧ w.cell? ⟨bb, off + 2, none⟩ = some (.int .u8 (y2 : Int)) ∧ w.cell? ⟨bb, off + 3, none⟩ = some (.int .u8 (y3 : Int))) → (execOp b10.eval p11).run Tryd.prog w = .ok (.value (.int .u8 (y2 : Int))) w := fun w hS => by obtain ⟨q0, q1, q2, q3⟩ := hS; simp only [execOp, x11, f10_41]; (try go_simp)
  refine wpAnyH_take g11 hsel (by kernel_rfl) (by kernel_rfl) (fun c a w h => hQ c _ _ a w (by rw [d11] at h; exact h)) (.inl ⟨wanted' k11, y111⟩) hS ?_
  rw [d11]
  generalize hA : b10.put (some 42) (.int .u8 (y2 : Int)) = b11 at h ⊢
  have sz11 : b11.tmps.size = 57 := by rw [← hA, put_size']; exact sz10
  have f11_0 : b11.eval (.tmp 0) = (.slice (some ⟨bb, off, none⟩) n c) := by rw [← hA, put_other' _ _ _ _ (by decide)]; exact f10_0
  have f11_4 : b11.eval (.tmp 4) = (.pointer (some ⟨ob, 0, none⟩)) := by rw [← hA, put_other' _ _ _ _ (by decide)]; exact f10_4
  have f11_31 : b11.eval (.tmp 31) = (.pointer (some ⟨ob, 1, none⟩)) := by rw [← hA, put_other' _ _ _ _ (by decide)]; exact f10_31
  have f11_35 : b11.eval (.tmp 35) = (.int .u8 (y0 : Int)) := by rw [← hA, put_other' _ _ _ _ (by decide)]; exact f10_35
  have f11_39 : b11.eval (.tmp 39) = (.int .i64 (y1 : Int)) := by rw [← hA, put_other' _ _ _ _ (by decide)]; exact f10_39
  have f11_42 : b11.eval (.tmp 42) = (.int .u8 (y2 : Int)) := by rw [← hA]; exact put_same' _ _ _ (by rw [sz10]; decide)
  clear hA y111 f10_0 f10_4 f10_31 f10_35 f10_39 f10_41 sz10
  have y112 : ∀ w, (w.cell? ⟨bb, off, none⟩ = some (.int .u8 (y0 : Int)) ∧ w.cell? ⟨bb, off + 1, none⟩ = some (.int .u8 (y1 : Int)) ∧ w.cell? ⟨bb, off + 2, none⟩ = some (.int .u8 (y2 : Int)) ∧ w.cell? ⟨bb, off + 3, none⟩ = some (.int .u8 (y3 : Int))) → (execOp b11.eval p12).run Tryd.prog w = .ok (.value (.int .i64 (y2 : Int))) w := fun w hS => by obtain ⟨q0, q1, q2, q3⟩ := hS; simp only [execOp, x12, f11_42]; (try go_simp)
  refine wpAnyH_take g12 hsel (by kernel_rfl) (by kernel_rfl) (fun c a w h => hQ c _ _ a w (by rw [d12] at h; exact h)) (.inl ⟨wanted' k12, y112⟩) hS ?_
  rw [d12]
  generalize hA : b11.put (some 43) (.int .i64 (y2 : Int)) = b12 at h ⊢
  have sz12 : b12.tmps.size = 57 := by rw [← hA, put_size']; exact sz11
  have f12_0 : b12.eval (.tmp 0) = (.slice (some ⟨bb, off, none⟩) n c) := by rw [← hA, put_other' _ _ _ _ (by decide)]; exact f11_0
  have f12_4 : b12.eval (.tmp 4) = (.pointer (some ⟨ob, 0, none⟩)) := by rw [← hA, put_other' _ _ _ _ (by decide)]; exact f11_4
  have f12_31 : b12.eval (.tmp 31) = (.pointer (some ⟨ob, 1, none⟩)) := by rw [← hA, put_other' _ _ _ _ (by decide)]; exact f11_31
  have f12_35 : b12.eval (.tmp 35) = (.int .u8 (y0 : Int)) := by rw [← hA, put_other' _ _ _ _ (by decide)]; exact f11_35
  have f12_39 : b12.eval (.tmp 39) = (.int .i64 (y1 : Int)) := by rw [← hA, put_other' _ _ _ _ (by decide)]; exact f11_39
  have f12_43 : b12.eval (.tmp 43) = (.int .i64 (y2 : Int)) := by rw [← hA]; exact put_same' _ _ _ (by rw [sz11]; decide)
  clear hA y112 f11_0 f11_4 f11_31 f11_35 f11_39 f11_42 sz11
  have y113 : ∀ w, (w.cell? ⟨bb, off, none⟩ = some (.int .u8 (y0 : Int)) ∧ w.cell? ⟨bb, off + 1, none⟩ = some (.int .u8 (y1 : Int)) ∧ w.cell? ⟨bb, off + 2, none⟩ = some (.int .u8 (y2 : Int)) ∧ w.cell? ⟨bb, off + 3, none⟩ = some (.int .u8 (y3 : Int))) → (execOp b12.eval p13).run Tryd.prog w = .ok (.value (.slice (some ⟨bb, off, none⟩) n c)) w := fun w _ => by simp [execOp, x13, f12_0]
  refine wpAnyH_take g13 hsel (by kernel_rfl) (by kernel_rfl) (fun c a w h => hQ c _ _ a w (by rw [d13] at h; exact h)) (.inl ⟨wanted' k13, y113⟩) hS ?_
  rw [d13]
  generalize hA : b12.put (some 44) (.slice (some ⟨bb, off, none⟩) n c) = b13 at h ⊢
  have sz13 : b13.tmps.size = 57 := by rw [← hA, put_size']; exact sz12
  have f13_4 : b13.eval (.tmp 4) = (.pointer (some ⟨ob, 0, none⟩)) := by rw [← hA, put_other' _ _ _ _ (by decide)]; exact f12_4
  have f13_31 : b13.eval (.tmp 31) = (.pointer (some ⟨ob, 1, none⟩)) := by rw [← hA, put_other' _ _ _ _ (by decide)]; exact f12_31
  have f13_35 : b13.eval (.tmp 35) = (.int .u8 (y0 : Int)) := by rw [← hA, put_other' _ _ _ _ (by decide)]; exact f12_35
  have f13_39 : b13.eval (.tmp 39) = (.int .i64 (y1 : Int)) := by rw [← hA, put_other' _ _ _ _ (by decide)]; exact f12_39
  have f13_43 : b13.eval (.tmp 43) = (.int .i64 (y2 : Int)) := by rw [← hA, put_other' _ _ _ _ (by decide)]; exact f12_43
  have f13_44 : b13.eval (.tmp 44) = (.slice (some ⟨bb, off, none⟩) n c) := by rw [← hA]; exact put_same' _ _ _ (by rw [sz12]; decide)
  clear hA y113 f12_0 f12_4 f12_31 f12_35 f12_39 f12_43 sz12
  have y114 : ∀ w, (w.cell? ⟨bb, off, none⟩ = some (.int .u8 (y0 : Int)) ∧ w.cell? ⟨bb, off + 1, none⟩ = some (.int .u8 (y1 : Int)) ∧ w.cell? ⟨bb, off + 2, none⟩ = some (.int .u8 (y2 : Int)) ∧ w.cell? ⟨bb, off + 3, none⟩ = some (.int .u8 (y3 : Int))) → (execOp b13.eval p14).run Tryd.prog w = .ok (.value (.pointer (some ⟨bb, off + 3, none⟩))) w := fun w _ => by simp only [execOp, x14, f13_44]; go_simp
  refine wpAnyH_take g14 hsel (by kernel_rfl) (by kernel_rfl) (fun c a w h => hQ c _ _ a w (by rw [d14] at h; exact h)) (.inl ⟨wanted' k14, y114⟩) hS ?_
  rw [d14]
  generalize hA : b13.put (some 45) (.pointer (some ⟨bb, off + 3, none⟩)) = b14 at h ⊢
  have sz14 : b14.tmps.size = 57 := by rw [← hA, put_size']; exact sz13
  have f14_4 : b14.eval (.tmp 4) = (.pointer (some ⟨ob, 0, none⟩)) := by rw [← hA, put_other' _ _ _ _ (by decide)]; exact f13_4
  have f14_31 : b14.eval (.tmp 31) = (.pointer (some ⟨ob, 1, none⟩)) := by rw [← hA, put_other' _ _ _ _ (by decide)]; exact f13_31
  have f14_35 : b14.eval (.tmp 35) = (.int .u8 (y0 : Int)) := by rw [← hA, put_other' _ _ _ _ (by decide)]; exact f13_35
  have f14_39 : b14.eval (.tmp 39) = (.int .i64 (y1 : Int)) := by rw [← hA, put_other' _ _ _ _ (by decide)]; exact f13_39
  have f14_43 : b14.eval (.tmp 43) = (.int .i64 (y2 : Int)) := by rw [← hA, put_other' _ _ _ _ (by decide)]; exact f13_43
  have f14_45 : b14.eval (.tmp 45) = (.pointer (some ⟨bb, off + 3, none⟩)) := by rw [← hA]; exact put_same' _ _ _ (by rw [sz13]; decide)
  clear hA y114 f13_4 f13_31 f13_35 f13_39 f13_43 f13_44 sz13
  have y115 : ∀ w, (w.cell? ⟨bb, off, none⟩ = some (.int .u8 (y0 : Int)) ∧ w.cell? ⟨bb, off + 1, none⟩ = some (.int .u8 (y1 : Int)) ∧ w.cell? ⟨bb, off + 2, none⟩ = some (.int .u8 (y2 : Int)) ∧ w.cell? ⟨bb, off + 3, none⟩ = some (.int .u8 (y3 : Int))) → (execOp b14.eval p15).run Tryd.prog w = .ok (.value (.int .u8 (y3 : Int))) w := fun w hS => by obtain ⟨q0, q1, q2, q3⟩ := hS; simp only [execOp, x15, f14_45]; (try go_simp)
  refine wpAnyH_take g15 hsel (by kernel_rfl) (by kernel_rfl) (fun c a w h => hQ c _ _ a w (by rw [d15] at h; exact h)) (.inl ⟨wanted' k15, y115⟩) hS ?_
  rw [d15]
  generalize hA : b14.put (some 46) (.int .u8 (y3 : Int)) = b15 at h ⊢
  have sz15 : b15.tmps.size = 57 := by rw [← hA, put_size']; exact sz14
  have f15_4 : b15.eval (.tmp 4) = (.pointer (some ⟨ob, 0, none⟩)) := by rw [← hA, put_other' _ _ _ _ (by decide)]; exact f14_4
  have f15_31 : b15.eval (.tmp 31) = (.pointer (some ⟨ob, 1, none⟩)) := by rw [← hA, put_other' _ _ _ _ (by decide)]; exact f14_31
  have f15_35 : b15.eval (.tmp 35) = (.int .u8 (y0 : Int)) := by rw [← hA, put_other' _ _ _ _ (by decide)]; exact f14_35
  have f15_39 : b15.eval (.tmp 39) = (.int .i64 (y1 : Int)) := by rw [← hA, put_other' _ _ _ _ (by decide)]; exact f14_39
  have f15_43 : b15.eval (.tmp 43) = (.int .i64 (y2 : Int)) := by rw [← hA, put_other' _ _ _ _ (by decide)]; exact f14_43
  have f15_46 : b15.eval (.tmp 46) = (.int .u8 (y3 : Int)) := by rw [← hA]; exact put_same' _ _ _ (by rw [sz14]; decide)
  clear hA y115 f14_4 f14_31 f14_35 f14_39 f14_43 f14_45 sz14
  have y116 : ∀ w, (w.cell? ⟨bb, off, none⟩ = some (.int .u8 (y0 : Int)) ∧ w.cell? ⟨bb, off + 1, none⟩ = some (.int .u8 (y1 : Int)) ∧ w.cell? ⟨bb, off + 2, none⟩ = some (.int .u8 (y2 : Int)) ∧ w.cell? ⟨bb, off + 3, none⟩ = some (.int .u8 (y3 : Int))) → (execOp b15.eval p16).run Tryd.prog w = .ok (.value (.agg #[.int .u8 (y0 : Int), .int .i64 (y1 : Int), .int .i64 (y2 : Int), .int .u8 (y3 : Int)])) w := fun w hS => by generalize b15.eval = ev at *; simp [execOp, x16, f15_35, f15_39, f15_43, f15_46, go_sem]
  refine wpAnyH_take g16 hsel (by kernel_rfl) (by kernel_rfl) (fun c a w h => hQ c _ _ a w (by rw [d16] at h; exact h)) (.inl ⟨wanted' k16, y116⟩) hS ?_
  rw [d16]
  generalize hA : b15.put (some 47) (.agg #[.int .u8 (y0 : Int), .int .i64 (y1 : Int), .int .i64 (y2 : Int), .int .u8 (y3 : Int)]) = b16 at h ⊢
  have sz16 : b16.tmps.size = 57 := by rw [← hA, put_size']; exact sz15
  have f16_4 : b16.eval (.tmp 4) = (.pointer (some ⟨ob, 0, none⟩)) := by rw [← hA, put_other' _ _ _ _ (by decide)]; exact f15_4
  have f16_31 : b16.eval (.tmp 31) = (.pointer (some ⟨ob, 1, none⟩)) := by rw [← hA, put_other' _ _ _ _ (by decide)]; exact f15_31
  have f16_47 : b16.eval (.tmp 47) = (.agg #[.int .u8 (y0 : Int), .int .i64 (y1 : Int), .int .i64 (y2 : Int), .int .u8 (y3 : Int)]) := by rw [← hA]; exact put_same' _ _ _ (by rw [sz15]; decide)
  clear hA y116 f15_4 f15_31 f15_35 f15_39 f15_43 f15_46 sz15
  have al := (Below.refl w.heap.size w).alloc (Nat.le_refl _) (.cells #[.int .u8 (y0 : Int), .int .i64 (y1 : Int), .int .i64 (y2 : Int), .int .u8 (y3 : Int)] 92)
  have hS2 : (w.drew.alloc (.cells #[.int .u8 (y0 : Int), .int .i64 (y1 : Int), .int .i64 (y2 : Int), .int .u8 (y3 : Int)] 92)).cell? ⟨bb, off, none⟩ = some (.int .u8 (y0 : Int)) ∧ (w.drew.alloc (.cells #[.int .u8 (y0 : Int), .int .i64 (y1 : Int), .int .i64 (y2 : Int), .int .u8 (y3 : Int)] 92)).cell? ⟨bb, off + 1, none⟩ = some (.int .u8 (y1 : Int)) ∧ (w.drew.alloc (.cells #[.int .u8 (y0 : Int), .int .i64 (y1 : Int), .int .i64 (y2 : Int), .int .u8 (y3 : Int)] 92)).cell? ⟨bb, off + 2, none⟩ = some (.int .u8 (y2 : Int)) ∧ (w.drew.alloc (.cells #[.int .u8 (y0 : Int), .int .i64 (y1 : Int), .int .i64 (y2 : Int), .int .u8 (y3 : Int)] 92)).cell? ⟨bb, off + 3, none⟩ = some (.int .u8 (y3 : Int)) :=
    ⟨(al.cell (block_lt_of_cell c0)).trans c0, (al.cell (block_lt_of_cell c1)).trans c1, (al.cell (block_lt_of_cell c2)).trans c2, (al.cell (block_lt_of_cell c3)).trans c3⟩
  have o1' : (w.drew.alloc (.cells #[.int .u8 (y0 : Int), .int .i64 (y1 : Int), .int .i64 (y2 : Int), .int .u8 (y3 : Int)] 92)).cell? ⟨ob, 1, none⟩ = some vv := (al.cell (block_lt_of_cell o1)).trans o1
  have r1 : ∀ (a : Act) (w : World), a.eval (.tmp 31) = .pointer (some ⟨ob, 1, none⟩) → w.cell? ⟨ob, 1, none⟩ = some vv → (execOp a.eval p1).run Tryd.prog w = .ok (.value vv) w := fun a w h1 h2 => by
    simp only [execOp, x1, h1]
    go_simp
  have r17 : ∀ (a : Act) (w : World), a.eval (.tmp 47) = (.agg #[.int .u8 (y0 : Int), .int .i64 (y1 : Int), .int .i64 (y2 : Int), .int .u8 (y3 : Int)]) → (execOp a.eval p17).run Tryd.prog w = .ok (.value (.slice (some ⟨w.heap.size, 0, none⟩) 1 1)) (w.alloc (.cells #[.int .u8 (y0 : Int), .int .i64 (y1 : Int), .int .i64 (y2 : Int), .int .u8 (y3 : Int)] 92)) := fun a w h1 => by
    generalize a.eval = ev at *
    simp only [execOp, x17]
    go_simp
  -- behind both
  have fin : wpAnyH Tryd.prog .any R7 Q (fun w' => w'.cell? ⟨bb, off, none⟩ = some (.int .u8 (y0 : Int)) ∧ w'.cell? ⟨bb, off + 1, none⟩ = some (.int .u8 (y1 : Int)) ∧ w'.cell? ⟨bb, off + 2, none⟩ = some (.int .u8 (y2 : Int)) ∧ w'.cell? ⟨bb, off + 3, none⟩ = some (.int .u8 (y3 : Int))) 3 (mk21 [0, 2, 3, 4, 5, 6, 7, 8, 9, 10, 11, 12, 13, 14, 15, 16, 1, 17]) ((b16.put (some 32) vv).put (some 48) (.slice (some ⟨w.heap.size, 0, none⟩) 1 1)) (w.drew.alloc (.cells #[.int .u8 (y0 : Int), .int .i64 (y1 : Int), .int .i64 (y2 : Int), .int .u8 (y3 : Int)] 92)) := by
    generalize hA : (b16.put (some 32) vv).put (some 48) (.slice (some ⟨w.heap.size, 0, none⟩) 1 1) = e at h ⊢
    have sze : e.tmps.size = 57 := by rw [← hA, put_size', put_size']; exact sz16
    have e4 : e.eval (.tmp 4) = .pointer (some ⟨ob, 0, none⟩) := by rw [← hA, put_other' _ _ _ _ (by decide), put_other' _ _ _ _ (by decide)]; exact f16_4
    have e32 : e.eval (.tmp 32) = vv := by rw [← hA, put_other' _ _ _ _ (by decide)]; exact put_same' _ _ _ (by rw [sz16]; decide)
    have e48 : e.eval (.tmp 48) = .slice (some ⟨w.heap.size, 0, none⟩) 1 1 := by rw [← hA]; exact put_same' _ _ _ (by rw [put_size', sz16]; decide)
    clear hA
    refine wpAnyH_ready (rs := [18]) (by kernel_rfl) (by simp) ?_
    refine AllReadyH.cons g18 (fun K hK => ?_) AllReadyH.nil
    rw [if_pos (wanted' k18)]
    refine wp_append_own _ (.tmp 32) (.tmp 48) 47 x18 base 92 i0 (.agg #[.int .u8 0, .int .i64 0, .int .i64 0, .int .u8 0]) 4 32 Tryd.underlying47 hi0 hz0 hz1 hz2 rfl (by decide) vv k xs e32 (ownsRow_below (show w.drew.ownsRow base 92 4 vv k xs from hown) ((Below.refl _ _).alloc (Nat.le_refl _) _)) ⟨w.heap.size, 0, none⟩ 1 1 [.int .u8 (y0 : Int), .int .i64 (y1 : Int), .int .i64 (y2 : Int), .int .u8 (y3 : Int)] e48 rfl (four_new _ _ rfl _ _ _ _ _) (by intro q hq; simp at hq; rcases hq with rfl | rfl | rfl | rfl <;> rfl) (by unfold maxLen; omega) (by omega) (show base ≤ (w.alloc _).heap.size by rw [nblk_alloc]; omega) ?_
    intro v' w2 hown' hgrow _
    obtain ⟨g', cap', rfl, hg1⟩ : ∃ g' cap', v' = .slice (some ⟨g', 0, none⟩) (k + 1) cap' ∧ base ≤ g' := by
      rcases hown'.2 with ⟨_, h0⟩ | ⟨g, cap, cur, hv, hb, _⟩
      · omega
      · exact ⟨g, cap, hv, hb⟩
    have hold : ∀ q, q < base → w2.heap[q]? = w.heap[q]? := fun q hq => (hgrow.block q (show q < (w.alloc _).heap.size by rw [nblk_alloc]; omega) (fun e => by have := (hown.lt _ e.symm).1; omega)).trans (heap_old w _ q (by omega))
    have s1 : w2.cell? ⟨ob, 1, none⟩ = some vv := (World.cell?_of_block (a := ⟨ob, 1, none⟩) (hold ob hob)).trans o1
    have s2 : w2.frozen? ⟨ob, 1, none⟩ = false := (World.frozen?_of_block (a := ⟨ob, 1, none⟩) (hold ob hob)).trans hfr
    have hb := hold bb hbb
    refine hK.out _ _ ⟨(World.cell?_of_block (a := ⟨bb, _, none⟩) hb).trans c0, (World.cell?_of_block (a := ⟨bb, _, none⟩) hb).trans c1, (World.cell?_of_block (a := ⟨bb, _, none⟩) hb).trans c2, (World.cell?_of_block (a := ⟨bb, _, none⟩) hb).trans c3⟩ (fun hS3 => ?_)
    rw [d18]
    have hfin := h g' cap' w2 hg1 hown' ⟨hgrow.os, hgrow.tape, hgrow.output, hgrow.size, hgrow.block⟩
    clear h
    generalize hA : e.put (some 49) (.slice (some ⟨g', 0, none⟩) (k + 1) cap') = f at hfin ⊢
    have szf : f.tmps.size = 57 := by rw [← hA, put_size']; exact sze
    have f4 : f.eval (.tmp 4) = .pointer (some ⟨ob, 0, none⟩) := by rw [← hA, put_other' _ _ _ _ (by decide)]; exact e4
    have f49 : f.eval (.tmp 49) = .slice (some ⟨g', 0, none⟩) (k + 1) cap' := by rw [← hA]; exact put_same' _ _ _ (by rw [sze]; decide)
    clear hA
    have y19 : ∀ w, (execOp f.eval p19).run Tryd.prog w = .ok (.value (.pointer (some ⟨ob, 1, none⟩))) w := fun w => by simp only [execOp, x19, f4]; go_simp
    refine wpAnyH_take g19 hsel (by kernel_rfl) (by kernel_rfl) (fun c a w h => hQ c _ _ a w (by rw [d19] at h; exact h)) (.inl ⟨wanted' k19, fun w _ => y19 w⟩) hS3 ?_
    rw [d19]
    generalize hA : f.put (some 50) (.pointer (some ⟨ob, 1, none⟩)) = g at hfin ⊢
    have g50 : g.eval (.tmp 50) = .pointer (some ⟨ob, 1, none⟩) := by rw [← hA]; exact put_same' _ _ _ (by rw [szf]; decide)
    have g49 : g.eval (.tmp 49) = .slice (some ⟨g', 0, none⟩) (k + 1) cap' := by rw [← hA, put_other' _ _ _ _ (by decide)]; exact f49
    clear hA
    refine wpAnyH_ready (rs := [20]) (by kernel_rfl) (by simp) ?_
    refine AllReadyH.cons g20 (fun K hK => ?_) AllReadyH.nil
    rw [if_pos (wanted' k20)]
    have y20 : (execOp g.eval p20).run Tryd.prog w2 = .ok .skip (w2.setCell ⟨ob, 1, none⟩ (.slice (some ⟨g', 0, none⟩) (k + 1) cap')) := by
      simp only [execOp, x20, g50, g49]
      go_simp
    unfold Oper.wp
    rw [y20, Oper.upon_skip]
    have far : ∀ j, (w2.setCell ⟨ob, 1, none⟩ (.slice (some ⟨g', 0, none⟩) (k + 1) cap')).cell? ⟨bb, j, none⟩ = w2.cell? ⟨bb, j, none⟩ := fun j => World.cell?_setCell_far _ _ _ _ hne
    refine hK.out _ _ ⟨(far _).trans hS3.1, (far _).trans hS3.2.1, (far _).trans hS3.2.2.1, (far _).trans hS3.2.2.2⟩ (fun _ => ?_)
    rw [d20]
    exact ⟨by kernel_rfl, hfin⟩

  refine wpAnyH_ready (rs := [1, 17]) (by kernel_rfl) (by simp) ?_
  refine AllReadyH.cons g1 (fun K hK => ?_) (AllReadyH.cons g17 (fun K hK => ?_) AllReadyH.nil)
  · rw [if_pos (wanted' k1)]
    unfold Oper.wp
    rw [r1 _ w.drew f16_31 o1, Oper.upon_value]
    refine hK.out _ _ hS (fun _ => ?_)
    rw [d1]
    refine wpAnyH_ready (rs := [17]) (by kernel_rfl) (by simp) ?_
    refine AllReadyH.cons g17 (fun K hK => ?_) AllReadyH.nil
    rw [if_pos (wanted' k17)]
    unfold Oper.wp
    rw [r17 _ _ (by rw [put_other' _ _ _ _ (by decide)]; exact f16_47), Oper.upon_value]
    refine hK.out _ _ hS2 (fun _ => ?_)
    rw [d17]
    exact fin
  · rw [if_pos (wanted' k17)]
    unfold Oper.wp
    rw [r17 _ _ f16_47, Oper.upon_value]
    refine hK.out _ _ hS2 (fun _ => ?_)
    rw [d17]
    refine wpAnyH_ready (rs := [1]) (by kernel_rfl) (by simp) ?_
    refine AllReadyH.cons g1 (fun K hK => ?_) AllReadyH.nil
    rw [if_pos (wanted' k1)]
    unfold Oper.wp
    rw [r1 _ _ (by rw [put_other' _ _ _ _ (by decide)]; exact f16_31) o1', Oper.upon_value]
    refine hK.out _ _ hS2 (fun _ => ?_)
    rw [d1, put_comm' _ _ _ _ _ (by decide)]
    exact fin
end Go.Proofs.YthhommjlomphdaaDoor
