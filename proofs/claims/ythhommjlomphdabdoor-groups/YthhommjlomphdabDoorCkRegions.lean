/-
  Two regions that draw their order: rows of checks are exchanged; a row is written over with the last one. Written by gen_ck_regions.py.
-/
import Derived.Test.YthhommjlomphdabDoorPart10
namespace Go.Proofs.YthhommjlomphdabDoor
open Go.RowKit Go.Deep Gf

theorem pt_same (a : Act) (i : Nat) (v : Value) (h : i < a.tmps.size) : (a.put (some i) v).eval (.tmp i) = v := by simp [Act.put, Act.eval, h]
theorem pt_other (a : Act) (i j : Nat) (v : Value) (h : i ≠ j) : (a.put (some i) v).eval (.tmp j) = a.eval (.tmp j) := by
  simp [Act.put, Act.eval, Array.getD_eq_getD_getElem?, h]
theorem pt_size (a : Act) (d : Option Nat) (v : Value) : (a.put d v).tmps.size = a.tmps.size := by
  cases d <;> simp [Act.put]
theorem pt_want {ops : Array Oper} {o : Oper} {a : Act} (hg : o.guard = none) : Region.wanted o (yielded ops a.tmps) = true := by simp [Region.wanted, hg]
/-- a frame in which but the slots from lo to hi - 1 have turned -/
structure Kept (lo hi : Nat) (a a' : Act) : Prop where
  size : a'.tmps.size = a.tmps.size
  defers : a'.defers = a.defers
  slot : ∀ s, s < lo ∨ hi ≤ s → a'.eval (.tmp s) = a.eval (.tmp s)
theorem Kept.refl (lo hi : Nat) (a : Act) : Kept lo hi a a := ⟨rfl, rfl, fun _ _ => rfl⟩
theorem Kept.put {lo hi : Nat} {a a' : Act} (h : Kept lo hi a a') (d : Nat) (v : Value) (h1 : lo ≤ d) (h2 : d < hi) : Kept lo hi a (a'.put (some d) v) :=
  ⟨by rw [pt_size]; exact h.size, h.defers, fun s hs => by rw [pt_other _ _ _ _ (by omega)]; exact h.slot s hs⟩
theorem Kept.none {lo hi : Nat} {a a' : Act} (h : Kept lo hi a a') (v : Value) : Kept lo hi a (a'.put none v) := h
def rgc : Code → Nat → Option (Array Oper)
  | .region i ops _, n => if i = n then some ops else none
  | .seq a b, n => (rgc a n).orElse fun _ => rgc b n
  | .cond _ a b, n => (rgc a n).orElse fun _ => rgc b n
  | .block _ a, n => rgc a n
  | .loop a, n => rgc a n
  | .scope a, n => rgc a n
  | _, _ => none

noncomputable def RTell : Array Oper := ((Tryd.f40.body.bind (rgc · 4))).getD #[]
def mkTell (l : List Nat) : Array Bool := l.foldl (fun a i => a.setIfInBounds i true) (Array.replicate 30 false)
theorem RTell_at : (List.range 30).map (fun i => (RTell[i]?).map fun o => (o.op, o.dst, o.guard)) = [    some (.move (.tmp 0), some 15, none),
    some (.move (.tmp 0), some 16, none),
    some (.nilCheck (.tmp 16), some 17, none),
    some (.fieldAddr 68 (.tmp 17) 1, some 18, none),
    some (.load 3 (.tmp 18), some 19, none),
    some (.move (.tmp 0), some 20, none),
    some (.move (.tmp 5), some 21, none),
    some (.move (.tmp 0), some 22, none),
    some (.move (.tmp 5), some 23, none),
    some (.nilCheck (.tmp 22), some 24, none),
    some (.fieldAddr 68 (.tmp 24) 0, some 25, none),
    some (.indexAddr 66 (.tmp 25) (.tmp 23), some 26, none),
    some (.load 65 (.tmp 26), some 27, none),
    some (.move (.tmp 0), some 28, none),
    some (.move (.tmp 0), some 29, none),
    some (.nilCheck (.tmp 29), some 30, none),
    some (.fieldAddr 68 (.tmp 30) 1, some 31, none),
    some (.load 3 (.tmp 31), some 32, none),
    some (.nilCheck (.tmp 28), some 33, none),
    some (.fieldAddr 68 (.tmp 33) 0, some 34, none),
    some (.indexAddr 66 (.tmp 34) (.tmp 32), some 35, none),
    some (.load 65 (.tmp 35), some 36, none),
    some (.nilCheck (.tmp 15), some 37, none),
    some (.fieldAddr 68 (.tmp 37) 0, some 38, none),
    some (.indexAddr 66 (.tmp 38) (.tmp 19), some 39, none),
    some (.store 65 (.tmp 39) (.tmp 27), none, none),
    some (.nilCheck (.tmp 20), some 40, none),
    some (.fieldAddr 68 (.tmp 40) 0, some 41, none),
    some (.indexAddr 66 (.tmp 41) (.tmp 21), some 42, none),
    some (.store 65 (.tmp 42) (.tmp 36), none, none)] := by kernel_rfl
theorem RTell_op {i : Nat} {x : Op} {d : Option Nat} (hi : i < 30) (h : ((List.range 30).map (fun i => (RTell[i]?).map fun o => (o.op, o.dst, o.guard)))[i]? = some (some (x, d, none))) : ∃ o, RTell[i]? = some o ∧ o.op = x ∧ o.dst = d ∧ o.guard = none := by
  simp only [List.getElem?_map, List.getElem?_range hi, Option.map_some, Option.some.injEq, Option.map_eq_some_iff, Prod.mk.injEq] at h
  obtain ⟨o, h1, h2, h3, h4⟩ := h
  exact ⟨o, h1, h2, h3, h4⟩
set_option maxRecDepth 100000 in
set_option maxHeartbeats 4000000 in
theorem ck_exchange {ops : Array Oper} {Q : Exit → Act → World → Prop} {a : Act} {w : World} (b r t : Nat) (m : Nat → Nat → Nat) (hR : RTell = ops) (hQ : ∀ c n v a w, Q (.panic c) (a.put (some n) v) w → Q (.panic c) a w)
    (sz : a.tmps.size = 64) (hr : r < 8) (ht : t < 8) (i0 : a.eval (.tmp 0) = .pointer (some ⟨b, 0, none⟩)) (i5 : a.eval (.tmp 5) = .int .i64 (r : Int)) (c128 : w.drew.cell? ⟨b, 128, none⟩ = some (.int .i64 (t : Int)))
    (gr : w.drew.rangeAt b (r * 16) (rowL (m r))) (gt : w.drew.rangeAt b (t * 16) (rowL (m t))) (tr : w.drew.there b (r * 16) 16) (tt : w.drew.there b (t * 16) 16)
    (h : ∀ a', Kept 15 43 a a' → Q .normal a' ((w.drew.setCells b (t * 16) (rowL (m r))).setCells b (r * 16) (rowL (m t)))) : (Code.region 4 ops true).wp Tryd.prog Q a w := by
  have hr' : (r : Int) < 8 := by omega
  have ht' : (t : Int) < 8 := by omega
  subst hR
  obtain ⟨p0, g0, x0, d0, k0⟩ := RTell_op (i := 0) (by decide) (by rw [RTell_at]; rfl)
  obtain ⟨p1, g1, x1, d1, k1⟩ := RTell_op (i := 1) (by decide) (by rw [RTell_at]; rfl)
  obtain ⟨p2, g2, x2, d2, k2⟩ := RTell_op (i := 2) (by decide) (by rw [RTell_at]; rfl)
  obtain ⟨p3, g3, x3, d3, k3⟩ := RTell_op (i := 3) (by decide) (by rw [RTell_at]; rfl)
  obtain ⟨p4, g4, x4, d4, k4⟩ := RTell_op (i := 4) (by decide) (by rw [RTell_at]; rfl)
  obtain ⟨p5, g5, x5, d5, k5⟩ := RTell_op (i := 5) (by decide) (by rw [RTell_at]; rfl)
  obtain ⟨p6, g6, x6, d6, k6⟩ := RTell_op (i := 6) (by decide) (by rw [RTell_at]; rfl)
  obtain ⟨p7, g7, x7, d7, k7⟩ := RTell_op (i := 7) (by decide) (by rw [RTell_at]; rfl)
  obtain ⟨p8, g8, x8, d8, k8⟩ := RTell_op (i := 8) (by decide) (by rw [RTell_at]; rfl)
  obtain ⟨p9, g9, x9, d9, k9⟩ := RTell_op (i := 9) (by decide) (by rw [RTell_at]; rfl)
  obtain ⟨p10, g10, x10, d10, k10⟩ := RTell_op (i := 10) (by decide) (by rw [RTell_at]; rfl)
  obtain ⟨p11, g11, x11, d11, k11⟩ := RTell_op (i := 11) (by decide) (by rw [RTell_at]; rfl)
  obtain ⟨p12, g12, x12, d12, k12⟩ := RTell_op (i := 12) (by decide) (by rw [RTell_at]; rfl)
  obtain ⟨p13, g13, x13, d13, k13⟩ := RTell_op (i := 13) (by decide) (by rw [RTell_at]; rfl)
  obtain ⟨p14, g14, x14, d14, k14⟩ := RTell_op (i := 14) (by decide) (by rw [RTell_at]; rfl)
  obtain ⟨p15, g15, x15, d15, k15⟩ := RTell_op (i := 15) (by decide) (by rw [RTell_at]; rfl)
  obtain ⟨p16, g16, x16, d16, k16⟩ := RTell_op (i := 16) (by decide) (by rw [RTell_at]; rfl)
  obtain ⟨p17, g17, x17, d17, k17⟩ := RTell_op (i := 17) (by decide) (by rw [RTell_at]; rfl)
  obtain ⟨p18, g18, x18, d18, k18⟩ := RTell_op (i := 18) (by decide) (by rw [RTell_at]; rfl)
  obtain ⟨p19, g19, x19, d19, k19⟩ := RTell_op (i := 19) (by decide) (by rw [RTell_at]; rfl)
  obtain ⟨p20, g20, x20, d20, k20⟩ := RTell_op (i := 20) (by decide) (by rw [RTell_at]; rfl)
  obtain ⟨p21, g21, x21, d21, k21⟩ := RTell_op (i := 21) (by decide) (by rw [RTell_at]; rfl)
  obtain ⟨p22, g22, x22, d22, k22⟩ := RTell_op (i := 22) (by decide) (by rw [RTell_at]; rfl)
  obtain ⟨p23, g23, x23, d23, k23⟩ := RTell_op (i := 23) (by decide) (by rw [RTell_at]; rfl)
  obtain ⟨p24, g24, x24, d24, k24⟩ := RTell_op (i := 24) (by decide) (by rw [RTell_at]; rfl)
  obtain ⟨p25, g25, x25, d25, k25⟩ := RTell_op (i := 25) (by decide) (by rw [RTell_at]; rfl)
  obtain ⟨p26, g26, x26, d26, k26⟩ := RTell_op (i := 26) (by decide) (by rw [RTell_at]; rfl)
  obtain ⟨p27, g27, x27, d27, k27⟩ := RTell_op (i := 27) (by decide) (by rw [RTell_at]; rfl)
  obtain ⟨p28, g28, x28, d28, k28⟩ := RTell_op (i := 28) (by decide) (by rw [RTell_at]; rfl)
  obtain ⟨p29, g29, x29, d29, k29⟩ := RTell_op (i := 29) (by decide) (by rw [RTell_at]; rfl)
  have hsel : Region.noSelect RTell = true := by kernel_rfl
  have hsize : RTell.size = 30 := by kernel_rfl
  have z1073741823 : ∀ a', Kept 15 43 a a' → wpAny Tryd.prog .any RTell Q 0 (mkTell [0, 1, 2, 3, 4, 5, 6, 7, 8, 9, 10, 11, 12, 13, 14, 15, 16, 17, 18, 19, 20, 21, 22, 23, 24, 25, 26, 27, 28, 29]) a' ((w.drew.setCells b (t * 16) (rowL (m r))).setCells b (r * 16) (rowL (m t))) := by
    intro a' hk
    exact wpAny_done (by kernel_rfl) (h a' hk) _
  have z536870911 : ∀ a', Kept 15 43 a a' → a'.eval (.tmp 36) = .agg (rowL (m t)).toArray → a'.eval (.tmp 42) = .pointer (some ⟨b, r * 16, none⟩) → wpAny Tryd.prog .any RTell Q 1 (mkTell [0, 1, 2, 3, 4, 5, 6, 7, 8, 9, 10, 11, 12, 13, 14, 15, 16, 17, 18, 19, 20, 21, 22, 23, 24, 25, 26, 27, 28]) a' (w.drew.setCells b (t * 16) (rowL (m r))) := by
    intro a' hk f36 f42
    refine wpAny_ready (rs := [29]) (by kernel_rfl) (by simp) ?_
    refine AllReady.cons g29 (fun K hK => ?_) AllReady.nil
    rw [if_pos (pt_want k29)]
    refine wp_store_mid 65 (.tmp 42) (.tmp 36) x29 b (r * 16) (rowL (m t)).toArray f42 f36 (by simpa [rowL_len] using World.there_setCells tr _ _ _) (by simpa using Tryd.sizeArr16 _) (rowL_one _) ?_
    refine hK _ _ ?_
    rw [d29]
    exact z1073741823 (a'.put none undef) (hk.none _) 
  have z268435455 : ∀ a', Kept 15 43 a a' → a'.eval (.tmp 21) = .int .i64 (r : Int) → a'.eval (.tmp 36) = .agg (rowL (m t)).toArray → a'.eval (.tmp 41) = .pointer (some ⟨b, 0, none⟩) → wpAny Tryd.prog .any RTell Q 2 (mkTell [0, 1, 2, 3, 4, 5, 6, 7, 8, 9, 10, 11, 12, 13, 14, 15, 16, 17, 18, 19, 20, 21, 22, 23, 24, 25, 26, 27]) a' (w.drew.setCells b (t * 16) (rowL (m r))) := by
    intro a' hk f21 f36 f41
    have q0 := f41
    have q1 := f21
    refine wpAny_take g28 hsel (by kernel_rfl) (by kernel_rfl) (fun c a w h => hQ c _ _ a w (by rw [d28] at h; exact h)) (v := .pointer (some ⟨b, r * 16, none⟩)) (.inl ⟨pt_want k28, fun w => by simp only [execOp, x28, q0, q1]; (try go_simp)⟩) ?_
    rw [d28]
    exact z536870911 (a'.put (some 42) (.pointer (some ⟨b, r * 16, none⟩))) (hk.put 42 _ (by decide) (by decide)) ((pt_other _ _ _ _ (by decide)).trans f36) (pt_same _ _ _ (by rw [hk.size, sz]; decide))
  have z234881023 : ∀ a', Kept 15 43 a a' → a'.eval (.tmp 21) = .int .i64 (r : Int) → a'.eval (.tmp 27) = .agg (rowL (m r)).toArray → a'.eval (.tmp 36) = .agg (rowL (m t)).toArray → a'.eval (.tmp 39) = .pointer (some ⟨b, t * 16, none⟩) → a'.eval (.tmp 41) = .pointer (some ⟨b, 0, none⟩) → wpAny Tryd.prog .any RTell Q 3 (mkTell [0, 1, 2, 3, 4, 5, 6, 7, 8, 9, 10, 11, 12, 13, 14, 15, 16, 17, 18, 19, 20, 21, 22, 23, 24, 26, 27]) a' (w.drew) := by
    intro a' hk f21 f27 f36 f39 f41
    refine wpAny_ready (rs := [25]) (by kernel_rfl) (by simp) ?_
    refine AllReady.cons g25 (fun K hK => ?_) AllReady.nil
    rw [if_pos (pt_want k25)]
    refine wp_store_mid 65 (.tmp 39) (.tmp 27) x25 b (t * 16) (rowL (m r)).toArray f39 f27 (by simpa [rowL_len] using tt) (by simpa using Tryd.sizeArr16 _) (rowL_one _) ?_
    refine hK _ _ ?_
    rw [d25]
    exact z268435455 (a'.put none undef) (hk.none _) f21 f36 f41
  have z218103807 : ∀ a', Kept 15 43 a a' → a'.eval (.tmp 19) = .int .i64 (t : Int) → a'.eval (.tmp 21) = .int .i64 (r : Int) → a'.eval (.tmp 27) = .agg (rowL (m r)).toArray → a'.eval (.tmp 36) = .agg (rowL (m t)).toArray → a'.eval (.tmp 38) = .pointer (some ⟨b, 0, none⟩) → a'.eval (.tmp 41) = .pointer (some ⟨b, 0, none⟩) → wpAny Tryd.prog .any RTell Q 4 (mkTell [0, 1, 2, 3, 4, 5, 6, 7, 8, 9, 10, 11, 12, 13, 14, 15, 16, 17, 18, 19, 20, 21, 22, 23, 26, 27]) a' (w.drew) := by
    intro a' hk f19 f21 f27 f36 f38 f41
    have q0 := f38
    have q1 := f19
    refine wpAny_take g24 hsel (by kernel_rfl) (by kernel_rfl) (fun c a w h => hQ c _ _ a w (by rw [d24] at h; exact h)) (v := .pointer (some ⟨b, t * 16, none⟩)) (.inl ⟨pt_want k24, fun w => by simp only [execOp, x24, q0, q1]; (try go_simp)⟩) ?_
    rw [d24]
    exact z234881023 (a'.put (some 39) (.pointer (some ⟨b, t * 16, none⟩))) (hk.put 39 _ (by decide) (by decide)) ((pt_other _ _ _ _ (by decide)).trans f21) ((pt_other _ _ _ _ (by decide)).trans f27) ((pt_other _ _ _ _ (by decide)).trans f36) (pt_same _ _ _ (by rw [hk.size, sz]; decide)) ((pt_other _ _ _ _ (by decide)).trans f41)
  have z218103791 : ∀ a', Kept 15 43 a a' → a'.eval (.tmp 18) = .pointer (some ⟨b, 128, none⟩) → a'.eval (.tmp 21) = .int .i64 (r : Int) → a'.eval (.tmp 27) = .agg (rowL (m r)).toArray → a'.eval (.tmp 36) = .agg (rowL (m t)).toArray → a'.eval (.tmp 38) = .pointer (some ⟨b, 0, none⟩) → a'.eval (.tmp 41) = .pointer (some ⟨b, 0, none⟩) → wpAny Tryd.prog .any RTell Q 5 (mkTell [0, 1, 2, 3, 5, 6, 7, 8, 9, 10, 11, 12, 13, 14, 15, 16, 17, 18, 19, 20, 21, 22, 23, 26, 27]) a' w.drew := by
    intro a' hk f18 f21 f27 f36 f38 f41
    refine wpAny_ready (rs := [4]) (by kernel_rfl) (by simp) ?_
    refine (AllReady.cons g4 (fun K hK => ?_) AllReady.nil)
    · rw [if_pos (pt_want k4)]
      have e : (execOp a'.eval p4).run Tryd.prog w.drew = .ok (.value (.int .i64 (t : Int))) w.drew := by have ff := f18; simp only [execOp, x4, ff]; go_simp
      unfold Oper.wp
      rw [e, Oper.upon_value]
      refine hK _ _ ?_
      rw [d4]
      exact z218103807 (a'.put (some 19) (.int .i64 (t : Int))) (hk.put 19 _ (by decide) (by decide)) (pt_same _ _ _ (by rw [hk.size, sz]; decide)) ((pt_other _ _ _ _ (by decide)).trans f21) ((pt_other _ _ _ _ (by decide)).trans f27) ((pt_other _ _ _ _ (by decide)).trans f36) ((pt_other _ _ _ _ (by decide)).trans f38) ((pt_other _ _ _ _ (by decide)).trans f41)
  have z216006655 : ∀ a', Kept 15 43 a a' → a'.eval (.tmp 19) = .int .i64 (t : Int) → a'.eval (.tmp 21) = .int .i64 (r : Int) → a'.eval (.tmp 27) = .agg (rowL (m r)).toArray → a'.eval (.tmp 35) = .pointer (some ⟨b, t * 16, none⟩) → a'.eval (.tmp 38) = .pointer (some ⟨b, 0, none⟩) → a'.eval (.tmp 41) = .pointer (some ⟨b, 0, none⟩) → wpAny Tryd.prog .any RTell Q 5 (mkTell [0, 1, 2, 3, 4, 5, 6, 7, 8, 9, 10, 11, 12, 13, 14, 15, 16, 17, 18, 19, 20, 22, 23, 26, 27]) a' w.drew := by
    intro a' hk f19 f21 f27 f35 f38 f41
    refine wpAny_ready (rs := [21]) (by kernel_rfl) (by simp) ?_
    refine (AllReady.cons g21 (fun K hK => ?_) AllReady.nil)
    · rw [if_pos (pt_want k21)]
      refine wp_load_mid 65 (.tmp 35) x21 b (t * 16) f35 (rowL (m t)) _ gt Tryd.underlying65 rfl (Tryd.sizeArr16 _) ?_
      refine hK _ _ ?_
      rw [d21]
      exact z218103807 (a'.put (some 36) (.agg (rowL (m t)).toArray)) (hk.put 36 _ (by decide) (by decide)) ((pt_other _ _ _ _ (by decide)).trans f19) ((pt_other _ _ _ _ (by decide)).trans f21) ((pt_other _ _ _ _ (by decide)).trans f27) (pt_same _ _ _ (by rw [hk.size, sz]; decide)) ((pt_other _ _ _ _ (by decide)).trans f38) ((pt_other _ _ _ _ (by decide)).trans f41)
  have z218099711 : ∀ a', Kept 15 43 a a' → a'.eval (.tmp 19) = .int .i64 (t : Int) → a'.eval (.tmp 21) = .int .i64 (r : Int) → a'.eval (.tmp 26) = .pointer (some ⟨b, r * 16, none⟩) → a'.eval (.tmp 36) = .agg (rowL (m t)).toArray → a'.eval (.tmp 38) = .pointer (some ⟨b, 0, none⟩) → a'.eval (.tmp 41) = .pointer (some ⟨b, 0, none⟩) → wpAny Tryd.prog .any RTell Q 5 (mkTell [0, 1, 2, 3, 4, 5, 6, 7, 8, 9, 10, 11, 13, 14, 15, 16, 17, 18, 19, 20, 21, 22, 23, 26, 27]) a' w.drew := by
    intro a' hk f19 f21 f26 f36 f38 f41
    refine wpAny_ready (rs := [12]) (by kernel_rfl) (by simp) ?_
    refine (AllReady.cons g12 (fun K hK => ?_) AllReady.nil)
    · rw [if_pos (pt_want k12)]
      refine wp_load_mid 65 (.tmp 26) x12 b (r * 16) f26 (rowL (m r)) _ gr Tryd.underlying65 rfl (Tryd.sizeArr16 _) ?_
      refine hK _ _ ?_
      rw [d12]
      exact z218103807 (a'.put (some 27) (.agg (rowL (m r)).toArray)) (hk.put 27 _ (by decide) (by decide)) ((pt_other _ _ _ _ (by decide)).trans f19) ((pt_other _ _ _ _ (by decide)).trans f21) (pt_same _ _ _ (by rw [hk.size, sz]; decide)) ((pt_other _ _ _ _ (by decide)).trans f36) ((pt_other _ _ _ _ (by decide)).trans f38) ((pt_other _ _ _ _ (by decide)).trans f41)
  have z214958079 : ∀ a', Kept 15 43 a a' → a'.eval (.tmp 19) = .int .i64 (t : Int) → a'.eval (.tmp 21) = .int .i64 (r : Int) → a'.eval (.tmp 27) = .agg (rowL (m r)).toArray → a'.eval (.tmp 32) = .int .i64 (t : Int) → a'.eval (.tmp 34) = .pointer (some ⟨b, 0, none⟩) → a'.eval (.tmp 38) = .pointer (some ⟨b, 0, none⟩) → a'.eval (.tmp 41) = .pointer (some ⟨b, 0, none⟩) → wpAny Tryd.prog .any RTell Q 6 (mkTell [0, 1, 2, 3, 4, 5, 6, 7, 8, 9, 10, 11, 12, 13, 14, 15, 16, 17, 18, 19, 22, 23, 26, 27]) a' w.drew := by
    intro a' hk f19 f21 f27 f32 f34 f38 f41
    have q0 := f34
    have q1 := f32
    refine wpAny_take g20 hsel (by kernel_rfl) (by kernel_rfl) (fun c a w h => hQ c _ _ a w (by rw [d20] at h; exact h)) (v := .pointer (some ⟨b, t * 16, none⟩)) (.inl ⟨pt_want k20, fun w => by simp only [execOp, x20, q0, q1]; (try go_simp)⟩) ?_
    rw [d20]
    exact z216006655 (a'.put (some 35) (.pointer (some ⟨b, t * 16, none⟩))) (hk.put 35 _ (by decide) (by decide)) ((pt_other _ _ _ _ (by decide)).trans f19) ((pt_other _ _ _ _ (by decide)).trans f21) ((pt_other _ _ _ _ (by decide)).trans f27) (pt_same _ _ _ (by rw [hk.size, sz]; decide)) ((pt_other _ _ _ _ (by decide)).trans f38) ((pt_other _ _ _ _ (by decide)).trans f41)
  have z216002559 : ∀ a', Kept 15 43 a a' → a'.eval (.tmp 19) = .int .i64 (t : Int) → a'.eval (.tmp 21) = .int .i64 (r : Int) → a'.eval (.tmp 26) = .pointer (some ⟨b, r * 16, none⟩) → a'.eval (.tmp 35) = .pointer (some ⟨b, t * 16, none⟩) → a'.eval (.tmp 38) = .pointer (some ⟨b, 0, none⟩) → a'.eval (.tmp 41) = .pointer (some ⟨b, 0, none⟩) → wpAny Tryd.prog .any RTell Q 6 (mkTell [0, 1, 2, 3, 4, 5, 6, 7, 8, 9, 10, 11, 13, 14, 15, 16, 17, 18, 19, 20, 22, 23, 26, 27]) a' w.drew := by
    intro a' hk f19 f21 f26 f35 f38 f41
    refine wpAny_ready (rs := [12, 21]) (by kernel_rfl) (by simp) ?_
    refine (AllReady.cons g12 (fun K hK => ?_) (AllReady.cons g21 (fun K hK => ?_) AllReady.nil))
    · rw [if_pos (pt_want k12)]
      refine wp_load_mid 65 (.tmp 26) x12 b (r * 16) f26 (rowL (m r)) _ gr Tryd.underlying65 rfl (Tryd.sizeArr16 _) ?_
      refine hK _ _ ?_
      rw [d12]
      exact z216006655 (a'.put (some 27) (.agg (rowL (m r)).toArray)) (hk.put 27 _ (by decide) (by decide)) ((pt_other _ _ _ _ (by decide)).trans f19) ((pt_other _ _ _ _ (by decide)).trans f21) (pt_same _ _ _ (by rw [hk.size, sz]; decide)) ((pt_other _ _ _ _ (by decide)).trans f35) ((pt_other _ _ _ _ (by decide)).trans f38) ((pt_other _ _ _ _ (by decide)).trans f41)
    · rw [if_pos (pt_want k21)]
      refine wp_load_mid 65 (.tmp 35) x21 b (t * 16) f35 (rowL (m t)) _ gt Tryd.underlying65 rfl (Tryd.sizeArr16 _) ?_
      refine hK _ _ ?_
      rw [d21]
      exact z218099711 (a'.put (some 36) (.agg (rowL (m t)).toArray)) (hk.put 36 _ (by decide) (by decide)) ((pt_other _ _ _ _ (by decide)).trans f19) ((pt_other _ _ _ _ (by decide)).trans f21) ((pt_other _ _ _ _ (by decide)).trans f26) (pt_same _ _ _ (by rw [hk.size, sz]; decide)) ((pt_other _ _ _ _ (by decide)).trans f38) ((pt_other _ _ _ _ (by decide)).trans f41)
  have z216006639 : ∀ a', Kept 15 43 a a' → a'.eval (.tmp 18) = .pointer (some ⟨b, 128, none⟩) → a'.eval (.tmp 21) = .int .i64 (r : Int) → a'.eval (.tmp 27) = .agg (rowL (m r)).toArray → a'.eval (.tmp 35) = .pointer (some ⟨b, t * 16, none⟩) → a'.eval (.tmp 38) = .pointer (some ⟨b, 0, none⟩) → a'.eval (.tmp 41) = .pointer (some ⟨b, 0, none⟩) → wpAny Tryd.prog .any RTell Q 6 (mkTell [0, 1, 2, 3, 5, 6, 7, 8, 9, 10, 11, 12, 13, 14, 15, 16, 17, 18, 19, 20, 22, 23, 26, 27]) a' w.drew := by
    intro a' hk f18 f21 f27 f35 f38 f41
    refine wpAny_ready (rs := [4, 21]) (by kernel_rfl) (by simp) ?_
    refine (AllReady.cons g4 (fun K hK => ?_) (AllReady.cons g21 (fun K hK => ?_) AllReady.nil))
    · rw [if_pos (pt_want k4)]
      have e : (execOp a'.eval p4).run Tryd.prog w.drew = .ok (.value (.int .i64 (t : Int))) w.drew := by have ff := f18; simp only [execOp, x4, ff]; go_simp
      unfold Oper.wp
      rw [e, Oper.upon_value]
      refine hK _ _ ?_
      rw [d4]
      exact z216006655 (a'.put (some 19) (.int .i64 (t : Int))) (hk.put 19 _ (by decide) (by decide)) (pt_same _ _ _ (by rw [hk.size, sz]; decide)) ((pt_other _ _ _ _ (by decide)).trans f21) ((pt_other _ _ _ _ (by decide)).trans f27) ((pt_other _ _ _ _ (by decide)).trans f35) ((pt_other _ _ _ _ (by decide)).trans f38) ((pt_other _ _ _ _ (by decide)).trans f41)
    · rw [if_pos (pt_want k21)]
      refine wp_load_mid 65 (.tmp 35) x21 b (t * 16) f35 (rowL (m t)) _ gt Tryd.underlying65 rfl (Tryd.sizeArr16 _) ?_
      refine hK _ _ ?_
      rw [d21]
      exact z218103791 (a'.put (some 36) (.agg (rowL (m t)).toArray)) (hk.put 36 _ (by decide) (by decide)) ((pt_other _ _ _ _ (by decide)).trans f18) ((pt_other _ _ _ _ (by decide)).trans f21) ((pt_other _ _ _ _ (by decide)).trans f27) (pt_same _ _ _ (by rw [hk.size, sz]; decide)) ((pt_other _ _ _ _ (by decide)).trans f38) ((pt_other _ _ _ _ (by decide)).trans f41)
  have z218099695 : ∀ a', Kept 15 43 a a' → a'.eval (.tmp 18) = .pointer (some ⟨b, 128, none⟩) → a'.eval (.tmp 21) = .int .i64 (r : Int) → a'.eval (.tmp 26) = .pointer (some ⟨b, r * 16, none⟩) → a'.eval (.tmp 36) = .agg (rowL (m t)).toArray → a'.eval (.tmp 38) = .pointer (some ⟨b, 0, none⟩) → a'.eval (.tmp 41) = .pointer (some ⟨b, 0, none⟩) → wpAny Tryd.prog .any RTell Q 6 (mkTell [0, 1, 2, 3, 5, 6, 7, 8, 9, 10, 11, 13, 14, 15, 16, 17, 18, 19, 20, 21, 22, 23, 26, 27]) a' w.drew := by
    intro a' hk f18 f21 f26 f36 f38 f41
    refine wpAny_ready (rs := [4, 12]) (by kernel_rfl) (by simp) ?_
    refine (AllReady.cons g4 (fun K hK => ?_) (AllReady.cons g12 (fun K hK => ?_) AllReady.nil))
    · rw [if_pos (pt_want k4)]
      have e : (execOp a'.eval p4).run Tryd.prog w.drew = .ok (.value (.int .i64 (t : Int))) w.drew := by have ff := f18; simp only [execOp, x4, ff]; go_simp
      unfold Oper.wp
      rw [e, Oper.upon_value]
      refine hK _ _ ?_
      rw [d4]
      exact z218099711 (a'.put (some 19) (.int .i64 (t : Int))) (hk.put 19 _ (by decide) (by decide)) (pt_same _ _ _ (by rw [hk.size, sz]; decide)) ((pt_other _ _ _ _ (by decide)).trans f21) ((pt_other _ _ _ _ (by decide)).trans f26) ((pt_other _ _ _ _ (by decide)).trans f36) ((pt_other _ _ _ _ (by decide)).trans f38) ((pt_other _ _ _ _ (by decide)).trans f41)
    · rw [if_pos (pt_want k12)]
      refine wp_load_mid 65 (.tmp 26) x12 b (r * 16) f26 (rowL (m r)) _ gr Tryd.underlying65 rfl (Tryd.sizeArr16 _) ?_
      refine hK _ _ ?_
      rw [d12]
      exact z218103791 (a'.put (some 27) (.agg (rowL (m r)).toArray)) (hk.put 27 _ (by decide) (by decide)) ((pt_other _ _ _ _ (by decide)).trans f18) ((pt_other _ _ _ _ (by decide)).trans f21) (pt_same _ _ _ (by rw [hk.size, sz]; decide)) ((pt_other _ _ _ _ (by decide)).trans f36) ((pt_other _ _ _ _ (by decide)).trans f38) ((pt_other _ _ _ _ (by decide)).trans f41)
  have z214827007 : ∀ a', Kept 15 43 a a' → a'.eval (.tmp 19) = .int .i64 (t : Int) → a'.eval (.tmp 21) = .int .i64 (r : Int) → a'.eval (.tmp 27) = .agg (rowL (m r)).toArray → a'.eval (.tmp 31) = .pointer (some ⟨b, 128, none⟩) → a'.eval (.tmp 34) = .pointer (some ⟨b, 0, none⟩) → a'.eval (.tmp 38) = .pointer (some ⟨b, 0, none⟩) → a'.eval (.tmp 41) = .pointer (some ⟨b, 0, none⟩) → wpAny Tryd.prog .any RTell Q 7 (mkTell [0, 1, 2, 3, 4, 5, 6, 7, 8, 9, 10, 11, 12, 13, 14, 15, 16, 18, 19, 22, 23, 26, 27]) a' w.drew := by
    intro a' hk f19 f21 f27 f31 f34 f38 f41
    refine wpAny_ready (rs := [17]) (by kernel_rfl) (by simp) ?_
    refine (AllReady.cons g17 (fun K hK => ?_) AllReady.nil)
    · rw [if_pos (pt_want k17)]
      have e : (execOp a'.eval p17).run Tryd.prog w.drew = .ok (.value (.int .i64 (t : Int))) w.drew := by have ff := f31; simp only [execOp, x17, ff]; go_simp
      unfold Oper.wp
      rw [e, Oper.upon_value]
      refine hK _ _ ?_
      rw [d17]
      exact z214958079 (a'.put (some 32) (.int .i64 (t : Int))) (hk.put 32 _ (by decide) (by decide)) ((pt_other _ _ _ _ (by decide)).trans f19) ((pt_other _ _ _ _ (by decide)).trans f21) ((pt_other _ _ _ _ (by decide)).trans f27) (pt_same _ _ _ (by rw [hk.size, sz]; decide)) ((pt_other _ _ _ _ (by decide)).trans f34) ((pt_other _ _ _ _ (by decide)).trans f38) ((pt_other _ _ _ _ (by decide)).trans f41)
  have z214958063 : ∀ a', Kept 15 43 a a' → a'.eval (.tmp 18) = .pointer (some ⟨b, 128, none⟩) → a'.eval (.tmp 21) = .int .i64 (r : Int) → a'.eval (.tmp 27) = .agg (rowL (m r)).toArray → a'.eval (.tmp 32) = .int .i64 (t : Int) → a'.eval (.tmp 34) = .pointer (some ⟨b, 0, none⟩) → a'.eval (.tmp 38) = .pointer (some ⟨b, 0, none⟩) → a'.eval (.tmp 41) = .pointer (some ⟨b, 0, none⟩) → wpAny Tryd.prog .any RTell Q 7 (mkTell [0, 1, 2, 3, 5, 6, 7, 8, 9, 10, 11, 12, 13, 14, 15, 16, 17, 18, 19, 22, 23, 26, 27]) a' w.drew := by
    intro a' hk f18 f21 f27 f32 f34 f38 f41
    have q0 := f34
    have q1 := f32
    refine wpAny_take g20 hsel (by kernel_rfl) (by kernel_rfl) (fun c a w h => hQ c _ _ a w (by rw [d20] at h; exact h)) (v := .pointer (some ⟨b, t * 16, none⟩)) (.inl ⟨pt_want k20, fun w => by simp only [execOp, x20, q0, q1]; (try go_simp)⟩) ?_
    rw [d20]
    exact z216006639 (a'.put (some 35) (.pointer (some ⟨b, t * 16, none⟩))) (hk.put 35 _ (by decide) (by decide)) ((pt_other _ _ _ _ (by decide)).trans f18) ((pt_other _ _ _ _ (by decide)).trans f21) ((pt_other _ _ _ _ (by decide)).trans f27) (pt_same _ _ _ (by rw [hk.size, sz]; decide)) ((pt_other _ _ _ _ (by decide)).trans f38) ((pt_other _ _ _ _ (by decide)).trans f41)
  have z214953983 : ∀ a', Kept 15 43 a a' → a'.eval (.tmp 19) = .int .i64 (t : Int) → a'.eval (.tmp 21) = .int .i64 (r : Int) → a'.eval (.tmp 26) = .pointer (some ⟨b, r * 16, none⟩) → a'.eval (.tmp 32) = .int .i64 (t : Int) → a'.eval (.tmp 34) = .pointer (some ⟨b, 0, none⟩) → a'.eval (.tmp 38) = .pointer (some ⟨b, 0, none⟩) → a'.eval (.tmp 41) = .pointer (some ⟨b, 0, none⟩) → wpAny Tryd.prog .any RTell Q 7 (mkTell [0, 1, 2, 3, 4, 5, 6, 7, 8, 9, 10, 11, 13, 14, 15, 16, 17, 18, 19, 22, 23, 26, 27]) a' w.drew := by
    intro a' hk f19 f21 f26 f32 f34 f38 f41
    have q0 := f34
    have q1 := f32
    refine wpAny_take g20 hsel (by kernel_rfl) (by kernel_rfl) (fun c a w h => hQ c _ _ a w (by rw [d20] at h; exact h)) (v := .pointer (some ⟨b, t * 16, none⟩)) (.inl ⟨pt_want k20, fun w => by simp only [execOp, x20, q0, q1]; (try go_simp)⟩) ?_
    rw [d20]
    exact z216002559 (a'.put (some 35) (.pointer (some ⟨b, t * 16, none⟩))) (hk.put 35 _ (by decide) (by decide)) ((pt_other _ _ _ _ (by decide)).trans f19) ((pt_other _ _ _ _ (by decide)).trans f21) ((pt_other _ _ _ _ (by decide)).trans f26) (pt_same _ _ _ (by rw [hk.size, sz]; decide)) ((pt_other _ _ _ _ (by decide)).trans f38) ((pt_other _ _ _ _ (by decide)).trans f41)
  have z216002543 : ∀ a', Kept 15 43 a a' → a'.eval (.tmp 18) = .pointer (some ⟨b, 128, none⟩) → a'.eval (.tmp 21) = .int .i64 (r : Int) → a'.eval (.tmp 26) = .pointer (some ⟨b, r * 16, none⟩) → a'.eval (.tmp 35) = .pointer (some ⟨b, t * 16, none⟩) → a'.eval (.tmp 38) = .pointer (some ⟨b, 0, none⟩) → a'.eval (.tmp 41) = .pointer (some ⟨b, 0, none⟩) → wpAny Tryd.prog .any RTell Q 7 (mkTell [0, 1, 2, 3, 5, 6, 7, 8, 9, 10, 11, 13, 14, 15, 16, 17, 18, 19, 20, 22, 23, 26, 27]) a' w.drew := by
    intro a' hk f18 f21 f26 f35 f38 f41
    refine wpAny_ready (rs := [4, 12, 21]) (by kernel_rfl) (by simp) ?_
    refine (AllReady.cons g4 (fun K hK => ?_) (AllReady.cons g12 (fun K hK => ?_) (AllReady.cons g21 (fun K hK => ?_) AllReady.nil)))
    · rw [if_pos (pt_want k4)]
      have e : (execOp a'.eval p4).run Tryd.prog w.drew = .ok (.value (.int .i64 (t : Int))) w.drew := by have ff := f18; simp only [execOp, x4, ff]; go_simp
      unfold Oper.wp
      rw [e, Oper.upon_value]
      refine hK _ _ ?_
      rw [d4]
      exact z216002559 (a'.put (some 19) (.int .i64 (t : Int))) (hk.put 19 _ (by decide) (by decide)) (pt_same _ _ _ (by rw [hk.size, sz]; decide)) ((pt_other _ _ _ _ (by decide)).trans f21) ((pt_other _ _ _ _ (by decide)).trans f26) ((pt_other _ _ _ _ (by decide)).trans f35) ((pt_other _ _ _ _ (by decide)).trans f38) ((pt_other _ _ _ _ (by decide)).trans f41)
    · rw [if_pos (pt_want k12)]
      refine wp_load_mid 65 (.tmp 26) x12 b (r * 16) f26 (rowL (m r)) _ gr Tryd.underlying65 rfl (Tryd.sizeArr16 _) ?_
      refine hK _ _ ?_
      rw [d12]
      exact z216006639 (a'.put (some 27) (.agg (rowL (m r)).toArray)) (hk.put 27 _ (by decide) (by decide)) ((pt_other _ _ _ _ (by decide)).trans f18) ((pt_other _ _ _ _ (by decide)).trans f21) (pt_same _ _ _ (by rw [hk.size, sz]; decide)) ((pt_other _ _ _ _ (by decide)).trans f35) ((pt_other _ _ _ _ (by decide)).trans f38) ((pt_other _ _ _ _ (by decide)).trans f41)
    · rw [if_pos (pt_want k21)]
      refine wp_load_mid 65 (.tmp 35) x21 b (t * 16) f35 (rowL (m t)) _ gt Tryd.underlying65 rfl (Tryd.sizeArr16 _) ?_
      refine hK _ _ ?_
      rw [d21]
      exact z218099695 (a'.put (some 36) (.agg (rowL (m t)).toArray)) (hk.put 36 _ (by decide) (by decide)) ((pt_other _ _ _ _ (by decide)).trans f18) ((pt_other _ _ _ _ (by decide)).trans f21) ((pt_other _ _ _ _ (by decide)).trans f26) (pt_same _ _ _ (by rw [hk.size, sz]; decide)) ((pt_other _ _ _ _ (by decide)).trans f38) ((pt_other _ _ _ _ (by decide)).trans f41)
  have z214822911 : ∀ a', Kept 15 43 a a' → a'.eval (.tmp 19) = .int .i64 (t : Int) → a'.eval (.tmp 21) = .int .i64 (r : Int) → a'.eval (.tmp 26) = .pointer (some ⟨b, r * 16, none⟩) → a'.eval (.tmp 31) = .pointer (some ⟨b, 128, none⟩) → a'.eval (.tmp 34) = .pointer (some ⟨b, 0, none⟩) → a'.eval (.tmp 38) = .pointer (some ⟨b, 0, none⟩) → a'.eval (.tmp 41) = .pointer (some ⟨b, 0, none⟩) → wpAny Tryd.prog .any RTell Q 8 (mkTell [0, 1, 2, 3, 4, 5, 6, 7, 8, 9, 10, 11, 13, 14, 15, 16, 18, 19, 22, 23, 26, 27]) a' w.drew := by
    intro a' hk f19 f21 f26 f31 f34 f38 f41
    refine wpAny_ready (rs := [12, 17]) (by kernel_rfl) (by simp) ?_
    refine (AllReady.cons g12 (fun K hK => ?_) (AllReady.cons g17 (fun K hK => ?_) AllReady.nil))
    · rw [if_pos (pt_want k12)]
      refine wp_load_mid 65 (.tmp 26) x12 b (r * 16) f26 (rowL (m r)) _ gr Tryd.underlying65 rfl (Tryd.sizeArr16 _) ?_
      refine hK _ _ ?_
      rw [d12]
      exact z214827007 (a'.put (some 27) (.agg (rowL (m r)).toArray)) (hk.put 27 _ (by decide) (by decide)) ((pt_other _ _ _ _ (by decide)).trans f19) ((pt_other _ _ _ _ (by decide)).trans f21) (pt_same _ _ _ (by rw [hk.size, sz]; decide)) ((pt_other _ _ _ _ (by decide)).trans f31) ((pt_other _ _ _ _ (by decide)).trans f34) ((pt_other _ _ _ _ (by decide)).trans f38) ((pt_other _ _ _ _ (by decide)).trans f41)
    · rw [if_pos (pt_want k17)]
      have e : (execOp a'.eval p17).run Tryd.prog w.drew = .ok (.value (.int .i64 (t : Int))) w.drew := by have ff := f31; simp only [execOp, x17, ff]; go_simp
      unfold Oper.wp
      rw [e, Oper.upon_value]
      refine hK _ _ ?_
      rw [d17]
      exact z214953983 (a'.put (some 32) (.int .i64 (t : Int))) (hk.put 32 _ (by decide) (by decide)) ((pt_other _ _ _ _ (by decide)).trans f19) ((pt_other _ _ _ _ (by decide)).trans f21) ((pt_other _ _ _ _ (by decide)).trans f26) (pt_same _ _ _ (by rw [hk.size, sz]; decide)) ((pt_other _ _ _ _ (by decide)).trans f34) ((pt_other _ _ _ _ (by decide)).trans f38) ((pt_other _ _ _ _ (by decide)).trans f41)
  have z214953967 : ∀ a', Kept 15 43 a a' → a'.eval (.tmp 18) = .pointer (some ⟨b, 128, none⟩) → a'.eval (.tmp 21) = .int .i64 (r : Int) → a'.eval (.tmp 26) = .pointer (some ⟨b, r * 16, none⟩) → a'.eval (.tmp 32) = .int .i64 (t : Int) → a'.eval (.tmp 34) = .pointer (some ⟨b, 0, none⟩) → a'.eval (.tmp 38) = .pointer (some ⟨b, 0, none⟩) → a'.eval (.tmp 41) = .pointer (some ⟨b, 0, none⟩) → wpAny Tryd.prog .any RTell Q 8 (mkTell [0, 1, 2, 3, 5, 6, 7, 8, 9, 10, 11, 13, 14, 15, 16, 17, 18, 19, 22, 23, 26, 27]) a' w.drew := by
    intro a' hk f18 f21 f26 f32 f34 f38 f41
    have q0 := f34
    have q1 := f32
    refine wpAny_take g20 hsel (by kernel_rfl) (by kernel_rfl) (fun c a w h => hQ c _ _ a w (by rw [d20] at h; exact h)) (v := .pointer (some ⟨b, t * 16, none⟩)) (.inl ⟨pt_want k20, fun w => by simp only [execOp, x20, q0, q1]; (try go_simp)⟩) ?_
    rw [d20]
    exact z216002543 (a'.put (some 35) (.pointer (some ⟨b, t * 16, none⟩))) (hk.put 35 _ (by decide) (by decide)) ((pt_other _ _ _ _ (by decide)).trans f18) ((pt_other _ _ _ _ (by decide)).trans f21) ((pt_other _ _ _ _ (by decide)).trans f26) (pt_same _ _ _ (by rw [hk.size, sz]; decide)) ((pt_other _ _ _ _ (by decide)).trans f38) ((pt_other _ _ _ _ (by decide)).trans f41)
  have z214826991 : ∀ a', Kept 15 43 a a' → a'.eval (.tmp 18) = .pointer (some ⟨b, 128, none⟩) → a'.eval (.tmp 21) = .int .i64 (r : Int) → a'.eval (.tmp 27) = .agg (rowL (m r)).toArray → a'.eval (.tmp 31) = .pointer (some ⟨b, 128, none⟩) → a'.eval (.tmp 34) = .pointer (some ⟨b, 0, none⟩) → a'.eval (.tmp 38) = .pointer (some ⟨b, 0, none⟩) → a'.eval (.tmp 41) = .pointer (some ⟨b, 0, none⟩) → wpAny Tryd.prog .any RTell Q 8 (mkTell [0, 1, 2, 3, 5, 6, 7, 8, 9, 10, 11, 12, 13, 14, 15, 16, 18, 19, 22, 23, 26, 27]) a' w.drew := by
    intro a' hk f18 f21 f27 f31 f34 f38 f41
    refine wpAny_ready (rs := [4, 17]) (by kernel_rfl) (by simp) ?_
    refine (AllReady.cons g4 (fun K hK => ?_) (AllReady.cons g17 (fun K hK => ?_) AllReady.nil))
    · rw [if_pos (pt_want k4)]
      have e : (execOp a'.eval p4).run Tryd.prog w.drew = .ok (.value (.int .i64 (t : Int))) w.drew := by have ff := f18; simp only [execOp, x4, ff]; go_simp
      unfold Oper.wp
      rw [e, Oper.upon_value]
      refine hK _ _ ?_
      rw [d4]
      exact z214827007 (a'.put (some 19) (.int .i64 (t : Int))) (hk.put 19 _ (by decide) (by decide)) (pt_same _ _ _ (by rw [hk.size, sz]; decide)) ((pt_other _ _ _ _ (by decide)).trans f21) ((pt_other _ _ _ _ (by decide)).trans f27) ((pt_other _ _ _ _ (by decide)).trans f31) ((pt_other _ _ _ _ (by decide)).trans f34) ((pt_other _ _ _ _ (by decide)).trans f38) ((pt_other _ _ _ _ (by decide)).trans f41)
    · rw [if_pos (pt_want k17)]
      have e : (execOp a'.eval p17).run Tryd.prog w.drew = .ok (.value (.int .i64 (t : Int))) w.drew := by have ff := f31; simp only [execOp, x17, ff]; go_simp
      unfold Oper.wp
      rw [e, Oper.upon_value]
      refine hK _ _ ?_
      rw [d17]
      exact z214958063 (a'.put (some 32) (.int .i64 (t : Int))) (hk.put 32 _ (by decide) (by decide)) ((pt_other _ _ _ _ (by decide)).trans f18) ((pt_other _ _ _ _ (by decide)).trans f21) ((pt_other _ _ _ _ (by decide)).trans f27) (pt_same _ _ _ (by rw [hk.size, sz]; decide)) ((pt_other _ _ _ _ (by decide)).trans f34) ((pt_other _ _ _ _ (by decide)).trans f38) ((pt_other _ _ _ _ (by decide)).trans f41)
  have z214822895 : ∀ a', Kept 15 43 a a' → a'.eval (.tmp 18) = .pointer (some ⟨b, 128, none⟩) → a'.eval (.tmp 21) = .int .i64 (r : Int) → a'.eval (.tmp 26) = .pointer (some ⟨b, r * 16, none⟩) → a'.eval (.tmp 31) = .pointer (some ⟨b, 128, none⟩) → a'.eval (.tmp 34) = .pointer (some ⟨b, 0, none⟩) → a'.eval (.tmp 38) = .pointer (some ⟨b, 0, none⟩) → a'.eval (.tmp 41) = .pointer (some ⟨b, 0, none⟩) → wpAny Tryd.prog .any RTell Q 9 (mkTell [0, 1, 2, 3, 5, 6, 7, 8, 9, 10, 11, 13, 14, 15, 16, 18, 19, 22, 23, 26, 27]) a' w.drew := by
    intro a' hk f18 f21 f26 f31 f34 f38 f41
    refine wpAny_ready (rs := [4, 12, 17]) (by kernel_rfl) (by simp) ?_
    refine (AllReady.cons g4 (fun K hK => ?_) (AllReady.cons g12 (fun K hK => ?_) (AllReady.cons g17 (fun K hK => ?_) AllReady.nil)))
    · rw [if_pos (pt_want k4)]
      have e : (execOp a'.eval p4).run Tryd.prog w.drew = .ok (.value (.int .i64 (t : Int))) w.drew := by have ff := f18; simp only [execOp, x4, ff]; go_simp
      unfold Oper.wp
      rw [e, Oper.upon_value]
      refine hK _ _ ?_
      rw [d4]
      exact z214822911 (a'.put (some 19) (.int .i64 (t : Int))) (hk.put 19 _ (by decide) (by decide)) (pt_same _ _ _ (by rw [hk.size, sz]; decide)) ((pt_other _ _ _ _ (by decide)).trans f21) ((pt_other _ _ _ _ (by decide)).trans f26) ((pt_other _ _ _ _ (by decide)).trans f31) ((pt_other _ _ _ _ (by decide)).trans f34) ((pt_other _ _ _ _ (by decide)).trans f38) ((pt_other _ _ _ _ (by decide)).trans f41)
    · rw [if_pos (pt_want k12)]
      refine wp_load_mid 65 (.tmp 26) x12 b (r * 16) f26 (rowL (m r)) _ gr Tryd.underlying65 rfl (Tryd.sizeArr16 _) ?_
      refine hK _ _ ?_
      rw [d12]
      exact z214826991 (a'.put (some 27) (.agg (rowL (m r)).toArray)) (hk.put 27 _ (by decide) (by decide)) ((pt_other _ _ _ _ (by decide)).trans f18) ((pt_other _ _ _ _ (by decide)).trans f21) (pt_same _ _ _ (by rw [hk.size, sz]; decide)) ((pt_other _ _ _ _ (by decide)).trans f31) ((pt_other _ _ _ _ (by decide)).trans f34) ((pt_other _ _ _ _ (by decide)).trans f38) ((pt_other _ _ _ _ (by decide)).trans f41)
    · rw [if_pos (pt_want k17)]
      have e : (execOp a'.eval p17).run Tryd.prog w.drew = .ok (.value (.int .i64 (t : Int))) w.drew := by have ff := f31; simp only [execOp, x17, ff]; go_simp
      unfold Oper.wp
      rw [e, Oper.upon_value]
      refine hK _ _ ?_
      rw [d17]
      exact z214953967 (a'.put (some 32) (.int .i64 (t : Int))) (hk.put 32 _ (by decide) (by decide)) ((pt_other _ _ _ _ (by decide)).trans f18) ((pt_other _ _ _ _ (by decide)).trans f21) ((pt_other _ _ _ _ (by decide)).trans f26) (pt_same _ _ _ (by rw [hk.size, sz]; decide)) ((pt_other _ _ _ _ (by decide)).trans f34) ((pt_other _ _ _ _ (by decide)).trans f38) ((pt_other _ _ _ _ (by decide)).trans f41)
  have z80605167 : ∀ a', Kept 15 43 a a' → a'.eval (.tmp 18) = .pointer (some ⟨b, 128, none⟩) → a'.eval (.tmp 21) = .int .i64 (r : Int) → a'.eval (.tmp 26) = .pointer (some ⟨b, r * 16, none⟩) → a'.eval (.tmp 31) = .pointer (some ⟨b, 128, none⟩) → a'.eval (.tmp 34) = .pointer (some ⟨b, 0, none⟩) → a'.eval (.tmp 38) = .pointer (some ⟨b, 0, none⟩) → a'.eval (.tmp 40) = .pointer (some ⟨b, 0, none⟩) → wpAny Tryd.prog .any RTell Q 10 (mkTell [0, 1, 2, 3, 5, 6, 7, 8, 9, 10, 11, 13, 14, 15, 16, 18, 19, 22, 23, 26]) a' w.drew := by
    intro a' hk f18 f21 f26 f31 f34 f38 f40
    have q0 := f40
    refine wpAny_take g27 hsel (by kernel_rfl) (by kernel_rfl) (fun c a w h => hQ c _ _ a w (by rw [d27] at h; exact h)) (v := .pointer (some ⟨b, 0, none⟩)) (.inl ⟨pt_want k27, fun w => by simp only [execOp, x27, q0]; (try go_simp)⟩) ?_
    rw [d27]
    exact z214822895 (a'.put (some 41) (.pointer (some ⟨b, 0, none⟩))) (hk.put 41 _ (by decide) (by decide)) ((pt_other _ _ _ _ (by decide)).trans f18) ((pt_other _ _ _ _ (by decide)).trans f21) ((pt_other _ _ _ _ (by decide)).trans f26) ((pt_other _ _ _ _ (by decide)).trans f31) ((pt_other _ _ _ _ (by decide)).trans f34) ((pt_other _ _ _ _ (by decide)).trans f38) (pt_same _ _ _ (by rw [hk.size, sz]; decide))
  have z13496303 : ∀ a', Kept 15 43 a a' → a'.eval (.tmp 18) = .pointer (some ⟨b, 128, none⟩) → a'.eval (.tmp 20) = .pointer (some ⟨b, 0, none⟩) → a'.eval (.tmp 21) = .int .i64 (r : Int) → a'.eval (.tmp 26) = .pointer (some ⟨b, r * 16, none⟩) → a'.eval (.tmp 31) = .pointer (some ⟨b, 128, none⟩) → a'.eval (.tmp 34) = .pointer (some ⟨b, 0, none⟩) → a'.eval (.tmp 38) = .pointer (some ⟨b, 0, none⟩) → wpAny Tryd.prog .any RTell Q 11 (mkTell [0, 1, 2, 3, 5, 6, 7, 8, 9, 10, 11, 13, 14, 15, 16, 18, 19, 22, 23]) a' w.drew := by
    intro a' hk f18 f20 f21 f26 f31 f34 f38
    have q0 := f20
    refine wpAny_take g26 hsel (by kernel_rfl) (by kernel_rfl) (fun c a w h => hQ c _ _ a w (by rw [d26] at h; exact h)) (v := .pointer (some ⟨b, 0, none⟩)) (.inl ⟨pt_want k26, fun w => by simp only [execOp, x26, q0]; (try go_simp)⟩) ?_
    rw [d26]
    exact z80605167 (a'.put (some 40) (.pointer (some ⟨b, 0, none⟩))) (hk.put 40 _ (by decide) (by decide)) ((pt_other _ _ _ _ (by decide)).trans f18) ((pt_other _ _ _ _ (by decide)).trans f21) ((pt_other _ _ _ _ (by decide)).trans f26) ((pt_other _ _ _ _ (by decide)).trans f31) ((pt_other _ _ _ _ (by decide)).trans f34) ((pt_other _ _ _ _ (by decide)).trans f38) (pt_same _ _ _ (by rw [hk.size, sz]; decide))
  have z5107695 : ∀ a', Kept 15 43 a a' → a'.eval (.tmp 18) = .pointer (some ⟨b, 128, none⟩) → a'.eval (.tmp 20) = .pointer (some ⟨b, 0, none⟩) → a'.eval (.tmp 21) = .int .i64 (r : Int) → a'.eval (.tmp 26) = .pointer (some ⟨b, r * 16, none⟩) → a'.eval (.tmp 31) = .pointer (some ⟨b, 128, none⟩) → a'.eval (.tmp 34) = .pointer (some ⟨b, 0, none⟩) → a'.eval (.tmp 37) = .pointer (some ⟨b, 0, none⟩) → wpAny Tryd.prog .any RTell Q 12 (mkTell [0, 1, 2, 3, 5, 6, 7, 8, 9, 10, 11, 13, 14, 15, 16, 18, 19, 22]) a' w.drew := by
    intro a' hk f18 f20 f21 f26 f31 f34 f37
    have q0 := f37
    refine wpAny_take g23 hsel (by kernel_rfl) (by kernel_rfl) (fun c a w h => hQ c _ _ a w (by rw [d23] at h; exact h)) (v := .pointer (some ⟨b, 0, none⟩)) (.inl ⟨pt_want k23, fun w => by simp only [execOp, x23, q0]; (try go_simp)⟩) ?_
    rw [d23]
    exact z13496303 (a'.put (some 38) (.pointer (some ⟨b, 0, none⟩))) (hk.put 38 _ (by decide) (by decide)) ((pt_other _ _ _ _ (by decide)).trans f18) ((pt_other _ _ _ _ (by decide)).trans f20) ((pt_other _ _ _ _ (by decide)).trans f21) ((pt_other _ _ _ _ (by decide)).trans f26) ((pt_other _ _ _ _ (by decide)).trans f31) ((pt_other _ _ _ _ (by decide)).trans f34) (pt_same _ _ _ (by rw [hk.size, sz]; decide))
  have z913391 : ∀ a', Kept 15 43 a a' → a'.eval (.tmp 15) = .pointer (some ⟨b, 0, none⟩) → a'.eval (.tmp 18) = .pointer (some ⟨b, 128, none⟩) → a'.eval (.tmp 20) = .pointer (some ⟨b, 0, none⟩) → a'.eval (.tmp 21) = .int .i64 (r : Int) → a'.eval (.tmp 26) = .pointer (some ⟨b, r * 16, none⟩) → a'.eval (.tmp 31) = .pointer (some ⟨b, 128, none⟩) → a'.eval (.tmp 34) = .pointer (some ⟨b, 0, none⟩) → wpAny Tryd.prog .any RTell Q 13 (mkTell [0, 1, 2, 3, 5, 6, 7, 8, 9, 10, 11, 13, 14, 15, 16, 18, 19]) a' w.drew := by
    intro a' hk f15 f18 f20 f21 f26 f31 f34
    have q0 := f15
    refine wpAny_take g22 hsel (by kernel_rfl) (by kernel_rfl) (fun c a w h => hQ c _ _ a w (by rw [d22] at h; exact h)) (v := .pointer (some ⟨b, 0, none⟩)) (.inl ⟨pt_want k22, fun w => by simp only [execOp, x22, q0]; (try go_simp)⟩) ?_
    rw [d22]
    exact z5107695 (a'.put (some 37) (.pointer (some ⟨b, 0, none⟩))) (hk.put 37 _ (by decide) (by decide)) ((pt_other _ _ _ _ (by decide)).trans f18) ((pt_other _ _ _ _ (by decide)).trans f20) ((pt_other _ _ _ _ (by decide)).trans f21) ((pt_other _ _ _ _ (by decide)).trans f26) ((pt_other _ _ _ _ (by decide)).trans f31) ((pt_other _ _ _ _ (by decide)).trans f34) (pt_same _ _ _ (by rw [hk.size, sz]; decide))
  have z389103 : ∀ a', Kept 15 43 a a' → a'.eval (.tmp 15) = .pointer (some ⟨b, 0, none⟩) → a'.eval (.tmp 18) = .pointer (some ⟨b, 128, none⟩) → a'.eval (.tmp 20) = .pointer (some ⟨b, 0, none⟩) → a'.eval (.tmp 21) = .int .i64 (r : Int) → a'.eval (.tmp 26) = .pointer (some ⟨b, r * 16, none⟩) → a'.eval (.tmp 31) = .pointer (some ⟨b, 128, none⟩) → a'.eval (.tmp 33) = .pointer (some ⟨b, 0, none⟩) → wpAny Tryd.prog .any RTell Q 14 (mkTell [0, 1, 2, 3, 5, 6, 7, 8, 9, 10, 11, 13, 14, 15, 16, 18]) a' w.drew := by
    intro a' hk f15 f18 f20 f21 f26 f31 f33
    have q0 := f33
    refine wpAny_take g19 hsel (by kernel_rfl) (by kernel_rfl) (fun c a w h => hQ c _ _ a w (by rw [d19] at h; exact h)) (v := .pointer (some ⟨b, 0, none⟩)) (.inl ⟨pt_want k19, fun w => by simp only [execOp, x19, q0]; (try go_simp)⟩) ?_
    rw [d19]
    exact z913391 (a'.put (some 34) (.pointer (some ⟨b, 0, none⟩))) (hk.put 34 _ (by decide) (by decide)) ((pt_other _ _ _ _ (by decide)).trans f15) ((pt_other _ _ _ _ (by decide)).trans f18) ((pt_other _ _ _ _ (by decide)).trans f20) ((pt_other _ _ _ _ (by decide)).trans f21) ((pt_other _ _ _ _ (by decide)).trans f26) ((pt_other _ _ _ _ (by decide)).trans f31) (pt_same _ _ _ (by rw [hk.size, sz]; decide))
  have z126959 : ∀ a', Kept 15 43 a a' → a'.eval (.tmp 15) = .pointer (some ⟨b, 0, none⟩) → a'.eval (.tmp 18) = .pointer (some ⟨b, 128, none⟩) → a'.eval (.tmp 20) = .pointer (some ⟨b, 0, none⟩) → a'.eval (.tmp 21) = .int .i64 (r : Int) → a'.eval (.tmp 26) = .pointer (some ⟨b, r * 16, none⟩) → a'.eval (.tmp 28) = .pointer (some ⟨b, 0, none⟩) → a'.eval (.tmp 31) = .pointer (some ⟨b, 128, none⟩) → wpAny Tryd.prog .any RTell Q 15 (mkTell [0, 1, 2, 3, 5, 6, 7, 8, 9, 10, 11, 13, 14, 15, 16]) a' w.drew := by
    intro a' hk f15 f18 f20 f21 f26 f28 f31
    have q0 := f28
    refine wpAny_take g18 hsel (by kernel_rfl) (by kernel_rfl) (fun c a w h => hQ c _ _ a w (by rw [d18] at h; exact h)) (v := .pointer (some ⟨b, 0, none⟩)) (.inl ⟨pt_want k18, fun w => by simp only [execOp, x18, q0]; (try go_simp)⟩) ?_
    rw [d18]
    exact z389103 (a'.put (some 33) (.pointer (some ⟨b, 0, none⟩))) (hk.put 33 _ (by decide) (by decide)) ((pt_other _ _ _ _ (by decide)).trans f15) ((pt_other _ _ _ _ (by decide)).trans f18) ((pt_other _ _ _ _ (by decide)).trans f20) ((pt_other _ _ _ _ (by decide)).trans f21) ((pt_other _ _ _ _ (by decide)).trans f26) ((pt_other _ _ _ _ (by decide)).trans f31) (pt_same _ _ _ (by rw [hk.size, sz]; decide))
  have z61423 : ∀ a', Kept 15 43 a a' → a'.eval (.tmp 15) = .pointer (some ⟨b, 0, none⟩) → a'.eval (.tmp 18) = .pointer (some ⟨b, 128, none⟩) → a'.eval (.tmp 20) = .pointer (some ⟨b, 0, none⟩) → a'.eval (.tmp 21) = .int .i64 (r : Int) → a'.eval (.tmp 26) = .pointer (some ⟨b, r * 16, none⟩) → a'.eval (.tmp 28) = .pointer (some ⟨b, 0, none⟩) → a'.eval (.tmp 30) = .pointer (some ⟨b, 0, none⟩) → wpAny Tryd.prog .any RTell Q 16 (mkTell [0, 1, 2, 3, 5, 6, 7, 8, 9, 10, 11, 13, 14, 15]) a' w.drew := by
    intro a' hk f15 f18 f20 f21 f26 f28 f30
    have q0 := f30
    refine wpAny_take g16 hsel (by kernel_rfl) (by kernel_rfl) (fun c a w h => hQ c _ _ a w (by rw [d16] at h; exact h)) (v := .pointer (some ⟨b, 128, none⟩)) (.inl ⟨pt_want k16, fun w => by simp only [execOp, x16, q0]; (try go_simp)⟩) ?_
    rw [d16]
    exact z126959 (a'.put (some 31) (.pointer (some ⟨b, 128, none⟩))) (hk.put 31 _ (by decide) (by decide)) ((pt_other _ _ _ _ (by decide)).trans f15) ((pt_other _ _ _ _ (by decide)).trans f18) ((pt_other _ _ _ _ (by decide)).trans f20) ((pt_other _ _ _ _ (by decide)).trans f21) ((pt_other _ _ _ _ (by decide)).trans f26) ((pt_other _ _ _ _ (by decide)).trans f28) (pt_same _ _ _ (by rw [hk.size, sz]; decide))
  have z28655 : ∀ a', Kept 15 43 a a' → a'.eval (.tmp 15) = .pointer (some ⟨b, 0, none⟩) → a'.eval (.tmp 18) = .pointer (some ⟨b, 128, none⟩) → a'.eval (.tmp 20) = .pointer (some ⟨b, 0, none⟩) → a'.eval (.tmp 21) = .int .i64 (r : Int) → a'.eval (.tmp 26) = .pointer (some ⟨b, r * 16, none⟩) → a'.eval (.tmp 28) = .pointer (some ⟨b, 0, none⟩) → a'.eval (.tmp 29) = .pointer (some ⟨b, 0, none⟩) → wpAny Tryd.prog .any RTell Q 17 (mkTell [0, 1, 2, 3, 5, 6, 7, 8, 9, 10, 11, 13, 14]) a' w.drew := by
    intro a' hk f15 f18 f20 f21 f26 f28 f29
    have q0 := f29
    refine wpAny_take g15 hsel (by kernel_rfl) (by kernel_rfl) (fun c a w h => hQ c _ _ a w (by rw [d15] at h; exact h)) (v := .pointer (some ⟨b, 0, none⟩)) (.inl ⟨pt_want k15, fun w => by simp only [execOp, x15, q0]; (try go_simp)⟩) ?_
    rw [d15]
    exact z61423 (a'.put (some 30) (.pointer (some ⟨b, 0, none⟩))) (hk.put 30 _ (by decide) (by decide)) ((pt_other _ _ _ _ (by decide)).trans f15) ((pt_other _ _ _ _ (by decide)).trans f18) ((pt_other _ _ _ _ (by decide)).trans f20) ((pt_other _ _ _ _ (by decide)).trans f21) ((pt_other _ _ _ _ (by decide)).trans f26) ((pt_other _ _ _ _ (by decide)).trans f28) (pt_same _ _ _ (by rw [hk.size, sz]; decide))
  have z12271 : ∀ a', Kept 15 43 a a' → a'.eval (.tmp 15) = .pointer (some ⟨b, 0, none⟩) → a'.eval (.tmp 18) = .pointer (some ⟨b, 128, none⟩) → a'.eval (.tmp 20) = .pointer (some ⟨b, 0, none⟩) → a'.eval (.tmp 21) = .int .i64 (r : Int) → a'.eval (.tmp 26) = .pointer (some ⟨b, r * 16, none⟩) → a'.eval (.tmp 28) = .pointer (some ⟨b, 0, none⟩) → wpAny Tryd.prog .any RTell Q 18 (mkTell [0, 1, 2, 3, 5, 6, 7, 8, 9, 10, 11, 13]) a' w.drew := by
    intro a' hk f15 f18 f20 f21 f26 f28
    have q0 := (show a'.eval (.tmp 0) = .pointer (some ⟨b, 0, none⟩) from (hk.slot 0 (by omega)).trans i0)
    refine wpAny_take g14 hsel (by kernel_rfl) (by kernel_rfl) (fun c a w h => hQ c _ _ a w (by rw [d14] at h; exact h)) (v := .pointer (some ⟨b, 0, none⟩)) (.inl ⟨pt_want k14, fun w => by simp only [execOp, x14, q0]; (try go_simp)⟩) ?_
    rw [d14]
    exact z28655 (a'.put (some 29) (.pointer (some ⟨b, 0, none⟩))) (hk.put 29 _ (by decide) (by decide)) ((pt_other _ _ _ _ (by decide)).trans f15) ((pt_other _ _ _ _ (by decide)).trans f18) ((pt_other _ _ _ _ (by decide)).trans f20) ((pt_other _ _ _ _ (by decide)).trans f21) ((pt_other _ _ _ _ (by decide)).trans f26) ((pt_other _ _ _ _ (by decide)).trans f28) (pt_same _ _ _ (by rw [hk.size, sz]; decide))
  have z4079 : ∀ a', Kept 15 43 a a' → a'.eval (.tmp 15) = .pointer (some ⟨b, 0, none⟩) → a'.eval (.tmp 18) = .pointer (some ⟨b, 128, none⟩) → a'.eval (.tmp 20) = .pointer (some ⟨b, 0, none⟩) → a'.eval (.tmp 21) = .int .i64 (r : Int) → a'.eval (.tmp 26) = .pointer (some ⟨b, r * 16, none⟩) → wpAny Tryd.prog .any RTell Q 19 (mkTell [0, 1, 2, 3, 5, 6, 7, 8, 9, 10, 11]) a' w.drew := by
    intro a' hk f15 f18 f20 f21 f26
    have q0 := (show a'.eval (.tmp 0) = .pointer (some ⟨b, 0, none⟩) from (hk.slot 0 (by omega)).trans i0)
    refine wpAny_take g13 hsel (by kernel_rfl) (by kernel_rfl) (fun c a w h => hQ c _ _ a w (by rw [d13] at h; exact h)) (v := .pointer (some ⟨b, 0, none⟩)) (.inl ⟨pt_want k13, fun w => by simp only [execOp, x13, q0]; (try go_simp)⟩) ?_
    rw [d13]
    exact z12271 (a'.put (some 28) (.pointer (some ⟨b, 0, none⟩))) (hk.put 28 _ (by decide) (by decide)) ((pt_other _ _ _ _ (by decide)).trans f15) ((pt_other _ _ _ _ (by decide)).trans f18) ((pt_other _ _ _ _ (by decide)).trans f20) ((pt_other _ _ _ _ (by decide)).trans f21) ((pt_other _ _ _ _ (by decide)).trans f26) (pt_same _ _ _ (by rw [hk.size, sz]; decide))
  have z2031 : ∀ a', Kept 15 43 a a' → a'.eval (.tmp 15) = .pointer (some ⟨b, 0, none⟩) → a'.eval (.tmp 18) = .pointer (some ⟨b, 128, none⟩) → a'.eval (.tmp 20) = .pointer (some ⟨b, 0, none⟩) → a'.eval (.tmp 21) = .int .i64 (r : Int) → a'.eval (.tmp 23) = .int .i64 (r : Int) → a'.eval (.tmp 25) = .pointer (some ⟨b, 0, none⟩) → wpAny Tryd.prog .any RTell Q 20 (mkTell [0, 1, 2, 3, 5, 6, 7, 8, 9, 10]) a' w.drew := by
    intro a' hk f15 f18 f20 f21 f23 f25
    have q0 := f25
    have q1 := f23
    refine wpAny_take g11 hsel (by kernel_rfl) (by kernel_rfl) (fun c a w h => hQ c _ _ a w (by rw [d11] at h; exact h)) (v := .pointer (some ⟨b, r * 16, none⟩)) (.inl ⟨pt_want k11, fun w => by simp only [execOp, x11, q0, q1]; (try go_simp)⟩) ?_
    rw [d11]
    exact z4079 (a'.put (some 26) (.pointer (some ⟨b, r * 16, none⟩))) (hk.put 26 _ (by decide) (by decide)) ((pt_other _ _ _ _ (by decide)).trans f15) ((pt_other _ _ _ _ (by decide)).trans f18) ((pt_other _ _ _ _ (by decide)).trans f20) ((pt_other _ _ _ _ (by decide)).trans f21) (pt_same _ _ _ (by rw [hk.size, sz]; decide))
  have z1007 : ∀ a', Kept 15 43 a a' → a'.eval (.tmp 15) = .pointer (some ⟨b, 0, none⟩) → a'.eval (.tmp 18) = .pointer (some ⟨b, 128, none⟩) → a'.eval (.tmp 20) = .pointer (some ⟨b, 0, none⟩) → a'.eval (.tmp 21) = .int .i64 (r : Int) → a'.eval (.tmp 23) = .int .i64 (r : Int) → a'.eval (.tmp 24) = .pointer (some ⟨b, 0, none⟩) → wpAny Tryd.prog .any RTell Q 21 (mkTell [0, 1, 2, 3, 5, 6, 7, 8, 9]) a' w.drew := by
    intro a' hk f15 f18 f20 f21 f23 f24
    have q0 := f24
    refine wpAny_take g10 hsel (by kernel_rfl) (by kernel_rfl) (fun c a w h => hQ c _ _ a w (by rw [d10] at h; exact h)) (v := .pointer (some ⟨b, 0, none⟩)) (.inl ⟨pt_want k10, fun w => by simp only [execOp, x10, q0]; (try go_simp)⟩) ?_
    rw [d10]
    exact z2031 (a'.put (some 25) (.pointer (some ⟨b, 0, none⟩))) (hk.put 25 _ (by decide) (by decide)) ((pt_other _ _ _ _ (by decide)).trans f15) ((pt_other _ _ _ _ (by decide)).trans f18) ((pt_other _ _ _ _ (by decide)).trans f20) ((pt_other _ _ _ _ (by decide)).trans f21) ((pt_other _ _ _ _ (by decide)).trans f23) (pt_same _ _ _ (by rw [hk.size, sz]; decide))
  have z495 : ∀ a', Kept 15 43 a a' → a'.eval (.tmp 15) = .pointer (some ⟨b, 0, none⟩) → a'.eval (.tmp 18) = .pointer (some ⟨b, 128, none⟩) → a'.eval (.tmp 20) = .pointer (some ⟨b, 0, none⟩) → a'.eval (.tmp 21) = .int .i64 (r : Int) → a'.eval (.tmp 22) = .pointer (some ⟨b, 0, none⟩) → a'.eval (.tmp 23) = .int .i64 (r : Int) → wpAny Tryd.prog .any RTell Q 22 (mkTell [0, 1, 2, 3, 5, 6, 7, 8]) a' w.drew := by
    intro a' hk f15 f18 f20 f21 f22 f23
    have q0 := f22
    refine wpAny_take g9 hsel (by kernel_rfl) (by kernel_rfl) (fun c a w h => hQ c _ _ a w (by rw [d9] at h; exact h)) (v := .pointer (some ⟨b, 0, none⟩)) (.inl ⟨pt_want k9, fun w => by simp only [execOp, x9, q0]; (try go_simp)⟩) ?_
    rw [d9]
    exact z1007 (a'.put (some 24) (.pointer (some ⟨b, 0, none⟩))) (hk.put 24 _ (by decide) (by decide)) ((pt_other _ _ _ _ (by decide)).trans f15) ((pt_other _ _ _ _ (by decide)).trans f18) ((pt_other _ _ _ _ (by decide)).trans f20) ((pt_other _ _ _ _ (by decide)).trans f21) ((pt_other _ _ _ _ (by decide)).trans f23) (pt_same _ _ _ (by rw [hk.size, sz]; decide))
  have z239 : ∀ a', Kept 15 43 a a' → a'.eval (.tmp 15) = .pointer (some ⟨b, 0, none⟩) → a'.eval (.tmp 18) = .pointer (some ⟨b, 128, none⟩) → a'.eval (.tmp 20) = .pointer (some ⟨b, 0, none⟩) → a'.eval (.tmp 21) = .int .i64 (r : Int) → a'.eval (.tmp 22) = .pointer (some ⟨b, 0, none⟩) → wpAny Tryd.prog .any RTell Q 23 (mkTell [0, 1, 2, 3, 5, 6, 7]) a' w.drew := by
    intro a' hk f15 f18 f20 f21 f22
    have q0 := (show a'.eval (.tmp 5) = .int .i64 (r : Int) from (hk.slot 5 (by omega)).trans i5)
    refine wpAny_take g8 hsel (by kernel_rfl) (by kernel_rfl) (fun c a w h => hQ c _ _ a w (by rw [d8] at h; exact h)) (v := .int .i64 (r : Int)) (.inl ⟨pt_want k8, fun w => by simp only [execOp, x8, q0]; (try go_simp)⟩) ?_
    rw [d8]
    exact z495 (a'.put (some 23) (.int .i64 (r : Int))) (hk.put 23 _ (by decide) (by decide)) ((pt_other _ _ _ _ (by decide)).trans f15) ((pt_other _ _ _ _ (by decide)).trans f18) ((pt_other _ _ _ _ (by decide)).trans f20) ((pt_other _ _ _ _ (by decide)).trans f21) ((pt_other _ _ _ _ (by decide)).trans f22) (pt_same _ _ _ (by rw [hk.size, sz]; decide))
  have z111 : ∀ a', Kept 15 43 a a' → a'.eval (.tmp 15) = .pointer (some ⟨b, 0, none⟩) → a'.eval (.tmp 18) = .pointer (some ⟨b, 128, none⟩) → a'.eval (.tmp 20) = .pointer (some ⟨b, 0, none⟩) → a'.eval (.tmp 21) = .int .i64 (r : Int) → wpAny Tryd.prog .any RTell Q 24 (mkTell [0, 1, 2, 3, 5, 6]) a' w.drew := by
    intro a' hk f15 f18 f20 f21
    have q0 := (show a'.eval (.tmp 0) = .pointer (some ⟨b, 0, none⟩) from (hk.slot 0 (by omega)).trans i0)
    refine wpAny_take g7 hsel (by kernel_rfl) (by kernel_rfl) (fun c a w h => hQ c _ _ a w (by rw [d7] at h; exact h)) (v := .pointer (some ⟨b, 0, none⟩)) (.inl ⟨pt_want k7, fun w => by simp only [execOp, x7, q0]; (try go_simp)⟩) ?_
    rw [d7]
    exact z239 (a'.put (some 22) (.pointer (some ⟨b, 0, none⟩))) (hk.put 22 _ (by decide) (by decide)) ((pt_other _ _ _ _ (by decide)).trans f15) ((pt_other _ _ _ _ (by decide)).trans f18) ((pt_other _ _ _ _ (by decide)).trans f20) ((pt_other _ _ _ _ (by decide)).trans f21) (pt_same _ _ _ (by rw [hk.size, sz]; decide))
  have z47 : ∀ a', Kept 15 43 a a' → a'.eval (.tmp 15) = .pointer (some ⟨b, 0, none⟩) → a'.eval (.tmp 18) = .pointer (some ⟨b, 128, none⟩) → a'.eval (.tmp 20) = .pointer (some ⟨b, 0, none⟩) → wpAny Tryd.prog .any RTell Q 25 (mkTell [0, 1, 2, 3, 5]) a' w.drew := by
    intro a' hk f15 f18 f20
    have q0 := (show a'.eval (.tmp 5) = .int .i64 (r : Int) from (hk.slot 5 (by omega)).trans i5)
    refine wpAny_take g6 hsel (by kernel_rfl) (by kernel_rfl) (fun c a w h => hQ c _ _ a w (by rw [d6] at h; exact h)) (v := .int .i64 (r : Int)) (.inl ⟨pt_want k6, fun w => by simp only [execOp, x6, q0]; (try go_simp)⟩) ?_
    rw [d6]
    exact z111 (a'.put (some 21) (.int .i64 (r : Int))) (hk.put 21 _ (by decide) (by decide)) ((pt_other _ _ _ _ (by decide)).trans f15) ((pt_other _ _ _ _ (by decide)).trans f18) ((pt_other _ _ _ _ (by decide)).trans f20) (pt_same _ _ _ (by rw [hk.size, sz]; decide))
  have z15 : ∀ a', Kept 15 43 a a' → a'.eval (.tmp 15) = .pointer (some ⟨b, 0, none⟩) → a'.eval (.tmp 18) = .pointer (some ⟨b, 128, none⟩) → wpAny Tryd.prog .any RTell Q 26 (mkTell [0, 1, 2, 3]) a' w.drew := by
    intro a' hk f15 f18
    have q0 := (show a'.eval (.tmp 0) = .pointer (some ⟨b, 0, none⟩) from (hk.slot 0 (by omega)).trans i0)
    refine wpAny_take g5 hsel (by kernel_rfl) (by kernel_rfl) (fun c a w h => hQ c _ _ a w (by rw [d5] at h; exact h)) (v := .pointer (some ⟨b, 0, none⟩)) (.inl ⟨pt_want k5, fun w => by simp only [execOp, x5, q0]; (try go_simp)⟩) ?_
    rw [d5]
    exact z47 (a'.put (some 20) (.pointer (some ⟨b, 0, none⟩))) (hk.put 20 _ (by decide) (by decide)) ((pt_other _ _ _ _ (by decide)).trans f15) ((pt_other _ _ _ _ (by decide)).trans f18) (pt_same _ _ _ (by rw [hk.size, sz]; decide))
  have z7 : ∀ a', Kept 15 43 a a' → a'.eval (.tmp 15) = .pointer (some ⟨b, 0, none⟩) → a'.eval (.tmp 17) = .pointer (some ⟨b, 0, none⟩) → wpAny Tryd.prog .any RTell Q 27 (mkTell [0, 1, 2]) a' w.drew := by
    intro a' hk f15 f17
    have q0 := f17
    refine wpAny_take g3 hsel (by kernel_rfl) (by kernel_rfl) (fun c a w h => hQ c _ _ a w (by rw [d3] at h; exact h)) (v := .pointer (some ⟨b, 128, none⟩)) (.inl ⟨pt_want k3, fun w => by simp only [execOp, x3, q0]; (try go_simp)⟩) ?_
    rw [d3]
    exact z15 (a'.put (some 18) (.pointer (some ⟨b, 128, none⟩))) (hk.put 18 _ (by decide) (by decide)) ((pt_other _ _ _ _ (by decide)).trans f15) (pt_same _ _ _ (by rw [hk.size, sz]; decide))
  have z3 : ∀ a', Kept 15 43 a a' → a'.eval (.tmp 15) = .pointer (some ⟨b, 0, none⟩) → a'.eval (.tmp 16) = .pointer (some ⟨b, 0, none⟩) → wpAny Tryd.prog .any RTell Q 28 (mkTell [0, 1]) a' w.drew := by
    intro a' hk f15 f16
    have q0 := f16
    refine wpAny_take g2 hsel (by kernel_rfl) (by kernel_rfl) (fun c a w h => hQ c _ _ a w (by rw [d2] at h; exact h)) (v := .pointer (some ⟨b, 0, none⟩)) (.inl ⟨pt_want k2, fun w => by simp only [execOp, x2, q0]; (try go_simp)⟩) ?_
    rw [d2]
    exact z7 (a'.put (some 17) (.pointer (some ⟨b, 0, none⟩))) (hk.put 17 _ (by decide) (by decide)) ((pt_other _ _ _ _ (by decide)).trans f15) (pt_same _ _ _ (by rw [hk.size, sz]; decide))
  have z1 : ∀ a', Kept 15 43 a a' → a'.eval (.tmp 15) = .pointer (some ⟨b, 0, none⟩) → wpAny Tryd.prog .any RTell Q 29 (mkTell [0]) a' w.drew := by
    intro a' hk f15
    have q0 := (show a'.eval (.tmp 0) = .pointer (some ⟨b, 0, none⟩) from (hk.slot 0 (by omega)).trans i0)
    refine wpAny_take g1 hsel (by kernel_rfl) (by kernel_rfl) (fun c a w h => hQ c _ _ a w (by rw [d1] at h; exact h)) (v := .pointer (some ⟨b, 0, none⟩)) (.inl ⟨pt_want k1, fun w => by simp only [execOp, x1, q0]; (try go_simp)⟩) ?_
    rw [d1]
    exact z3 (a'.put (some 16) (.pointer (some ⟨b, 0, none⟩))) (hk.put 16 _ (by decide) (by decide)) ((pt_other _ _ _ _ (by decide)).trans f15) (pt_same _ _ _ (by rw [hk.size, sz]; decide))
  have z0 : ∀ a', Kept 15 43 a a' → wpAny Tryd.prog .any RTell Q 30 (mkTell []) a' w.drew := by
    intro a' hk 
    have q0 := (show a'.eval (.tmp 0) = .pointer (some ⟨b, 0, none⟩) from (hk.slot 0 (by omega)).trans i0)
    refine wpAny_take g0 hsel (by kernel_rfl) (by kernel_rfl) (fun c a w h => hQ c _ _ a w (by rw [d0] at h; exact h)) (v := .pointer (some ⟨b, 0, none⟩)) (.inl ⟨pt_want k0, fun w => by simp only [execOp, x0, q0]; (try go_simp)⟩) ?_
    rw [d0]
    exact z1 (a'.put (some 15) (.pointer (some ⟨b, 0, none⟩))) (hk.put 15 _ (by decide) (by decide)) (pt_same _ _ _ (by rw [hk.size, sz]; decide))
  refine wp_region_any (by kernel_rfl) ?_
  rw [hsize]
  exact z0 a (Kept.refl _ _ _)
noncomputable def RLeave : Array Oper := ((Tryd.f63.body.bind (rgc · 6))).getD #[]
def mkLeave (l : List Nat) : Array Bool := l.foldl (fun a i => a.setIfInBounds i true) (Array.replicate 15 false)
theorem RLeave_at : (List.range 15).map (fun i => (RLeave[i]?).map fun o => (o.op, o.dst, o.guard)) = [    some (.move (.tmp 0), some 26, none),
    some (.move (.tmp 5), some 27, none),
    some (.move (.tmp 0), some 28, none),
    some (.move (.tmp 0), some 29, none),
    some (.nilCheck (.tmp 29), some 30, none),
    some (.fieldAddr 68 (.tmp 30) 2, some 31, none),
    some (.load 3 (.tmp 31), some 32, none),
    some (.nilCheck (.tmp 28), some 33, none),
    some (.fieldAddr 68 (.tmp 33) 0, some 34, none),
    some (.indexAddr 66 (.tmp 34) (.tmp 32), some 35, none),
    some (.load 65 (.tmp 35), some 36, none),
    some (.nilCheck (.tmp 26), some 37, none),
    some (.fieldAddr 68 (.tmp 37) 0, some 38, none),
    some (.indexAddr 66 (.tmp 38) (.tmp 27), some 39, none),
    some (.store 65 (.tmp 39) (.tmp 36), none, none)] := by kernel_rfl
theorem RLeave_op {i : Nat} {x : Op} {d : Option Nat} (hi : i < 15) (h : ((List.range 15).map (fun i => (RLeave[i]?).map fun o => (o.op, o.dst, o.guard)))[i]? = some (some (x, d, none))) : ∃ o, RLeave[i]? = some o ∧ o.op = x ∧ o.dst = d ∧ o.guard = none := by
  simp only [List.getElem?_map, List.getElem?_range hi, Option.map_some, Option.some.injEq, Option.map_eq_some_iff, Prod.mk.injEq] at h
  obtain ⟨o, h1, h2, h3, h4⟩ := h
  exact ⟨o, h1, h2, h3, h4⟩
set_option maxRecDepth 100000 in
set_option maxHeartbeats 4000000 in
theorem ck_fill {ops : Array Oper} {Q : Exit → Act → World → Prop} {a : Act} {w : World} (b r t : Nat) (m : Nat → Nat → Nat) (hR : RLeave = ops) (hQ : ∀ c n v a w, Q (.panic c) (a.put (some n) v) w → Q (.panic c) a w)
    (sz : a.tmps.size = 40) (hr : r < 8) (ht : t < 8) (i0 : a.eval (.tmp 0) = .pointer (some ⟨b, 0, none⟩)) (i5 : a.eval (.tmp 5) = .int .i64 (r : Int)) (c129 : w.drew.cell? ⟨b, 129, none⟩ = some (.int .i64 (t : Int)))
    (gt : w.drew.rangeAt b (t * 16) (rowL (m t))) (tr : w.drew.there b (r * 16) 16)
    (h : ∀ a', Kept 26 40 a a' → Q .normal a' (w.drew.setCells b (r * 16) (rowL (m t)))) : (Code.region 6 ops true).wp Tryd.prog Q a w := by
  have hr' : (r : Int) < 8 := by omega
  have ht' : (t : Int) < 8 := by omega
  subst hR
  obtain ⟨p0, g0, x0, d0, k0⟩ := RLeave_op (i := 0) (by decide) (by rw [RLeave_at]; rfl)
  obtain ⟨p1, g1, x1, d1, k1⟩ := RLeave_op (i := 1) (by decide) (by rw [RLeave_at]; rfl)
  obtain ⟨p2, g2, x2, d2, k2⟩ := RLeave_op (i := 2) (by decide) (by rw [RLeave_at]; rfl)
  obtain ⟨p3, g3, x3, d3, k3⟩ := RLeave_op (i := 3) (by decide) (by rw [RLeave_at]; rfl)
  obtain ⟨p4, g4, x4, d4, k4⟩ := RLeave_op (i := 4) (by decide) (by rw [RLeave_at]; rfl)
  obtain ⟨p5, g5, x5, d5, k5⟩ := RLeave_op (i := 5) (by decide) (by rw [RLeave_at]; rfl)
  obtain ⟨p6, g6, x6, d6, k6⟩ := RLeave_op (i := 6) (by decide) (by rw [RLeave_at]; rfl)
  obtain ⟨p7, g7, x7, d7, k7⟩ := RLeave_op (i := 7) (by decide) (by rw [RLeave_at]; rfl)
  obtain ⟨p8, g8, x8, d8, k8⟩ := RLeave_op (i := 8) (by decide) (by rw [RLeave_at]; rfl)
  obtain ⟨p9, g9, x9, d9, k9⟩ := RLeave_op (i := 9) (by decide) (by rw [RLeave_at]; rfl)
  obtain ⟨p10, g10, x10, d10, k10⟩ := RLeave_op (i := 10) (by decide) (by rw [RLeave_at]; rfl)
  obtain ⟨p11, g11, x11, d11, k11⟩ := RLeave_op (i := 11) (by decide) (by rw [RLeave_at]; rfl)
  obtain ⟨p12, g12, x12, d12, k12⟩ := RLeave_op (i := 12) (by decide) (by rw [RLeave_at]; rfl)
  obtain ⟨p13, g13, x13, d13, k13⟩ := RLeave_op (i := 13) (by decide) (by rw [RLeave_at]; rfl)
  obtain ⟨p14, g14, x14, d14, k14⟩ := RLeave_op (i := 14) (by decide) (by rw [RLeave_at]; rfl)
  have hsel : Region.noSelect RLeave = true := by kernel_rfl
  have hsize : RLeave.size = 15 := by kernel_rfl
  have z32767 : ∀ a', Kept 26 40 a a' → wpAny Tryd.prog .any RLeave Q 0 (mkLeave [0, 1, 2, 3, 4, 5, 6, 7, 8, 9, 10, 11, 12, 13, 14]) a' (w.drew.setCells b (r * 16) (rowL (m t))) := by
    intro a' hk
    exact wpAny_done (by kernel_rfl) (h a' hk) _
  have z16383 : ∀ a', Kept 26 40 a a' → a'.eval (.tmp 36) = .agg (rowL (m t)).toArray → a'.eval (.tmp 39) = .pointer (some ⟨b, r * 16, none⟩) → wpAny Tryd.prog .any RLeave Q 1 (mkLeave [0, 1, 2, 3, 4, 5, 6, 7, 8, 9, 10, 11, 12, 13]) a' (w.drew) := by
    intro a' hk f36 f39
    refine wpAny_ready (rs := [14]) (by kernel_rfl) (by simp) ?_
    refine AllReady.cons g14 (fun K hK => ?_) AllReady.nil
    rw [if_pos (pt_want k14)]
    refine wp_store_mid 65 (.tmp 39) (.tmp 36) x14 b (r * 16) (rowL (m t)).toArray f39 f36 (by simpa [rowL_len] using tr) (by simpa using Tryd.sizeArr16 _) (rowL_one _) ?_
    refine hK _ _ ?_
    rw [d14]
    exact z32767 (a'.put none undef) (hk.none _) 
  have z8191 : ∀ a', Kept 26 40 a a' → a'.eval (.tmp 27) = .int .i64 (r : Int) → a'.eval (.tmp 36) = .agg (rowL (m t)).toArray → a'.eval (.tmp 38) = .pointer (some ⟨b, 0, none⟩) → wpAny Tryd.prog .any RLeave Q 2 (mkLeave [0, 1, 2, 3, 4, 5, 6, 7, 8, 9, 10, 11, 12]) a' (w.drew) := by
    intro a' hk f27 f36 f38
    have q0 := f38
    have q1 := f27
    refine wpAny_take g13 hsel (by kernel_rfl) (by kernel_rfl) (fun c a w h => hQ c _ _ a w (by rw [d13] at h; exact h)) (v := .pointer (some ⟨b, r * 16, none⟩)) (.inl ⟨pt_want k13, fun w => by simp only [execOp, x13, q0, q1]; (try go_simp)⟩) ?_
    rw [d13]
    exact z16383 (a'.put (some 39) (.pointer (some ⟨b, r * 16, none⟩))) (hk.put 39 _ (by decide) (by decide)) ((pt_other _ _ _ _ (by decide)).trans f36) (pt_same _ _ _ (by rw [hk.size, sz]; decide))
  have z7167 : ∀ a', Kept 26 40 a a' → a'.eval (.tmp 27) = .int .i64 (r : Int) → a'.eval (.tmp 35) = .pointer (some ⟨b, t * 16, none⟩) → a'.eval (.tmp 38) = .pointer (some ⟨b, 0, none⟩) → wpAny Tryd.prog .any RLeave Q 3 (mkLeave [0, 1, 2, 3, 4, 5, 6, 7, 8, 9, 11, 12]) a' w.drew := by
    intro a' hk f27 f35 f38
    refine wpAny_ready (rs := [10]) (by kernel_rfl) (by simp) ?_
    refine (AllReady.cons g10 (fun K hK => ?_) AllReady.nil)
    · rw [if_pos (pt_want k10)]
      refine wp_load_mid 65 (.tmp 35) x10 b (t * 16) f35 (rowL (m t)) _ gt Tryd.underlying65 rfl (Tryd.sizeArr16 _) ?_
      refine hK _ _ ?_
      rw [d10]
      exact z8191 (a'.put (some 36) (.agg (rowL (m t)).toArray)) (hk.put 36 _ (by decide) (by decide)) ((pt_other _ _ _ _ (by decide)).trans f27) (pt_same _ _ _ (by rw [hk.size, sz]; decide)) ((pt_other _ _ _ _ (by decide)).trans f38)
  have z6655 : ∀ a', Kept 26 40 a a' → a'.eval (.tmp 27) = .int .i64 (r : Int) → a'.eval (.tmp 32) = .int .i64 (t : Int) → a'.eval (.tmp 34) = .pointer (some ⟨b, 0, none⟩) → a'.eval (.tmp 38) = .pointer (some ⟨b, 0, none⟩) → wpAny Tryd.prog .any RLeave Q 4 (mkLeave [0, 1, 2, 3, 4, 5, 6, 7, 8, 11, 12]) a' w.drew := by
    intro a' hk f27 f32 f34 f38
    have q0 := f34
    have q1 := f32
    refine wpAny_take g9 hsel (by kernel_rfl) (by kernel_rfl) (fun c a w h => hQ c _ _ a w (by rw [d9] at h; exact h)) (v := .pointer (some ⟨b, t * 16, none⟩)) (.inl ⟨pt_want k9, fun w => by simp only [execOp, x9, q0, q1]; (try go_simp)⟩) ?_
    rw [d9]
    exact z7167 (a'.put (some 35) (.pointer (some ⟨b, t * 16, none⟩))) (hk.put 35 _ (by decide) (by decide)) ((pt_other _ _ _ _ (by decide)).trans f27) (pt_same _ _ _ (by rw [hk.size, sz]; decide)) ((pt_other _ _ _ _ (by decide)).trans f38)
  have z6591 : ∀ a', Kept 26 40 a a' → a'.eval (.tmp 27) = .int .i64 (r : Int) → a'.eval (.tmp 31) = .pointer (some ⟨b, 129, none⟩) → a'.eval (.tmp 34) = .pointer (some ⟨b, 0, none⟩) → a'.eval (.tmp 38) = .pointer (some ⟨b, 0, none⟩) → wpAny Tryd.prog .any RLeave Q 5 (mkLeave [0, 1, 2, 3, 4, 5, 7, 8, 11, 12]) a' w.drew := by
    intro a' hk f27 f31 f34 f38
    refine wpAny_ready (rs := [6]) (by kernel_rfl) (by simp) ?_
    refine (AllReady.cons g6 (fun K hK => ?_) AllReady.nil)
    · rw [if_pos (pt_want k6)]
      have e : (execOp a'.eval p6).run Tryd.prog w.drew = .ok (.value (.int .i64 (t : Int))) w.drew := by have ff := f31; simp only [execOp, x6, ff]; go_simp
      unfold Oper.wp
      rw [e, Oper.upon_value]
      refine hK _ _ ?_
      rw [d6]
      exact z6655 (a'.put (some 32) (.int .i64 (t : Int))) (hk.put 32 _ (by decide) (by decide)) ((pt_other _ _ _ _ (by decide)).trans f27) (pt_same _ _ _ (by rw [hk.size, sz]; decide)) ((pt_other _ _ _ _ (by decide)).trans f34) ((pt_other _ _ _ _ (by decide)).trans f38)
  have z2495 : ∀ a', Kept 26 40 a a' → a'.eval (.tmp 27) = .int .i64 (r : Int) → a'.eval (.tmp 31) = .pointer (some ⟨b, 129, none⟩) → a'.eval (.tmp 34) = .pointer (some ⟨b, 0, none⟩) → a'.eval (.tmp 37) = .pointer (some ⟨b, 0, none⟩) → wpAny Tryd.prog .any RLeave Q 6 (mkLeave [0, 1, 2, 3, 4, 5, 7, 8, 11]) a' w.drew := by
    intro a' hk f27 f31 f34 f37
    have q0 := f37
    refine wpAny_take g12 hsel (by kernel_rfl) (by kernel_rfl) (fun c a w h => hQ c _ _ a w (by rw [d12] at h; exact h)) (v := .pointer (some ⟨b, 0, none⟩)) (.inl ⟨pt_want k12, fun w => by simp only [execOp, x12, q0]; (try go_simp)⟩) ?_
    rw [d12]
    exact z6591 (a'.put (some 38) (.pointer (some ⟨b, 0, none⟩))) (hk.put 38 _ (by decide) (by decide)) ((pt_other _ _ _ _ (by decide)).trans f27) ((pt_other _ _ _ _ (by decide)).trans f31) ((pt_other _ _ _ _ (by decide)).trans f34) (pt_same _ _ _ (by rw [hk.size, sz]; decide))
  have z447 : ∀ a', Kept 26 40 a a' → a'.eval (.tmp 26) = .pointer (some ⟨b, 0, none⟩) → a'.eval (.tmp 27) = .int .i64 (r : Int) → a'.eval (.tmp 31) = .pointer (some ⟨b, 129, none⟩) → a'.eval (.tmp 34) = .pointer (some ⟨b, 0, none⟩) → wpAny Tryd.prog .any RLeave Q 7 (mkLeave [0, 1, 2, 3, 4, 5, 7, 8]) a' w.drew := by
    intro a' hk f26 f27 f31 f34
    have q0 := f26
    refine wpAny_take g11 hsel (by kernel_rfl) (by kernel_rfl) (fun c a w h => hQ c _ _ a w (by rw [d11] at h; exact h)) (v := .pointer (some ⟨b, 0, none⟩)) (.inl ⟨pt_want k11, fun w => by simp only [execOp, x11, q0]; (try go_simp)⟩) ?_
    rw [d11]
    exact z2495 (a'.put (some 37) (.pointer (some ⟨b, 0, none⟩))) (hk.put 37 _ (by decide) (by decide)) ((pt_other _ _ _ _ (by decide)).trans f27) ((pt_other _ _ _ _ (by decide)).trans f31) ((pt_other _ _ _ _ (by decide)).trans f34) (pt_same _ _ _ (by rw [hk.size, sz]; decide))
  have z191 : ∀ a', Kept 26 40 a a' → a'.eval (.tmp 26) = .pointer (some ⟨b, 0, none⟩) → a'.eval (.tmp 27) = .int .i64 (r : Int) → a'.eval (.tmp 31) = .pointer (some ⟨b, 129, none⟩) → a'.eval (.tmp 33) = .pointer (some ⟨b, 0, none⟩) → wpAny Tryd.prog .any RLeave Q 8 (mkLeave [0, 1, 2, 3, 4, 5, 7]) a' w.drew := by
    intro a' hk f26 f27 f31 f33
    have q0 := f33
    refine wpAny_take g8 hsel (by kernel_rfl) (by kernel_rfl) (fun c a w h => hQ c _ _ a w (by rw [d8] at h; exact h)) (v := .pointer (some ⟨b, 0, none⟩)) (.inl ⟨pt_want k8, fun w => by simp only [execOp, x8, q0]; (try go_simp)⟩) ?_
    rw [d8]
    exact z447 (a'.put (some 34) (.pointer (some ⟨b, 0, none⟩))) (hk.put 34 _ (by decide) (by decide)) ((pt_other _ _ _ _ (by decide)).trans f26) ((pt_other _ _ _ _ (by decide)).trans f27) ((pt_other _ _ _ _ (by decide)).trans f31) (pt_same _ _ _ (by rw [hk.size, sz]; decide))
  have z63 : ∀ a', Kept 26 40 a a' → a'.eval (.tmp 26) = .pointer (some ⟨b, 0, none⟩) → a'.eval (.tmp 27) = .int .i64 (r : Int) → a'.eval (.tmp 28) = .pointer (some ⟨b, 0, none⟩) → a'.eval (.tmp 31) = .pointer (some ⟨b, 129, none⟩) → wpAny Tryd.prog .any RLeave Q 9 (mkLeave [0, 1, 2, 3, 4, 5]) a' w.drew := by
    intro a' hk f26 f27 f28 f31
    have q0 := f28
    refine wpAny_take g7 hsel (by kernel_rfl) (by kernel_rfl) (fun c a w h => hQ c _ _ a w (by rw [d7] at h; exact h)) (v := .pointer (some ⟨b, 0, none⟩)) (.inl ⟨pt_want k7, fun w => by simp only [execOp, x7, q0]; (try go_simp)⟩) ?_
    rw [d7]
    exact z191 (a'.put (some 33) (.pointer (some ⟨b, 0, none⟩))) (hk.put 33 _ (by decide) (by decide)) ((pt_other _ _ _ _ (by decide)).trans f26) ((pt_other _ _ _ _ (by decide)).trans f27) ((pt_other _ _ _ _ (by decide)).trans f31) (pt_same _ _ _ (by rw [hk.size, sz]; decide))
  have z31 : ∀ a', Kept 26 40 a a' → a'.eval (.tmp 26) = .pointer (some ⟨b, 0, none⟩) → a'.eval (.tmp 27) = .int .i64 (r : Int) → a'.eval (.tmp 28) = .pointer (some ⟨b, 0, none⟩) → a'.eval (.tmp 30) = .pointer (some ⟨b, 0, none⟩) → wpAny Tryd.prog .any RLeave Q 10 (mkLeave [0, 1, 2, 3, 4]) a' w.drew := by
    intro a' hk f26 f27 f28 f30
    have q0 := f30
    refine wpAny_take g5 hsel (by kernel_rfl) (by kernel_rfl) (fun c a w h => hQ c _ _ a w (by rw [d5] at h; exact h)) (v := .pointer (some ⟨b, 129, none⟩)) (.inl ⟨pt_want k5, fun w => by simp only [execOp, x5, q0]; (try go_simp)⟩) ?_
    rw [d5]
    exact z63 (a'.put (some 31) (.pointer (some ⟨b, 129, none⟩))) (hk.put 31 _ (by decide) (by decide)) ((pt_other _ _ _ _ (by decide)).trans f26) ((pt_other _ _ _ _ (by decide)).trans f27) ((pt_other _ _ _ _ (by decide)).trans f28) (pt_same _ _ _ (by rw [hk.size, sz]; decide))
  have z15 : ∀ a', Kept 26 40 a a' → a'.eval (.tmp 26) = .pointer (some ⟨b, 0, none⟩) → a'.eval (.tmp 27) = .int .i64 (r : Int) → a'.eval (.tmp 28) = .pointer (some ⟨b, 0, none⟩) → a'.eval (.tmp 29) = .pointer (some ⟨b, 0, none⟩) → wpAny Tryd.prog .any RLeave Q 11 (mkLeave [0, 1, 2, 3]) a' w.drew := by
    intro a' hk f26 f27 f28 f29
    have q0 := f29
    refine wpAny_take g4 hsel (by kernel_rfl) (by kernel_rfl) (fun c a w h => hQ c _ _ a w (by rw [d4] at h; exact h)) (v := .pointer (some ⟨b, 0, none⟩)) (.inl ⟨pt_want k4, fun w => by simp only [execOp, x4, q0]; (try go_simp)⟩) ?_
    rw [d4]
    exact z31 (a'.put (some 30) (.pointer (some ⟨b, 0, none⟩))) (hk.put 30 _ (by decide) (by decide)) ((pt_other _ _ _ _ (by decide)).trans f26) ((pt_other _ _ _ _ (by decide)).trans f27) ((pt_other _ _ _ _ (by decide)).trans f28) (pt_same _ _ _ (by rw [hk.size, sz]; decide))
  have z7 : ∀ a', Kept 26 40 a a' → a'.eval (.tmp 26) = .pointer (some ⟨b, 0, none⟩) → a'.eval (.tmp 27) = .int .i64 (r : Int) → a'.eval (.tmp 28) = .pointer (some ⟨b, 0, none⟩) → wpAny Tryd.prog .any RLeave Q 12 (mkLeave [0, 1, 2]) a' w.drew := by
    intro a' hk f26 f27 f28
    have q0 := (show a'.eval (.tmp 0) = .pointer (some ⟨b, 0, none⟩) from (hk.slot 0 (by omega)).trans i0)
    refine wpAny_take g3 hsel (by kernel_rfl) (by kernel_rfl) (fun c a w h => hQ c _ _ a w (by rw [d3] at h; exact h)) (v := .pointer (some ⟨b, 0, none⟩)) (.inl ⟨pt_want k3, fun w => by simp only [execOp, x3, q0]; (try go_simp)⟩) ?_
    rw [d3]
    exact z15 (a'.put (some 29) (.pointer (some ⟨b, 0, none⟩))) (hk.put 29 _ (by decide) (by decide)) ((pt_other _ _ _ _ (by decide)).trans f26) ((pt_other _ _ _ _ (by decide)).trans f27) ((pt_other _ _ _ _ (by decide)).trans f28) (pt_same _ _ _ (by rw [hk.size, sz]; decide))
  have z3 : ∀ a', Kept 26 40 a a' → a'.eval (.tmp 26) = .pointer (some ⟨b, 0, none⟩) → a'.eval (.tmp 27) = .int .i64 (r : Int) → wpAny Tryd.prog .any RLeave Q 13 (mkLeave [0, 1]) a' w.drew := by
    intro a' hk f26 f27
    have q0 := (show a'.eval (.tmp 0) = .pointer (some ⟨b, 0, none⟩) from (hk.slot 0 (by omega)).trans i0)
    refine wpAny_take g2 hsel (by kernel_rfl) (by kernel_rfl) (fun c a w h => hQ c _ _ a w (by rw [d2] at h; exact h)) (v := .pointer (some ⟨b, 0, none⟩)) (.inl ⟨pt_want k2, fun w => by simp only [execOp, x2, q0]; (try go_simp)⟩) ?_
    rw [d2]
    exact z7 (a'.put (some 28) (.pointer (some ⟨b, 0, none⟩))) (hk.put 28 _ (by decide) (by decide)) ((pt_other _ _ _ _ (by decide)).trans f26) ((pt_other _ _ _ _ (by decide)).trans f27) (pt_same _ _ _ (by rw [hk.size, sz]; decide))
  have z1 : ∀ a', Kept 26 40 a a' → a'.eval (.tmp 26) = .pointer (some ⟨b, 0, none⟩) → wpAny Tryd.prog .any RLeave Q 14 (mkLeave [0]) a' w.drew := by
    intro a' hk f26
    have q0 := (show a'.eval (.tmp 5) = .int .i64 (r : Int) from (hk.slot 5 (by omega)).trans i5)
    refine wpAny_take g1 hsel (by kernel_rfl) (by kernel_rfl) (fun c a w h => hQ c _ _ a w (by rw [d1] at h; exact h)) (v := .int .i64 (r : Int)) (.inl ⟨pt_want k1, fun w => by simp only [execOp, x1, q0]; (try go_simp)⟩) ?_
    rw [d1]
    exact z3 (a'.put (some 27) (.int .i64 (r : Int))) (hk.put 27 _ (by decide) (by decide)) ((pt_other _ _ _ _ (by decide)).trans f26) (pt_same _ _ _ (by rw [hk.size, sz]; decide))
  have z0 : ∀ a', Kept 26 40 a a' → wpAny Tryd.prog .any RLeave Q 15 (mkLeave []) a' w.drew := by
    intro a' hk 
    have q0 := (show a'.eval (.tmp 0) = .pointer (some ⟨b, 0, none⟩) from (hk.slot 0 (by omega)).trans i0)
    refine wpAny_take g0 hsel (by kernel_rfl) (by kernel_rfl) (fun c a w h => hQ c _ _ a w (by rw [d0] at h; exact h)) (v := .pointer (some ⟨b, 0, none⟩)) (.inl ⟨pt_want k0, fun w => by simp only [execOp, x0, q0]; (try go_simp)⟩) ?_
    rw [d0]
    exact z1 (a'.put (some 26) (.pointer (some ⟨b, 0, none⟩))) (hk.put 26 _ (by decide) (by decide)) (pt_same _ _ _ (by rw [hk.size, sz]; decide))
  refine wp_region_any (by kernel_rfl) ?_
  rw [hsize]
  exact z0 a (Kept.refl _ _ _)
end Go.Proofs.YthhommjlomphdabDoor
