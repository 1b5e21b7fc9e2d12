import Derived.Test.YtogdeaaphdlchaaGreatDoorPart13
import Derived.WalkMore
import Derived.Deep.MidRow
import Derived.Test.YtogdeaaphdlchaaGreatDoorPart16
import Derived.Test.YtogdeaaphdlchaaGreatDoorPart15
import Derived.Test.YtogdeaaphdlchaaGreatDoorPart14
import Derived.Deep.RegionHeld
import Derived.Test.YtogdeaaphdlchaaGreatDoorPart12
/-
  The exchange of two rows of the grid: a region that draws its order, with two loads of a whole row.
-/
namespace Go.Proofs.YtogdeaaphdlchaaGreatDoor
open Go.RowKit Go.Deep Gf

theorem put_same (a : Act) (i : Nat) (v : Value) (h : i < a.tmps.size) : (a.put (some i) v).eval (.tmp i) = v := by simp [Act.put, Act.eval, h]
theorem put_other (a : Act) (i j : Nat) (v : Value) (h : i ≠ j) : (a.put (some i) v).eval (.tmp j) = a.eval (.tmp j) := by
  simp [Act.put, Act.eval, Array.getD_eq_getD_getElem?, h]
theorem put_size (a : Act) (d : Option Nat) (v : Value) : (a.put d v).tmps.size = a.tmps.size := by
  cases d <;> simp [Act.put]
theorem put_comm (a : Act) (i j : Nat) (v u : Value) (h : i ≠ j) : (a.put (some i) v).put (some j) u = (a.put (some j) u).put (some i) v := by
  simp only [Act.put]
  rw [Array.setIfInBounds_comm _ _ h]
theorem wanted_of {ops : Array Oper} {o : Oper} {a : Act} (hg : o.guard = none) : Region.wanted o (yielded ops a.tmps) = true := by simp [Region.wanted, hg]
theorem yields_move {P : Program} {ops : Array Oper} {o : Oper} {a : Act} {x : Operand} {v : Value} (hg : o.guard = none) (ho : o.op = .move x) (hx : a.eval x = v) : Yields P ops o v a :=
  .inl ⟨wanted_of hg, fun w => by simp [execOp, ho, hx]⟩

def rg : Code → Nat → Option (Array Oper)
  | .region i ops _, n => if i = n then some ops else none
  | .seq a b, n => (rg a n).orElse fun _ => rg b n
  | .cond _ a b, n => (rg a n).orElse fun _ => rg b n
  | .block _ a, n => rg a n
  | .loop a, n => rg a n
  | .scope a, n => rg a n
  | _, _ => none
noncomputable def R12 : Array Oper := ((Tryz.f47.body.bind (rg · 12))).getD #[]
def mk12 (l : List Nat) : Array Bool := l.foldl (fun a i => a.setIfInBounds i true) (Array.replicate 12 false)
theorem R12_at : (List.range 12).map (fun i => (R12[i]?).map fun o => (o.op, o.dst, o.guard)) = [
    some (.move (.tmp 4), some 28, none), some (.move (.tmp 6), some 29, none), some (.move (.tmp 6), some 30, none), some (.indexAddr 180 (.tmp 3) (.tmp 30), some 31, none),
    some (.load 156 (.tmp 31), some 32, none), some (.move (.tmp 4), some 33, none), some (.indexAddr 180 (.tmp 3) (.tmp 33), some 34, none), some (.load 156 (.tmp 34), some 35, none),
    some (.indexAddr 180 (.tmp 3) (.tmp 28), some 36, none), some (.store 156 (.tmp 36) (.tmp 32), none, none), some (.indexAddr 180 (.tmp 3) (.tmp 29), some 37, none), some (.store 156 (.tmp 37) (.tmp 35), none, none)] := by kernel_rfl
theorem R12_op {i : Nat} {x : Op} {d : Option Nat} (hi : i < 12) (h : ((List.range 12).map (fun i => (R12[i]?).map fun o => (o.op, o.dst, o.guard)))[i]? = some (some (x, d, none))) : ∃ o, R12[i]? = some o ∧ o.op = x ∧ o.dst = d ∧ o.guard = none := by
  simp only [List.getElem?_map, List.getElem?_range hi, Option.map_some, Option.some.injEq, Option.map_eq_some_iff, Prod.mk.injEq] at h
  obtain ⟨o, h1, h2, h3, h4⟩ := h
  exact ⟨o, h1, h2, h3, h4⟩
theorem idx_grid (gb p : Nat) (hp : p < 64) {o : Oper} {a : Act} {x y : Operand} (ho : o.op = .indexAddr 180 x y) (hx : a.eval x = .pointer (some ⟨gb, 0, none⟩)) (hy : a.eval y = .int .i64 (p : Nat)) (w : World) :
    (execOp a.eval o).run Tryz.prog w = .ok (.value (.pointer (some ⟨gb, p * 64, none⟩))) w := by
  have h1 : (p : Int) < 64 := by omega
  simp only [execOp, ho, hx, hy]
  go_simp
theorem Tryz.sizeRow : (Tryz.prog.info? 156).map (fun i => i.size) = some 64 := by kernel_rfl
/-- the frame behind it -/
def act12 (a : Act) (gb p r : Nat) (cp cr : List Value) : Act :=
  ((((((((((a.put (some 28) (.int .i64 (r : Nat))).put (some 29) (.int .i64 (p : Nat))).put (some 30) (.int .i64 (p : Nat))).put (some 33) (.int .i64 (r : Nat))).put (some 31) (.pointer (some ⟨gb, p * 64, none⟩))).put (some 34) (.pointer (some ⟨gb, r * 64, none⟩))).put (some 32) (.agg cp.toArray)).put (some 35) (.agg cr.toArray)).put (some 36) (.pointer (some ⟨gb, r * 64, none⟩))).put none undef).put (some 37) (.pointer (some ⟨gb, p * 64, none⟩)) |>.put none undef
set_option maxRecDepth 100000 in
set_option maxHeartbeats 1000000 in
theorem exchange {ops : Array Oper} {Q : Exit → Act → World → Prop} {a : Act} {w : World} (gb p r : Nat) (cp cr : List Value) (hR : R12 = ops) (hQ : ∀ c n v a w, Q (.panic c) (a.put (some n) v) w → Q (.panic c) a w)
    (hsz : a.tmps.size = 47) (hp : p < 64) (hr : r < 64) (e3 : a.eval (.tmp 3) = .pointer (some ⟨gb, 0, none⟩)) (e4 : a.eval (.tmp 4) = .int .i64 (r : Nat)) (e6 : a.eval (.tmp 6) = .int .i64 (p : Nat))
    (lp : cp.length = 64) (lr : cr.length = 64) (op : cp.toArray.all (fun v => v.oneCell') = true) (or : cr.toArray.all (fun v => v.oneCell') = true)
    (gp : w.drew.rangeAt gb (p * 64) cp) (gr : w.drew.rangeAt gb (r * 64) cr) (tr : w.drew.there gb (r * 64) 64) (tp : w.drew.there gb (p * 64) 64)
    (h : Q .normal (act12 a gb p r cp cr) ((w.drew.setCells gb (r * 64) cp).setCells gb (p * 64) cr)) : (Code.region 12 ops true).wp Tryz.prog Q a w := by
  subst hR
  obtain ⟨o0, g0, x0, d0, k0⟩ := R12_op (i := 0) (by decide) (by rw [R12_at]; rfl)
  obtain ⟨o1, g1, x1, d1, k1⟩ := R12_op (i := 1) (by decide) (by rw [R12_at]; rfl)
  obtain ⟨o2, g2, x2, d2, k2⟩ := R12_op (i := 2) (by decide) (by rw [R12_at]; rfl)
  obtain ⟨o3, g3, x3, d3, k3⟩ := R12_op (i := 3) (by decide) (by rw [R12_at]; rfl)
  obtain ⟨o4, g4, x4, d4, k4⟩ := R12_op (i := 4) (by decide) (by rw [R12_at]; rfl)
  obtain ⟨o5, g5, x5, d5, k5⟩ := R12_op (i := 5) (by decide) (by rw [R12_at]; rfl)
  obtain ⟨o6, g6, x6, d6, k6⟩ := R12_op (i := 6) (by decide) (by rw [R12_at]; rfl)
  obtain ⟨o7, g7, x7, d7, k7⟩ := R12_op (i := 7) (by decide) (by rw [R12_at]; rfl)
  obtain ⟨o8, g8, x8, d8, k8⟩ := R12_op (i := 8) (by decide) (by rw [R12_at]; rfl)
  obtain ⟨o9, g9, x9, d9, k9⟩ := R12_op (i := 9) (by decide) (by rw [R12_at]; rfl)
  obtain ⟨o10, g10, x10, d10, k10⟩ := R12_op (i := 10) (by decide) (by rw [R12_at]; rfl)
  obtain ⟨o11, g11, x11, d11, k11⟩ := R12_op (i := 11) (by decide) (by rw [R12_at]; rfl)
  have hsel : Region.noSelect R12 = true := by kernel_rfl
  have hsize : R12.size = 12 := by kernel_rfl
  refine wp_region_any (by kernel_rfl) ?_
  rw [hsize]
  change wpAny _ _ _ _ _ (mk12 []) _ (World.drew _)
  -- what yields in whatever world
  refine wpAny_take g0 hsel (by kernel_rfl) (by kernel_rfl) (fun c a w h => hQ c _ _ a w (by rw [d0] at h; exact h)) (yields_move k0 x0 e4) ?_
  rw [d0]
  refine wpAny_take g1 hsel (by kernel_rfl) (by kernel_rfl) (fun c a w h => hQ c _ _ a w (by rw [d1] at h; exact h)) (yields_move (v := .int .i64 (p : Nat)) k1 x1 (by rw [put_other _ _ _ _ (by decide)]; exact e6)) ?_
  rw [d1]
  refine wpAny_take g2 hsel (by kernel_rfl) (by kernel_rfl) (fun c a w h => hQ c _ _ a w (by rw [d2] at h; exact h)) (yields_move (v := .int .i64 (p : Nat)) k2 x2 (by rw [put_other _ _ _ _ (by decide), put_other _ _ _ _ (by decide)]; exact e6)) ?_
  rw [d2]
  refine wpAny_take g5 hsel (by kernel_rfl) (by kernel_rfl) (fun c a w h => hQ c _ _ a w (by rw [d5] at h; exact h)) (yields_move (v := .int .i64 (r : Nat)) k5 x5 (by rw [put_other _ _ _ _ (by decide), put_other _ _ _ _ (by decide), put_other _ _ _ _ (by decide)]; exact e4)) ?_
  rw [d5]
  generalize hb : (((a.put (some 28) (.int .i64 (r : Nat))).put (some 29) (.int .i64 (p : Nat))).put (some 30) (.int .i64 (p : Nat))).put (some 33) (.int .i64 (r : Nat)) = b
  have sb : b.tmps.size = 47 := by rw [← hb]; simp only [put_size, hsz]
  have b3 : b.eval (.tmp 3) = .pointer (some ⟨gb, 0, none⟩) := by rw [← hb]; simp only [put_other _ _ _ _ (show (33 : Nat) ≠ 3 by decide), put_other _ _ _ _ (show (30 : Nat) ≠ 3 by decide), put_other _ _ _ _ (show (29 : Nat) ≠ 3 by decide), put_other _ _ _ _ (show (28 : Nat) ≠ 3 by decide), e3]
  have b30 : b.eval (.tmp 30) = .int .i64 (p : Nat) := by rw [← hb, put_other _ _ _ _ (by decide), put_same _ _ _ (by simp only [put_size, hsz]; decide)]
  have b33 : b.eval (.tmp 33) = .int .i64 (r : Nat) := by rw [← hb, put_same _ _ _ (by simp only [put_size, hsz]; decide)]
  have b28 : b.eval (.tmp 28) = .int .i64 (r : Nat) := by rw [← hb, put_other _ _ _ _ (by decide), put_other _ _ _ _ (by decide), put_other _ _ _ _ (by decide), put_same _ _ _ (by simp only [hsz]; decide)]
  have b29 : b.eval (.tmp 29) = .int .i64 (p : Nat) := by rw [← hb, put_other _ _ _ _ (by decide), put_other _ _ _ _ (by decide), put_same _ _ _ (by simp only [put_size, hsz]; decide)]
  unfold act12 at h
  rw [hb] at h
  clear hb
  refine wpAny_take g3 hsel (by kernel_rfl) (by kernel_rfl) (fun c a w h => hQ c _ _ a w (by rw [d3] at h; exact h)) (.inl ⟨wanted_of k3, idx_grid gb p hp x3 b3 b30⟩) ?_
  rw [d3]
  refine wpAny_take g6 hsel (by kernel_rfl) (by kernel_rfl) (fun c a w h => hQ c _ _ a w (by rw [d6] at h; exact h)) (.inl ⟨wanted_of k6, idx_grid gb r hr x6 (by rw [put_other _ _ _ _ (by decide)]; exact b3) (by rw [put_other _ _ _ _ (by decide)]; exact b33)⟩) ?_
  rw [d6]
  generalize hc : (b.put (some 31) (.pointer (some ⟨gb, p * 64, none⟩))).put (some 34) (.pointer (some ⟨gb, r * 64, none⟩)) = c
  have sc : c.tmps.size = 47 := by rw [← hc]; simp only [put_size, sb]
  have c3 : c.eval (.tmp 3) = .pointer (some ⟨gb, 0, none⟩) := by rw [← hc, put_other _ _ _ _ (by decide), put_other _ _ _ _ (by decide), b3]
  have c28 : c.eval (.tmp 28) = .int .i64 (r : Nat) := by rw [← hc, put_other _ _ _ _ (by decide), put_other _ _ _ _ (by decide), b28]
  have c29 : c.eval (.tmp 29) = .int .i64 (p : Nat) := by rw [← hc, put_other _ _ _ _ (by decide), put_other _ _ _ _ (by decide), b29]
  have c31 : c.eval (.tmp 31) = .pointer (some ⟨gb, p * 64, none⟩) := by rw [← hc, put_other _ _ _ _ (by decide), put_same _ _ _ (by rw [sb]; decide)]
  have c34 : c.eval (.tmp 34) = .pointer (some ⟨gb, r * 64, none⟩) := by rw [← hc, put_same _ _ _ (by simp only [put_size, sb]; decide)]
  rw [hc] at h
  clear hc
  have zp : (Tryz.prog.info? 156).map (fun i => i.size) = some cp.length := by rw [lp]; exact Tryz.sizeRow
  have zr : (Tryz.prog.info? 156).map (fun i => i.size) = some cr.length := by rw [lr]; exact Tryz.sizeRow
  -- behind the loads
  have fin : wpAny Tryz.prog .any R12 Q 4 (mk12 [0, 1, 2, 5, 3, 6, 4, 7]) ((c.put (some 32) (.agg cp.toArray)).put (some 35) (.agg cr.toArray)) w.drew := by
    generalize hd : (c.put (some 32) (.agg cp.toArray)).put (some 35) (.agg cr.toArray) = d
    have sd : d.tmps.size = 47 := by rw [← hd]; simp only [put_size, sc]
    have q3 : d.eval (.tmp 3) = .pointer (some ⟨gb, 0, none⟩) := by rw [← hd, put_other _ _ _ _ (by decide), put_other _ _ _ _ (by decide), c3]
    have q28 : d.eval (.tmp 28) = .int .i64 (r : Nat) := by rw [← hd, put_other _ _ _ _ (by decide), put_other _ _ _ _ (by decide), c28]
    have q29 : d.eval (.tmp 29) = .int .i64 (p : Nat) := by rw [← hd, put_other _ _ _ _ (by decide), put_other _ _ _ _ (by decide), c29]
    have q32 : d.eval (.tmp 32) = .agg cp.toArray := by rw [← hd, put_other _ _ _ _ (by decide), put_same _ _ _ (by rw [sc]; decide)]
    have q35 : d.eval (.tmp 35) = .agg cr.toArray := by rw [← hd, put_same _ _ _ (by simp only [put_size, sc]; decide)]
    rw [hd] at h
    clear hd
    refine wpAny_take g8 hsel (by kernel_rfl) (by kernel_rfl) (fun c a w h => hQ c _ _ a w (by rw [d8] at h; exact h)) (.inl ⟨wanted_of k8, idx_grid gb r hr x8 q3 q28⟩) ?_
    rw [d8]
    refine wpAny_ready (rs := [9]) (by kernel_rfl) (by simp) ?_
    refine AllReady.cons g9 (fun K hK => ?_) AllReady.nil
    rw [if_pos (wanted_of k9)]
    refine wp_store_mid 156 (.tmp 36) (.tmp 32) x9 gb (r * 64) cp.toArray (by rw [put_same _ _ _ (by rw [sd]; decide)]) (by rw [put_other _ _ _ _ (by decide), q32]) (by simpa [lp] using tr) (by simpa using zp) op ?_
    refine hK _ _ ?_
    rw [d9]
    refine wpAny_take g10 hsel (by kernel_rfl) (by kernel_rfl) (fun c a w h => hQ c _ _ a w (by rw [d10] at h; exact h)) (.inl ⟨wanted_of k10, idx_grid gb p hp x10 (by show (d.put (some 36) _).eval _ = _; rw [put_other _ _ _ _ (by decide)]; exact q3) (by show (d.put (some 36) _).eval _ = _; rw [put_other _ _ _ _ (by decide)]; exact q29)⟩) ?_
    rw [d10]
    refine wpAny_ready (rs := [11]) (by kernel_rfl) (by simp) ?_
    refine AllReady.cons g11 (fun K hK => ?_) AllReady.nil
    rw [if_pos (wanted_of k11)]
    refine wp_store_mid 156 (.tmp 37) (.tmp 35) x11 gb (p * 64) cr.toArray (by rw [put_same _ _ _ (by show 37 < (d.put (some 36) _).tmps.size; rw [put_size, sd]; decide)]) (by rw [put_other _ _ _ _ (by decide)]; show (d.put (some 36) _).eval _ = _; rw [put_other _ _ _ _ (by decide), q35]) (by simpa [lr] using World.there_setCells tp gb (r * 64) cp) (by simpa using zr) or ?_
    refine hK _ _ ?_
    rw [d11]
    exact wpAny_done (by kernel_rfl) h _
  refine wpAny_ready (rs := [4, 7]) (by kernel_rfl) (by simp) ?_
  refine AllReady.cons g4 (fun K hK => ?_) (AllReady.cons g7 (fun K hK => ?_) AllReady.nil)
  · rw [if_pos (wanted_of k4)]
    refine wp_load_mid 156 (.tmp 31) x4 gb (p * 64) c31 cp _ gp Tryz.underlying156 rfl zp ?_
    refine hK _ _ ?_
    rw [d4]
    refine wpAny_ready (rs := [7]) (by kernel_rfl) (by simp) ?_
    refine AllReady.cons g7 (fun K hK => ?_) AllReady.nil
    rw [if_pos (wanted_of k7)]
    refine wp_load_mid 156 (.tmp 34) x7 gb (r * 64) (by rw [put_other _ _ _ _ (by decide)]; exact c34) cr _ gr Tryz.underlying156 rfl zr ?_
    refine hK _ _ ?_
    rw [d7]
    exact fin
  · rw [if_pos (wanted_of k7)]
    refine wp_load_mid 156 (.tmp 34) x7 gb (r * 64) c34 cr _ gr Tryz.underlying156 rfl zr ?_
    refine hK _ _ ?_
    rw [d7]
    refine wpAny_ready (rs := [4]) (by kernel_rfl) (by simp) ?_
    refine AllReady.cons g4 (fun K hK => ?_) AllReady.nil
    rw [if_pos (wanted_of k4)]
    refine wp_load_mid 156 (.tmp 31) x4 gb (p * 64) (by rw [put_other _ _ _ _ (by decide)]; exact c31) cp _ gp Tryz.underlying156 rfl zp ?_
    refine hK _ _ ?_
    rw [d4, put_comm _ _ _ _ _ (by decide)]
    exact fin
end Go.Proofs.YtogdeaaphdlchaaGreatDoor
/-
  The program's Rank.
-/
namespace Go.Proofs.YtogdeaaphdlchaaGreatDoor
open Go.RowKit Go.Deep Gf

theorem wpList_gst (w : World) {ops : Array Oper} {rest : List Oper} {o : Oper} {a : Act} {Q : Exit → Act → World → Prop} (hgd : o.guard = none) (x y : Operand) (ho : o.op = .store 180 x y)
    (g : Nat) (f : Nat → Nat) (cs old : Array Value) (hx : a.eval x = .pointer (some ⟨g, 0, none⟩)) (hy : a.eval y = .agg cs) (hg : w.heap[g]? = some (.cells old 180 (0, 0))) (hold : old.size = 4096) (hsz : cs.size = 4096) (hget : ∀ j, j < 4096 → cs[j]? = some (tv f j))
    (hK : ∀ w2, w2.rowIs g 180 4096 (tv f) → w.grownBy w2 (some g) → wpList Tryz.prog ops Q rest (a.put o.dst undef) w2) : wpList Tryz.prog ops Q (o :: rest) a w := by
  refine wpList_store_row hgd 180 x y ho g cs hx hy 180 old hg (by rw [Tryz.sizeGrid, hsz]) (by omega) (one_cells2 hsz hget) (hK _ ?_ ?_)
  · exact ⟨cs, setRow_heap w g old cs _ _ hg, hsz, hget⟩
  · refine ⟨rfl, rfl, rfl, by simp, fun k hk hne => ?_⟩
    have : g ≠ k := fun e => hne (by rw [e])
    simp [World.setRow, Array.getElem?_modify, this]
theorem row_setCells {b t n : Nat} : ∀ (vs : List Value) (o : Nat) (w : World) (f : Nat → Value), w.rowIs b t n f → (w.setCells b o vs).rowIs b t n (fun x => if o ≤ x ∧ x < o + vs.length then vs.getD (x - o) undef else f x)
  | [], o, w, f, h => h.congr (fun i _ => by rw [if_neg (by simp)])
  | v :: vs, o, w, f, h => (row_setCells vs (o + 1) _ _ (h.set o v)).congr (fun i _ => by
      by_cases h1 : o + 1 ≤ i ∧ i < o + 1 + vs.length
      · have e : i - o = (i - (o + 1)) + 1 := by omega
        rw [if_pos h1, if_pos (by simp; omega), e]
        simp
      · rw [if_neg h1]
        by_cases h2 : i = o
        · subst h2
          rw [if_pos rfl, if_pos (by simp)]
          simp
        · rw [if_neg h2, if_neg (by simp; omega)])
theorem grown_setCells {b : Nat} : ∀ (vs : List Value) (o : Nat) (w w' : World), w.grownBy w' (some b) → w.grownBy (w'.setCells b o vs) (some b)
  | [], _, _, _, h => h
  | v :: vs, o, w, _, h => grown_setCells vs (o + 1) w _ (grown_set h o v)
/-- a row's cells -/
def cel (G : Nat → Nat) (i : Nat) : List Value := (List.range 64).map fun j => tv G (i * 64 + j)
theorem cel_len (G : Nat → Nat) (i : Nat) : (cel G i).length = 64 := by simp [cel]
theorem cel_getD (G : Nat → Nat) (i j : Nat) (h : j < 64) : (cel G i).getD j undef = tv G (i * 64 + j) := by simp [cel, h]
theorem cel_range {w : World} {b t : Nat} {G : Nat → Nat} (h : w.rowIs b t 4096 (tv G)) {i : Nat} (hi : i < 64) : w.rangeAt b (i * 64) (cel G i) := by
  intro j v hv
  have hj : j < 64 := by
    obtain ⟨q, _⟩ := List.getElem?_eq_some_iff.1 hv
    rwa [cel_len] at q
  simp [cel, hj] at hv
  rw [h.cell (by omega), hv]
theorem cel_there {w : World} {b t : Nat} {f : Nat → Value} (h : w.rowIs b t 4096 f) {i n : Nat} (hi : i < 64) (hn : n ≤ 64) : w.there b (i * 64) n := fun j hj => by
  rw [h.cell (by omega)]
  exact ⟨rfl, h.frozen _⟩
theorem cel_one (G : Nat → Nat) (i : Nat) : (cel G i).toArray.all (fun v => v.oneCell') = true := by
  rw [Array.all_eq_true]
  intro j hj
  simp [cel, tv]
  rfl
theorem sw_row {w : World} {b t : Nat} {G : Nat → Nat} (h : w.rowIs b t 4096 (tv G)) (p r : Nat) : ((w.setCells b (r * 64) (cel G p)).setCells b (p * 64) (cel G r)).rowIs b t 4096 (tv (swG G p r)) := by
  refine (row_setCells (cel G r) (p * 64) _ _ (row_setCells (cel G p) (r * 64) _ _ h)).congr (fun x _ => ?_)
  rw [cel_len, cel_len]
  by_cases h1 : p * 64 ≤ x ∧ x < p * 64 + 64
  · have e1 : x / 64 = p := by omega
    have e2 : x - p * 64 = x % 64 := by omega
    rw [if_pos h1, e2, cel_getD _ _ _ (by omega)]
    unfold tv swG
    rw [e1]
    by_cases e3 : p = r
    · rw [if_pos e3, e3]
    · rw [if_neg e3, if_pos rfl]
  · rw [if_neg h1]
    by_cases h2 : r * 64 ≤ x ∧ x < r * 64 + 64
    · have e1 : x / 64 = r := by omega
      have e2 : x - r * 64 = x % 64 := by omega
      rw [if_pos h2, e2, cel_getD _ _ _ (by omega)]
      unfold tv swG
      rw [if_pos e1]
    · rw [if_neg h2]
      unfold tv swG
      rw [if_neg (by omega), if_neg (by omega)]
/-- which row is taken -/
def GpR (G : Nat → Nat) (r c n : Nat) (rv iv : Value) : Prop := ∃ k : Nat, r ≤ k ∧ k ≤ n ∧ rv = .int .i64 (r : Nat) ∧ iv = .int .i64 (k : Nat) ∧ ∀ i, r ≤ i → i < k → G (i * 64 + c) = 0
def GcR (w : World) (b : Nat) (D : List (List Nat)) (rv cv : Value) (wr : World) : Prop :=
  ∃ (r c : Nat) (G : Nat → Nat), c ≤ 64 ∧ rv = .int .i64 (r : Nat) ∧ cv = .int .i64 (c : Nat) ∧ GI D c r D.length G ∧ wr.rowIs b 180 4096 (tv G) ∧ Below w.heap.size w wr
set_option maxRecDepth 100000 in
set_option maxHeartbeats 4000000 in
theorem rank_any (vd : Value) (D : List (List Nat)) (w : World) (hd : Rd w vd D) (hb : ∀ l ∈ D, ∀ x ∈ l, x < 256) :
    Calls Tryz.prog 47 #[vd] w fun e w' => RkPost D w e w' := by
  have HD := hide hd
  have hzg := zeroGrid
  obtain ⟨ao, c, rfl, hl, hc⟩ := hd
  clear hc
  by_cases hf : FitG D
  · have hl64 := hf.1
    have HF := hide hf
    clear hf
    go_enter Tryz.func47, Tryz.ntmps47
    go_wp2
    go_step3
    go_wp2_with (first
      | (go_at_call 66; refine (fits_any _ D _ HD.out).mono ?_; rintro e wv ⟨h1, _, rfl⟩; obtain rfl := h1 HF.out)
      | (go_at_call 67; refine (lay_any _ D _ HD.out HF.out).mono ?_; rintro e wa ⟨cs, rfl, hsz, hget, hba⟩)
      | (refine wpList_gst _ rfl (.tmp 3) (.tmp 11) rfl wa.heap.size (gridOf D) cs _ rfl rfl (heap_alloc_last wa _) (by simp) hsz hget ?_; intro wb hR0 hg0))
    have hbb : Below wv.heap.size wv wb := grown_below (hba.alloc hba.size _) hg0 (by rw [nblk_alloc]; have := hba.size; omega) hba.size
    have hG0 := GI.start hb HF.out
    have hbs := hba.size
    have HG0 := hide hG0
    clear hget hsz hba hg0 hzg hG0
    generalize wa.heap.size = gb at *
    go_step3
    go_wp2
    go_loopw [4, 12] (fun rv cv wr => GcR wv gb D rv cv wr) (fun _ cv _ => 64 - (intOf cv).toNat)
    case atStart => exact ⟨0, 0, gridOf D, by omega, rfl, rfl, HG0.out, hR0, hbb⟩
    case round =>
      clear hR0 hbb HG0
      rename World => wo
      obtain ⟨r, c2, G, hc64, rfl, rfl, hGI, hR, hbo⟩ := hrel
      have hrl := hGI.rle
      by_cases hcl : c2 < 64
      · have HGI := hide hGI
        have HR := hide hR
        have HBO := hide hbo
        clear hGI hR hbo
        go_wp2
        go_loop [4, 6] (fun rv iv => GpR G r c2 D.length rv iv) (fun _ iv => D.length - (intOf iv).toNat)
        case atStart => exact ⟨r, Nat.le_refl _, hrl, rfl, rfl, fun i h1 h2 => absurd h1 (by omega)⟩
        case round =>
          obtain ⟨p, hrp, hpn, rfl, rfl, hzz⟩ := hrel
          by_cases hpl : p < D.length
          · have hcell : wo.cell? ⟨gb, p * 64 + c2, none⟩ = some (.int .u8 ((G (p * 64 + c2) : Nat) : Int)) := HR.out.cell (by omega)
            have HZZ := hide hzz
            clear hzz
            by_cases hx0 : G (p * 64 + c2) = 0
            · rw [hx0] at hcell
              have HX := hide hx0
              clear hx0
              go_wp2
              go_round
              case rel =>
                refine ⟨p + 1, by omega, by omega, rfl, by go_num, fun i h1 h2 => ?_⟩
                by_cases e : i = p
                · subst e; exact HX.out
                · exact HZZ.out i h1 (by omega)
              case measure => simp [intOf]; omega
            · have t0 : (((G (p * 64 + c2) : Nat) : Int) == 0) = false := by rw [beq_eq_false_iff_ne]; omega
              have HGN := hide (HGI.out.pivot hcl hrp hpl hx0)
              clear hx0
              have hRd : wo.drew.rowIs gb 180 4096 (tv G) := HR.out
              have hgi : swG G p r (r * 64 + c2) = G (p * 64 + c2) := by rw [swG_at G p r r c2 hcl, if_pos rfl]
              have HGI2 := hide hgi
              have HBY := hide (swG_lt HGI.out.byt p r)
              have hp64 : p < 64 := by omega
              have hr64 : r < 64 := by omega
              clear hgi
              obtain ⟨wx, hwx, hsw, hgr⟩ : ∃ wx, (wo.drew.setCells gb (r * 64) (cel G p)).setCells gb (p * 64) (cel G r) = wx ∧ wx.rowIs gb 180 4096 (tv (swG G p r)) ∧ wo.drew.grownBy wx (some gb) :=
                ⟨_, rfl, sw_row hRd p r, grown_setCells (b := gb) (cel G r) (p * 64) wo.drew _ (grown_setCells (b := gb) (cel G p) (r * 64) wo.drew wo.drew (World.grownBy.refl _ _))⟩
              have HSW := hide hsw
              have HGR := hide hgr
              have HWX := hide hwx
              have HRD := hide hRd
              clear hsw hgr hwx hRd
              go_wp2
              refine exchange gb p r (cel G p) (cel G r) (by kernel_rfl) (fun _ _ _ _ _ h => h) rfl hp64 hr64 rfl rfl rfl (cel_len _ _) (cel_len _ _) (cel_one _ _) (cel_one _ _) (cel_range HRD.out hp64) (cel_range HRD.out hr64) (cel_there HRD.out hr64 (Nat.le_refl _)) (cel_there HRD.out hp64 (Nat.le_refl _)) ?_
              rw [HWX.out]
              clear HWX HRD
              unfold act12
              generalize (cel G p).toArray = cp
              generalize (cel G r).toArray = cr
              go_wp2_with (go_at_call 68; refine (workOff_any gb r c2 D.length (swG G p r) _ HBY.out HSW.out (by omega) hcl hl64).mono ?_; rintro e w2 ⟨rfl, hR2, hg2⟩)
              have hR3 : w2.rowIs gb 180 4096 (tv (nxG G p r c2 D.length)) := by
                rw [HGI2.out] at hR2; exact hR2
              have hg3 := grown_trans HGR.out hg2
              have hb3 := grown_below HBO.out (w := wo) ⟨hg3.os, hg3.tape, hg3.output, hg3.size, hg3.block⟩ HBO.out.size hbs
              clear hR2 hg2 hg3
              go_wp2
              go_roundw
              case rel => exact ⟨r + 1, c2 + 1, nxG G p r c2 D.length, by omega, by go_num, by go_num, HGN.out, hR3, hb3⟩
              case measure => simp [intOf]; omega
          · have HGS := hide (HGI.out.skip hcl (fun i h1 h2 => hzz i h1 (by omega)))
            clear hzz
            go_wp2
            go_roundw
            case rel => exact ⟨r, c2 + 1, G, by omega, rfl, by go_num, HGS.out, HR.out, HBO.out⟩
            case measure => simp [intOf]; omega
      · have hcc : c2 = 64 := by omega
        rw [hcc] at hGI
        have HK := hide hGI.done
        clear hGI hcc
        go_wp2
        try rw [Exit.noGoto_ret]
        go_ret
        exact ⟨fun _ => ⟨r, by omega, rfl, HK.out⟩, fun h => absurd HF.out h, hbo⟩
  · have HN := hide hf
    clear hf
    go_enter Tryz.func47, Tryz.ntmps47
    go_wp2
    go_step3
    go_wp2_with (go_at_call 66; refine (fits_any _ D _ HD.out).mono ?_; rintro e w' ⟨_, h2, rfl⟩; obtain rfl := h2 HN.out)
    try rw [Exit.noGoto_ret]
    go_ret
    exact ⟨fun h => absurd h HN.out, fun _ => rfl, Below.refl _ _⟩
end Go.Proofs.YtogdeaaphdlchaaGreatDoor
/-
  Decodable: the program's, and the document's.
-/
namespace Go.Proofs.YtogdeaaphdlchaaGreatDoor
open Go.RowKit Go.Deep Gf

theorem Tab.rdH {w : World} {B D : Nat} {v : Value} {T : List (Nat × Nat × List Nat)} {M : List (List Nat)} (h : Tab w B v T) (hH : Holds T D M) (hD : ∀ r ∈ M, r.length = D) (hl : M.length ≤ 100000) : Rd w v M := by
  have hlen : T.length = M.length := by simpa using congrArg List.length hH
  obtain ⟨ao, cap, rfl, hao⟩ := h.slice
  refine ⟨ao, cap, by rw [hlen], by omega, fun hM => ?_⟩
  obtain ⟨g, rfl⟩ := hao (by intro e; rw [e] at hlen; exact hM (List.eq_nil_of_length_eq_zero hlen.symm))
  refine ⟨g, 0, rfl, fun i hi => ?_⟩
  have hiT : i < T.length := by omega
  refine ⟨hdr T[i], by rw [Nat.zero_add]; exact h.cell_at hiT, ?_⟩
  have := h.row_at hiT
  have hat : T[i].2 = (D, M[i]) := by
    have := congrArg (fun l => l[i]?) hH
    simpa [hiT, hi] using this
  rw [hat] at this
  have e : (M[i]).take D = M[i] := by rw [← hD _ (List.getElem_mem hi), List.take_length]
  rw [e] at this
  exact this
theorem Rd.byte {w : World} {v : Value} {D : List (List Nat)} (h : Rd w v D) : ∀ l ∈ D, ∀ x ∈ l, x < 256 := by
  rcases h.cases with ⟨rfl, _⟩ | ⟨b, off, c, rfl, _, hc⟩
  · intro l hl; simp at hl
  · intro l hl
    obtain ⟨i, hi, rfl⟩ := List.mem_iff_getElem.1 hl
    obtain ⟨u, _, hu⟩ := hc i hi
    exact hu.lt
theorem mat_len (D L G : Nat) : (matL D L G).length = D + L + G := by simp [matL]; omega
theorem mat_row (D L G : Nat) : ∀ r ∈ matL D L G, r.length = D := by
  intro r hr
  simp only [matL, List.mem_append, List.mem_map, List.mem_range] at hr
  rcases hr with (⟨i, _, rfl⟩ | ⟨i, _, rfl⟩) | ⟨i, _, rfl⟩
  · simp [dataL]
  · simp [localL]
  · simp [globalL]
theorem mat_byte (D L G : Nat) (hD : D ≤ 12) (hG : G ≤ 4) : ∀ r ∈ matL D L G, ∀ x ∈ r, x < 256 := by
  intro r hr x hx
  simp only [matL, List.mem_append, List.mem_map, List.mem_range] at hr
  rcases hr with (⟨i, _, rfl⟩ | ⟨i, _, rfl⟩) | ⟨i, hi, rfl⟩
  · rcases List.mem_or_eq_of_mem_set hx with h | h
    · have := List.eq_of_mem_replicate h; omega
    · omega
  · simp only [localL, List.mem_map] at hx
    obtain ⟨j, _, rfl⟩ := hx
    split <;> decide
  · simp only [globalL, List.mem_map, List.mem_range] at hx
    obtain ⟨j, hj, rfl⟩ := hx
    exact gi_lt (xlt (by omega) (by omega))
/-- that all data are told -/
def Told (D L G lost : Nat) : Prop := Full (Rem (keepTo (matL D L G) lost (D + L + G)) 0) 0 D
theorem told_iff {D L G lost k : Nat} (hD : D ≤ 12) (hG : G ≤ 4) (h : RankIs (keepTo (matL D L G) lost (D + L + G)) k) : k = D ↔ Told D L G lost := by
  have hm := keep_mem (matL D L G) lost (D + L + G) (by rw [mat_len]; omega)
  exact rank_full (fun l hl => mat_byte D L G hD hG l (hm l hl)) (fun l hl => by rw [mat_row D L G l (hm l hl)]; omega) (by omega) h
theorem keep_fit (D L G lost : Nat) (hD : D ≤ 12) (hL : L ≤ 4) (hG : G ≤ 4) : FitG (keepTo (matL D L G) lost (D + L + G)) := by
  refine ⟨Nat.le_trans (keep_len _ _ _) (by omega), fun i hi => ?_⟩
  rw [mat_row D L G _ (keep_mem (matL D L G) lost (D + L + G) (by rw [mat_len]; omega) _ (List.getElem_mem hi))]
  omega
def DcPost (D L G lost : Nat) (w : World) (e : Ending) (w' : World) : Prop := ∃ b : Bool, e = .returned (.bool b) ∧ (b = true ↔ Told D L G lost) ∧ Below w.heap.size w w'
set_option maxRecDepth 100000 in
set_option maxHeartbeats 4000000 in
theorem decodable_right (D L G lost : Nat) (hr : rightB D L G = true) (hD : D ≤ 12) (hL : 1 ≤ L) (hL4 : L ≤ 4) (hG : G ≤ 4) (hdiv : D % L = 0) (hl : lost < 18446744073709551616) (w : World) :
    Calls Tryz.prog 33 #[.agg #[.int .i64 D, .int .i64 L, .int .i64 G], .int .u64 lost] w fun e w' => DcPost D L G lost w e w' := by
  go_enter Tryz.func33, Tryz.ntmps33
  go_wp2_with fail
  refine (matrix_right D L G hr hD hL hL4 hG hdiv _).mono ?_
  rintro e w1 ⟨v, T, rfl, hT, hH, hb1⟩
  rw [nblk_alloc] at hT hb1
  have hs1 := hb1.size
  rw [nblk_alloc] at hs1
  obtain ⟨p0, p1, p2⟩ := box_cells hb1
  have hrd := hT.rdH hH (mat_row D L G) (by rw [mat_len]; omega)
  have hbw1 : Below w.heap.size w w1 := ((Below.refl _ _).alloc (Nat.le_refl _) _).trans (hb1.mono (by omega))
  have HRD := hide hrd
  have HBW := hide hbw1
  clear hT hH hb1 p1 p2 hrd hbw1
  go_wp2
  go_region_held (fun w' => w'.cell? ⟨w.heap.size, 0, none⟩ = some (.int .i64 (D : Nat))) (first | assumption | exact p0)
    (first
      | (go_at_call 48; refine (kept_any _ (matL D L G) lost _ (show Rd w1.drew _ _ from HRD.out) hl (by rw [mat_len]; omega)).mono ?_; rintro e w2 ⟨v2, rfl, hRl⟩; rw [mat_len] at hRl
         have p02 : w2.cell? ⟨w.heap.size, 0, none⟩ = some (.int .i64 (D : Nat)) := by rw [hRl.choose_spec.2.2.2.cell (block_lt_of_cell p0)]; exact p0
         have HRL := hide hRl
         clear hRl)
      | (go_at_call 47; refine (rank_any _ _ _ (HRL.out.rd (Nat.le_trans (keep_len _ _ _) (by omega))) (HRL.out.rd (Nat.le_trans (keep_len _ _ _) (by omega))).byte).mono ?_
         rintro e w3 ⟨h1, _, hb3⟩; obtain ⟨k, hk, rfl, hrk⟩ := h1 (keep_fit D L G lost hD hL4 hG)
         have p03 : w3.cell? ⟨w.heap.size, 0, none⟩ = some (.int .i64 (D : Nat)) := by rw [hb3.cell (block_lt_of_cell p02)]; exact p02
         have HRK := hide hrk
         have HB3 := hide hb3
         clear h1 hrk hb3))
  go_wp2
  go_ret
  have hb2 := HRL.out.choose_spec.2.2.2
  have hb3 := HB3.out
  have hs2 := hb2.size
  change w1.heap.size ≤ _ at hs2
  have hb12 : Below w.heap.size w w2 := HBW.out.trans ((show Below w1.heap.size w1 w2 from ⟨hb2.os, hb2.tape, hb2.output, hb2.size, hb2.block⟩).mono (by omega))
  refine ⟨((k : Int) == (D : Int)), rfl, ?_, hb12.trans (hb3.mono (by omega))⟩
  rw [← told_iff hD hG HRK.out]
  simp
  omega
set_option maxRecDepth 100000 in
set_option maxHeartbeats 4000000 in
theorem decodable_wrong (D L G : Int) (lost : Nat) (hr : rightB D L G = false) (w : World) :
    Calls Tryz.prog 33 #[.agg #[.int .i64 D, .int .i64 L, .int .i64 G], .int .u64 lost] w fun e w' => e = .returned (.bool false) ∧ Below w.heap.size w w' := by
  go_enter Tryz.func33, Tryz.ntmps33
  go_wp2_with fail
  refine (matrix_wrong D L G hr _).mono ?_
  rintro e w1 ⟨rfl, hb1⟩
  rw [nblk_alloc] at hb1
  obtain ⟨p0, p1, p2⟩ := box_cells hb1
  have hbw1 : Below w.heap.size w w1 := ((Below.refl _ _).alloc (Nat.le_refl _) _).trans (hb1.mono (by omega))
  go_wp2
  go_quiet (fail)
  go_wp2
  go_ret
  exact ⟨rfl, ⟨hbw1.os, hbw1.tape, hbw1.output, hbw1.size, hbw1.block⟩⟩
/-! ### The document's -/
end Go.Proofs.YtogdeaaphdlchaaGreatDoor
/-
  WriteStripe: a stripe of bytes, on all drives.
-/
namespace Go.Proofs.YtogdeaaphdlchaaGreatDoor
open Go.RowKit Go.Shelf Go.Deep Gf

/-- all shards of a stripe of bytes -/
def stripeL (D L G : Nat) (dl : List Nat) : List (List Nat) := encL (matL D L G) (rowsD D dl) 44
theorem stripeL_len (D L G : Nat) (dl : List Nat) : (stripeL D L G dl).length = D + L + G := by unfold stripeL encL; rw [List.length_map, mat_len]
theorem rowsD_fit {D : Nat} {dl : List Nat} (hl : dl.length ≤ D * 44) (hD1 : 1 ≤ D) : Fit (rowsD D dl) ∧ ((rowsD D dl).getD 0 []).length = 44 := by
  have h0 : ((rowsD D dl).getD 0 []).length = 44 := by
    have e : (rowsD D dl).getD 0 [] = (rowsD D dl)[0]'(by rw [rowsD_len]; omega) := by simp [rowsD_len, show 0 < D by omega]
    rw [e, rowsD_at]; exact rowsD_row hl (by omega)
  refine ⟨fun i hi => ?_, h0⟩
  have hi' := hi
  rw [rowsD_len] at hi'
  unfold okRow
  rw [h0, rowsD_at hi, rowsD_row hl hi']
  exact ⟨rfl, by decide⟩
noncomputable def RWp : Array Oper := ((Tryz.f94.body.bind (rgf · 1))).getD #[]
def shWp : List (Op × Option Nat × List Nat) := [(Op.move (Operand.tmp 0), some 11, []),
    (Op.nilCheck (Operand.tmp 11), some 12, [0]),
    (Op.fieldAddr 91 (Operand.tmp 12) 1, some 13, [1]),
    (Op.load 23 (Operand.tmp 13), some 14, [2]),
    (Op.move (Operand.tmp 0), some 15, []),
    (Op.move (Operand.tmp 2), some 16, []),
    (Op.call { callee := Callee.value (Operand.func 108), args := #[Operand.tmp 15, Operand.tmp 16], argTypes := #[59, 166] }, some 17, [4, 5]),
    (Op.call { callee := Callee.value (Operand.func 107), args := #[Operand.tmp 14, Operand.tmp 17], argTypes := #[23, 132] }, some 18, [3, 6, 6]),
    (Op.move (Operand.tmp 18), some 10, [7]),
    (Op.extract (Operand.tmp 10) 0, some 19, [8]),
    (Op.extract (Operand.tmp 10) 1, some 20, [8]),
    (Op.assign (Operand.tmp 19), some 7, [9, 7, 0, 1, 2, 3, 4, 5, 6, 7, 8, 9]),
    (Op.assign (Operand.tmp 20), some 8, [10, 11, 0, 1, 2, 3, 4, 5, 6, 7, 8, 9, 10, 11])]
theorem RWp_shape : RegShape RWp 7 21 shWp := regShape (by kernel_rfl) (by kernel_rfl)
def MadeR (w : World) (base : Nat) (M : List (List Nat)) (u : Value) : Prop := ∃ T, Tab w base u T ∧ Holds T 44 M
theorem MadeR.mono {w w' : World} {base : Nat} {M : List (List Nat)} {u : Value} (h : MadeR w base M u) (hb : Below w.heap.size w w') : MadeR w' base M u := by
  obtain ⟨T, h1, h2⟩ := h
  exact ⟨T, h1.below hb, h2⟩
def VWp (v D L G base : Nat) (vd : Value) (dl : List Nat) (i : Nat) (u : Value) (w : World) : Prop := match i with
  | 0 | 1 | 4 => u = .pointer (some ⟨v, 0, none⟩)
  | 2 => u = .pointer (some ⟨v, 1, none⟩)
  | 3 => u = .agg #[.int .i64 D, .int .i64 L, .int .i64 G]
  | 5 => u = vd
  | 6 => Rd w u (rowsD D dl)
  | 7 | 8 => ∃ x, u = .tuple #[x, .nilIface] ∧ MadeR w base (stripeL D L G dl) x
  | 9 | 11 => MadeR w base (stripeL D L G dl) u
  | 10 | 12 => u = .nilIface
  | _ => True
theorem VWp_mono {v D L G base : Nat} {vd : Value} {dl : List Nat} {w w' : World} (hb : Below w.heap.size w w') (i : Nat) (u : Value) (h : VWp v D L G base vd dl i u w) : VWp v D L G base vd dl i u w' := by
  match i, h with
  | 0, h | 1, h | 2, h | 3, h | 4, h | 5, h | 10, h | 12, h => exact h
  | 6, h => exact Rd.mono h hb
  | 7, ⟨x, h1, h2⟩ => exact ⟨x, h1, h2.mono hb⟩
  | 8, ⟨x, h1, h2⟩ => exact ⟨x, h1, h2.mono hb⟩
  | 9, h | 11, h => exact MadeR.mono h hb
  | i + 13, _ => trivial
set_option maxRecDepth 100000 in
set_option maxHeartbeats 1000000 in
theorem writeStripe_region {ops : Array Oper} {Q : Exit → Act → World → Prop} {a : Act} {w : World} {v p D L G ps ho : Nat} (hops : RWp = ops) (hV : VolAt w v p D L G ps ho) (hr : rightB D L G = true) (hD1 : 1 ≤ D) (hD : D ≤ 12) (hL : 1 ≤ L) (hL4 : L ≤ 4) (hG : G ≤ 4) (hdiv : D % L = 0)
    (vd : Value) (dl : List Nat) (hd : Bs w vd dl) (hl : dl.length ≤ D * 44) (hsz : a.tmps.size = 42) (e0 : a.eval (.tmp 0) = .pointer (some ⟨v, 0, none⟩)) (e2 : a.eval (.tmp 2) = vd)
    (hQ : ∀ (w' : World) (vs : List Value) (x : Value), vs.length = 11 → MadeR w' w.heap.size (stripeL D L G dl) x → Below w.heap.size w w' → Q .normal (Act.putFrom a 7 (x :: .nilIface :: a.eval (.tmp 9) :: vs)) w') : (Code.region 1 ops true).wp Tryz.prog Q a w := by
  subst hops
  obtain ⟨hfit, h44⟩ := rowsD_fit hl hD1
  refine region_factsS (by kernel_rfl) RWp_shape a w (by omega) (VWp v D L G w.heap.size vd dl) (fun _ w' => Below w.heap.size w w') ((Below.refl _ w).drew) ?_ ?_
  · intro i hi
    match i, hi with
    | 0, _ => exact fun o a' w' Dn hg ho hdst hk hDi hcl hdep hB hV' => op_val (run_op_move ho ((hk.slot 0 (by omega)).trans e0) w') hdst ⟨hB, rfl, fun _ _ _ q => q⟩
    | 1, _ =>
      intro o a' w' Dn hg ho hdst hk hDi hcl hdep hB hV'
      have u0 : a'.eval (.tmp 11) = .pointer (some ⟨v, 0, none⟩) := hV' 0 (hdep 0 (by decide))
      exact op_val (v := .pointer (some ⟨v, 0, none⟩)) (by simp only [execOp, show o.op = Op.nilCheck (.tmp 11) from ho, u0]; go_simp) hdst ⟨hB, rfl, fun _ _ _ q => q⟩
    | 2, _ =>
      intro o a' w' Dn hg ho hdst hk hDi hcl hdep hB hV'
      have u0 : a'.eval (.tmp 12) = .pointer (some ⟨v, 0, none⟩) := hV' 1 (hdep 1 (by decide))
      exact op_val (v := .pointer (some ⟨v, 1, none⟩)) (by simp only [execOp, show o.op = Op.fieldAddr 91 (.tmp 12) 1 from ho, u0]; go_simp) hdst ⟨hB, rfl, fun _ _ _ q => q⟩
    | 3, _ =>
      intro o a' w' Dn hg ho hdst hk hDi hcl hdep hB hV'
      have u0 : a'.eval (.tmp 13) = .pointer (some ⟨v, 1, none⟩) := hV' 2 (hdep 2 (by decide))
      obtain ⟨_, c1, c2, c3, _⟩ := (hV.keep (hB.block _ hV.lt)).cells
      exact op_val (v := .agg #[.int .i64 D, .int .i64 L, .int .i64 G]) (by simp only [execOp, show o.op = Op.load 23 (.tmp 13) from ho, u0]; go_simp) hdst ⟨hB, rfl, fun _ _ _ q => q⟩
    | 4, _ => exact fun o a' w' Dn hg ho hdst hk hDi hcl hdep hB hV' => op_val (run_op_move ho ((hk.slot 0 (by omega)).trans e0) w') hdst ⟨hB, rfl, fun _ _ _ q => q⟩
    | 5, _ => exact fun o a' w' Dn hg ho hdst hk hDi hcl hdep hB hV' => op_val (run_op_move ho ((hk.slot 2 (by omega)).trans e2) w') hdst ⟨hB, rfl, fun _ _ _ q => q⟩
    | 6, _ =>
      intro o a' w' Dn hg ho hdst hk hDi hcl hdep hB hV'
      have u0 : a'.eval (.tmp 15) = .pointer (some ⟨v, 0, none⟩) := hV' 4 (hdep 4 (by decide))
      have u1 : a'.eval (.tmp 16) = vd := hV' 5 (hdep 5 (by decide))
      refine op_call (f := 108) (args := #[.pointer (some ⟨v, 0, none⟩), vd]) (w1 := w') (by simp only [execOp, show o.op = Op.call { callee := Callee.value (Operand.func 108), args := #[Operand.tmp 15, Operand.tmp 16], argTypes := #[59, 166] } from ho]; go_simp; exact ⟨by simpa [Act.eval] using u0, by simpa [Act.eval] using u1⟩) hdst (cut_ok (hV.keep (hB.block _ hV.lt)) hD vd dl (hd.mono hB) hl) ?_
      rintro e w'' ⟨u, rfl, hR, hb⟩
      exact ⟨u, rfl, hB.trans (hb.mono hB.size), hR, fun j u _ q => VWp_mono hb j u q⟩
    | 7, _ =>
      intro o a' w' Dn hg ho hdst hk hDi hcl hdep hB hV'
      have u0 : a'.eval (.tmp 14) = .agg #[.int .i64 D, .int .i64 L, .int .i64 G] := hV' 3 (hdep 3 (by decide))
      have u1 : Rd w' (a'.eval (.tmp 17)) (rowsD D dl) := hV' 6 (hdep 6 (by decide))
      have hen := encode_fit D L G hr hD1 hD hL hL4 hG hdiv (a'.eval (.tmp 17)) (rowsD D dl) w' u1 (rowsD_len D dl) hfit
      rw [h44] at hen
      refine op_call (f := 107) (args := #[.agg #[.int .i64 D, .int .i64 L, .int .i64 G], a'.eval (.tmp 17)]) (w1 := w') (by simp only [execOp, show o.op = Op.call { callee := Callee.value (Operand.func 107), args := #[Operand.tmp 14, Operand.tmp 17], argTypes := #[23, 132] } from ho]; go_simp; simpa [Act.eval] using u0) hdst hen ?_
      rintro e w'' ⟨x, T, rfl, hT, hH, hb⟩
      exact ⟨_, rfl, hB.trans (hb.mono hB.size), ⟨x, rfl, T, hT.weaken hB.size, hH⟩, fun j u _ q => VWp_mono hb j u q⟩
    | 8, _ =>
      intro o a' w' Dn hg ho hdst hk hDi hcl hdep hB hV'
      obtain ⟨x, u0, hx⟩ : VWp v D L G w.heap.size vd dl 7 (a'.eval (.tmp 18)) w' := hV' 7 (hdep 7 (by decide))
      exact op_val (run_op_move ho u0 w') hdst ⟨hB, ⟨x, rfl, hx⟩, fun _ _ _ q => q⟩
    | 9, _ =>
      intro o a' w' Dn hg ho hdst hk hDi hcl hdep hB hV'
      obtain ⟨x, u0, hx⟩ : VWp v D L G w.heap.size vd dl 8 (a'.eval (.tmp 10)) w' := hV' 8 (hdep 8 (by decide))
      exact op_val (v := x) (by simp only [execOp, show o.op = Op.extract (.tmp 10) 0 from ho, u0]; go_simp) hdst ⟨hB, hx, fun _ _ _ q => q⟩
    | 10, _ =>
      intro o a' w' Dn hg ho hdst hk hDi hcl hdep hB hV'
      obtain ⟨x, u0, hx⟩ : VWp v D L G w.heap.size vd dl 8 (a'.eval (.tmp 10)) w' := hV' 8 (hdep 8 (by decide))
      exact op_val (v := .nilIface) (by simp only [execOp, show o.op = Op.extract (.tmp 10) 1 from ho, u0]; go_simp) hdst ⟨hB, rfl, fun _ _ _ q => q⟩
    | 11, _ =>
      intro o a' w' Dn hg ho hdst hk hDi hcl hdep hB hV'
      have u0 : MadeR w' w.heap.size (stripeL D L G dl) (a'.eval (.tmp 19)) := hV' 9 (hdep 9 (by decide))
      exact op_val (v := a'.eval (.tmp 19)) (by simp [execOp, show o.op = Op.assign (.tmp 19) from ho]) hdst ⟨hB, u0, fun _ _ _ q => q⟩
    | 12, _ =>
      intro o a' w' Dn hg ho hdst hk hDi hcl hdep hB hV'
      have u0 : a'.eval (.tmp 20) = .nilIface := hV' 10 (hdep 10 (by decide))
      exact op_val (v := .nilIface) (by simp [execOp, show o.op = Op.assign (.tmp 20) from ho, u0]) hdst ⟨hB, rfl, fun _ _ _ q => q⟩
    | n + 13, hn => exact absurd hn (by show ¬ n + 13 < 13; omega)
  · rintro a' w' hk' hsame ⟨Dn, hD, hB⟩ hV'
    have e : a' = Act.putFrom a 7 (a'.eval (.tmp 7) :: .nilIface :: a.eval (.tmp 9) :: (List.range 11).map fun i => a'.eval (.tmp (10 + i))) := hk'.out _ (by simp) (by omega) (fun i hi => by
      simp at hi
      match i, hi with
      | 0, _ => rfl
      | 1, _ => exact hV' 12 (by decide)
      | 2, _ => exact hsame 9 (by decide)
      | i + 3, hi =>
        rw [List.getD_cons_succ, List.getD_cons_succ, List.getD_cons_succ, List.getD_eq_getElem?_getD, List.getElem?_map, List.getElem?_range (by omega), show 7 + (i + 3) = 10 + i by omega]; rfl)
    rw [e]
    exact hQ w' _ _ (by rw [List.length_map, List.length_range]) (hV' 11 (by decide)) hB
theorem stripeL_row {D L G : Nat} (hD : D ≤ 12) (hG : G ≤ 4) (dl : List Nat) (i : Nat) (hi : i < (stripeL D L G dl).length) : ((stripeL D L G dl)[i]).length = 44 ∧ ∀ x ∈ (stripeL D L G dl)[i], x < 256 := by
  have hi' : i < (matL D L G).length := by rw [mat_len]; rw [stripeL_len] at hi; exact hi
  have e : (stripeL D L G dl)[i] = combTo (matL D L G)[i] (rowsD D dl) 44 (rowsD D dl).length := by simp [stripeL, encL]
  rw [e]
  exact ⟨combTo_len _ _ _ _, combTo_lt _ _ (mat_byte D L G hD hG _ (List.getElem_mem hi')) _ _⟩
/-- rows that a call has made, as WriteShards reads them -/
theorem MadeR.rows {w : World} {base : Nat} {M : List (List Nat)} {u : Value} (h : MadeR w base M u) (hM : M ≠ []) (hrow : ∀ i (hi : i < M.length), M[i].length = 44 ∧ ∀ x ∈ M[i], x < 256) : ∃ g c, u = .slice (some ⟨g, 0, none⟩) M.length c ∧ Rws w base g M := by
  obtain ⟨T, hT, hH⟩ := h
  have hlen : T.length = M.length := by simpa using congrArg List.length hH
  rcases hT.shape with ⟨_, h0⟩ | ⟨g, cap, e1, e2, e3, e4, e5, e6, _, _⟩
  · exact absurd (List.eq_nil_of_length_eq_zero (by rw [← hlen, h0]; rfl)) hM
  · refine ⟨g, cap, by rw [e1, hlen], e2, e5, fun i hi => ?_⟩
    have hiT : i < T.length := by omega
    have hat := hH.at hiT hi
    obtain ⟨q1, q2, q3, q4, q5⟩ := hT.row T[i] (List.getElem_mem hiT)
    have hc := e6 i hiT
    unfold hdr at hc
    rw [hat] at hc q2
    obtain ⟨r1, r2⟩ := hrow i hi
    refine ⟨T[i].1, 0, M[i].length, hc, q1, q2.lt, fun j u hu => ?_, r1, r2⟩
    have hh := q2.heapB
    have hu' : (bts M[i]).toArray[j]? = some u := by simpa using hu
    simp [World.cell?, hh, hu']
theorem list11 {vs : List Value} (h : vs.length = 11) : ∃ x0 x1 x2 x3 x4 x5 x6 x7 x8 x9 xa, vs = [x0, x1, x2, x3, x4, x5, x6, x7, x8, x9, xa] := by
  match vs, h with
  | [x0, x1, x2, x3, x4, x5, x6, x7, x8, x9, xa], _ => exact ⟨x0, x1, x2, x3, x4, x5, x6, x7, x8, x9, xa, rfl⟩
set_option maxRecDepth 100000 in
set_option maxHeartbeats 2000000 in
theorem writeStripe_ok {w : World} {v p D L G ps ho : Nat} {A : Arr} {F : Foot} (hV : Vol w v p D L G ps ho A F) (hF : Free F p A.n v) (hf : A.fit) (hn : A.n = D + L + G) (hr : rightB D L G = true) (hD1 : 1 ≤ D) (hD : D ≤ 12) (hL : 1 ≤ L) (hL4 : L ≤ 4) (hG : G ≤ 4) (hdiv : D % L = 0) (h16 : D + L + G ≤ 16)
    (b : Nat) (hb : b < A.nb) (hw : A.wait < 0) (hl : ∀ i, A.lost i = false) (vd : Value) (dl : List Nat) (hd : Bs w vd dl) (hdl : dl.length ≤ D * 44) :
    Calls Tryz.prog 94 #[.pointer (some ⟨v, 0, none⟩), .int .i64 b, vd] w fun e w' => e = .returned .nilIface ∧ ArrAt w' p (A.putAt (List.range A.n) b (fun i => (Rec.shard ((stripeL D L G dl).getD i [])).blk)) F ∧ Outside (F.has p A.n) w w' := by
  have HD := hide hd
  have hls := stripeL_len D L G dl
  have hrows := stripeL_row (L := L) hD hG dl
  obtain ⟨M, hM⟩ : ∃ M, stripeL D L G dl = M := ⟨_, rfl⟩
  rw [hM] at hls hrows
  have HM := hide (And.intro hM hls)
  clear hM hls
  go_enter Tryz.func94, Tryz.ntmps94
  go_wp2_with fail
  refine writeStripe_region (by kernel_rfl) hV.vol hr hD1 hD hL hL4 hG hdiv vd dl HD.out hdl rfl rfl rfl ?_
  intro w1 vs x hvs hMd hb1
  rw [HM.out.1] at hMd
  have hls := HM.out.2
  obtain ⟨x0, x1, x2, x3, x4, x5, x6, x7, x8, x9, xa, rfl⟩ := list11 hvs
  obtain ⟨g, c, rfl, hRw⟩ := hMd.rows (fun e => by rw [e] at hls; simp at hls; omega) hrows
  have hV1 := hV.below hb1 (Nat.le_refl _)
  have H1 := hide (And.intro hV1 (And.intro hRw hb1))
  clear hMd hRw hV1 hb1 hvs hrows hls
  rename_i hK
  refine hK _ _ ?_
  clear hK
  simp only [Act.putFrom, Act.put, List.setIfInBounds_toArray, List.set_cons_succ, List.set_cons_zero]
  go_wp2_with fail
  refine (volAll_any H1.out.1.vol hD hL4 hG h16).mono ?_
  rintro e w2 ⟨rfl, hb2⟩
  obtain ⟨S, hS⟩ : ∃ S, 2 ^ (D + L + G) - 1 = S := ⟨_, rfl⟩
  rw [hS]
  have hSm : mems S = List.range A.n := by rw [← hS, hn]; exact mems_all h16
  have hSl : S < 65536 := by
    have : 2 ^ (D + L + G) ≤ 2 ^ 16 := Nat.pow_le_pow_right (by decide) h16
    omega
  have hV2 := H1.out.1.below hb2 (Nat.le_refl _)
  have hR2 : Rws w2 w.heap.size g M := H1.out.2.1.keep hb2.size (fun k _ hk => hb2.block k hk)
  have hws := writeShards_ok hV2 hF hf b S hb hSl (fun i hi => by rw [hSm] at hi; simpa using hi) hw (fun i _ => hl i) (m := M.length) (c := c) hR2 (fun i hi => by have := HM.out.2; rw [hSm] at hi; simp at hi; omega) (Nat.le_refl _) (fun k hk => hV.arr.has_lt hk)
  rw [hSm] at hws
  have H2 := hide (And.intro hws (And.intro hb2 hS))
  clear hV2 hR2 hws hb2 hSm hS
  go_wp2_with fail
  refine H2.out.1.mono ?_
  rintro e w3 ⟨rfl, hA3, hO3⟩
  have hO : Outside (F.has p A.n) w w3 := (Outside.of_all (H1.out.2.2.trans (H2.out.2.1.mono H1.out.2.2.size)) _).trans hO3
  have H3 := hide (And.intro hA3 hO)
  clear hA3 hO3 hO
  go_wp2
  go_ret
  have hA := H3.out.1
  rw [← HM.out.1] at hA
  exact ⟨rfl, hA, H3.out.2⟩
end Go.Proofs.YtogdeaaphdlchaaGreatDoor
