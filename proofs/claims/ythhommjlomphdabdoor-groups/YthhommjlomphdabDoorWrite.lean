/-
  The program's write: a program that adds the lost shards up.
-/
import Derived.Test.YthhommjlomphdabDoorPart15
import Derived.Test.YthhommjlomphdabDoorFewest
namespace Go.Proofs.YthhommjlomphdabDoor
open Go.RowKit Go.Shelf Go.Deep Gf

attribute [local go_sem] Oper.semAt_some
/-- what lies in the blocks of write -/
structure WI (w : World) (C : Ck) (regs : Int) (L : List St) (X : World) : Prop where
  ck : CkAt X w.heap.size C
  res : X.heap[w.heap.size + 1]? = some (.cells #[.int .i64 0, .slice none 0 0] 27 (0, 0))
  pb : PB X (w.heap.size + 3) (w.heap.size + 1 + 1) regs L
  below : Below w.heap.size w X
theorem WI.own {w X Y : World} {C : Ck} {regs : Int} {L : List St} {B : Nat} {row : Option Nat} (h : WI w C regs L X) (hB : w.heap.size + 3 ≤ B) (hg : X.grownBy Y row) (hr : ∀ r, row = some r → B ≤ r ∧ ∃ o : Obj, X.heap[r]? = some o ∧ o.isCells = false) : WI w C regs L Y := by
  have hn := h.pb.2.1
  have hk : ∀ k, k < w.heap.size + 3 → Y.heap[k]? = X.heap[k]? := fun k hk => hg.block k (by omega) (fun e => by have := (hr k e.symm).1; omega)
  exact ⟨h.ck.keep (hk _ (by omega)), (hk _ (by omega)).trans h.res, h.pb.own hB hg hr, h.below.grown hg h.below.size (fun k e => by have := (hr k e).1; omega)⟩
theorem WI.next {w X w2 : World} {C : Ck} {g' cap' : Nat} {regs : Int} {L : List St} {s : St} {v : Value} {ob : Obj} (h : WI w C regs L X) (hobj : X.heap[w.heap.size + 1 + 1]? = some (.cells #[.int .i64 regs, v] 27 (0, 0))) (hown : X.ownsRow (w.heap.size + 3) 50 4 v L.length (stcs .u8 L))
    (hg : (X.alloc ob).grownBy w2 v.ownBlock) (hg' : w.heap.size + 3 ≤ g') (hown' : w2.ownsRow (w.heap.size + 3) 50 4 (.slice (some ⟨g', 0, none⟩) (L.length + 1) cap') (L.length + 1) (stcs .u8 (L ++ [s]))) :
    w2.cell? ⟨w.heap.size + 1 + 1, 1, none⟩ = some v ∧ w2.frozen? ⟨w.heap.size + 1 + 1, 1, none⟩ = false ∧ (WI w C regs (L ++ [s]) (w2.setCell ⟨w.heap.size + 1 + 1, 1, none⟩ (.slice (some ⟨g', 0, none⟩) (L.length + 1) cap')) ∧ KeepsOthers X (w2.setCell ⟨w.heap.size + 1 + 1, 1, none⟩ (.slice (some ⟨g', 0, none⟩) (L.length + 1) cap'))) := by
  obtain ⟨p1, p2, p3, p4, p5, p6, p7, p8⟩ := PB.next (n0 := w.heap.size + 3) (Bg := w.heap.size + 1 + 1) (by omega) h.pb.2.1 hobj hown hg hg' hown'
  refine ⟨p2, p3, ⟨h.ck.keep (p4 _ (by omega) (by omega)), (p4 _ (by omega) (by omega)).trans h.res, p1, h.below.trans ⟨p6, p7, p8, ?_, fun k hk => p4 k (by omega) (by omega)⟩⟩, p5⟩
  exact p5.size
theorem WI.told {w X : World} {C : Ck} {regs : Int} {L : List St} (h : WI w C regs L X) : X.cell? ⟨w.heap.size, 128, none⟩ = some (.int .i64 (C.told : Int)) := h.ck.toldC
theorem step_new (X : World) (s : St) : ∀ j v, (stc .u8 s)[j]? = some v → (X.alloc (.cells #[.int .u8 (s.k : Int), .int .i64 s.a, .int .i64 s.b, .int .u8 (s.c : Int)] 50)).cell? ((⟨X.heap.size, 0, none⟩ : Addr).add j) = some v :=
  four_new X X.heap.size rfl _ _ _ _ _
/-- what has been written for the shards that have come; and within one of them -/
def wrS (C : Ck) (pre : List Sh) : List St := wrTo C (pre.map (·.1))
def wrM (C : Ck) (pre : List Sh) (i k : Nat) : List St := wrS C pre ++ [⟨0, 0, (i : Int), 0⟩] ++ wrAdd C i k
theorem wr_lens (C : Ck) (hf : CkFit C) (pre : List Sh) (s : Nat) (h : pre.length < (mems s).length) (i k : Nat) (hk : k ≤ C.told) : (wrS C pre).length ≤ 200 ∧ (wrM C pre i k).length ≤ 300 := by
  have h1 := wrTo_le C (pre.map (·.1))
  have h2 := wrAdd_le C i k
  have h3 : (mems s).length ≤ 16 := by rw [← shs_len s]; exact shs_le s
  have h4 := hf.le
  have h5 := hf.most
  have h6 : (pre.map (·.1)).length * (C.told + 1) ≤ 16 * 9 := Nat.mul_le_mul (by rw [List.length_map]; omega) (by omega)
  have h7 : (wrS C pre).length ≤ 144 := Nat.le_trans h1 h6
  refine ⟨by omega, ?_⟩
  unfold wrM
  simp only [List.length_append, List.length_singleton]
  omega
theorem wrM_zero (C : Ck) (pre : List Sh) (i : Nat) : wrM C pre i 0 = wrS C pre ++ [⟨0, 0, (i : Int), 0⟩] := by unfold wrM; rw [wrAdd_zero, List.append_nil]
theorem wrM_in {C : Ck} (pre : List Sh) {i k : Nat} (h : C.m k i ≠ 0) : wrM C pre i (k + 1) = wrM C pre i k ++ [⟨1, 1 + (k : Int), 0, C.m k i⟩] := by unfold wrM; rw [wrAdd_in C i k h, ← List.append_assoc]
theorem wrM_out {C : Ck} (pre : List Sh) {i k : Nat} (h : C.m k i = 0) : wrM C pre i (k + 1) = wrM C pre i k := by unfold wrM; rw [wrAdd_out C i k h]
theorem wrS_yes {C : Ck} {pre : List Sh} {x : Sh} (h : readsB C x.1 = true) : wrM C pre x.1 C.told = wrS C (pre ++ [x]) := by
  unfold wrM wrS
  rw [List.map_append, List.map_singleton, wrTo_snoc, wrOne_yes h]; simp
theorem wrS_no {C : Ck} {pre : List Sh} {x : Sh} (h : readsB C x.1 = false) : wrS C pre = wrS C (pre ++ [x]) := by
  unfold wrS
  rw [List.map_append, List.map_singleton, wrTo_snoc, wrOne_no h]; simp
theorem step_new' (X : World) (n : Nat) (hn : n = X.heap.size) (s : St) : ∀ j v, (stc .u8 s)[j]? = some v → (X.alloc (.cells #[.int .u8 (s.k : Int), .int .i64 s.a, .int .i64 s.b, .int .u8 (s.c : Int)] 50)).cell? ((⟨n, 0, none⟩ : Addr).add j) = some v :=
  four_new X n hn _ _ _ _ _
theorem wrS_all {C : Ck} {pre : List Sh} {s : Nat} (h : pre.map (·.1) = mems s) : wrS C pre = wrTo C (mems s) := by unfold wrS; rw [h]
/-- behind them: what is put out -/
def wrP (C : Ck) (kept : Nat) (pre : List Sh) : List St := wrTo C (mems kept) ++ wrPut (pre.map (·.1))
theorem wrP_nil (C : Ck) (kept : Nat) : wrP C kept [] = wrTo C (mems kept) := by unfold wrP wrPut; simp
theorem wrP_snoc (C : Ck) (kept : Nat) (pre : List Sh) (x : Sh) : wrP C kept (pre ++ [x]) = wrP C kept pre ++ [⟨2, (pre.length : Int) + 1, (x.1 : Int), 0⟩] := by
  unfold wrP
  rw [List.map_append, List.map_singleton, wrPut_snoc, List.length_map, ← List.append_assoc]
theorem wrP_all {C : Ck} {gone kept : Nat} {pre : List Sh} (h : pre.map (·.1) = mems gone) : wrP C kept pre = wrAll C gone kept := by unfold wrP wrAll; rw [h]
theorem wrP_le (C : Ck) (hf : CkFit C) (kept : Nat) (pre : List Sh) (s : Nat) (h : pre.length < (mems s).length) : (wrP C kept pre).length ≤ 300 := by
  have h1 := wrTo_le C (mems kept)
  have h3 : (mems s).length ≤ 16 := by rw [← shs_len s]; exact shs_le s
  have h33 : (mems kept).length ≤ 16 := by rw [← shs_len kept]; exact shs_le kept
  have h4 := hf.le
  have h5 := hf.most
  have h6 : (mems kept).length * (C.told + 1) ≤ 16 * 9 := Nat.mul_le_mul h33 (by omega)
  have h7 : (wrTo C (mems kept)).length ≤ 144 := Nat.le_trans h1 h6
  unfold wrP wrPut
  simp only [List.length_append, List.length_map, List.length_range]
  omega
theorem own_nb {X : World} {n0 k R : Nat} {v u : Value} {xs : List Value} (h : X.ownsRow n0 50 4 v k xs) (hb : Boxed X R 3 u) : v.ownBlock ≠ some R := by
  rcases h.2 with ⟨rfl, _⟩ | ⟨g, cap, cur, rfl, _, hgb, _⟩
  · intro e; cases e
  · intro e
    obtain rfl : g = R := by simpa [Value.ownBlock] using e
    rw [show X.heap[g]? = _ from hb] at hgb
    have := Option.some.inj hgb
    cases this
theorem WI.set {w X : World} {C : Ck} {regs : Int} {L : List St} {R : Nat} {u u' : Value} (h : WI w C regs L X) (hR : w.heap.size + 3 ≤ R) (hb : Boxed X R 3 u) : WI w C regs L (X.setCell ⟨R, 0, none⟩ u') := by
  have hk : ∀ k, k ≠ R → (X.setCell ⟨R, 0, none⟩ u').heap[k]? = X.heap[k]? := fun k hk => Below.heap_setCell _ _ _ _ hk
  obtain ⟨q1, q2, v, q3, q4⟩ := h.pb
  exact ⟨h.ck.keep (hk _ (by omega)), (hk _ (by omega)).trans h.res, ⟨q1, by simpa [World.setCell] using q2, v, (hk _ (by omega)).trans q3, q4.kept (grown_set' X R 0 u') (.inr (own_nb q4 hb))⟩, h.below.setCell (p := ⟨R, 0, none⟩) (by show w.heap.size ≤ R; omega) _⟩
/-- what holds between two shards that are put out -/
structure WP (w : World) (C : Ck) (regs : Int) (kept R D : Nat) (pre : List Sh) (Y : World) : Prop where
  wi : WI w C regs (wrP C kept pre) Y
  box : Boxed Y R 3 (.int .i64 (pre.length : Int))
  mark : Y.heap[D]? = some (.deferred (some []))
theorem WP.own {w X Y : World} {C : Ck} {regs : Int} {kept R D B : Nat} {pre : List Sh} {row : Option Nat} (h : WP w C regs kept R D pre X) (hB : w.heap.size + 3 ≤ B) (hR : R < B) (hD : D < B) (hg : X.grownBy Y row) (hr : ∀ r, row = some r → B ≤ r ∧ ∃ o : Obj, X.heap[r]? = some o ∧ o.isCells = false) : WP w C regs kept R D pre Y := by
  have hk : ∀ k, k < B → k < X.heap.size → Y.heap[k]? = X.heap[k]? := fun k hk hx => hg.block k hx (fun e => by have := (hr k e.symm).1; omega)
  exact ⟨h.wi.own hB hg hr, (hk R hR h.box.lt).trans h.box, (hk D hD (Array.getElem?_eq_some_iff.1 h.mark).1).trans h.mark⟩
theorem WP.next {w X w2 : World} {C : Ck} {g' cap' : Nat} {regs : Int} {kept R D : Nat} {pre : List Sh} {x : Sh} {v : Value} {ob : Obj} (h : WP w C regs kept R D pre X) (hR : w.heap.size + 3 ≤ R)
    (hobj : (X.setCell ⟨R, 0, none⟩ (.int .i64 ((pre.length : Int) + 1))).heap[w.heap.size + 1 + 1]? = some (.cells #[.int .i64 regs, v] 27 (0, 0))) (hown : (X.setCell ⟨R, 0, none⟩ (.int .i64 ((pre.length : Int) + 1))).ownsRow (w.heap.size + 3) 50 4 v (wrP C kept pre).length (stcs .u8 (wrP C kept pre)))
    (hg : ((X.setCell ⟨R, 0, none⟩ (.int .i64 ((pre.length : Int) + 1))).alloc ob).grownBy w2 v.ownBlock) (hg' : w.heap.size + 3 ≤ g') (hown' : w2.ownsRow (w.heap.size + 3) 50 4 (.slice (some ⟨g', 0, none⟩) ((wrP C kept pre).length + 1) cap') ((wrP C kept pre).length + 1) (stcs .u8 (wrP C kept pre ++ [⟨2, (pre.length : Int) + 1, (x.1 : Int), 0⟩]))) :
    w2.cell? ⟨w.heap.size + 1 + 1, 1, none⟩ = some v ∧ w2.frozen? ⟨w.heap.size + 1 + 1, 1, none⟩ = false ∧ (WP w C regs kept R D (pre ++ [x]) (w2.setCell ⟨w.heap.size + 1 + 1, 1, none⟩ (.slice (some ⟨g', 0, none⟩) ((wrP C kept pre).length + 1) cap')) ∧ KeepsOthers X (w2.setCell ⟨w.heap.size + 1 + 1, 1, none⟩ (.slice (some ⟨g', 0, none⟩) ((wrP C kept pre).length + 1) cap'))) := by
  have hs : WI w C regs (wrP C kept pre) (X.setCell ⟨R, 0, none⟩ (.int .i64 ((pre.length : Int) + 1))) := h.wi.set hR h.box
  have hb : Boxed (X.setCell ⟨R, 0, none⟩ (.int .i64 ((pre.length : Int) + 1))) R 3 (.int .i64 ((pre.length : Int) + 1)) := h.box.set _
  obtain ⟨p1, p2, p3, p4⟩ := hs.next hobj hown hg hg' hown'
  have hko := (KeepsOthers.setCell X ⟨R, 0, none⟩ (.int .i64 ((pre.length : Int) + 1))).trans p4
  refine ⟨p1, p2, ⟨by rw [wrP_snoc]; exact p3, ?_, hko.same D _ h.mark rfl⟩, hko⟩
  have b2 : Boxed w2 R 3 (.int .i64 ((pre.length : Int) + 1)) := (hb.alloc ob).kept hg (fun e => own_nb hown hb e.symm)
  have b3 := (Below.heap_setCell w2 ⟨w.heap.size + 1 + 1, 1, none⟩ (.slice (some ⟨g', 0, none⟩) ((wrP C kept pre).length + 1) cap') R (by show R ≠ w.heap.size + 1 + 1; omega)).trans b2
  rw [List.length_append]
  exact b3
theorem set2a {Y : World} {b : Nat} {x y x' : Value} {t : TypeId} (h : Y.heap[b]? = some (.cells #[x, y] t (0, 0))) : (Y.setCell ⟨b, 0, none⟩ x').heap[b]? = some (.cells #[x', y] t (0, 0)) := by
  obtain ⟨hlt, hk⟩ := Array.getElem?_eq_some_iff.1 h
  show (Y.heap.modify b _)[b]? = _
  rw [Array.getElem?_eq_getElem (by rw [Array.size_modify]; exact hlt), Array.getElem_modify_self, hk]
  rfl
theorem set2b {Y : World} {b : Nat} {x y y' : Value} {t : TypeId} (h : Y.heap[b]? = some (.cells #[x, y] t (0, 0))) : (Y.setCell ⟨b, 1, none⟩ y').heap[b]? = some (.cells #[x, y'] t (0, 0)) := by
  obtain ⟨hlt, hk⟩ := Array.getElem?_eq_some_iff.1 h
  show (Y.heap.modify b _)[b]? = _
  rw [Array.getElem?_eq_getElem (by rw [Array.size_modify]; exact hlt), Array.getElem_modify_self, hk]
  rfl
theorem owns_mono {w : World} {base base' : Nat} {e : TypeId} {size : Nat} {v : Value} {n : Nat} {xs : List Value} (h : w.ownsRow base e size v n xs) (hb : base' ≤ base) : w.ownsRow base' e size v n xs := by
  refine ⟨h.1, ?_⟩
  rcases h.2 with h2 | ⟨g, cap, cur, h1, h3, h4⟩
  · exact .inl h2
  · exact .inr ⟨g, cap, cur, h1, Nat.le_trans hb h3, h4⟩
theorem prog_info : (Tryd.prog.info? 27).map (·.size) = some 2 := by kernel_rfl
set_option maxRecDepth 100000 in
set_option maxHeartbeats 4000000 in
theorem write_any (C : Ck) (gone kept : Nat) (w : World) (hf : CkFit C) (hg : gone < 65536) (hk : kept < 65536) (hT : tabLaid w) (h2 : 2 ≤ w.heap.size) :
    Calls Tryd.prog 28 #[.agg (ckA C), .int .u64 gone, .int .u64 kept] w fun e w' => ∃ v, e = .returned (.agg #[.int .i64 (1 + ((mems gone).length : Int)), v]) ∧ Below w.heap.size w w' ∧ w'.ownsRow w.heap.size 50 4 v (wrAll C gone kept).length (stcs .u8 (wrAll C gone kept)) := by
  have hsz := ckA_size C
  have hl16 : (mems gone).length ≤ 16 := by rw [← shs_len gone]; exact shs_le gone
  obtain ⟨n, HN⟩ : ∃ n : Nat, Hid (9 ≤ n) := ⟨9, Nat.le_refl _⟩
  refine (callsIn_wide (n := n)).1 ?_
  refine callsIn_of_wp_marks Tryd.func28 rfl trivial ?_ rfl
  simp only [Tryd.ntmps28, List.size_toArray, List.length_cons, List.length_nil, Nat.reduceAdd, Nat.reduceSub, Array.replicate_succ, Array.replicate_zero, List.push_toArray, List.append_toArray, List.nil_append, List.cons_append]
  have hz3 : (((w.alloc (.cells (ckA C) 68)).alloc (.cells #[.int .i64 0, .slice none 0 0] 27)).alloc (.cells #[.int .i64 (1 + ((mems gone).length : Int)), .slice none 0 0] 27)).heap.size = w.heap.size + 3 := by simp
  have hi3 : WI w C (1 + ((mems gone).length : Int)) [] (((w.alloc (.cells (ckA C) 68)).alloc (.cells #[.int .i64 0, .slice none 0 0] 27)).alloc (.cells #[.int .i64 (1 + ((mems gone).length : Int)), .slice none 0 0] 27)) := by
    obtain ⟨a1, a2, a3, a4⟩ := alloc3 w (.cells (ckA C) 68) (.cells #[.int .i64 0, .slice none 0 0] 27) (.cells #[.int .i64 (1 + ((mems gone).length : Int)), .slice none 0 0] 27)
    refine ⟨(CkAt.new w C).keep (by rw [Below.heap_alloc _ _ _ (by simp; omega), Below.heap_alloc _ _ _ (by simp)]), a3, ⟨by omega, by omega, _, a4, World.ownsRow_nil _ _ _ _⟩, (((Below.refl _ w).alloc (Nat.le_refl _) _).alloc (by simp) _).alloc (by simp; omega) _⟩
  have HZ := hide hz3
  have HI := hide hi3
  clear hz3 hi3
  gi_wp2
  refine at_wide (size_any gone hg _) ?_
  rintro e w' ⟨rfl, hw'⟩
  gi_wp2
  obtain ⟨w3, hw3⟩ : ∃ w3, (((w.alloc (.cells (ckA C) 68)).alloc (.cells #[.int .i64 0, .slice none 0 0] 27)).alloc (.cells #[.int .i64 (1 + ((mems gone).length : Int)), .slice none 0 0] 27)) = w3 := ⟨_, rfl⟩
  rw [hw3] at HZ HI
  rw [hw3]
  clear hw3 hw' w'
  refine at_wide (members_any kept w3) ?_
  rintro e w' ⟨rfl, rfl⟩
  have hz4 : (w3.alloc (.cells #[.int .u64 (kept : Int)] 63)).heap.size = w3.heap.size + 1 := by simp
  have hc4 : (w3.alloc (.cells #[.int .u64 (kept : Int)] 63)).cell? ⟨w3.heap.size, 0, none⟩ = some (.int .u64 (kept : Int)) := (Bx.new w3 63 (.int .u64 (kept : Int))).cell
  have hb4 : Below w3.heap.size w3 (w3.alloc (.cells #[.int .u64 (kept : Int)] 63)) := (Below.refl _ _).alloc (Nat.le_refl _) _
  have hi4 : WI w C (1 + ((mems gone).length : Int)) [] (w3.alloc (.cells #[.int .u64 (kept : Int)] 63)) := HI.out.own (B := w3.heap.size) (row := none) (by have := HZ.out; omega) (World.grownBy_alloc _ _ _) (fun r e => by cases e)
  obtain ⟨w4, hw4⟩ : ∃ w4, w3.alloc (.cells #[.int .u64 (kept : Int)] 63) = w4 := ⟨_, rfl⟩
  have HZ4 := hide hz4
  have HC4 := hide hc4
  have HI4 := hide hi4
  clear hz4 hc4 hb4 hi4 HI
  gi_wp2
  rw [hw4] at HZ4 HC4 HI4
  clear hw4
  refine wpIn_rangeFunc_ownG rfl (by have := HN.out; omega) (gf := 52) (lb := #[.pointer (some ⟨w3.heap.size, 0, none⟩)]) rfl trivial (enters_of Tryd.func52 (by kernel_rfl) rfl)
    (members_stops (n - 1) w3.heap.size kept hk w4 (by have := HZ4.out; omega) HC4.out (by have := HZ4.out; have := HZ.out; omega) (hT.mono (by omega) HI4.out.below)) (fun h k => kpT_t h k) (kpT_b (by have := HZ4.out; have := HZ.out; omega)) (Below.refl _ _) (fun _ => rfl)
    (fun pre X => WI w C (1 + ((mems gone).length : Int)) (wrS C pre) X ∧ w4.heap.size ≤ X.heap.size) (fun _ _ _ => False)
    (fun pre X Y row hh hgg hr => ⟨hh.1.own (by have := HZ4.out; have := HZ.out; omega) hgg hr, Nat.le_trans hh.2 hgg.size⟩) (fun c pre X Y row hh _ _ => hh.elim) ⟨HI4.out, Nat.le_refl _⟩
    (fun x => { tmps := #[.agg (ckA C), .int .u64 (gone : Int), .int .u64 (kept : Int), .pointer (some ⟨w.heap.size, 0, none⟩), undef, undef, .pointer (some ⟨w.heap.size + 1, 0, none⟩), .pointer (some ⟨w.heap.size + 1 + 1, 0, none⟩), .int .i64 (x.1 : Int), undef, undef, undef, undef, .int .u64 (gone : Int), .int .i64 ((mems gone).length : Int), .int .i64 (1 + ((mems gone).length : Int)), .agg #[.int .i64 (1 + ((mems gone).length : Int)), .slice none 0 0], .int .u64 (kept : Int), .func (.func 52) #[] #[.pointer (some ⟨w3.heap.size, 0, none⟩)], .int .i64 (x.1 : Int), undef, undef, undef, undef, undef, undef, undef, undef, undef, undef, undef, undef, undef, undef, undef, undef, undef, undef, undef, undef, undef, undef, undef, undef, undef, undef, undef, undef, undef, undef, undef, undef, undef, undef, undef, undef, undef, undef, undef, undef, undef, undef, undef, undef, undef, undef, undef], defers := [] }) ?assign ?body ?done ?stop
  case assign =>
    intro l2 x X Kk hK
    unfold encSh
    gi_wp2
    exact hK
  case body =>
    rintro l2 pre x X ⟨hi, hX⟩ hlen
    have hrd := reads_any w.heap.size x.1 C X hi.ck hf x.2
    obtain ⟨_, _, v, hobj, hown⟩ := hi.pb
    have hn3 : w.heap.size + 3 ≤ X.heap.size := hi.pb.2.1
    obtain ⟨c0, c1, f1, _⟩ := obj_cells hobj
    have hx16 := x.2
    have hL := fun k hk => wr_lens C hf pre kept hlen x.1 k hk
    have HH := hide hi
    have HO := hide hobj
    have HW := hide hown
    have HL := hide hL
    have HX := hide hX
    have HN3 := hide hn3
    clear hi hobj hown hL hX hlen hn3
    gi_wp2
    refine at_round hrd ?_
    clear hrd
    rintro e w' ⟨rfl, hw'⟩
    subst hw'
    cases hrb : readsB C x.1 with
    | false =>
      have HE := hide (wrS_no (pre := pre) hrb)
      clear hrb
      gi_wp2
      refine ⟨KeepsFrom.refl _ _, KpT.refl _, ?_, HX.out⟩
      rw [← HE.out]
      exact HH.out
    | true =>
      have HE := hide (wrS_yes (pre := pre) hrb)
      clear hrb
      gi_wp2_with (
        refine in_push rfl (.tmp 24) (.tmp 27) rfl (w.heap.size + 3) w'.heap.size (wrS C pre) ⟨0, 0, (x.1 : Int), 0⟩ v rfl rfl (HW.out.alloc _) (step_new w' ⟨0, 0, (x.1 : Int), 0⟩) (by have := HN3.out; simp; omega) (by have := (HL.out 0 (Nat.zero_le _)).1; omega) ?_;
        rintro g' cap' w2 hg' hown' hgr;
        obtain ⟨c1, f1, hnx⟩ := HH.out.next HO.out HW.out hgr hg' hown';
        have ct := hnx.1.told;
        have HNX := hide hnx;
        clear hnx hgr hown')
      rw [← wrM_zero] at HNX
      gi_loopw [32] (fun p wr => ∃ k : Nat, p = .int .i64 (k : Int) ∧ k ≤ C.told ∧ WI w C (1 + ((mems gone).length : Int)) (wrM C pre x.1 k) wr ∧ KeepsOthers w' wr) (fun p _ => C.told - (intOf p).toNat)
      case atStart => exact ⟨0, rfl, Nat.zero_le _, HNX.out.1, HNX.out.2⟩
      case round =>
        obtain ⟨k, rfl, hk1, hi, hko⟩ := hrel
        have h88 := hf.le
        have h89 := hf.most
        by_cases hlt : k < C.told
        · have cm := hi.ck.at k x.1 (by omega) hx16
          have hb := hf.byt k x.1
          have hlt' : (k : Int) < C.told := by omega
          have hk8 : (k : Int) < 8 := by omega
          have hx' : (x.1 : Int) < 16 := by omega
          by_cases h0 : C.m k x.1 = 0
          · rw [h0] at cm
            have HI := hide hi
            have HK := hide hko
            clear hi hko
            gi_wp2
            go_roundw
            case rel => exact ⟨k + 1, by go_num, by omega, by rw [wrM_out pre h0]; exact HI.out, HK.out⟩
            case measure => simp [intOf]; omega
          · have hne : ((C.m k x.1 : Nat) : Int) ≠ 0 := by omega
            obtain ⟨_, _, v, hobj, hown⟩ := hi.pb
            have hn3 : w.heap.size + 3 ≤ wr.heap.size := hi.pb.2.1
            obtain ⟨c0, c1, f1, _⟩ := obj_cells hobj
            have hLk := (HL.out k hk1).2
            have HI := hide hi
            have HK := hide hko
            have HO := hide hobj
            have HW := hide hown
            have HN3 := hide hn3
            clear hi hko hobj hown hn3
            gi_wp2_with (
              refine in_push rfl (.tmp 44) (.tmp 49) rfl (w.heap.size + 3) wr.heap.size (wrM C pre x.1 k) ⟨1, 1 + (k : Int), 0, C.m k x.1⟩ v rfl rfl (HW.out.alloc _) (step_new wr ⟨1, 1 + (k : Int), 0, C.m k x.1⟩) (by have := HN3.out; simp; omega) (by omega) ?_;
              rintro g' cap' w2 hg' hown' hgr;
              obtain ⟨c1, f1, hnx⟩ := HI.out.next HO.out HW.out hgr hg' hown';
              have HNX := hide hnx;
              clear hnx hgr hown')
            go_roundw
            case rel => exact ⟨k + 1, by go_num, by omega, by rw [wrM_in pre h0]; exact HNX.out.1, HK.out.trans HNX.out.2⟩
            case measure => simp [intOf]; omega
        · have hlt' : ¬ (k : Int) < C.told := by omega
          obtain rfl : k = C.told := by omega
          have HI := hide hi
          have HK := hide hko
          clear hi hko
          gi_wp2
          refine ⟨HK.out.from _, fun _ => hT.mono (by omega) HI.out.below, ?_, Nat.le_trans HX.out HK.out.size⟩
          rw [← HE.out]
          exact HI.out
  case done =>
    rintro D xs X hD hxs ⟨hi, hX⟩ hK
    rw [wrS_all hxs] at hi
    have hl3 : w.heap.size + 3 ≤ D := by have := HZ4.out; have := HZ.out; omega
    have hDX : D < X.heap.size := (Array.getElem?_eq_some_iff.1 hK).1
    clear hxs xs HC4 HI4 hX
    have HI := hide hi
    have HK := hide hK
    clear hi hK
    gi_wp2
    refine at_wide (members_any gone _) ?_
    rintro e w' ⟨rfl, hw'⟩
    have hz6 : w'.heap.size = X.heap.size + 1 + 1 := by rw [hw']; simp
    have hc6 : w'.cell? ⟨X.heap.size + 1, 0, none⟩ = some (.int .u64 (gone : Int)) := by
      have := (Bx.new (X.alloc (.cells #[.int .i64 0] 3)) 63 (.int .u64 (gone : Int))).cell
      rw [World.size_alloc] at this
      rw [hw']
      exact this
    have hg6 : X.grownBy w' none := by rw [hw']; exact grown_alloc (World.grownBy_alloc X _ none) _
    have hp6 : WP w C (1 + ((mems gone).length : Int)) kept X.heap.size D [] w' := by
      refine ⟨by rw [wrP_nil]; exact HI.out.own (B := w.heap.size + 3) (Nat.le_refl _) hg6 (fun r e => by cases e), ?_, (hg6.block D hDX (fun e => by cases e)).trans HK.out⟩
      rw [hw']
      exact (Boxed.new X 3 (.int .i64 0)).alloc _
    have HZ6 := hide hz6
    have HC6 := hide hc6
    have HP6 := hide hp6
    clear hz6 hc6 hp6 hg6 hw' HI HK
    gi_wp2
    refine wpIn_rangeFunc_ownG rfl (by have := HN.out; omega) (gf := 52) (lb := #[.pointer (some ⟨X.heap.size + 1, 0, none⟩)]) rfl trivial (enters_of Tryd.func52 (by kernel_rfl) rfl)
      (members_stops (n - 1) (X.heap.size + 1) gone hg w' (by have := HZ6.out; omega) HC6.out (by have := HZ6.out; omega) (hT.mono (by omega) HP6.out.wi.below)) (fun h k => kpT_t h k) (kpT_b (by have := HZ6.out; omega)) (Below.refl _ _) (fun _ => rfl)
      (fun pre Y => WP w C (1 + ((mems gone).length : Int)) kept X.heap.size D pre Y ∧ w'.heap.size ≤ Y.heap.size) (fun _ _ _ => False)
      (fun pre A Y row hh hgg hr => ⟨hh.1.own (B := w'.heap.size) (by have := HZ6.out; omega) (by have := HZ6.out; omega) (by have := HZ6.out; omega) hgg hr, Nat.le_trans hh.2 hgg.size⟩) (fun c pre X Y row hh _ _ => hh.elim) ⟨HP6.out, Nat.le_refl _⟩
      (fun x => { tmps := #[.agg (ckA C), .int .u64 (gone : Int), .int .u64 (kept : Int), .pointer (some ⟨w.heap.size, 0, none⟩), undef, undef, .pointer (some ⟨w.heap.size + 1, 0, none⟩), .pointer (some ⟨w.heap.size + 1 + 1, 0, none⟩), undef, undef, undef, .pointer (some ⟨X.heap.size, 0, none⟩), .int .i64 (x.1 : Int), .int .u64 (gone : Int), .int .i64 ((mems gone).length : Int), .int .i64 (1 + ((mems gone).length : Int)), .agg #[.int .i64 (1 + ((mems gone).length : Int)), .slice none 0 0], .int .u64 (kept : Int), .func (.func 52) #[] #[.pointer (some ⟨w3.heap.size, 0, none⟩)], undef, undef, undef, undef, undef, undef, undef, undef, undef, undef, undef, undef, undef, undef, undef, undef, undef, undef, undef, undef, undef, undef, undef, undef, undef, undef, undef, undef, undef, undef, undef, undef, undef, undef, .int .u64 (gone : Int), .func (.func 52) #[] #[.pointer (some ⟨X.heap.size + 1, 0, none⟩)], .int .i64 (x.1 : Int), undef, undef, undef, undef, undef, undef, undef, undef, undef, undef, undef], defers := [] }) ?assign2 ?body2 ?done2 ?stop2
    case assign2 =>
      intro l2 x Y Kk hK
      unfold encSh
      gi_wp2
      exact hK
    case body2 =>
      rintro l2 pre x Y ⟨hp, hY⟩ hlen
      have hlp := wrP_le C hf kept pre gone hlen
      have hp16 : pre.length < 16 := by omega
      have hR3 : w.heap.size + 3 ≤ X.heap.size := by omega
      have hs := hp.wi.set (u' := .int .i64 ((pre.length : Int) + 1)) hR3 hp.box
      obtain ⟨_, _, v, hobj, hown⟩ := hs.pb
      have hn3 : w.heap.size + 3 ≤ (Y.setCell ⟨X.heap.size, 0, none⟩ (.int .i64 ((pre.length : Int) + 1))).heap.size := hs.pb.2.1
      obtain ⟨c0, c1, f1, _⟩ := obj_cells hobj
      have cb := hp.box.cell
      have fb := hp.box.frozen
      have cb2 := (hp.box.set (.int .i64 ((pre.length : Int) + 1))).cell
      have HP := hide hp
      have HO := hide hobj
      have HW := hide hown
      have HN3 := hide hn3
      have HY := hide hY
      have HR3 := hide hR3
      clear hp hobj hown hn3 hY hs hlen hR3
      gi_wp2_with (
        refine in_push rfl (.tmp 59) (.tmp 63) rfl (w.heap.size + 3) Y.heap.size (wrP C kept pre) ⟨2, (pre.length : Int) + 1, (x.1 : Int), 0⟩ v rfl rfl (HW.out.alloc _) (step_new' _ Y.heap.size (by simp) ⟨2, (pre.length : Int) + 1, (x.1 : Int), 0⟩) (by have := HN3.out; simp at this ⊢; omega) (by omega) ?_;
        rintro g' cap' w2 hg' hown' hgr;
        obtain ⟨c1, f1, hnx⟩ := HP.out.next HR3.out HO.out HW.out hgr hg' hown';
        have HNX := hide hnx;
        clear hnx hgr hown')
      refine ⟨HNX.out.2.from _, fun _ => hT.mono (by omega) HNX.out.1.wi.below, HNX.out.1, Nat.le_trans HY.out HNX.out.2.size⟩
    case done2 =>
      rintro D2 ys Y hD2 hys ⟨hp, hY⟩ hK2
      have hwi := hp.wi
      rw [wrP_all hys] at hwi
      have hm := hp.mark
      obtain ⟨_, _, v, hobj, hown⟩ := hwi.pb
      obtain ⟨c0, c1, f1, f0⟩ := obj_cells hobj
      obtain ⟨r0, r1, g1, g0⟩ := obj_cells hwi.res
      obtain ⟨ao, m, cc, rfl⟩ : ∃ ao m cc, v = .slice ao m cc := by
        rcases hown.2 with ⟨rfl, _⟩ | ⟨g, cap, cur, rfl, _⟩
        · exact ⟨_, _, _, rfl⟩
        · exact ⟨_, _, _, rfl⟩
      have HW := hide (And.intro hwi (And.intro hm (And.intro hown hK2)))
      clear hwi hm hown hK2 hp hY hobj
      gi_wp2
      obtain ⟨hwi, hm, hown, hK2⟩ := HW.out
      have hset : ((Y.setCell ⟨w.heap.size + 1, 0, none⟩ (.int .i64 (1 + ((mems gone).length : Int)))).setCell ⟨w.heap.size + 1, 1, none⟩ (.slice ao m cc)).heap[w.heap.size + 1]? = some (.cells #[.int .i64 (1 + ((mems gone).length : Int)), .slice ao m cc] 27 (0, 0)) :=
        set2b (set2a hwi.res)
      have hko := (KeepsOthers.setCell Y ⟨w.heap.size + 1, 0, none⟩ (.int .i64 (1 + ((mems gone).length : Int)))).trans (KeepsOthers.setCell _ ⟨w.heap.size + 1, 1, none⟩ (.slice ao m cc))
      have hbz : Below w.heap.size w ((Y.setCell ⟨w.heap.size + 1, 0, none⟩ (.int .i64 (1 + ((mems gone).length : Int)))).setCell ⟨w.heap.size + 1, 1, none⟩ (.slice ao m cc)) := (hwi.below.setCell (p := ⟨w.heap.size + 1, 0, none⟩) (Nat.le_succ _) _).setCell (p := ⟨w.heap.size + 1, 1, none⟩) (Nat.le_succ _) _
      have how1 : ((Y.setCell ⟨w.heap.size + 1, 0, none⟩ (.int .i64 (1 + ((mems gone).length : Int)))).setCell ⟨w.heap.size + 1, 1, none⟩ (.slice ao m cc)).ownsRow (w.heap.size + 3) 50 4 (.slice ao m cc) (wrAll C gone kept).length (stcs .u8 (wrAll C gone kept)) :=
        (hown.kept (grown_set' Y (w.heap.size + 1) 0 _) (.inr fun e => by have := own_from hown e; omega)).kept (grown_set' _ (w.heap.size + 1) 1 _) (.inr fun e => by have := own_from hown e; omega)
      have hd2 := hko.same D2 _ hK2 rfl
      have hd1 := hko.same D _ hm rfl
      have hD12 : D ≠ D2 := by have := HZ6.out; omega
      have hl2 := (Array.getElem?_eq_some_iff.1 hd2).1
      have hl1 := (Array.getElem?_eq_some_iff.1 hd1).1
      have hne2 : D2 ≠ w.heap.size + 1 := by have := HZ6.out; omega
      generalize ((Y.setCell ⟨w.heap.size + 1, 0, none⟩ (.int .i64 (1 + ((mems gone).length : Int)))).setCell ⟨w.heap.size + 1, 1, none⟩ (.slice ao m cc)) = Z at hset hbz how1 hd2 hd1 hl2 hl1 ⊢
      have hd1' : (Z.putObj D2 (.deferred none)).heap[D]? = some (.deferred (some [])) := (World.putObj_heap_other hD12).trans hd1
      refine ⟨by simp, .inl ⟨_, _, rfl, run_takeDeferred hd2, by simp, .inl ⟨_, _, rfl, run_takeDeferred hd1', ?_⟩⟩⟩
      have hr2 : ((Z.putObj D2 (.deferred none)).putObj D (.deferred none)).heap[w.heap.size + 1]? = some (.cells #[.int .i64 (1 + ((mems gone).length : Int)), .slice ao m cc] 27 (0, 0)) := ((World.putObj_heap_other (by omega)).trans (World.putObj_heap_other (Ne.symm hne2))).trans hset
      have hgp1 := grownBy_putObj' Z D2 (.deferred none)
      have hgp2 := grownBy_putObj' (Z.putObj D2 (.deferred none)) D (.deferred none)
      have hnc : ∀ (U : World) (d : Nat), U.heap[d]? = some (.deferred (some [])) → U.ownsRow (w.heap.size + 3) 50 4 (.slice ao m cc) (wrAll C gone kept).length (stcs .u8 (wrAll C gone kept)) → (Value.slice ao m cc).ownBlock ≠ some d := by
        intro U d hd hU e
        rcases hU.2 with ⟨e1, _⟩ | ⟨g, cap, cur, e1, _, hgb, _⟩
        · cases e1; cases e
        · cases e1
          obtain rfl : g = d := by simpa [Value.ownBlock] using e
          rw [hd] at hgb; cases hgb
      have how2 := how1.kept hgp1 (.inr (hnc _ _ hd2 how1))
      have how3 := how2.kept hgp2 (.inr (hnc _ _ hd1' how2))
      exact ⟨_, results_cell_row Tryd.results28 _ _ (w.heap.size + 1) 27 #[.int .i64 (1 + ((mems gone).length : Int)), .slice ao m cc] (0, 0) _ rfl hr2 Tryd.underlying27 rfl prog_info, _, rfl, Below.putObj' (Below.putObj' hbz (by have := HZ6.out; omega) hl2 _) (by omega) (Array.getElem?_eq_some_iff.1 hd1').1 _, owns_mono how3 (by omega)⟩
    case stop2 =>
      rintro D c pre X _ _ hf
      exact hf.elim
  case stop =>
    rintro D c pre X _ _ hf
    exact hf.elim
end Go.Proofs.YthhommjlomphdabDoor
