import Derived.Test.YtogdeaaphdlchaaGreatDoorPart10
import Derived.Test.YtogdeaaphdlchaaGreatDoorPart03
import Derived.Test.YtogdeaaphdlchaaGreatDoorPart11
import Derived.Test.YtogdeaaphdlchaaGreatDoorPart01
import Derived.Test.YtogdeaaphdlchaaGreatDoorPart04
import Derived.Test.YtogdeaaphdlchaaGreatDoorPart08
/-
  AppendSeq and Collect of chunks; cut: the data shards of a stripe.
-/
namespace Go.Proofs.YtogdeaaphdlchaaGreatDoor
open Go.RowKit Go.Shelf Go.Deep Gf

attribute [local go_sem] Oper.semAt_some
theorem own_cells {w : World} {base n : Nat} {e : TypeId} {size : Nat} {v : Value} {xs : List Value} (h : w.ownsRow base e size v n xs) {j : Nat} {o : Obj} (hj : v.ownBlock = some j) (ho : w.heap[j]? = some o) : o.isCells = true := by
  rcases h.2 with ⟨h0, _⟩ | ⟨g, cap, cur, e1, e2, e3, _⟩
  · rw [h0] at hj; simp [Value.ownBlock] at hj
  · rw [e1] at hj
    simp [Value.ownBlock] at hj
    subst hj
    rw [e3] at ho
    cases ho
    rfl
theorem own_keep {w w' : World} {base n : Nat} {e : TypeId} {size : Nat} {v : Value} {xs : List Value} {row : Option Nat} (h : w.ownsRow base e size v n xs) (hg : w.grownBy w' row) (hr : ∀ r, row = some r → ∃ o : Obj, w.heap[r]? = some o ∧ o.isCells = false) : w'.ownsRow base e size v n xs := by
  cases row with
  | none =>
    cases hv : v.ownBlock with
    | none => exact h.kept hg (.inl hv)
    | some q => exact h.kept hg (.inr (by rw [hv]; intro e; cases e))
  | some r =>
    obtain ⟨o, ho, hc⟩ := hr r rfl
    exact h.kept hg (.inr fun e => by have := own_cells h e ho; rw [hc] at this; cases this)
theorem grown_setC (w : World) (b i : Nat) (v : Value) : w.grownBy (w.setCell ⟨b, i, none⟩ v) (some b) :=
  ⟨rfl, rfl, rfl, by simp [World.setCell], fun k _ hne => blk_setCell_other _ _ _ _ (fun e => hne (by rw [e]))⟩
/-- a function's one result, which lies in a slot, behind a range over a function -/
theorem end_tmp {n : Nat} {fn : Func} {Z : World} {D' t : Nat} {x : Value} {a : Act} {R : Ending → World → Prop} (hr : fn.results = #[.tmp t]) (hd : a.defers = [{ target := .collected D', args := #[] }]) (hx : a.tmps.getD t undef = x)
    (hK : Z.heap[D']? = some (.deferred (some []))) (hR : R (.returned x) (Z.putObj D' (.deferred none))) : bodyPostM Fence.wide n Tryz.prog fn R .ret a Z := by
  obtain ⟨tm, df⟩ := a
  simp only at hd hx
  subst hd
  refine ⟨by simp, .inl ⟨_, _, rfl, run_takeDeferred hK, ?_⟩⟩
  refine ⟨x, ?_, hR⟩
  have hx' : tm[t]?.getD undef = x := by simpa using hx
  simp [results, hr, hx']
/-- between two chunks -/
def ApI (w : World) (g : Nat) (B D : Nat) (pre : List (Ch D)) (X : World) : Prop :=
  (∃ v, Boxed X w.heap.size 132 v ∧ X.ownsRow (w.heap.size + 1) 166 1 v pre.length (pre.map fun x => chV g x.1)) ∧ Below w.heap.size w X ∧ B ≤ X.heap.size
theorem ApI.own {w : World} {g B D : Nat} (hB : w.heap.size + 1 ≤ B) : OwnFrom B (ApI w g B D) := by
  rintro pre X Y row ⟨⟨v, h1, h2⟩, h3, h4⟩ hg hr
  exact ⟨⟨v, (hg.block _ h1.lt (fun e => by have := (hr _ e.symm).1; omega)).trans h1, own_keep h2 hg fun r e => (hr r e).2⟩, h3.grown hg h3.size (fun k e => by have := (hr k e).1; omega), Nat.le_trans h4 hg.size⟩
theorem Tryz.infoBytes2 : (Tryz.prog.info? 166).map (fun i => (i.zero, i.size, i.bytes)) = some (some (.slice none 0 0), 1, 24) := by kernel_rfl
/-- one chunk more -/
theorem in_chunk {F : Fence} {n : Nat} {w : World} {ops : Array Oper} {rest : List Oper} {o : Oper} {a : Act} {Q : Exit → Act → World → Prop} (hg : o.guard = none) (x y : Operand) (ho : o.op = .call { callee := .builtin .append, args := #[x, y], argTypes := #[132, 132] })
    (n0 q : Nat) (k : Nat) (xs : List Value) (u v : Value) (hx : a.eval x = v) (hy : a.eval y = .slice (some ⟨q, 0, none⟩) 1 1) (hown : w.ownsRow n0 166 1 v k xs) (hc : w.cell? ⟨q, 0, none⟩ = some u) (hu : u.oneCell' = true) (hn0 : n0 ≤ w.heap.size) (hk : k ≤ 1000000)
    (hK : ∀ g' cap' w2, n0 ≤ g' → w2.ownsRow n0 166 1 (.slice (some ⟨g', 0, none⟩) (k + 1) cap') (k + 1) (xs ++ [u]) → w.grownBy w2 v.ownBlock → wpListIn F n Tryz.prog ops Q rest (a.put o.dst (.slice (some ⟨g', 0, none⟩) (k + 1) cap')) w2) : wpListIn F n Tryz.prog ops Q (o :: rest) a w := by
  obtain ⟨i0, hi0, hz0, hz1, hz2⟩ := info_parts Tryz.infoBytes2
  refine wpListIn_append_own w hg x y 132 ho n0 166 i0 (.slice none 0 0) 1 24 Tryz.underlying132 hi0 hz0 hz1 hz2 rfl (by decide) v k xs hx hown ⟨q, 0, none⟩ 1 1 [u] hy rfl (fun j u' hj => ?_) (fun u' hu' => by simp at hu'; subst hu'; exact hu) (by unfold maxLen; omega) (by omega) hn0 ?_
  · cases j with
    | zero => simp at hj; subst hj; exact hc
    | succ j => simp at hj
  · intro v' w2 hown' hgrow _
    obtain ⟨g', cap', rfl, hg1⟩ : ∃ g' cap', v' = .slice (some ⟨g', 0, none⟩) (k + 1) cap' ∧ n0 ≤ g' := by
      rcases hown'.2 with ⟨_, h0⟩ | ⟨g, cap, cur, hv, hb, _⟩
      · omega
      · exact ⟨g, cap, hv, hb⟩
    exact hK g' cap' w2 hg1 hown' hgrow
set_option maxRecDepth 100000 in
set_option maxHeartbeats 1000000 in
theorem appendSeq_chunks (g D b1 b2 : Nat) (hD : D ≤ 1000) (w : World) (hb1 : b1 < w.heap.size) (hb2 : b2 < w.heap.size) (h1 : w.cell? ⟨b1, 0, none⟩ = some (.slice (some ⟨g, 0, none⟩) (D * 44) (D * 44))) (h2 : w.cell? ⟨b2, 0, none⟩ = some (.int .i64 44)) :
    Calls Tryz.prog 124 #[.slice none 0 0, .func (.func 125) #[] #[.pointer (some ⟨b1, 0, none⟩), .pointer (some ⟨b2, 0, none⟩)]] w fun e w' => ∃ v, e = .returned v ∧ w'.ownsRow w.heap.size 166 1 v D ((List.range D).map (chV g)) ∧ Below w.heap.size w w' := by
  obtain ⟨n, HN⟩ : ∃ n : Nat, Hid (9 ≤ n) := ⟨9, Nat.le_refl _⟩
  refine (callsIn_wide (n := n)).1 ?_
  refine callsIn_of_wp_marks Tryz.func124 rfl trivial ?_ rfl
  simp only [Tryz.ntmps124, List.size_toArray, List.length_cons, List.length_nil, Nat.reduceAdd, Nat.reduceSub, Array.replicate_succ, Array.replicate_zero, List.push_toArray, List.append_toArray, List.nil_append, List.cons_append]
  gi_wp2
  obtain ⟨w1, hw1⟩ : ∃ w1, w.alloc (.cells #[.slice none 0 0] 132) = w1 := ⟨_, rfl⟩
  have h0 : Boxed w1 w.heap.size 132 (.slice none 0 0) := by rw [← hw1]; exact Boxed.new w _ _
  have hz1 : w1.heap.size = w.heap.size + 1 := by rw [← hw1]; simp
  have hb : Below w.heap.size w w1 := by rw [← hw1]; exact (Below.refl _ w).alloc (Nat.le_refl _) _
  rw [hw1]
  clear hw1
  have hi1 : ApI w g w1.heap.size D [] w1 := ⟨⟨_, h0, World.ownsRow_nil _ _ _ _⟩, hb, Nat.le_refl _⟩
  refine wpIn_rangeFunc_ownG rfl (by have := HN.out; omega) (gf := 125) (lb := #[.pointer (some ⟨b1, 0, none⟩), .pointer (some ⟨b2, 0, none⟩)]) rfl trivial (enters_of Tryz.func125 (by kernel_rfl) rfl)
    (chunks_stops (n - 1) b1 b2 g D hD w1 (by omega) (by omega) ((hb.cell (p := ⟨b1, 0, none⟩) hb1).trans h1) ((hb.cell (p := ⟨b2, 0, none⟩) hb2).trans h2)) (fun h k => ⟨k.1.trans h.1, k.2.trans h.2⟩) (fun W l o o' hl _ _ _ => ⟨World.putObj_heap_other (by omega), World.putObj_heap_other (by omega)⟩) (Below.refl _ _) (fun _ => rfl)
    (ApI w g w1.heap.size D) (fun _ _ _ => False) (ApI.own (by omega)) (fun _ _ _ _ _ h _ _ => h.elim) hi1
    (fun x => { tmps := #[.slice none 0 0, .func (.func 125) #[] #[.pointer (some ⟨b1, 0, none⟩), .pointer (some ⟨b2, 0, none⟩)], .pointer (some ⟨w.heap.size, 0, none⟩), undef, .slice none 0 0, chV g x.1, .func (.func 125) #[] #[.pointer (some ⟨b1, 0, none⟩), .pointer (some ⟨b2, 0, none⟩)], chV g x.1, undef, undef, undef, undef, undef], defers := [] }) ?assign ?body ?done ?stop
  case assign =>
    intro l2 x X Kk hK
    unfold encCh
    gi_wp2
    exact hK
  case body =>
    rintro l2 pre x X ⟨⟨v, hv, hown⟩, hbw, hX⟩ hlen
    have c0 := hv.cell
    have hz := hv.lt
    have hpl : pre.length ≤ 1000 := by omega
    obtain ⟨kk, hkk⟩ : ∃ kk, x.1 * 44 = kk := ⟨_, rfl⟩
    have hcv : chV g x.1 = .slice (some ⟨g, kk, none⟩) 44 44 := by rw [← hkk]; rfl
    have hone : (Value.slice (some ⟨g, kk, none⟩) 44 44).oneCell' = true := rfl
    have hcn : (X.alloc (.cells #[.slice (some ⟨g, kk, none⟩) 44 44] 166)).cell? ⟨X.heap.size, 0, none⟩ = some (.slice (some ⟨g, kk, none⟩) 44 44) := (Boxed.new X 166 (.slice (some ⟨g, kk, none⟩) 44 44)).cell
    have H := hide (And.intro hv (And.intro hown (And.intro hbw (And.intro hX hcv))))
    rw [hcv]
    clear hv hown hbw hX hcv
    have HA : Hid ((X.alloc (.cells #[.slice (some ⟨g, kk, none⟩) 44 44] 166)).ownsRow (w.heap.size + 1) 166 1 v pre.length (pre.map fun x => chV g x.1)) := hide (ownsRow_below H.out.2.1 ((Below.refl _ X).alloc (Nat.le_refl _) _))
    have HB : Hid (w.heap.size + 1 ≤ (X.alloc (.cells #[.slice (some ⟨g, kk, none⟩) 44 44] 166)).heap.size) := hide (by simp; omega)
    gi_wp2_with (
      gi_at_builtin;
      refine in_chunk rfl (.tmp 8) (.tmp 10) rfl (w.heap.size + 1) X.heap.size pre.length (pre.map fun x => chV g x.1) (.slice (some ⟨g, kk, none⟩) 44 44) v (by rfl) (by rfl) (by exact HA.out) (by exact hcn) hone HB.out (by omega) ?_;
      intro g' cap' w2 hg' hown' hgrow;
      have hB2 : Boxed w2 w.heap.size 132 v := (hgrow.block w.heap.size (by simp; omega) (fun e => by have := (H.out.2.1.lt _ e.symm).1; omega)).trans (H.out.1.alloc _);
      have d0 := hB2.cell;
      have f0 := hB2.frozen)
    obtain ⟨hv, hown, hbw, hX, hcv⟩ := H.out
    have hne : ∀ q, v.ownBlock = some q → w.heap.size + 1 ≤ q := fun q e => (hown.lt q e).1
    have hsz := hgrow.size
    simp only [World.size_alloc] at hsz
    have hk0 : KeepsOthers X w2 := (KeepsOthers.alloc X (.cells #[.slice (some ⟨g, kk, none⟩) 44 44] 166)).trans (KeepsOthers.of_grownBy hgrow fun j o e ho => own_cells HA.out e ho)
    have hlow : ∀ k, k < w.heap.size → w2.heap[k]? = X.heap[k]? := fun k hk => (hgrow.block k (by simp; omega) (fun e => by have := hne k e.symm; omega)).trans (blk_alloc_lt _ _ _ (by omega))
    have hg2 : ∀ k, k ≠ w.heap.size → (w2.setCell ⟨w.heap.size, 0, none⟩ (.slice (some ⟨g', 0, none⟩) (pre.length + 1) cap')).heap[k]? = w2.heap[k]? := fun k hk => blk_setCell_other _ _ _ _ hk
    refine ⟨(hk0.trans (KeepsOthers.setCell _ _ _)).from _, ⟨(hg2 _ (by omega)).trans (hlow _ hb1), (hg2 _ (by omega)).trans (hlow _ hb2)⟩, ⟨_, hB2.set _, ?_⟩, ?_, by simp [World.setCell]; omega⟩
    · have q := hown'.kept (grown_setC w2 w.heap.size 0 (.slice (some ⟨g', 0, none⟩) (pre.length + 1) cap')) (.inr fun e => by have := (hown'.lt _ e).1; omega)
      have e : (pre ++ [x]).map (fun x => chV g x.1) = pre.map (fun x => chV g x.1) ++ [.slice (some ⟨g, kk, none⟩) 44 44] := by rw [List.map_append, ← hcv]; rfl
      rw [e, List.length_append]
      exact q
    · refine (Below.setCell (p := ⟨w.heap.size, 0, none⟩) ?_ (Nat.le_refl _) _)
      exact ⟨hgrow.os.trans hbw.os, hgrow.tape.trans hbw.tape, hgrow.output.trans hbw.output, by have := hbw.size; omega, fun k hk => (hlow k hk).trans (hbw.block k hk)⟩
  case done =>
    rintro D' xs X hD' hxs ⟨⟨v, hv, hown⟩, hbw, hX⟩ hK
    have c0 := hv.cell
    have H := hide (And.intro hown (And.intro hbw hK))
    have hlt := hv.lt
    clear hv hown hbw hK
    gi_wp2
    obtain ⟨hown, hbw, hK⟩ := H.out
    have hxl : xs.length = D := by have := congrArg List.length hxs; simpa using this
    have hxm : xs.map (fun x => chV g x.1) = (List.range D).map (chV g) := by rw [← hxs, List.map_map]; rfl
    rw [hxl, hxm] at hown
    refine end_tmp (t := 4) Tryz.results124 rfl rfl hK ⟨_, rfl, ?_, ?_⟩
    · exact ownsRow_weaken (own_keep hown (grownBy_putObj' X D' (.deferred none)) fun r e => by cases e; exact ⟨_, hK, rfl⟩) (by omega)
    · exact Below.putObj' hbw (by omega) (Array.getElem?_eq_some_iff.1 hK).1 _
  case stop =>
    rintro D' cc pre X hD' hpre hx hK
    exact hx.elim
set_option maxRecDepth 100000 in
set_option maxHeartbeats 1000000 in
theorem collect_chunks (g D b1 b2 : Nat) (hD : D ≤ 1000) (w : World) (hb1 : b1 < w.heap.size) (hb2 : b2 < w.heap.size) (h1 : w.cell? ⟨b1, 0, none⟩ = some (.slice (some ⟨g, 0, none⟩) (D * 44) (D * 44))) (h2 : w.cell? ⟨b2, 0, none⟩ = some (.int .i64 44)) :
    Calls Tryz.prog 120 #[.func (.func 125) #[] #[.pointer (some ⟨b1, 0, none⟩), .pointer (some ⟨b2, 0, none⟩)]] w fun e w' => ∃ v, e = .returned v ∧ w'.ownsRow w.heap.size 166 1 v D ((List.range D).map (chV g)) ∧ Below w.heap.size w w' := by
  have hc := appendSeq_chunks g D b1 b2 hD w hb1 hb2 h1 h2
  clear h1 h2
  go_enter Tryz.func120, Tryz.ntmps120
  go_wp2_with fail
  refine hc.mono ?_
  rintro e w' ⟨v, rfl, hown, hb⟩
  have H := hide (And.intro hown hb)
  clear hc hown hb
  go_wp2
  go_ret
  exact ⟨_, rfl, H.out.1, H.out.2⟩
/-- bytes, and noughts behind them -/
def padD (D : Nat) (dl : List Nat) : List Nat := dl ++ List.replicate (D * 44 - dl.length) 0
/-- the data shards of a stripe -/
def rowsD (D : Nat) (dl : List Nat) : List (List Nat) := (List.range D).map fun i => ((padD D dl).drop (i * 44)).take 44
theorem padD_len {D : Nat} {dl : List Nat} (h : dl.length ≤ D * 44) : (padD D dl).length = D * 44 := by unfold padD; simp; omega
theorem rowsD_len (D : Nat) (dl : List Nat) : (rowsD D dl).length = D := by simp [rowsD]
theorem rowsD_at {D i : Nat} {dl : List Nat} (hi : i < (rowsD D dl).length) : (rowsD D dl)[i] = ((padD D dl).drop (i * 44)).take 44 := by simp [rowsD]
theorem rowsD_row {D i : Nat} {dl : List Nat} (h : dl.length ≤ D * 44) (hi : i < D) : (((padD D dl).drop (i * 44)).take 44).length = 44 := by
  rw [List.length_take, List.length_drop, padD_len h]; omega
theorem padD_lt {D : Nat} {dl : List Nat} (h : ∀ x ∈ dl, x < 256) : ∀ x ∈ padD D dl, x < 256 := by
  intro x hx
  unfold padD at hx
  rw [List.mem_append] at hx
  rcases hx with hx | hx
  · exact h x hx
  · have := List.eq_of_mem_replicate hx; omega
set_option maxRecDepth 100000 in
set_option maxHeartbeats 2000000 in
theorem cut_ok {w : World} {v p D L G ps ho : Nat} (h : VolAt w v p D L G ps ho) (hD : D ≤ 12) (vd : Value) (dl : List Nat) (hd : Bs w vd dl) (hl : dl.length ≤ D * 44) :
    Calls Tryz.prog 108 #[.pointer (some ⟨v, 0, none⟩), vd] w fun e w' => ∃ u, e = .returned u ∧ Rd w' u (rowsD D dl) ∧ Below w.heap.size w w' := by
  have hs := stripeSize_any h (by omega)
  obtain ⟨dd, hdd⟩ : ∃ dd, D * 44 = dd := ⟨_, rfl⟩
  have hdle : dd ≤ 528 := by omega
  rw [hdd] at hs hl
  have HD := hide hd
  clear hd
  go_enter Tryz.func108, Tryz.ntmps108
  go_wp2_with fail
  refine hs.mono ?_
  rintro e w1 ⟨rfl, rfl⟩
  go_wp2_with (at_make; refine wpList_mk _ rfl (.tmp 7) (.tmp 7) rfl _ dd (by rfl) (by rfl) rfl (by omega) ?_; intro w2 hB hb2 hz2; obtain ⟨w3, hcp, hB3, hg3⟩ := row_copy (n := dd) (cap := dd) (off := 0) 3 hB (HD.out.mono hb2) (by omega) (by simp; omega))
  have hb3 : Below w1.heap.size w1 w3 := hb2.grown hg3 (by omega) (fun k e => by cases e; exact Nat.le_refl _)
  have hz3 := hg3.size
  have hpad : spl (List.replicate dd 0) 0 dl = padD D dl := by
    unfold spl padD
    rw [List.take_zero, List.nil_append, Nat.zero_add, List.drop_replicate, hdd]
  rw [hpad] at hB3
  have hch := chunk_any w1.heap.size D w3
  rw [hdd] at hch
  have H3 := hide (And.intro hB3 (And.intro hb3 hch))
  clear hcp hB hb2 hg3 hB3 hb3 hch hpad
  refine H3.out.2.2.mono ?_
  rintro e w4 ⟨rfl, rfl⟩
  obtain ⟨w4, hw4⟩ : ∃ w4, (w3.alloc (.cells #[.slice (some ⟨w1.heap.size, 0, none⟩) dd dd] 166)).alloc (.cells #[.int .i64 44] 3) = w4 := ⟨_, rfl⟩
  have hb4 : Below w3.heap.size w3 w4 := by rw [← hw4]; exact ((Below.refl _ w3).alloc (Nat.le_refl _) _).alloc (by simp) _
  have hz4 : w4.heap.size = w3.heap.size + 2 := by rw [← hw4]; simp
  have g1 : w4.cell? ⟨w3.heap.size, 0, none⟩ = some (.slice (some ⟨w1.heap.size, 0, none⟩) (D * 44) (D * 44)) := by rw [← hw4, hdd]; exact ((Boxed.new w3 _ _).alloc _).cell
  have g2 : w4.cell? ⟨w3.heap.size + 1, 0, none⟩ = some (.int .i64 44) := by
    have := (Boxed.new (w3.alloc (.cells #[.slice (some ⟨w1.heap.size, 0, none⟩) dd dd] 166)) 3 (.int .i64 44)).cell
    rw [World.size_alloc] at this
    rw [← hw4]; exact this
  have hco := collect_chunks w1.heap.size D w3.heap.size (w3.heap.size + 1) (by omega) w4 (by omega) (by omega) g1 g2
  rw [hw4]
  have H4 := hide (And.intro hb4 hco)
  clear hw4 hb4 hco g1 g2 hz4
  go_wp2_with fail
  refine H4.out.2.mono ?_
  rintro e w5 ⟨u, rfl, hown, hb5⟩
  have H5 := hide (And.intro hown hb5)
  clear hown hb5
  go_wp2
  go_ret
  obtain ⟨hB3, hb3, _⟩ := H3.out
  obtain ⟨hb4, _⟩ := H4.out
  obtain ⟨hown, hb5⟩ := H5.out
  have hb35 : Below w3.heap.size w3 w5 := hb4.trans (hb5.mono hb4.size)
  have hB5 : Brow w5 w1.heap.size (padD D dl) := hB3.below hb35
  refine ⟨u, rfl, ?_, hb3.trans (hb35.mono hb3.size)⟩
  rcases hown.2 with ⟨h0, h1⟩ | ⟨q, cap, cur, e1, e2, e3, e4, e5, e6, e7⟩
  · subst h0
    have : rowsD D dl = [] := by rw [← List.length_eq_zero_iff, rowsD_len]; exact h1
    exact ⟨none, 0, by rw [this]; rfl, by rw [this]; decide, fun hh => absurd this hh⟩
  · refine ⟨some ⟨q, 0, none⟩, cap, by rw [e1, rowsD_len], by rw [rowsD_len]; omega, fun _ => ⟨q, 0, rfl, fun i hi => ?_⟩⟩
    have hi' := hi
    rw [rowsD_len] at hi'
    refine ⟨chV w1.heap.size i, ?_, ?_⟩
    · have := hown.cells (g := q) (by rw [e1]; rfl) i (chV w1.heap.size i) (by simp [hi'])
      rw [add0] at this
      rw [Nat.zero_add]; exact this
    · rw [rowsD_at hi]
      have hr44 := rowsD_row (D := D) (dl := dl) (by omega) hi'
      have hr : w5.rangeAt w1.heap.size 0 (bts (padD D dl)) := fun j u hu => by
        have hh := hB5.heapB
        have hu' : (bts (padD D dl)).toArray[j]? = some u := by simpa using hu
        simp [World.cell?, hh, hu']
      have hr2 := range_take 44 (range_drop (i * 44) hr)
      rw [Nat.zero_add] at hr2
      have hm := Bs.mid (c := 44) (l := ((padD D dl).drop (i * 44)).take 44) (by omega) (by omega) (fun x hx => padD_lt HD.out.lt x (List.mem_of_mem_drop (List.mem_of_mem_take hx))) hr2
      rw [hr44] at hm
      exact hm
end Go.Proofs.YtogdeaaphdlchaaGreatDoor
/-
  slices.Grow of nothing; slices.Concat of rows of bytes.
-/
namespace Go.Proofs.YtogdeaaphdlchaaGreatDoor
open Go.RowKit Go.Deep Gf

theorem run_append_zeros {P : Program} (w : World) (t u ty e : TypeId) (k : IntKind) (i : TypeInfo) (z : Value) (ht : P.underlying t = some (.slice e)) (hu : P.underlying u = some (.int k)) (hi : P.info? e = some i) (hz : i.zero = some z) (hb : i.bytes = 1) (hs : i.size = 1)
    (n : Nat) (h0 : 0 < n) (h48 : n ≤ 1000000) :
    (Builtin.append_ #[t, u] ty #[.slice none 0 0, .int .i64 n]).run P w =
      .ok (.slice (some ⟨w.heap.size, 0, none⟩) n (grownCap w n 0 e)) (w.drew.alloc (.cells (Builtin.zeroCells z.cells n ++ Builtin.zeroCells z.cells (grownCap w n 0 e - n)) e)) := by
  have hn : n ≠ 0 := by omega
  have h63' : ¬ (9223372036854775807 < (n : Int)) := by omega
  have hw : IntKind.i64.wrap (n : Int) = n := by rw [IntKind.wrap_i64]; omega
  have hl : ¬ ((n : Int) < 0) := by omega
  have h48' : ¬ (281474976710656 < Builtin.nextslicecap n 0) := by rw [nextslicecap_zero h0]; omega
  have h48'' : ¬ (281474976710656 < (n : Int)) := by omega
  simp [Builtin.append_, run_underlying ht, run_underlying hu, sizeOf, typeInfo, zeroValue, hi, hz, hb, hs, hn, h63', h48', h48'', hw, hl, Question.forced, run_firstCells_none, newRow, grownCap, asInt, asIntOf]
theorem Tryz.infoByteC : (Tryz.prog.info? 5).map (fun i => (i.zero, i.size, i.bytes)) = some (some (.int .u8 0), 1, 1) := by kernel_rfl
theorem grow_owns (w : World) (n c : Nat) (hc : n ≤ c) (hm : c ≤ maxLen) : (w.drew.alloc (.cells (Builtin.zeroCells (Value.cells (.int .u8 0)) n ++ Builtin.zeroCells (Value.cells (.int .u8 0)) (c - n)) 5)).ownsRow w.heap.size 5 1 (.slice (some ⟨w.heap.size, 0, none⟩) 0 c) 0 [] := by
  refine ⟨rfl, .inr ⟨w.heap.size, c, _, rfl, Nat.le_refl _, blk_alloc_new w.drew _, Nat.zero_le _, hm, ?_, by simp⟩⟩
  simp [Builtin.zeroCells, Value.cells]
  omega
theorem wpList_zeros {P : Program} (w w' : World) {ops : Array Oper} {rest : List Oper} {o : Oper} {a : Act} {Q : Exit → Act → World → Prop} (hgd : o.guard = none) (s x : Operand) (t tx : TypeId)
    (ho : o.op = .call { callee := .builtin .append, args := #[s, x], argTypes := #[t, tx] }) (v u v' : Value) (hv : a.eval s = v) (hu : a.eval x = u) (hr : ∀ ty, (Builtin.append_ #[t, tx] ty #[v, u]).run P w = .ok v' w')
    (h : wpList P ops Q rest (a.put o.dst v') w') : wpList P ops Q (o :: rest) a w := by
  refine wpList_plain hgd fun K hK => ?_
  unfold Oper.wp execOp
  simp only [ho, resolve, invoke, builtin, Sem.run_bind, Sem.run_pure, Result.andThen_ok, List.map_toArray, List.map_cons, List.map_nil, hv, hu, hr]
  exact hK _ _ h
set_option maxRecDepth 100000 in
set_option maxHeartbeats 1000000 in
theorem grow_nil (n : Nat) (hn : n ≤ 1000000) (w : World) : Calls Tryz.prog 115 #[.slice none 0 0, .int .i64 n] w fun e w' => ∃ v, e = .returned v ∧ w'.ownsRow w.heap.size 5 1 v 0 [] ∧ Below w.heap.size w w' := by
  obtain ⟨i0, hi0, hz0, hz1, hz2⟩ := info_parts Tryz.infoByteC
  by_cases h0 : 0 < n
  · have hap := fun ty => run_append_zeros (P := Tryz.prog) w 166 3 ty 5 .i64 i0 (.int .u8 0) Tryz.underlying166 Tryz.underlying3 hi0 hz0 hz2 hz1 n h0 hn
    have h1 : n ≤ grownCap w n 0 5 := grownCap_ge w n 0 5
    have h2 : grownCap w n 0 5 ≤ maxLen := grownCap_le_maxLen w n 0 5 (by unfold maxLen; omega)
    have hO := grow_owns w n (grownCap w n 0 5) h1 h2
    have hB : Below w.heap.size w (w.drew.alloc (.cells (Builtin.zeroCells (Value.cells (.int .u8 0)) n ++ Builtin.zeroCells (Value.cells (.int .u8 0)) (grownCap w n 0 5 - n)) 5)) := (Below.refl _ w).drew.alloc (Nat.le_refl _) _
    obtain ⟨cp, hcp⟩ : ∃ cp, grownCap w n 0 5 = cp := ⟨_, rfl⟩
    rw [hcp] at hap h1 h2 hO hB
    obtain ⟨w2, hw2⟩ : ∃ w2, w.drew.alloc (.cells (Builtin.zeroCells (Value.cells (.int .u8 0)) n ++ Builtin.zeroCells (Value.cells (.int .u8 0)) (cp - n)) 5) = w2 := ⟨_, rfl⟩
    rw [hw2] at hap hO hB
    have hm : cp ≤ 9223372036854775807 := by unfold maxLen at h2; omega
    have H := hide (And.intro hO hB)
    have HA := hide hap
    clear hO hB hw2 hcp h2 hap
    go_enter Tryz.func115, Tryz.ntmps115
    go_wp2_with (show wpList _ _ _ ({ dst := some 22, op := _, type := _, pos := _, after := _, guard := _ } :: _) _ _; refine wpList_zeros w w2 rfl (.tmp 20) (.tmp 21) 166 3 rfl (.slice none 0 0) (.int .i64 n) (.slice (some ⟨w.heap.size, 0, none⟩) n cp) rfl rfl (by exact HA.out) ?_)
    go_ret
    exact ⟨_, rfl, H.out.1, H.out.2⟩
  · have hn0 : n = 0 := by omega
    subst hn0
    go_enter Tryz.func115, Tryz.ntmps115
    go_wp2
    go_ret
    exact ⟨_, rfl, World.ownsRow_nil _ _ _ _, Below.refl _ _⟩
theorem own_ge {w : World} {base n : Nat} {e : TypeId} {size : Nat} {v : Value} {xs : List Value} (h : w.ownsRow base e size v n xs) {k : Nat} (hk : v.ownBlock = some k) : base ≤ k := by
  rcases h.2 with ⟨h0, _⟩ | ⟨g, cap, cur, e1, e2, _⟩
  · rw [h0] at hk; simp [Value.ownBlock] at hk
  · rw [e1] at hk
    simp [Value.ownBlock] at hk
    omega
def CcR (w : World) (K : Nat) (s i : Value) (wr : World) : Prop := ∃ k : Nat, k ≤ K ∧ i = .int .i64 k ∧ s = .int .i64 ((44 * k : Nat) : Int) ∧ wr = w
def CdR (w : World) (R : List (List Nat)) (v i : Value) (wr : World) : Prop := ∃ k : Nat, k ≤ R.length ∧ i = .int .i64 k ∧ wr.ownsRow w.heap.size 5 1 v (44 * k) (bts (R.take k).flatten) ∧ Below w.heap.size w wr
set_option maxRecDepth 100000 in
set_option maxHeartbeats 1000000 in
theorem concat_ok {w : World} {base g c : Nat} {R : List (List Nat)} (hR : Rws w base g R) (hk : R.length ≤ 1000) : Calls Tryz.prog 99 #[.slice (some ⟨g, 0, none⟩) R.length c] w fun e w' => ∃ v, e = .returned v ∧ w'.ownsRow w.heap.size 5 1 v (44 * R.length) (bts R.flatten) ∧ Below w.heap.size w w' := by
  obtain ⟨i0, hi0, hz0, hz1, hz2⟩ := info_parts Tryz.infoByteC
  obtain ⟨K, hK⟩ : ∃ K, R.length = K := ⟨_, rfl⟩
  obtain ⟨_, hgl, hrow⟩ := hR
  have HR := hide (And.intro hrow hK)
  rw [hK] at hk ⊢
  clear hrow hK
  go_enter Tryz.func99, Tryz.ntmps99
  go_wp2_with fail
  go_loopw [3, 11] (fun s i wr => CcR w K s i wr) (fun _ i _ => K - (intOf i).toNat)
  case atStart => exact ⟨0, Nat.zero_le _, rfl, rfl, rfl⟩
  case round =>
    obtain ⟨k, hkK, rfl, rfl, hww⟩ := hrel
    obtain rfl : w = wr := hww.symm
    clear hww
    by_cases hlt : k < K
    · obtain ⟨b, off, cc, c1, hb1, hb2, hb3, hb4, hb5⟩ := HR.out.1 k (by rw [HR.out.2]; exact hlt)
      clear hb1 hb2 hb3 hb4 hb5
      have e44 : ((44 * k : Nat) : Int) + 44 = ((44 * (k + 1) : Nat) : Int) := by omega
      have h44 : 44 * (k + 1) ≤ 44000 := by omega
      obtain ⟨M, hM⟩ : ∃ M, 44 * k = M := ⟨_, rfl⟩
      obtain ⟨M', hM'⟩ : ∃ M', 44 * (k + 1) = M' := ⟨_, rfl⟩
      rw [hM, hM'] at e44
      rw [hM'] at h44
      rw [hM]
      go_wp2
      refine ⟨⟨k + 1, by omega, by go_num, by rw [hM'], rfl⟩, by simp [intOf]; omega⟩
    · have hkk : k = K := by omega
      subst hkk
      obtain ⟨M, hM⟩ : ∃ M, 44 * k = M := ⟨_, rfl⟩
      have hMl : M ≤ 44000 := by omega
      rw [hM]
      go_wp2_with fail
      refine (grow_nil M (by omega) w).mono ?_
      rintro e w1 ⟨v, rfl, hO, hB⟩
      have H1 := hide (And.intro hO hB)
      clear hO hB
      go_wp2_with fail
      go_loopw [6, 27] (fun v i wr' => CdR w R v i wr') (fun _ i _ => k - (intOf i).toNat)
      case atStart => exact ⟨0, Nat.zero_le _, rfl, H1.out.1, H1.out.2⟩
      case round =>
        clear H1
        obtain ⟨j, hjR, rfl, hO, hB⟩ := hrel
        rw [HR.out.2] at hjR
        by_cases hlt : j < k
        · have hjl : j < R.length := by rw [HR.out.2]; exact hlt
          obtain ⟨b, off, cc, c1, hb1, hb2, hb3, hb4, hb5⟩ := HR.out.1 j hjl
          have c1' : wr.cell? ⟨g, j, none⟩ = some (.slice (some ⟨b, off, none⟩) 44 cc) := (World.cell?_of_block (hB.block g hgl)).trans c1
          have hsrc : Src Tryz.prog 1 166 (.slice (some ⟨b, off, none⟩) 44 cc) 44 (bts R[j]) wr := Src.ofSlice wr Tryz.underlying166 ⟨b, off, none⟩ 44 cc (bts R[j]) (by rw [bts_len, hb4]) (fun q u hq => by have h9 : wr.cell? ⟨b, off + q, none⟩ = some u := (World.cell?_of_block (hB.block b hb2)).trans (hb3 q u hq); unfold Addr.add; split <;> first | exact h9 | (rename_i h0; subst h0; exact h9)) (fun u hu => by
            obtain ⟨x, _, rfl⟩ := List.mem_map.1 hu; rfl)
          have ht : bts (R.take (j + 1)).flatten = bts (R.take j).flatten ++ bts R[j] := by
            rw [List.take_add_one, List.getElem?_eq_getElem hjl, Option.toList_some, List.flatten_append, bts_append]
            simp
          obtain ⟨rw', hrw⟩ : ∃ rw', bts R[j] = rw' := ⟨_, rfl⟩
          obtain ⟨rt, hrt⟩ : ∃ rt, bts (R.take j).flatten = rt := ⟨_, rfl⟩
          rw [hrw] at hsrc ht
          rw [hrt] at hO ht
          have hsz := hB.size
          have H := hide (And.intro hO (And.intro hB (And.intro hsrc ht)))
          have hjs : 44 * j + 44 ≤ 44000 := by omega
          clear hO hB hsrc ht hb1 hb2 hb3 hb4 hb5 c1 hrw hrt
          go_wp2_with (show wpList _ _ _ ({ dst := some 33, op := _, type := _, pos := _, after := _, guard := _ } :: _) _ _; refine wpList_append_from _ rfl (.tmp 31) (.tmp 32) 166 166 rfl w.heap.size 5 i0 (.int .u8 0) 1 1 Tryz.underlying166 hi0 hz0 hz1 hz2 rfl _ (44 * j) rt (by rfl) (by exact H.out.1) _ (by rfl) 44 rw' (by exact H.out.2.2.1) (by unfold maxLen; omega) (by omega) (by exact hsz) ?_; intro v' w3 hO3 hg3 _)
          obtain ⟨hO, hB, _, ht⟩ := H.out
          refine ⟨⟨j + 1, by rw [HR.out.2]; omega, by go_num, ?_, hB.grown hg3 hsz fun q e => own_ge hO e⟩, by simp [intOf]; omega⟩
          rw [ht, show 44 * (j + 1) = 44 * j + 44 by omega]
          exact hO3
        · have hjj : j = k := by omega
          subst hjj
          have H := hide (And.intro hO hB)
          clear hO hB
          go_wp2
          go_ret
          refine ⟨_, rfl, ?_, H.out.2⟩
          have := H.out.1
          rw [List.take_of_length_le (by rw [HR.out.2]; exact Nat.le_refl _)] at this
          exact this
end Go.Proofs.YtogdeaaphdlchaaGreatDoor
/-
  A reader of stripes: Reader, turn.
-/
namespace Go.Proofs.YtogdeaaphdlchaaGreatDoor
open Go.RowKit Go.Deep Gf

def rdA (v b g N gone sp : Nat) : Array Value := #[.pointer (some ⟨v, 0, none⟩), .int .i64 b, .slice (some ⟨g, 0, none⟩) N N, .int .u64 gone, .int .u64 sp]
/-- a reader in memory -/
def RdAt (w : World) (r v b g N gone sp : Nat) : Prop := w.heap[r]? = some (.cells (rdA v b g N gone sp) 216 (0, 0))
theorem RdAt.keep {w w' : World} {r v b g N gone sp : Nat} (h : RdAt w r v b g N gone sp) (e : w'.heap[r]? = w.heap[r]?) : RdAt w' r v b g N gone sp := e.trans h
theorem RdAt.lt {w : World} {r v b g N gone sp : Nat} (h : RdAt w r v b g N gone sp) : r < w.heap.size := (Array.getElem?_eq_some_iff.1 h).1
theorem RdAt.cells {w : World} {r v b g N gone sp : Nat} (h : RdAt w r v b g N gone sp) : w.cell? ⟨r, 0, none⟩ = some (.pointer (some ⟨v, 0, none⟩)) ∧ w.cell? ⟨r, 1, none⟩ = some (.int .i64 b) ∧ w.cell? ⟨r, 2, none⟩ = some (.slice (some ⟨g, 0, none⟩) N N) ∧ w.cell? ⟨r, 3, none⟩ = some (.int .u64 gone) ∧ w.cell? ⟨r, 4, none⟩ = some (.int .u64 sp) := by
  have h' : w.heap[r]? = some (.cells (rdA v b g N gone sp) 216 (0, 0)) := h
  simp [World.cell?, h', rdA]
theorem RdAt.free {w : World} {r v b g N gone sp : Nat} (h : RdAt w r v b g N gone sp) (i : Nat) : w.frozen? ⟨r, i, none⟩ = false := by
  have h' : w.heap[r]? = some (.cells (rdA v b g N gone sp) 216 (0, 0)) := h
  simp [World.frozen?, h']
theorem wpList_mkNils (w : World) {ops : Array Oper} {rest : List Oper} {o : Oper} {a : Act} {Q : Exit → Act → World → Prop}
    (hg : o.guard = none) (l c : Operand) (hop : o.op = Op.makeSlice 132 l c) (C : Int) (n : Nat) (hl : a.eval l = .int .i64 C) (hc : a.eval c = .int .i64 C) (hC : C = (n : Int)) (hn : n ≤ 1000000)
    (hK : ∀ w', w'.rowIs w.heap.size 166 n (fun _ => .slice none 0 0) → Below w.heap.size w w' → w'.heap.size = w.heap.size + 1 → wpList Tryz.prog ops Q rest (a.put o.dst (.slice (some ⟨w.heap.size, 0, none⟩) n n)) w') :
    wpList Tryz.prog ops Q (o :: rest) a w := by
  refine wpList_plain hg fun K hK' => ?_
  have hrun := run_make_row' (P := Tryz.prog) 132 166 (.slice none 0 0) 24 Tryz.underlying132 Tryz.infoBytes2 rfl .i64 .i64 n (by omega) (by omega) w
  subst hC
  unfold Oper.wp
  simp [execOp, hop, hl, hc, hrun, Result.andThen]
  exact hK' _ _ (hK _ (World.rowIs_made w _ n _) ((Below.refl _ _).alloc (Nat.le_refl _) _) (nblk_alloc _ _))
set_option maxRecDepth 100000 in
set_option maxHeartbeats 1000000 in
theorem reader_new {w : World} {v p D L G ps ho : Nat} (h : VolAt w v p D L G ps ho) (hD : D ≤ 12) (hL : L ≤ 4) (hG : G ≤ 4) {N : Nat} (hN : N = D + L + G) : Calls Tryz.prog 79 #[.pointer (some ⟨v, 0, none⟩)] w fun e w' => ∃ r g, e = .returned (.pointer (some ⟨r, 0, none⟩)) ∧ w.heap.size ≤ r ∧ w.heap.size ≤ g ∧ g ≠ r ∧ RdAt w' r v 0 g N 0 0 ∧ w'.rowIs g 166 N (fun _ => .slice none 0 0) ∧ Below w.heap.size w w' := by
  obtain ⟨_, c1, c2, c3, _⟩ := h.cells
  go_enter Tryz.func79, Tryz.ntmps79
  go_wp2_with fail
  refine (shards_any (D : Int) (L : Int) (G : Int) w ⟨by omega, by omega⟩ ⟨by omega, by omega⟩ ⟨by omega, by omega⟩).mono ?_
  rintro e w5 ⟨rfl, hb5⟩
  rw [show ((D : Int) + (L : Int) + (G : Int)) = (N : Int) by omega]
  have hN1 : N ≤ 20 := by omega
  have H5 := hide hb5
  clear hb5 c1 c2 c3 h hN
  go_wp2_with (at_make; refine wpList_mkNils _ rfl (.tmp 8) (.tmp 8) rfl _ N rfl rfl rfl (by omega) ?_; intro w6 hRow hb6 hz6)
  go_ret
  have hb5 := H5.out
  have hz5 := hb5.size
  refine ⟨_, _, rfl, by omega, hz5, by omega, ?_, ?_, ?_⟩
  · have := blk_alloc_new w6 (.cells (rdA v 0 w5.heap.size N 0 0) 216)
    rw [hz6] at this; exact this
  · exact hRow.of_block (blk_alloc_lt _ _ _ (by omega))
  · exact (hb5.trans (hb6.mono hz5)).alloc (by omega) _
theorem run_clear_nils (w : World) (ty : TypeId) (g N c : Nat) (f : Nat → Value) (h : w.rowIs g 166 N f) (hN : 0 < N) : (Builtin.clear_ #[132] ty #[.slice (some ⟨g, 0, none⟩) N c]).run Tryz.prog w = .ok (.tuple #[]) (w.setRow g (List.replicate N (Value.slice none 0 0)).toArray) := by
  obtain ⟨cs, h1, h2, h3⟩ := h
  obtain ⟨i0, hi0, hz0, hz1, hz2⟩ := info_parts Tryz.infoBytes2
  have hz : (Builtin.zeroCells (Value.cells (.slice none 0 0)) N).toList = List.replicate N (Value.slice none 0 0) := by
    apply List.ext_getElem
    · simp [Builtin.zeroCells, Value.cells]
    · intro i _ _
      simp [Builtin.zeroCells, Value.cells, Nat.mod_one]
  have hs := run_storeCells_from (P := Tryz.prog) g 166 (List.replicate N (Value.slice none 0 0)) 0 cs w h1 (by simp [h2]) (fun v hv => by rw [List.eq_of_mem_replicate hv]; rfl)
  have hN0 : N ≠ 0 := by omega
  simp only [List.take_zero, List.nil_append] at hs
  obtain ⟨m, rfl⟩ : ∃ m, N = m + 1 := ⟨N - 1, by omega⟩
  simp [Builtin.clear_, run_underlying Tryz.underlying132, zeroValue, typeInfo, hi0, hz0, hz, hs]
theorem wpList_clear (w : World) {ops : Array Oper} {rest : List Oper} {o : Oper} {a : Act} {Q : Exit → Act → World → Prop} (hgd : o.guard = none) (s : Operand)
    (ho : o.op = .call { callee := .builtin .clear, args := #[s], argTypes := #[132] }) (hdst : o.dst = none) {g N c : Nat} {f : Nat → Value} (hv : a.eval s = .slice (some ⟨g, 0, none⟩) N c) (hr : w.rowIs g 166 N f) (hN : 0 < N)
    (h : ∀ w', w'.rowIs g 166 N (fun _ => .slice none 0 0) → Outside (fun k => k = g) w w' → wpList Tryz.prog ops Q rest a w') : wpList Tryz.prog ops Q (o :: rest) a w := by
  refine wpList_plain hgd fun K hK => ?_
  unfold Oper.wp execOp
  simp only [ho, resolve, invoke, builtin, Sem.run_bind, Sem.run_pure, Result.andThen_ok, List.map_toArray, List.map_cons, List.map_nil, hv, run_clear_nils w _ g N c f hr hN]
  have hg := grown_setRow' w g (List.replicate N (Value.slice none 0 0)).toArray
  obtain ⟨cs, h1, _⟩ := hr
  refine hK _ _ ?_
  rw [hdst]
  exact h _ ⟨_, setRow_heap _ _ _ _ _ _ h1, by simp, fun i hi => by simp [hi]⟩ ⟨hg.os, hg.tape, hg.output, hg.size, fun k hk hne => hg.block k hk (fun e => hne (Option.some.inj e))⟩
theorem setRow_of3 (w : World) (r : Nat) {v b0 g N gone sp : Nat} (h : RdAt w r v b0 g N gone sp) (b ho : Nat) : RdAt (((w.setCell ⟨r, 1, none⟩ (.int .i64 b)).setCell ⟨r, 3, none⟩ (.int .u64 0)).setCell ⟨r, 4, none⟩ (.int .u64 ho)) r v b g N 0 ho ∧ Outside (fun k => k = r) w (((w.setCell ⟨r, 1, none⟩ (.int .i64 b)).setCell ⟨r, 3, none⟩ (.int .u64 0)).setCell ⟨r, 4, none⟩ (.int .u64 ho)) := by
  refine ⟨?_, ((Outside.setCell (S := fun k => k = r) w ⟨r, 1, none⟩ _ rfl).trans (Outside.setCell _ ⟨r, 3, none⟩ _ rfl)).trans (Outside.setCell _ ⟨r, 4, none⟩ _ rfl)⟩
  have h1 := heap_setCell_same w r 1 _ _ (.int .i64 b) h
  have h2 := heap_setCell_same _ r 3 _ _ (.int .u64 0) h1
  exact heap_setCell_same _ r 4 _ _ (.int .u64 ho) h2
set_option maxRecDepth 100000 in
set_option maxHeartbeats 1000000 in
theorem turn_ok {w : World} {r v p D L G ps ho b0 g N gone sp : Nat} {f : Nat → Value} (h : RdAt w r v b0 g N gone sp) (hV : VolAt w v p D L G ps ho) (hr : w.rowIs g 166 N f) (hN : 0 < N) (hrg : g ≠ r) (hvg : v ≠ g) (b : Nat) :
    Calls Tryz.prog 97 #[.pointer (some ⟨r, 0, none⟩), .int .i64 b] w fun e w' => e = .returned (.tuple #[]) ∧ RdAt w' r v b g N 0 ho ∧ w'.rowIs g 166 N (fun _ => .slice none 0 0) ∧ Outside (fun k => k = r ∨ k = g) w w' := by
  obtain ⟨c0, c1, c2, c3, c4⟩ := h.cells
  have H := hide (And.intro h (And.intro hV hr))
  clear h hV hr
  go_enter Tryz.func97, Tryz.ntmps97
  go_wp2_with (show wpList _ _ _ ({ dst := none, op := .call { callee := .builtin .clear, args := _, argTypes := _ }, type := _, pos := _, after := _, guard := _ } :: _) _ _; refine wpList_clear _ rfl (.tmp 7) rfl rfl (g := g) (N := N) (c := N) (f := f) rfl (by exact H.out.2.2) hN ?_; intro w1 hr1 hO1; obtain ⟨d0, d1, d2, d3, d4⟩ := (H.out.1.keep (hO1.block _ H.out.1.lt (fun e => hrg e.symm))).cells; obtain ⟨_, _, _, _, _, v5⟩ := (H.out.2.1.keep (hO1.block _ H.out.2.1.lt hvg)).cells; have f1 := (H.out.1.keep (hO1.block _ H.out.1.lt (fun e => hrg e.symm))).free 1; have f3 := (H.out.1.keep (hO1.block _ H.out.1.lt (fun e => hrg e.symm))).free 3; have f4 := (H.out.1.keep (hO1.block _ H.out.1.lt (fun e => hrg e.symm))).free 4; have H1 := hide (And.intro hr1 hO1); clear hr1 hO1 c0 c1 c2 c3 c4)
  first | go_end0 | skip
  have hh := H.out.1.keep (H1.out.2.block _ H.out.1.lt (fun e => hrg e.symm))
  have e1 := setRow_of3 w1 r hh b ho
  refine ⟨rfl, e1.1, H1.out.1.of_block (e1.2.block _ H1.out.1.lt (fun e => hrg e)), (H1.out.2.mono fun _ _ e => .inr e).trans (e1.2.mono fun _ _ e => .inl e)⟩
end Go.Proofs.YtogdeaaphdlchaaGreatDoor
/-
  A region that draws its order, in a function that ranges over a function, outside of its rounds: as RegionFacts.lean.
-/
namespace Go.Proofs.YtogdeaaphdlchaaGreatDoor
open Go.RowKit Go.Shelf

/-- what is asked of each operation -/
def StepOkW (n : Nat) (P : Program) (Q : Exit → Act → World → Prop) (lo hi : Nat) (sh : List (Op × Option Nat × List Nat)) (a0 : Act) (V : Nat → Value → World → Prop) (B : (Nat → Bool) → World → Prop) (i : Nat) : Prop :=
  ∀ (o : Oper) (a : Act) (w : World) (D : Nat → Bool), o.guard = none → o.op = (shAt sh i).1 → o.dst = (shAt sh i).2.1 → Framed lo hi a0 a → D i = false → (∀ j, D j = true → j < sh.length ∧ ∀ k ∈ (shAt sh j).2.2, D k = true) →
    (∀ k ∈ (shAt sh i).2.2, D k = true) → B D w → (∀ j, D j = true → V j (slotD (shAt sh j).2.1 a) w) →
    o.wpIn Fence.wide n P a w (fun a' w' => ∃ v, a' = a.put o.dst v ∧ (o.dst = none → v = undef) ∧ B (upd D i) w' ∧ V i v w' ∧ ∀ j u, D j = true → V j u w → V j u w') Q
/-- the region -/
theorem any_factsW {n : Nat} {P : Program} {ops : Array Oper} {Q : Exit → Act → World → Prop} {lo hi : Nat} {sh : List (Op × Option Nat × List Nat)} (hsh : RegShape ops lo hi sh) (a0 : Act) (hhi : hi ≤ a0.tmps.size)
    (V : Nat → Value → World → Prop) (B : (Nat → Bool) → World → Prop) (hstep : ∀ i, i < sh.length → StepOkW n P Q lo hi sh a0 V B i)
    (hend : ∀ (a : Act) (w : World), Framed lo hi a0 a → (∀ s, (∀ i, i < sh.length → (shAt sh i).2.1 ≠ some s) → a.eval (.tmp s) = a0.eval (.tmp s)) → (∃ D, (∀ i, i < sh.length → D i = true) ∧ B D w) → (∀ i, i < sh.length → V i (slotD (shAt sh i).2.1 a) w) → Q .normal a w) :
    ∀ (f : Nat) (listed : Array Bool) (a : Act) (w : World), listed.size = sh.length → toCome listed = f → Framed lo hi a0 a → (∀ s, (∀ i, i < sh.length → (shAt sh i).2.1 ≠ some s) → a.eval (.tmp s) = a0.eval (.tmp s)) → (∀ j, listed.getD j false = true → j < sh.length ∧ ∀ k ∈ (shAt sh j).2.2, listed.getD k false = true) → B (fun j => listed.getD j false) w →
      (∀ i, listed.getD i false = true → V i (slotD (shAt sh i).2.1 a) w) → wpAnyIn Fence.wide n P .any ops Q f listed a w := by
  have hsz := hsh.size
  have hready : ∀ listed : Array Bool, listed.size = sh.length → toCome listed ≠ 0 → Region.ready .any ops listed ≠ [] := by
    intro listed hl hc hr
    have hall : ∀ i, i < sh.length → listed.getD i false = true := by
      intro i
      induction i using Nat.strongRecOn with
      | ind i ih =>
        intro hi'
        by_cases hd : listed.getD i false = true
        · exact hd
        · exfalso
          have hm : i ∈ Region.ready .any ops listed := ready_iff.2 ⟨by omega, by simpa [Array.getD_eq_getD_getElem?, show i < listed.size by omega] using hd, fun k hk => by
            obtain ⟨o, _, _, _, _, e⟩ := hsh.get i hi'
            rw [e] at hk
            have := hsh.early i hi' k hk
            exact ih k this (by omega)⟩
          rw [hr] at hm
          cases hm
    apply hc
    unfold toCome
    rw [List.length_eq_zero_iff, List.filter_eq_nil_iff]
    intro b hb
    obtain ⟨i, hi', rfl⟩ := List.getElem_of_mem hb
    have hi2 : i < listed.size := by simpa using hi'
    have := hall i (by omega)
    simp [Array.getD_eq_getD_getElem?, hi2] at this
    simp [this]
  intro f
  induction f with
  | zero =>
    intro listed a w hl hc hk hsame hcl hB hV
    refine ⟨?_, hend a w hk hsame ⟨_, fun i hi' => toCome_zero hc i (by omega), hB⟩ fun i hi' => hV i (toCome_zero hc i (by omega))⟩
    rw [List.eq_nil_iff_forall_not_mem]
    intro i hm
    obtain ⟨h1, h2, _⟩ := ready_iff.1 hm
    have := toCome_zero hc i (by omega)
    simp [Array.getD_eq_getD_getElem?, show i < listed.size by omega] at this h2
    rw [this] at h2
    cases h2
  | succ f ih =>
    intro listed a w hl hc hk hsame hcl hB hV
    refine ⟨fun e => absurd e (hready listed hl (by omega)), fun i hm => ?_⟩
    obtain ⟨h1, h2, h3⟩ := ready_iff.1 hm
    have hi' : i < sh.length := by omega
    have hil : i < listed.size := by omega
    obtain ⟨o, e1, e2, e3, e4, e5⟩ := hsh.get i hi'
    have hDi : listed.getD i false = false := by simpa [Array.getD_eq_getD_getElem?, hil] using h2
    have hupd : ∀ j, (listed.setIfInBounds i true).getD j false = upd (fun j => listed.getD j false) i j := by
      intro j
      unfold upd
      by_cases ej : j = i
      · subst ej
        rw [if_pos rfl]
        simp [Array.getD_eq_getD_getElem?, hil]
      · rw [if_neg ej, Array.getD_eq_getD_getElem?, Array.getElem?_setIfInBounds, if_neg (fun q : i = j => ej q.symm), ← Array.getD_eq_getD_getElem?]
    unfold wpOpIn
    rw [e1]
    show if Region.wanted o (yielded ops a.tmps) = true then _ else _
    rw [if_pos (by simp [Region.wanted, e4])]
    refine (Oper.wpIn_mono (fun a' w' h => ?_) (hstep i hi' o a w (fun j => listed.getD j false) e4 e2 e3 hk hDi hcl (fun k hk' => ?_) hB hV))
    · obtain ⟨v, rfl, hu, hB', hVi, hst⟩ := h
      have hdst : ∀ d, o.dst = some d → lo ≤ d ∧ d < hi := fun d hd => by rw [e3] at hd; exact (hsh.slots i i d hi' hi' hd).1
      refine ih _ _ _ (by simpa using hl) (by have := toCome_set h2; omega) (hk.put v hdst) (fun s hs => ?_) (fun j hj => ?_) ?_ fun j hlj => ?_
      · refine Eq.trans ?_ (hsame s hs)
        cases hd : o.dst with
        | none => rfl
        | some d => exact rf_other _ _ _ _ (fun e => hs i hi' (by rw [show (shAt sh i).2.1 = o.dst from e3.symm, hd, e]))
      · rw [hupd] at hj
        unfold upd at hj
        by_cases ej : j = i
        · subst ej
          refine ⟨hi', fun k hk' => ?_⟩
          rw [hupd]; unfold upd
          by_cases ek : k = j
          · rw [if_pos ek]
          · rw [if_neg ek]; rw [← e5] at hk'; exact h3 k hk'
        · rw [if_neg ej] at hj
          obtain ⟨q1, q2⟩ := hcl j hj
          refine ⟨q1, fun k hk' => ?_⟩
          rw [hupd]; unfold upd
          by_cases ek : k = i
          · rw [if_pos ek]
          · rw [if_neg ek]; exact q2 k hk'
      · have e : (fun j => (listed.setIfInBounds i true).getD j false) = upd (fun j => listed.getD j false) i := funext hupd
        rw [e]; exact hB'
      · rw [hupd] at hlj
        unfold upd at hlj
        by_cases ej : j = i
        · subst ej
          have : slotD (shAt sh j).2.1 (a.put o.dst v) = v := by
            show slotD (sh.getD j (.move (.const undef), none, [])).2.1 (a.put o.dst v) = v
            rw [← e3]
            cases hd : o.dst with
            | none => exact (hu hd).symm
            | some d => exact rf_same _ _ _ (Nat.lt_of_lt_of_le (hdst d hd).2 (by rw [hk.size]; exact hhi))
          rw [this]; exact hVi
        · rw [if_neg ej] at hlj
          have : slotD (shAt sh j).2.1 (a.put o.dst v) = slotD (shAt sh j).2.1 a := by
            cases hd' : (shAt sh j).2.1 with
            | none => rfl
            | some d' =>
              cases hd : o.dst with
              | none => rfl
              | some d =>
                refine rf_other _ _ _ _ fun q => ej ?_
                subst q
                rw [e3] at hd
                exact (hsh.slots j i d (hcl j hlj).1 hi' hd').2 hd
          rw [this]
          exact hst j _ hlj (hV j hlj)
    · exact h3 k (by rw [e5]; exact hk')
/-- as the walk meets it -/
theorem region_factsW {n : Nat} {P : Program} {ops : Array Oper} {Q : Exit → Act → World → Prop} {m lo hi : Nat} {sh : List (Op × Option Nat × List Nat)} (hm : P.follows .mixedOrders = true) (hsh : RegShape ops lo hi sh) (a0 : Act) (w0 : World) (hhi : hi ≤ a0.tmps.size)
    (V : Nat → Value → World → Prop) (B : (Nat → Bool) → World → Prop) (hB : B (fun _ => false) w0.drew) (hstep : ∀ i, i < sh.length → StepOkW n P Q lo hi sh a0 V B i)
    (hend : ∀ (a : Act) (w : World), Framed lo hi a0 a → (∀ s, (∀ i, i < sh.length → (shAt sh i).2.1 ≠ some s) → a.eval (.tmp s) = a0.eval (.tmp s)) → (∃ D, (∀ i, i < sh.length → D i = true) ∧ B D w) → (∀ i, i < sh.length → V i (slotD (shAt sh i).2.1 a) w) → Q .normal a w) : (Code.region m ops true).wpIn Fence.wide n P Q a0 w0 := by
  refine wpIn_region_any hm ?_
  have hsz := hsh.size
  have h0 : ∀ i, (Array.replicate ops.size false).getD i false = false := fun i => by
    simp only [Array.getD_eq_getD_getElem?, Array.getElem?_replicate]
    split <;> rfl
  refine any_factsW hsh a0 hhi V B hstep hend _ _ a0 w0.drew (by simp [hsz]) ?_ (Framed.refl _ _ _) (fun _ _ => rfl) (fun j hj => ?_) ?_ fun i h => ?_
  · unfold toCome
    simp
  · rw [h0] at hj; cases hj
  · have e : (fun j => (Array.replicate ops.size false).getD j false) = fun _ => false := funext h0
    rw [e]; exact hB
  · rw [h0] at h; cases h


/-! ### what operations do -/
theorem opW_val {n : Nat} {P : Program} {Q : Exit → Act → World → Prop} {o : Oper} {a : Act} {w w' : World} {v : Value} {B : World → Prop} {Vi : Value → World → Prop} {S : World → Prop} (hr : (execOp a.eval o).run P w = .ok (.value v) w') (hnd : ∀ c, o.op ≠ .defer c) {d : Nat} (hd : o.dst = some d) (h : B w' ∧ Vi v w' ∧ S w') :
    o.wpIn Fence.wide n P a w (fun a' w' => ∃ v, a' = a.put o.dst v ∧ (o.dst = none → v = undef) ∧ B w' ∧ Vi v w' ∧ S w') Q := by
  refine ⟨fun _ _ => trivial, ?_⟩
  rw [Oper.semAt_plain _ _ _ hnd, hr]
  exact ⟨v, rfl, fun e => (by rw [hd] at e; cases e), h.1, h.2.1, h.2.2⟩
theorem opW_skip {n : Nat} {P : Program} {Q : Exit → Act → World → Prop} {o : Oper} {a : Act} {w w' : World} {B : World → Prop} {Vi : Value → World → Prop} {S : World → Prop} (hr : (execOp a.eval o).run P w = .ok .skip w') (hnd : ∀ c, o.op ≠ .defer c) (h : B w' ∧ Vi undef w' ∧ S w') :
    o.wpIn Fence.wide n P a w (fun a' w' => ∃ v, a' = a.put o.dst v ∧ (o.dst = none → v = undef) ∧ B w' ∧ Vi v w' ∧ S w') Q := by
  refine ⟨fun _ _ => trivial, ?_⟩
  rw [Oper.semAt_plain _ _ _ hnd, hr]
  exact ⟨undef, rfl, fun _ => rfl, h.1, h.2.1, h.2.2⟩
theorem opW_call {n : Nat} {P : Program} {Q : Exit → Act → World → Prop} {o : Oper} {a : Act} {w w1 : World} {f : FuncId} {args : Array Value} {Rr : Ending → World → Prop} {B : World → Prop} {Vi : Value → World → Prop} {S : World → Prop} (hr : (execOp a.eval o).run P w = .ok (.enter f args) w1) (hnd : ∀ c, o.op ≠ .defer c) {d : Nat} (hd : o.dst = some d) (hc : Calls P f args w1 Rr)
    (h : ∀ e w', Rr e w' → ∃ v, e = .returned v ∧ B w' ∧ Vi v w' ∧ S w') : o.wpIn Fence.wide n P a w (fun a' w' => ∃ v, a' = a.put o.dst v ∧ (o.dst = none → v = undef) ∧ B w' ∧ Vi v w' ∧ S w') Q := by
  refine ⟨fun _ _ => trivial, ?_⟩
  rw [Oper.semAt_plain _ _ _ hnd, hr]
  refine ⟨fun h => (by cases h), (callsIn_wide.2 (hc.mono fun e w' hR => ?_))⟩
  obtain ⟨v, rfl, q1, q2, q3⟩ := h e w' hR
  exact ⟨v, rfl, fun e => (by rw [hd] at e; cases e), q1, q2, q3⟩
end Go.Proofs.YtogdeaaphdlchaaGreatDoor
