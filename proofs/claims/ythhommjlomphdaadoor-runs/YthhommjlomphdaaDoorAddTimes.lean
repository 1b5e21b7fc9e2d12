/-
  A multiple of one row is added to another.
-/
import Derived.Test.YthhommjlomphdaaDoorTable
import Derived.Test.YthhommjlomphdaaDoorTabLaws
import Derived.Deep.RegionWith
import Derived.Deep.WholeRow
namespace Go.Proofs.YthhommjlomphdaaDoor
open Go.RowKit Go.Deep Gf

/-- the first k places from off on have had their multiples added -/
def addTo (g F : Nat → Nat) (c off k j : Nat) : Nat := if off ≤ j ∧ j < off + k then g j ^^^ gm c (F (j - off)) else g j
def AdR (w : World) (b t N off k c tb fb foff : Nat) (g F : Nat → Nat) (i : Value) (wr : World) : Prop :=
  ∃ j : Nat, j ≤ k ∧ i = .int .i64 j ∧ wr.rowIs b t N (tv (addTo g F c off j)) ∧ TableAt wr tb c ∧ (∀ i, i < k → wr.cell? ⟨fb, foff + i, none⟩ = some (.int .u8 ((F i : Nat) : Int))) ∧ w.grownBy wr (some b)
theorem addTo_step (g F : Nat → Nat) (c off j x : Nat) : tv (addTo g F c off (j + 1)) x = if x = off + j then .int .u8 ((g (off + j) ^^^ gm c (F j) : Nat) : Int) else tv (addTo g F c off j) x := by
  unfold tv addTo
  by_cases h : x = off + j
  · subst h
    rw [if_pos rfl, if_pos (by omega), Nat.add_sub_cancel_left]
  · rw [if_neg h]
    by_cases h2 : off ≤ x ∧ x < off + j
    · rw [if_pos h2, if_pos (by omega)]
    · rw [if_neg h2, if_neg (by omega)]
theorem addTo_zero (g F : Nat → Nat) (c off : Nat) : addTo g F c off 0 = g := by
  funext j; unfold addTo; rw [if_neg (by omega)]
theorem addTo_none (g F : Nat → Nat) (off k : Nat) : addTo g F 0 off k = g := by
  funext j; unfold addTo; rw [zero_gm, Nat.xor_zero]; split <;> rfl
theorem tableAt_set {w : World} {t c : Nat} (h : TableAt w t c) {a : Addr} (ha : t ≠ a.block) (v : Value) : TableAt (w.setCell a v) t c := fun j hj => by
  rw [← h j hj]; exact World.cell?_of_block (blk_setCell_other _ _ _ _ ha)
theorem wpList_tab (w : World) {ops : Array Oper} {rest : List Oper} {o : Oper} {a : Act} {Q : Exit → Act → World → Prop} (hgd : o.guard = none) (x y : Operand) (ho : o.op = .store 148 x y)
    (g c : Nat) (cs old : Array Value) (hx : a.eval x = .pointer (some ⟨g, 0, none⟩)) (hy : a.eval y = .agg cs) (hg : w.heap[g]? = some (.cells old 148 (0, 0))) (hold : old.size = 32) (hsz : cs.size = 32) (hget : ∀ j, j < 32 → cs[j]? = some (tv (tabN c) j))
    (hK : ∀ w2, TableAt w2 g c → w.grownBy w2 (some g) → wpList Tryd.prog ops Q rest (a.put o.dst undef) w2) : wpList Tryd.prog ops Q (o :: rest) a w := by
  refine wpList_store_row hgd 148 x y ho g cs hx hy 148 old hg (by rw [Tryd.infoTable, hsz]) (by omega) (one_cells hsz hget) (hK _ ?_ ?_)
  · intro j hj
    rw [cell_of_row _ g j cs 148 (0, 0) (setRow_heap w g old cs _ _ hg)]
    exact hget j hj
  · refine ⟨rfl, rfl, rfl, by simp, fun k hk hne => ?_⟩
    have : g ≠ k := fun e => hne (by rw [e])
    simp [World.setRow, Array.getElem?_modify, this]
set_option maxRecDepth 100000 in
set_option maxHeartbeats 4000000 in
theorem addTimes_some (b t N off n cap fb foff fcap c : Nat) (g F : Nat → Nat) (w : World) (hc : c < 256) (hr : w.rowIs b t N (tv g)) (hg : ∀ j, g j < 256) (hF : ∀ j, F j < 256) (hn : off + n ≤ N) (hcap : n ≤ 140737488355328)
    (hfc : ∀ i, i < n → w.cell? ⟨fb, foff + i, none⟩ = some (.int .u8 ((F i : Nat) : Int))) (hdis : fb ≠ b ∨ foff + n ≤ off ∨ off + n ≤ foff) :
    Calls Tryd.prog 67 #[.slice (some ⟨b, off, none⟩) n cap, .slice (some ⟨fb, foff, none⟩) n fcap, .int .u8 c] w fun e w' => e = .returned (.tuple #[]) ∧ w'.rowIs b t N (tv (addTo g F c off n)) ∧ w.grownBy w' (some b) := by
  by_cases h0 : c = 0
  · subst h0
    go_enter Tryd.func67, Tryd.ntmps67
    go_wp2
    exact bodyPost_ret (v := .tuple #[]) (by simp [results, Tryd.results67]) rfl ⟨rfl, by rw [addTo_none]; exact hr, World.grownBy.refl _ _⟩
  · have hc0 : ((c : Int) == 0) = false := by rw [beq_eq_false_iff_ne]; omega
    clear h0
    go_enter Tryd.func67, Tryd.ntmps67
    go_wp2_with fail
    refine (tableOf_any c hc _).mono ?_
    rintro e w1 ⟨cs, rfl, hsz, hget, hb1⟩
    have hs1 := hb1.size
    go_wp2_with (refine wpList_tab _ rfl (.tmp 6) (.tmp 11) rfl w1.heap.size c cs _ rfl rfl (heap_alloc_last w1 _) rfl hsz hget ?_; intro w2 hTb hg2)
    have hbl : b < w.heap.size := hr.lt
    have hW2 : w.grownBy w2 none := by
      refine ⟨hg2.os.trans hb1.os, hg2.tape.trans hb1.tape, hg2.output.trans hb1.output, ?_, fun k hk _ => ?_⟩
      · have := hg2.size; rw [nblk_alloc] at this; omega
      · rw [hg2.block k (by rw [nblk_alloc]; omega) (by intro e; simp at e; omega), blk_alloc_lt _ _ _ (by omega), hb1.block k hk]
    have hr2 : w2.rowIs b t N (tv g) := hr.of_block (hW2.block b hbl (by simp))
    have hf2 : ∀ i, i < n → w2.cell? ⟨fb, foff + i, none⟩ = some (.int .u8 ((F i : Nat) : Int)) := fun i hi => by
      have := hfc i hi
      exact hW2.cell this (by simp)
    have hw2 : w.grownBy w2 (some b) := ⟨hW2.os, hW2.tape, hW2.output, hW2.size, fun k hk _ => hW2.block k hk (by simp)⟩
    have htb : w1.heap.size ≠ b := by omega
    clear hg2 hW2 hr hfc hget hb1 hs1 hbl
    go_loopw [17] (fun i wr => AdR w b t N off n c w1.heap.size fb foff g F i wr) (fun i _ => n - (intOf i).toNat)
    case atStart => exact ⟨0, Nat.zero_le _, rfl, by rw [addTo_zero]; exact hr2, hTb, hf2, hw2⟩
    case round =>
      clear hTb hf2 hw2 hr2
      obtain ⟨j, hj, rfl, hrj, hTj, hfj, hgj⟩ := hrel
      by_cases hlt : j < n
      · have c1 := hrj.cell (i := off + j) (by omega)
        have f1 := hrj.frozen (off + j)
        have c2 := hfj j hlt
        have e1 : tv (addTo g F c off j) (off + j) = .int .u8 ((g (off + j) : Nat) : Int) := by unfold tv addTo; rw [if_neg (by omega)]
        rw [e1] at c1
        have hx := u8_xor (g (off + j)) (gm c (F j)) (hg _) (gm_lt _ hc)
        have hr3 := (hrj.set (off + j) (.int .u8 ((g (off + j) ^^^ gm c (F j) : Nat) : Int))).congr (fun x _ => (addTo_step g F c off j x).symm)
        have hT3 := tableAt_set hTj (a := ⟨b, off + j, none⟩) htb (.int .u8 ((g (off + j) ^^^ gm c (F j) : Nat) : Int))
        have hg3 := grown_set hgj (off + j) (.int .u8 ((g (off + j) ^^^ gm c (F j) : Nat) : Int))
        have hf3 : ∀ i, i < n → (wr.setCell ⟨b, off + j, none⟩ (.int .u8 ((g (off + j) ^^^ gm c (F j) : Nat) : Int))).cell? ⟨fb, foff + i, none⟩ = some (.int .u8 ((F i : Nat) : Int)) := fun i hi => by
          rw [← hfj i hi]
          by_cases hbb : fb = b
          · exact World.cell?_setCell_other _ _ _ _ (by intro e; have h1 : off + j = foff + i := congrArg Addr.off e; omega)
          · exact World.cell?_of_block (blk_setCell_other _ _ _ _ hbb)
        have hFj := hF j
        have HH := hide (And.intro hr3 (And.intro hT3 (And.intro hf3 hg3)))
        have HT := hide hTj
        generalize F j = y at c2 hx hFj HH
        generalize g (off + j) = x at c1 hx HH
        clear e1 hr3 hT3 hg3 hf3 hrj hTj hfj hgj hg hF
        go_wp2
        go_region_with ((go_at_call 82; refine (times_any w1.heap.size c y hc hFj _ (by exact fun j hj => HT.out j hj)).mono ?_; rintro e w' ⟨rfl, m, rfl⟩))
        all_goals
          go_wp2
          go_roundw
          case rel => exact ⟨j + 1, by omega, by go_num, HH.out.1, HH.out.2.1, HH.out.2.2.1, ⟨HH.out.2.2.2.os, HH.out.2.2.2.tape, HH.out.2.2.2.output, HH.out.2.2.2.size, HH.out.2.2.2.block⟩⟩
          case measure => simp [intOf]; omega
      · have hjn : j = n := by omega
        subst hjn
        clear hTj hfj
        go_wp2
        go_end0
        exact ⟨rfl, hrj, hgj⟩
end Go.Proofs.YthhommjlomphdaaDoor
