import Derived.Test.YtogdeaaphdlchaaGreatDoorPart13
import Derived.Test.YtogdeaaphdlchaaGreatDoorPart02
import Derived.Deep.RegionWith
import Derived.Deep.WholeRow
import Derived.Test.YtogdeaaphdlchaaGreatDoorPart03
import Derived.Test.YtogdeaaphdlchaaGreatDoorPart09
/-
  A multiple of one row is added to another.
-/
namespace Go.Proofs.YtogdeaaphdlchaaGreatDoor
open Go.RowKit Go.Deep Gf

/-- the first k places from off on have had their multiples added -/
def addTo (g F : Nat → Nat) (c off k j : Nat) : Nat := if off ≤ j ∧ j < off + k then g j ^^^ gm c (F (j - off)) else g j
def AdR (w : World) (b t N off k c tb fb foff : Nat) (g F : Nat → Nat) (i : Value) (wr : World) : Prop :=
  ∃ j : Nat, j ≤ k ∧ i = .int .i64 j ∧ wr.rowIs b t N (tv (addTo g F c off j)) ∧ TableAt wr tb c ∧ (∀ i, i < k → wr.cell? ⟨fb, foff + i, none⟩ = some (.int .u8 ((F i : Nat) : Int))) ∧ w.grownBy wr (some b)
theorem addTo_step (g F : Nat → Nat) (c off j x : Nat) : tv (addTo g F c off (j + 1)) x = if x = off + j then .int .u8 ((g (off + j) ^^^ gm c (F j) : Nat) : Int) else tv (addTo g F c off j) x := by
  unfold tv addTo
  by_cases h : x = off + j
  · subst h
    rw [if_pos rfl, if_pos (by omega), Nat.add_sub_cancel_left]
  · rw [if_neg h]
    by_cases h2 : off ≤ x ∧ x < off + j
    · rw [if_pos h2, if_pos (by omega)]
    · rw [if_neg h2, if_neg (by omega)]
theorem addTo_zero (g F : Nat → Nat) (c off : Nat) : addTo g F c off 0 = g := by
  funext j; unfold addTo; rw [if_neg (by omega)]
theorem addTo_none (g F : Nat → Nat) (off k : Nat) : addTo g F 0 off k = g := by
  funext j; unfold addTo; rw [zero_gm, Nat.xor_zero]; split <;> rfl
theorem tableAt_set {w : World} {t c : Nat} (h : TableAt w t c) {a : Addr} (ha : t ≠ a.block) (v : Value) : TableAt (w.setCell a v) t c := fun j hj => by
  rw [← h j hj]; exact World.cell?_of_block (blk_setCell_other _ _ _ _ ha)
theorem wpList_tab (w : World) {ops : Array Oper} {rest : List Oper} {o : Oper} {a : Act} {Q : Exit → Act → World → Prop} (hgd : o.guard = none) (x y : Operand) (ho : o.op = .store 221 x y)
    (g c : Nat) (cs old : Array Value) (hx : a.eval x = .pointer (some ⟨g, 0, none⟩)) (hy : a.eval y = .agg cs) (hg : w.heap[g]? = some (.cells old 221 (0, 0))) (hold : old.size = 32) (hsz : cs.size = 32) (hget : ∀ j, j < 32 → cs[j]? = some (tv (tabN c) j))
    (hK : ∀ w2, TableAt w2 g c → w.grownBy w2 (some g) → wpList Tryz.prog ops Q rest (a.put o.dst undef) w2) : wpList Tryz.prog ops Q (o :: rest) a w := by
  refine wpList_store_row hgd 221 x y ho g cs hx hy 221 old hg (by rw [Tryz.infoTable, hsz]) (by omega) (one_cells hsz hget) (hK _ ?_ ?_)
  · intro j hj
    rw [cell_of_row _ g j cs 221 (0, 0) (setRow_heap w g old cs _ _ hg)]
    exact hget j hj
  · refine ⟨rfl, rfl, rfl, by simp, fun k hk hne => ?_⟩
    have : g ≠ k := fun e => hne (by rw [e])
    simp [World.setRow, Array.getElem?_modify, this]
set_option maxRecDepth 100000 in
set_option maxHeartbeats 4000000 in
theorem addTimes_some (b t N off n cap fb foff fcap c : Nat) (g F : Nat → Nat) (w : World) (hc : c < 256) (hr : w.rowIs b t N (tv g)) (hg : ∀ j, g j < 256) (hF : ∀ j, F j < 256) (hn : off + n ≤ N) (hcap : n ≤ 140737488355328)
    (hfc : ∀ i, i < n → w.cell? ⟨fb, foff + i, none⟩ = some (.int .u8 ((F i : Nat) : Int))) (hdis : fb ≠ b ∨ foff + n ≤ off ∨ off + n ≤ foff) :
    Calls Tryz.prog 89 #[.slice (some ⟨b, off, none⟩) n cap, .slice (some ⟨fb, foff, none⟩) n fcap, .int .u8 c] w fun e w' => e = .returned (.tuple #[]) ∧ w'.rowIs b t N (tv (addTo g F c off n)) ∧ w.grownBy w' (some b) := by
  by_cases h0 : c = 0
  · subst h0
    go_enter Tryz.func89, Tryz.ntmps89
    go_wp2
    exact bodyPost_ret (v := .tuple #[]) (by simp [results, Tryz.results89]) rfl ⟨rfl, by rw [addTo_none]; exact hr, World.grownBy.refl _ _⟩
  · have hc0 : ((c : Int) == 0) = false := by rw [beq_eq_false_iff_ne]; omega
    clear h0
    go_enter Tryz.func89, Tryz.ntmps89
    go_wp2_with fail
    refine (tableOf_any c hc _).mono ?_
    rintro e w1 ⟨cs, rfl, hsz, hget, hb1⟩
    have hs1 := hb1.size
    go_wp2_with (refine wpList_tab _ rfl (.tmp 6) (.tmp 11) rfl w1.heap.size c cs _ rfl rfl (heap_alloc_last w1 _) rfl hsz hget ?_; intro w2 hTb hg2)
    have hbl : b < w.heap.size := hr.lt
    have hW2 : w.grownBy w2 none := by
      refine ⟨hg2.os.trans hb1.os, hg2.tape.trans hb1.tape, hg2.output.trans hb1.output, ?_, fun k hk _ => ?_⟩
      · have := hg2.size; rw [nblk_alloc] at this; omega
      · rw [hg2.block k (by rw [nblk_alloc]; omega) (by intro e; simp at e; omega), blk_alloc_lt _ _ _ (by omega), hb1.block k hk]
    have hr2 : w2.rowIs b t N (tv g) := hr.of_block (hW2.block b hbl (by simp))
    have hf2 : ∀ i, i < n → w2.cell? ⟨fb, foff + i, none⟩ = some (.int .u8 ((F i : Nat) : Int)) := fun i hi => by
      have := hfc i hi
      exact hW2.cell this (by simp)
    have hw2 : w.grownBy w2 (some b) := ⟨hW2.os, hW2.tape, hW2.output, hW2.size, fun k hk _ => hW2.block k hk (by simp)⟩
    have htb : w1.heap.size ≠ b := by omega
    clear hg2 hW2 hr hfc hget hb1 hs1 hbl
    go_loopw [17] (fun i wr => AdR w b t N off n c w1.heap.size fb foff g F i wr) (fun i _ => n - (intOf i).toNat)
    case atStart => exact ⟨0, Nat.zero_le _, rfl, by rw [addTo_zero]; exact hr2, hTb, hf2, hw2⟩
    case round =>
      clear hTb hf2 hw2 hr2
      obtain ⟨j, hj, rfl, hrj, hTj, hfj, hgj⟩ := hrel
      by_cases hlt : j < n
      · have c1 := hrj.cell (i := off + j) (by omega)
        have f1 := hrj.frozen (off + j)
        have c2 := hfj j hlt
        have e1 : tv (addTo g F c off j) (off + j) = .int .u8 ((g (off + j) : Nat) : Int) := by unfold tv addTo; rw [if_neg (by omega)]
        rw [e1] at c1
        have hx := u8_xor (g (off + j)) (gm c (F j)) (hg _) (gm_lt _ hc)
        have hr3 := (hrj.set (off + j) (.int .u8 ((g (off + j) ^^^ gm c (F j) : Nat) : Int))).congr (fun x _ => (addTo_step g F c off j x).symm)
        have hT3 := tableAt_set hTj (a := ⟨b, off + j, none⟩) htb (.int .u8 ((g (off + j) ^^^ gm c (F j) : Nat) : Int))
        have hg3 := grown_set hgj (off + j) (.int .u8 ((g (off + j) ^^^ gm c (F j) : Nat) : Int))
        have hf3 : ∀ i, i < n → (wr.setCell ⟨b, off + j, none⟩ (.int .u8 ((g (off + j) ^^^ gm c (F j) : Nat) : Int))).cell? ⟨fb, foff + i, none⟩ = some (.int .u8 ((F i : Nat) : Int)) := fun i hi => by
          rw [← hfj i hi]
          by_cases hbb : fb = b
          · exact World.cell?_setCell_other _ _ _ _ (by intro e; have h1 : off + j = foff + i := congrArg Addr.off e; omega)
          · exact World.cell?_of_block (blk_setCell_other _ _ _ _ hbb)
        have hFj := hF j
        have HH := hide (And.intro hr3 (And.intro hT3 (And.intro hf3 hg3)))
        have HT := hide hTj
        generalize F j = y at c2 hx hFj HH
        generalize g (off + j) = x at c1 hx HH
        clear e1 hr3 hT3 hg3 hf3 hrj hTj hfj hgj hg hF
        go_wp2
        go_region_with ((go_at_call 105; refine (times_any w1.heap.size c y hc hFj _ (by exact fun j hj => HT.out j hj)).mono ?_; rintro e w' ⟨rfl, m, rfl⟩))
        all_goals
          go_wp2
          go_roundw
          case rel => exact ⟨j + 1, by omega, by go_num, HH.out.1, HH.out.2.1, HH.out.2.2.1, ⟨HH.out.2.2.2.os, HH.out.2.2.2.tape, HH.out.2.2.2.output, HH.out.2.2.2.size, HH.out.2.2.2.block⟩⟩
          case measure => simp [intOf]; omega
      · have hjn : j = n := by omega
        subst hjn
        clear hTj hfj
        go_wp2
        go_end0
        exact ⟨rfl, hrj, hgj⟩
end Go.Proofs.YtogdeaaphdlchaaGreatDoor
/-
  Shards are added up, each times its number.
-/
namespace Go.Proofs.YtogdeaaphdlchaaGreatDoor
open Go.RowKit Go.Deep Gf

set_option maxRecDepth 100000 in
set_option maxHeartbeats 4000000 in
theorem addTimes_none (ad ao : Option Addr) (cap fcap c : Nat) (w : World) (hc : c < 256) :
    Calls Tryz.prog 89 #[.slice ad 0 cap, .slice ao 0 fcap, .int .u8 c] w fun e w' => e = .returned (.tuple #[]) ∧ Below w.heap.size w w' := by
  by_cases h0 : c = 0
  · subst h0
    go_enter Tryz.func89, Tryz.ntmps89
    go_wp2
    exact bodyPost_ret (v := .tuple #[]) (by simp [results, Tryz.results89]) rfl ⟨rfl, Below.refl _ _⟩
  · have hc0 : ((c : Int) == 0) = false := by rw [beq_eq_false_iff_ne]; omega
    clear h0
    go_enter Tryz.func89, Tryz.ntmps89
    go_wp2_with fail
    refine (tableOf_any c hc _).mono ?_
    rintro e w1 ⟨cs, rfl, hsz, hget, hb1⟩
    have hs1 := hb1.size
    go_wp2_with (refine wpList_tab _ rfl (.tmp 6) (.tmp 11) rfl w1.heap.size c cs _ rfl rfl (heap_alloc_last w1 _) rfl hsz hget ?_; intro w2 hTb hg2)
    have hb2 : Below w.heap.size w w2 := by
      refine (hb1.trans ((Below.refl _ _).alloc hs1 _)).grown hg2 (by rw [nblk_alloc]; omega) (fun k hk => by simp at hk; omega)
    clear hg2 hTb hget hb1
    refine wp_loop_rounds 1 ?_
    rw [rounds_succ]
    go_wp2
    go_end0
    exact ⟨rfl, hb2⟩

theorem addTimes_nil (ad ao : Option Addr) (n m cap fcap c : Nat) (w : World) (hn : n = 0) (hm : m = 0) (hc : c < 256) :
    Calls Tryz.prog 89 #[.slice ad n cap, .slice ao m fcap, .int .u8 c] w fun e w' => e = .returned (.tuple #[]) ∧ Below w.heap.size w w' := by
  subst hn hm; exact addTimes_none ad ao cap fcap c w hc
/-- what has been added up at place k, when t shards are done -/
def acc (row : List Nat) (D : List (List Nat)) : Nat → Nat → Nat
  | 0, _ => 0
  | t + 1, k => acc row D t k ^^^ gm (row.getD t 0) ((D.getD t []).getD k 0)
def combTo (row : List Nat) (D : List (List Nat)) (n t : Nat) : List Nat := (List.range n).map (acc row D t)
theorem combTo_len (row : List Nat) (D : List (List Nat)) (n t : Nat) : (combTo row D n t).length = n := by simp [combTo]
theorem combTo_zero (row : List Nat) (D : List (List Nat)) (n : Nat) : combTo row D n 0 = List.replicate n 0 := by
  unfold combTo
  apply List.ext_getElem
  · simp
  · intro j h1 h2; simp [acc]
theorem acc_lt (row : List Nat) (D : List (List Nat)) (hr : ∀ x ∈ row, x < 256) (t k : Nat) : acc row D t k < 256 := by
  induction t with
  | zero => exact (by decide : (0 : Nat) < 256)
  | succ t ih => exact xlt ih (gm_lt _ (getD_lt hr t))
theorem combTo_lt (row : List Nat) (D : List (List Nat)) (hr : ∀ x ∈ row, x < 256) (n t : Nat) : ∀ x ∈ combTo row D n t, x < 256 := by
  intro x hx
  obtain ⟨k, _, rfl⟩ := List.mem_map.1 hx
  exact acc_lt row D hr t k
theorem combTo_get (row : List Nat) (D : List (List Nat)) (n t k : Nat) (hk : k < n) : (combTo row D n t).getD k 0 = acc row D t k := by simp [combTo, hk]
theorem combTo_step (row : List Nat) (D : List (List Nat)) (n t j : Nat) (hj : j < n) :
    tv (addTo (fun i => (combTo row D n t).getD i 0) (fun i => (D.getD t []).getD i 0) (row.getD t 0) 0 n) j = vb (combTo row D n (t + 1)) j := by
  unfold tv vb addTo
  rw [if_pos (by omega), combTo_get _ _ _ _ _ hj]
  show Value.int .u8 (((combTo row D n t).getD j 0 ^^^ gm (row.getD t 0) ((D.getD t []).getD (j - 0) 0) : Nat) : Int) = _
  rw [combTo_get _ _ _ _ _ hj, Nat.sub_zero]
  rfl
def CbR (w : World) (row : List Nat) (D : List (List Nat)) (n : Nat) (i : Value) (wr : World) : Prop :=
  ∃ t : Nat, t ≤ row.length ∧ i = .int .i64 t ∧ Brow wr w.heap.size (combTo row D n t) ∧ Below w.heap.size w wr
set_option maxRecDepth 100000 in
set_option maxHeartbeats 4000000 in
theorem combine_any (vr vd : Value) (row : List Nat) (D : List (List Nat)) (n : Nat) (w : World) (hr : Bs w vr row) (hd : Rd w vd D) (hn : n ≤ 4096) (hall : ∀ i (hi : i < D.length), (D[i]).length = n) (hlen : row.length = D.length) (hD : 0 < D.length) :
    Calls Tryz.prog 119 #[vr, vd] w fun e w' => ∃ b, e = .returned (.slice (some ⟨b, 0, none⟩) n n) ∧ w.heap.size ≤ b ∧ Brow w' b (combTo row D n D.length) ∧ Below w.heap.size w w' := by
  have hrx := hr.lt
  obtain ⟨ao, cr, rfl, h1, h2, _, h4⟩ := hr
  obtain ⟨rb, roff, rfl, hrc⟩ := h4 (by intro e; rw [e] at hlen; simp at hlen; omega)
  rcases hd.cases with ⟨rfl, _⟩ | ⟨b, off, c, rfl, hl, hc⟩
  · simp at hD
  have hrl : row.length ≤ 140737488355328 := by omega
  obtain ⟨u0, hu0, hB0⟩ := hc 0 hD
  obtain ⟨ao0, c0, rfl, l1, l2, _, _⟩ := hB0
  have hn0 := hall 0 hD
  rw [hn0] at hu0
  have HR := hide hrc
  have HC := hide hc
  have HA := hide hall
  have HLEN := hide hlen
  clear hrc hc hall hlen h1 h2 h4 hn0 l1 l2
  rw [Nat.add_zero] at hu0
  go_enter Tryz.func119, Tryz.ntmps119
  go_wp2_with (at_make; refine wpList_mk _ rfl (.tmp 11) (.tmp 11) rfl _ n rfl rfl rfl (by omega) ?_; intro w1 hB hb hz; clear hz)
  rw [← combTo_zero row D n] at hB
  clear hu0
  go_loopw [15] (fun i wr => CbR w row D n i wr) (fun i _ => row.length - (intOf i).toNat)
  case atStart => exact ⟨0, Nat.zero_le _, rfl, hB, hb⟩
  case round =>
    clear hB hb
    rename World => wo
    obtain ⟨t, ht, rfl, hBt, hbt⟩ := hrel
    have hso := hBt.lt
    by_cases hlt : t < row.length
    · have hltD : t < D.length := by rw [← HLEN.out]; exact hlt
      have c1 := HR.out t hlt
      have c1' : wo.cell? ⟨rb, roff + t, none⟩ = some (.int .u8 ((row.getD t 0 : Nat) : Int)) := by rw [hbt.cell (block_lt_of_cell c1)]; exact c1
      obtain ⟨u, hu, hBs⟩ := HC.out t hltD
      obtain ⟨fo, fc, rfl, q1, q2, q3, q4⟩ := hBs
      have hu' : wo.cell? ⟨b, off + t, none⟩ = some (.slice fo (D[t]).length fc) := by rw [hbt.cell (block_lt_of_cell hu)]; exact hu
      rw [HA.out t hltD] at hu'
      have hct := getD_lt hrx t
      have hgD : D.getD t [] = D[t] := by simp [hltD]
      have hstep := combTo_step row D n t
      rw [hgD] at hstep
      have hDt := HA.out t hltD
      have HD := hide hDt
      generalize D[t] = l at *
      generalize hrt : row.getD t 0 = x at *
      clear c1 hu hgD hrt hDt
      by_cases hn0 : n = 0
      · have hBt2 : Brow wo w.heap.size (combTo row D n (t + 1)) := by rw [hn0] at hBt ⊢; exact hBt
        have HN := hide hn0
        clear hstep q4 hBt hn0
        go_wp2_with fail
        refine (addTimes_nil _ _ _ _ _ _ x _ HN.out HN.out hct).mono ?_
        rintro e w2 ⟨rfl, hb2⟩
        have hB3 := hBt2.below hb2
        have hb3 := hbt.trans (hb2.mono (by omega))
        clear hBt2 hb2
        go_wp2
        go_roundw
        case rel => exact ⟨t + 1, by omega, by go_num, hB3, hb3⟩
        case measure => simp [intOf]; omega
      · obtain ⟨fb, foff, rfl, hfc⟩ := q4 (by intro e; rw [e] at HD; exact hn0 HD.out.symm)
        rw [HD.out] at hfc
        have hl0 : 0 < l.length := by rw [HD.out]; omega
        have hfb : fb < w.heap.size := block_lt_of_cell (hfc 0 (by omega))
        have hfc' : ∀ i, i < n → wo.cell? ⟨fb, foff + i, none⟩ = some (.int .u8 ((l.getD i 0 : Nat) : Int)) := fun i hi => by
          rw [hbt.cell (p := ⟨fb, foff + i, none⟩) hfb]; exact hfc i hi
        have hrow : wo.rowIs w.heap.size 5 n (tv (fun i => (combTo row D n t).getD i 0)) := by
          have := hBt
          unfold Brow at this
          rw [combTo_len] at this
          exact this
        have HS := hide hstep
        have HF := hide hfc'
        have HRW := hide hrow
        have hgl := fun j => getD_lt (combTo_lt row D hrx n t) j
        have hFl := fun j => getD_lt q3 j
        have HGL := hide hgl
        have HFL := hide hFl
        clear hstep hfc hfc' hrow hBt q4 hgl hFl hl0 HD
        go_wp2_with fail
        refine (addTimes_some w.heap.size 5 n 0 n n fb foff fc x (fun i => (combTo row D n t).getD i 0) (fun i => l.getD i 0) wo hct HRW.out HGL.out HFL.out (by omega) (by omega) HF.out (.inl (by omega))).mono ?_
        rintro e w2 ⟨rfl, hr2, hg2⟩
        have hB3 : Brow w2 w.heap.size (combTo row D n (t + 1)) := by
          unfold Brow
          rw [combTo_len]
          exact hr2.congr (fun j hj => HS.out j hj)
        have hb3 := grown_below hbt hg2 (by omega) (Nat.le_refl _)
        clear hr2 hg2 HS HF HRW HGL HFL
        go_wp2
        go_roundw
        case rel => exact ⟨t + 1, by omega, by go_num, hB3, hb3⟩
        case measure => simp [intOf]; omega
    · have htt : t = D.length := by rw [← HLEN.out]; omega
      rw [htt] at hBt
      clear htt
      go_wp2
      go_ret
      exact ⟨w.heap.size, rfl, Nat.le_refl _, hBt, hbt⟩
end Go.Proofs.YtogdeaaphdlchaaGreatDoor
/-
  Whether shards have all one length that is allowed.
-/
namespace Go.Proofs.YtogdeaaphdlchaaGreatDoor
open Go.RowKit Go.Deep Gf

def okRow (D : List (List Nat)) (l : List Nat) : Prop := l.length = (D.getD 0 []).length ∧ l.length ≤ 4096
def Fit (D : List (List Nat)) : Prop := ∀ i (hi : i < D.length), okRow D D[i]
def EvR (D : List (List Nat)) (i : Value) : Prop := ∃ k : Nat, k ≤ D.length ∧ i = .int .i64 k ∧ ∀ j (hj : j < D.length), j < k → okRow D D[j]
def EvPost (D : List (List Nat)) (w : World) (e : Ending) (w' : World) : Prop := ∃ r : Bool, e = .returned (.bool r) ∧ (r = true ↔ Fit D) ∧ w' = w
set_option maxRecDepth 100000 in
set_option maxHeartbeats 4000000 in
theorem even_any (vd : Value) (D : List (List Nat)) (w : World) (hd : Rd w vd D) (hD : 0 < D.length) :
    Calls Tryz.prog 118 #[vd] w fun e w' => EvPost D w e w' := by
  rcases hd.cases with ⟨rfl, _⟩ | ⟨b, off, c, rfl, hl, hc⟩
  · simp at hD
  obtain ⟨u0, hu0, hB0⟩ := hc 0 hD
  obtain ⟨ao0, c0, rfl, l1, l2, _, _⟩ := hB0
  have hg0 : (D.getD 0 []).length = (D[0]).length := by simp [hD]
  have hlen0 : (D[0]).length ≤ 140737488355328 := by omega
  rw [← hg0] at hu0 hlen0
  rw [Nat.add_zero] at hu0
  have HC := hide hc
  clear hc l1 l2 hg0
  go_enter Tryz.func118, Tryz.ntmps118
  go_wp2
  go_loop [7] (fun i => EvR D i) (fun i => D.length - (intOf i).toNat)
  case atStart => exact ⟨0, Nat.zero_le _, rfl, fun j hj h => absurd h (by omega)⟩
  case round =>
    obtain ⟨k, hk, rfl, hok⟩ := hrel
    by_cases hlt : k < D.length
    · obtain ⟨u, hu, hBs⟩ := HC.out k hlt
      obtain ⟨fo, fc, rfl, q1, q2, _, _⟩ := hBs
      have hlk : (D[k]).length ≤ 140737488355328 := by omega
      by_cases h1 : okRow D D[k]
      · have t1 : ((((D[k]).length : Nat) : Int) != (((D.getD 0 []).length : Nat) : Int)) = false := by rw [h1.1]; simp
        have t2 : ¬ (4096 : Int) < (((D[k]).length : Nat) : Int) := by have := h1.2; omega
        have HO : Hid (∀ j (hj : j < D.length), j < k + 1 → okRow D D[j]) := by
          intro j hj hjk
          by_cases e : j = k
          · subst e; exact h1
          · exact hok j hj (by omega)
        have h1' := h1.1
        generalize (D.getD 0 []).length = n0 at *
        generalize (D[k]).length = nk at *
        clear hok h1 h1' q1 q2
        go_wp2
        go_round
        case rel => exact ⟨k + 1, by omega, by go_num, HO.out⟩
        case measure => simp [intOf]; omega
      · have HN : Hid (¬ Fit D) := fun h => h1 (h k hlt)
        by_cases h2 : (D[k]).length = (D.getD 0 []).length
        · have t1 : ((((D[k]).length : Nat) : Int) != (((D.getD 0 []).length : Nat) : Int)) = false := by rw [h2]; simp
          have t2 : (4096 : Int) < (((D[k]).length : Nat) : Int) := by
            have : ¬ (D[k]).length ≤ 4096 := fun h => h1 ⟨h2, h⟩
            omega
          generalize (D.getD 0 []).length = n0 at *
          generalize (D[k]).length = nk at *
          clear hok h1 h2 q1 q2
          go_wp2
          go_ret
          exact ⟨false, rfl, ⟨fun h => by simp at h, fun h => absurd h HN.out⟩, rfl⟩
        · have t1 : ((((D[k]).length : Nat) : Int) != (((D.getD 0 []).length : Nat) : Int)) = true := by rw [bne_iff_ne]; omega
          generalize (D.getD 0 []).length = n0 at *
          generalize (D[k]).length = nk at *
          clear hok h1 h2 q1 q2
          go_wp2
          go_ret
          exact ⟨false, rfl, ⟨fun h => by simp at h, fun h => absurd h HN.out⟩, rfl⟩
    · have HF : Hid (Fit D) := fun i hi => hok i hi (by omega)
      clear hok
      go_wp2
      go_ret
      exact ⟨true, rfl, ⟨fun _ => HF.out, fun _ => rfl⟩, rfl⟩
end Go.Proofs.YtogdeaaphdlchaaGreatDoor
/-
  The walks of the document's Mul and Inv.
-/
namespace Go.Proofs.YtogdeaaphdlchaaGreatDoor
open Go.RowKit Gf
theorem nat_u8 {x : Int} (h : (Lit.int .u8 x).wf = true) : ∃ n : Nat, n < 256 ∧ x = (n : Int) := by
  have := bounds_u8 h
  exact ⟨x.toNat, by omega, by omega⟩
theorem bit_test (b k : Nat) (hb : b < 65536) : (bits .and .i64 ((b : Int) / 2 ^ k) 1 == 1) = decide (b / 2 ^ k % 2 = 1) := by
  have h : b / 2 ^ k < 2 ^ 62 := Nat.lt_of_le_of_lt (Nat.div_le_self _ _) (Nat.lt_trans hb (by decide))
  have e := i64_and (b / 2 ^ k) 1 h (by decide)
  rw [and1] at e
  have c : ((b / 2 ^ k : Nat) : Int) = (b : Int) / 2 ^ k := by simp
  rw [c, show ((1 : Nat) : Int) = 1 from rfl] at e
  rw [e, Bool.eq_iff_iff]
  simp
  omega
theorem pm_yes (a b k : Nat) (ha : a < 256) (hk : k < 8) (h : b / 2 ^ k % 2 = 1) :
    bits .xor .i64 (pm a b k : Int) (wrap64 ((a : Int) * 2 ^ k)) = (pm a b (k + 1) : Int) := by
  have h2 : 2 ^ k ≤ 2 ^ 7 := Nat.pow_le_pow_right (by decide) (by omega)
  have h3 : a * 2 ^ k ≤ 256 * 2 ^ 7 := Nat.mul_le_mul (by omega) h2
  have hp := pm_lt a b ha k (by omega)
  have e : wrap64 ((a : Int) * 2 ^ k) = ((a * 2 ^ k : Nat) : Int) := by
    have : ((a * 2 ^ k : Nat) : Int) = (a : Int) * 2 ^ k := by simp
    rw [← this]; unfold wrap64; omega
  rw [e, i64_xor _ _ (by omega) (by omega)]
  simp only [pm, h, if_true]
theorem pm_no (a b k : Nat) (h : ¬ b / 2 ^ k % 2 = 1) : (pm a b k : Int) = (pm a b (k + 1) : Int) := by
  simp only [pm, h, if_false]
theorem rd_lt (k p : Nat) (hk : k ≤ 6) (hp : p < 65536) : (if p / 2 ^ (k + 8) % 2 = 1 then p ^^^ (285 * 2 ^ k) else p) < 65536 := by
  split
  · refine Nat.xor_lt_two_pow (n := 16) hp ?_
    have h2 : 2 ^ k ≤ 2 ^ 6 := Nat.pow_le_pow_right (by decide) hk
    omega
  · exact hp
theorem rd_yes (k p : Nat) (hk : k ≤ 6) (hp : p < 65536) (h : p / 2 ^ (k + 8) % 2 = 1) :
    bits .xor .i64 (p : Int) (wrap64 (285 * 2 ^ k)) = ((if p / 2 ^ (k + 8) % 2 = 1 then p ^^^ (285 * 2 ^ k) else p : Nat) : Int) := by
  have h2 : 2 ^ k ≤ 2 ^ 6 := Nat.pow_le_pow_right (by decide) hk
  have e : wrap64 (285 * 2 ^ k) = ((285 * 2 ^ k : Nat) : Int) := by
    have : ((285 * 2 ^ k : Nat) : Int) = 285 * 2 ^ k := by simp
    rw [← this]; unfold wrap64; omega
  rw [if_pos h, e, i64_xor _ _ (by omega) (by omega)]
end Go.Proofs.YtogdeaaphdlchaaGreatDoor
/-
  The rows of the matrix, one by one.
-/
namespace Go.Proofs.YtogdeaaphdlchaaGreatDoor
open Go.RowKit Go.Deep Gf

/-- the rows of the matrix -/
def dataL (D i : Nat) : List Nat := (List.replicate D 0).set i 1
set_option maxRecDepth 100000 in
set_option maxHeartbeats 1000000 in
theorem dataRow_any (D L G i : Nat) (hD : D ≤ 12) (hi : i < D) (w : World) :
    Calls Tryz.prog 63 #[.agg #[.int .i64 D, .int .i64 L, .int .i64 G], .int .i64 i] w fun e w' => ∃ b, e = .returned (.slice (some ⟨b, 0, none⟩) D D) ∧ w.heap.size ≤ b ∧ Brow w' b (dataL D i) ∧ Below w.heap.size w w' := by
  go_enter Tryz.func63, Tryz.ntmps63
  go_wp2_with (at_make; refine wpList_mk _ rfl (.tmp 7) (.tmp 7) rfl D D rfl rfl rfl (by omega) ?_; intro w1 hB hb hz; rw [nblk_alloc] at hB hb hz; have hc := hB.cell i (by simpa using hi); have hf := hB.frozen i)
  go_ret
  refine ⟨w.heap.size + 1, rfl, by omega, ?_, ?_⟩
  · exact hB.set i 1
  · exact (((Below.refl _ _).alloc (Nat.le_refl _) _).trans (hb.mono (by omega))).setCell (by simp) _

def localL (D L g : Nat) : List Nat := (List.range D).map fun j => if g * (D / L) ≤ j ∧ j < (g + 1) * (D / L) then 1 else 0
/-- so many of them are set -/
def localTo (D s k : Nat) : List Nat := (List.range D).map fun j => if s ≤ j ∧ j < k then 1 else 0
theorem localTo_start (D s : Nat) : localTo D s s = List.replicate D 0 := by
  unfold localTo
  apply List.ext_getElem
  · simp
  · intro i h1 h2
    simp
theorem localTo_step (D s k : Nat) (hs : s ≤ k) : (localTo D s k).set k 1 = localTo D s (k + 1) := by
  unfold localTo
  apply List.ext_getElem
  · simp
  · intro i h1 h2
    simp [List.getElem_set]
    by_cases e : k = i
    · subst e; simp; omega
    · simp only [if_neg e]
      by_cases e2 : s ≤ i ∧ i < k
      · rw [if_pos e2, if_pos ⟨e2.1, by omega⟩]
      · rw [if_neg e2, if_neg (by omega)]
theorem group_le {D L g : Nat} (hdiv : D % L = 0) (hg : g < L) : (g + 1) * (D / L) ≤ D := by
  have h1 : (g + 1) * (D / L) ≤ L * (D / L) := Nat.mul_le_mul_right _ hg
  have h2 : L * (D / L) = D := Nat.mul_div_cancel' (Nat.dvd_of_mod_eq_zero hdiv)
  omega
set_option maxRecDepth 100000 in
set_option maxHeartbeats 1000000 in
theorem localRow_any (D L G g : Nat) (hD : D ≤ 12) (hL : 1 ≤ L) (hL4 : L ≤ 4) (hdiv : D % L = 0) (hg : g < L) (w : World) :
    Calls Tryz.prog 64 #[.agg #[.int .i64 D, .int .i64 L, .int .i64 G], .int .i64 g] w fun e w' => ∃ b, e = .returned (.slice (some ⟨b, 0, none⟩) D D) ∧ w.heap.size ≤ b ∧ Brow w' b (localL D L g) ∧ Below w.heap.size w w' := by
  have hle := group_le hdiv hg
  have hq : D / L ≤ D := Nat.div_le_self _ _
  have hfin : localL D L g = localTo D (g * (D / L)) ((g + 1) * (D / L)) := rfl
  have e1 : wrap64 ((D : Int) / (L : Int)) = ((D / L : Nat) : Int) := by
    rw [← Int.natCast_ediv]; exact wrap64_nat (by omega)
  generalize D / L = q at *
  have hgq : g * q ≤ (g + 1) * q := Nat.mul_le_mul_right _ (by omega)
  have e2 : wrap64 ((g : Int) * (q : Int)) = ((g * q : Nat) : Int) := by
    rw [← Int.natCast_mul]; unfold wrap64; omega
  have e3 : wrap64 (((g : Int) + 1) * (q : Int)) = (((g + 1) * q : Nat) : Int) := by
    have : ((g : Int) + 1) * (q : Int) = (((g + 1) * q : Nat) : Int) := by push_cast; rfl
    rw [this]; unfold wrap64; omega
  generalize g * q = s at *
  generalize (g + 1) * q = t at *
  have HF := hide hfin
  clear hfin
  go_enter Tryz.func64, Tryz.ntmps64
  go_wp2_with (at_make; refine wpList_mk _ rfl (.tmp 9) (.tmp 9) rfl D D rfl rfl rfl (by omega) ?_; intro w1 hB hb hz; rw [nblk_alloc] at hB hb hz; have hp := hb.cell (p := ⟨w.heap.size, 0, none⟩) (by simp); have hp1 := hb.cell (p := ⟨w.heap.size, 1, none⟩) (by simp))
  rw [← localTo_start D s] at hB
  go_loopw [7] (fun i wr => ∃ k : Nat, s ≤ k ∧ k ≤ t ∧ i = .int .i64 k ∧ Brow wr (w.heap.size + 1) (localTo D s k) ∧ Below w.heap.size w wr) (fun i _ => t - (intOf i).toNat)
  case atStart => exact ⟨s, Nat.le_refl _, hgq, by rw [e2], hB, ((Below.refl _ _).alloc (Nat.le_refl _) _).trans (hb.mono (by omega))⟩
  case round =>
    obtain ⟨k, hk1, hk2, rfl, hBk, hbk⟩ := hrel
    clear hB hb hp hp1
    by_cases hlt : k < t
    · have hc := hBk.cell k (by simp [localTo]; omega)
      have hf := hBk.frozen k
      have hB2 := hBk.set k 1
      rw [localTo_step _ _ _ hk1] at hB2
      have hb2 := hbk.setCell (p := ⟨w.heap.size + 1, k, none⟩) (by simp) (.int .u8 1)
      go_wp2
      go_roundw
      case rel => exact ⟨k + 1, by omega, by omega, by go_num, hB2, hb2⟩
      case measure => simp [intOf]; omega
    · have hkt : k = t := by omega
      subst hkt
      go_wp2
      go_ret
      exact ⟨w.heap.size + 1, rfl, by omega, by rw [HF.out]; exact hBk, hbk⟩

def globalL (D i : Nat) : List Nat := (List.range D).map fun j => gi ((D + i) ^^^ j)
def globalTo (D i k : Nat) : List Nat := (List.range D).map fun j => if j < k then gi ((D + i) ^^^ j) else 0
theorem globalTo_start (D i : Nat) : globalTo D i 0 = List.replicate D 0 := by
  unfold globalTo
  apply List.ext_getElem
  · simp
  · intro j h1 h2
    simp
theorem globalTo_end (D i : Nat) : globalTo D i D = globalL D i := by
  unfold globalTo globalL
  apply List.ext_getElem
  · simp
  · intro j h1 h2
    simp at h1
    simp [h1]
theorem globalTo_step (D i k : Nat) : (globalTo D i k).set k (gi ((D + i) ^^^ k)) = globalTo D i (k + 1) := by
  unfold globalTo
  apply List.ext_getElem
  · simp
  · intro j h1 h2
    simp [List.getElem_set]
    by_cases e : k = j
    · subst e; simp
    · simp only [if_neg e]
      by_cases e2 : j < k
      · rw [if_pos e2, if_pos (by omega)]
      · rw [if_neg e2, if_neg (by omega)]
theorem xor_cell (D i j : Nat) (hD : D ≤ 12) (hi : i ≤ 4) (hj : j < D) : (D + i) ^^^ j < 256 ∧ bits .xor .i64 ((D : Int) + (i : Int)) (j : Int) = (((D + i) ^^^ j : Nat) : Int) := by
  refine ⟨xlt (by omega) (by omega), ?_⟩
  have := i64_xor (D + i) j (by omega) (by omega)
  rw [← this]
  congr 1
set_option maxRecDepth 100000 in
set_option maxHeartbeats 1000000 in
theorem globalRow_any (D L G i : Nat) (hD : D ≤ 12) (hi : i ≤ 4) (w : World) :
    Calls Tryz.prog 65 #[.agg #[.int .i64 D, .int .i64 L, .int .i64 G], .int .i64 i] w fun e w' => ∃ b, e = .returned (.slice (some ⟨b, 0, none⟩) D D) ∧ w.heap.size ≤ b ∧ Brow w' b (globalL D i) ∧ Below w.heap.size w w' := by
  go_enter Tryz.func65, Tryz.ntmps65
  go_wp2_with (at_make; refine wpList_mk _ rfl (.tmp 8) (.tmp 8) rfl D D rfl rfl rfl (by omega) ?_; intro w1 hB hb hz; rw [nblk_alloc] at hB hb hz; have hp := hb.cell (p := ⟨w.heap.size, 0, none⟩) (by simp))
  rw [← globalTo_start D i] at hB
  simp at hp
  go_loopw [12] (fun j wr => ∃ k : Nat, k ≤ D ∧ j = .int .i64 k ∧ Brow wr (w.heap.size + 1) (globalTo D i k) ∧ wr.cell? ⟨w.heap.size, 0, none⟩ = some (.int .i64 D) ∧ Below w.heap.size w wr) (fun j _ => D - (intOf j).toNat)
  case atStart => exact ⟨0, Nat.zero_le _, rfl, hB, hp, ((Below.refl _ _).alloc (Nat.le_refl _) _).trans (hb.mono (by omega))⟩
  case round =>
    obtain ⟨k, hk, rfl, hBk, hpk, hbk⟩ := hrel
    clear hB hb hp
    by_cases hlt : k < D
    · have hc := hBk.cell k (by simp [globalTo]; omega)
      have hf := hBk.frozen k
      obtain ⟨hx1, hx2⟩ := xor_cell D i k hD hi hlt
      have hB2 := hBk.set k (gi ((D + i) ^^^ k))
      rw [globalTo_step] at hB2
      have hb2 := hbk.setCell (p := ⟨w.heap.size + 1, k, none⟩) (by simp) (.int .u8 (gi ((D + i) ^^^ k)))
      have hp2 : (wr.setCell ⟨w.heap.size + 1, k, none⟩ (.int .u8 (gi ((D + i) ^^^ k)))).cell? ⟨w.heap.size, 0, none⟩ = some (.int .i64 D) := by rw [← hpk]; exact World.cell?_of_block (blk_setCell_other _ _ _ _ (by simp))
      generalize (D + i) ^^^ k = x at *
      have hx3 : (x : Int) < 256 := by omega
      go_wp2_with (go_at_call 88; refine (inv_any x hx1 _).mono ?_; rintro e w' ⟨rfl, rfl⟩)
      go_roundw
      case rel => exact ⟨k + 1, by omega, by go_num, hB2, hp2, hb2⟩
      case measure => simp [intOf]; omega
    · have hkt : k = D := by omega
      subst hkt
      rw [globalTo_end] at hBk
      go_wp2
      go_ret
      exact ⟨w.heap.size + 1, rfl, by omega, hBk, hbk⟩
end Go.Proofs.YtogdeaaphdlchaaGreatDoor
/-
  The program's matrix.
-/
namespace Go.Proofs.YtogdeaaphdlchaaGreatDoor
open Go.RowKit Go.Deep Gf

/-- the whole matrix, by its rows -/
def matL (D L G : Nat) : List (List Nat) := (List.range D).map (dataL D) ++ (List.range L).map (localL D L) ++ (List.range G).map (globalL D)
/-- what a list of rows holds: rows of D bytes each -/
def Holds (T : List (Nat × Nat × List Nat)) (D : Nat) (M : List (List Nat)) : Prop := T.map (fun p => p.2) = M.map (fun r => (D, r))
theorem Holds.push {T : List (Nat × Nat × List Nat)} {D : Nat} {M : List (List Nat)} (h : Holds T D M) (b : Nat) (r : List Nat) : Holds (T ++ [(b, D, r)]) D (M ++ [r]) := by
  unfold Holds at *
  simp [h]
theorem Holds.length {T : List (Nat × Nat × List Nat)} {D : Nat} {M : List (List Nat)} (h : Holds T D M) : T.length = M.length := by
  have := congrArg List.length h
  simpa using this
theorem dataL_ok (D i : Nat) : (dataL D i).length = D ∧ ∀ x ∈ dataL D i, x < 256 := by
  refine ⟨by simp [dataL], fun x hx => ?_⟩
  rcases List.mem_or_eq_of_mem_set hx with h | h
  · have := List.eq_of_mem_replicate h; omega
  · omega
theorem localL_ok (D L g : Nat) : (localL D L g).length = D ∧ ∀ x ∈ localL D L g, x < 256 := by
  refine ⟨by simp [localL], fun x hx => ?_⟩
  obtain ⟨j, _, rfl⟩ := List.mem_map.1 hx
  split <;> decide
theorem globalL_ok (D i : Nat) (hD : D ≤ 12) (hi : i ≤ 4) : (globalL D i).length = D ∧ ∀ x ∈ globalL D i, x < 256 := by
  refine ⟨by simp [globalL], fun x hx => ?_⟩
  obtain ⟨j, hj, rfl⟩ := List.mem_map.1 hx
  exact gi_lt (xlt (by omega) (by have := List.mem_range.1 hj; omega))

/-- an append of a new row -/
theorem Tab.append {w w1 w2 : World} {base : Nat} {v v' : Value} {T : List (Nat × Nat × List Nat)} {b D : Nat} {r : List Nat} {o : Obj} (h : Tab w base v T) (hb : Below w.heap.size w w1) (hbase : base ≤ w.heap.size) (hb1 : w.heap.size ≤ b) (hB : Brow w1 b r) (hr : r.length = D ∧ ∀ x ∈ r, x < 256) (hD : D ≤ 1000000)
    (hg : (w1.alloc o).grownBy w2 v.ownBlock) (hown : w2.ownsRow base 166 1 v' (T.length + 1) (T.map hdr ++ [.slice (some ⟨b, 0, none⟩) D D])) : Tab w2 base v' (T ++ [(b, D, r)]) := by
  have h1 := (h.below hb).alloc o
  refine h1.push hg (p := (b, D, r)) ?_ ⟨by show base ≤ b; omega, hB.alloc o, by show D ≤ r.length; omega, ⟨by show D ≤ 140737488355328; omega, by show r.length ≤ 9223372036854775807; omega⟩, hr.2⟩ ?_
  · have e : hdr (b, D, r) = .slice (some ⟨b, 0, none⟩) D D := by unfold hdr; simp [hr.1]
    rw [e]; exact hown
  · intro q hq
    have := (h.row q hq).2.1.lt
    show q.1 ≠ b
    omega
theorem box_cells {w wx : World} {a b c : Value} {t : TypeId} (h : Below (w.heap.size + 1) (w.alloc (.cells #[a, b, c] t)) wx) :
    wx.cell? ⟨w.heap.size, 0, none⟩ = some a ∧ wx.cell? ⟨w.heap.size, 1, none⟩ = some b ∧ wx.cell? ⟨w.heap.size, 2, none⟩ = some c := by
  have p0 := h.cell (p := ⟨w.heap.size, 0, none⟩) (by simp)
  have p1 := h.cell (p := ⟨w.heap.size, 1, none⟩) (by simp)
  have p2 := h.cell (p := ⟨w.heap.size, 2, none⟩) (by simp)
  rw [World.cell?_alloc_at _ _ _ _ rfl] at p0 p1 p2
  exact ⟨p0, p1, p2⟩
theorem below_made {B : Nat} {w0 wa wb wc : World} (ha : Below B w0 wa) (hB : B ≤ wa.heap.size) (hb : Below wa.heap.size wa wb) (hg : wb.grownBy wc none) : Below B w0 wc :=
  (ha.trans (hb.mono hB)).grown hg (by have := hb.size; omega) (fun k hk => by simp at hk)
theorem Tab.made {wc : World} {base g cap : Nat} (h : wc.ownsRow base 166 1 (.slice (some ⟨g, 0, none⟩) 0 cap) 0 []) : Tab wc base (.slice (some ⟨g, 0, none⟩) 0 cap) [] :=
  ⟨h, fun p hp => by simp at hp, by simp⟩
theorem Holds.nil (D : Nat) : Holds [] D [] := rfl
theorem range_snoc {α : Type} (f : Nat → α) (k : Nat) : (List.range (k + 1)).map f = (List.range k).map f ++ [f k] := by
  rw [List.range_succ, List.map_append]; rfl
set_option maxRecDepth 100000 in
set_option maxHeartbeats 4000000 in
theorem matrix_right (D L G : Nat) (hr : rightB D L G = true) (hD : D ≤ 12) (hL : 1 ≤ L) (hL4 : L ≤ 4) (hG : G ≤ 4) (hdiv : D % L = 0) (w : World) :
    Calls Tryz.prog 46 #[.agg #[.int .i64 D, .int .i64 L, .int .i64 G]] w fun e w' => ∃ v T, e = .returned (.tuple #[v, .nilIface]) ∧ Tab w' (w.heap.size + 1) v T ∧ Holds T D (matL D L G) ∧ Below w.heap.size w w' := by
  obtain ⟨i0, hi0, hz0, hz1, hz2⟩ := info_parts Tryz.infoBytes
  go_enter Tryz.func46, Tryz.ntmps46
  go_wp2_with fail
  refine (right_any D L G _).mono ?_
  rintro e wa ⟨rfl, hba⟩
  rw [nblk_alloc] at hba
  have hsa := hba.size
  rw [nblk_alloc] at hsa
  obtain ⟨p0, p1, p2⟩ := box_cells hba
  go_wp2_with fail
  refine (shards_any D L G _ (by omega) (by omega) (by omega)).mono ?_
  rintro e wb ⟨rfl, hbb⟩
  have hsb := hbb.size
  clear p0 p1 p2
  go_wp2_with (at_make; refine wpList_make_own _ rfl (.const (.int .i64 0)) (.tmp 13) 132 rfl (w.heap.size + 1) 166 i0 (.slice none 0 0) 1 Tryz.underlying132 hi0 hz0 hz1 .i64 .i64 (D + L + G) (D + L + G) rfl rfl (by omega) (by rw [hz2]; omega) (by unfold maxLen; omega) (by omega) ?_; intro wc hown hgr; have hbc := below_made hba hsa hbb hgr; obtain ⟨p0, p1, p2⟩ := box_cells hbc)
  have hT := Tab.made hown
  have hsc := hgr.size
  clear hown hgr hba hbb
  generalize Value.slice (some ⟨wb.heap.size, 0, none⟩) 0 (D + L + G) = v0 at *
  go_loopw [4, 17] (fun v i wr => ∃ k T, k ≤ D ∧ i = .int .i64 (k : Nat) ∧ Tab wr (w.heap.size + 1) v T ∧ Holds T D ((List.range k).map (dataL D)) ∧ Below (w.heap.size + 1) (w.alloc (.cells #[.int .i64 D, .int .i64 L, .int .i64 G] 23)) wr ∧ w.heap.size + 1 ≤ wr.heap.size) (fun _ i _ => D - (intOf i).toNat)
  case atStart => exact ⟨0, [], Nat.zero_le _, rfl, hT, Holds.nil D, hbc, by omega⟩
  case round =>
    clear hT hbc p0 p1 p2
    obtain ⟨k, T, hk, rfl, hT, hH, hbr, hs⟩ := hrel
    obtain ⟨p0, p1, p2⟩ := box_cells hbr
    by_cases hlt : k < D
    · have hlen := hH.length
      rw [List.length_map, List.length_range] at hlen
      have hlt12 : T.length ≤ 12 := by omega
      clear hlen
      have HH := hide hH
      clear hH
      go_wp2_with fail
      refine (dataRow_any D L G k hD hlt _).mono ?_
      rintro e w1 ⟨b, rfl, hb1, hB1, hbel⟩
      have hs1 := hbel.size
      go_wp2_with (at_builtin; refine wpList_append_own _ rfl (.tmp 20) (.tmp 24) 132 rfl (w.heap.size + 1) 166 i0 (.slice none 0 0) 1 24 Tryz.underlying132 hi0 hz0 hz1 hz2 rfl (by decide) _ T.length (T.map hdr) rfl ((hT.below hbel).alloc _).own ⟨w1.heap.size, 0, none⟩ 1 1 [.slice (some ⟨b, 0, none⟩) D D] rfl rfl (cell_one_new _ _ _) (by simp [Value.oneCell']) (by unfold maxLen; omega) (by omega) (by rw [nblk_alloc]; omega) ?_; intro v' w2 hown' hgrow hnn)
      have hT2 := Tab.append hT hbel hs hb1 hB1 (dataL_ok D k) (by omega) hgrow hown'
      have hb2 := below_append hT hbr hbel hs hgrow
      have hs2 := hgrow.size
      rw [nblk_alloc] at hs2
      clear hT hown' hgrow hnn hB1 hbel hbr
      go_roundw
      case rel => exact ⟨k + 1, _, by omega, by go_num, hT2, by rw [range_snoc]; exact HH.out.push b _, hb2, by omega⟩
      case measure => simp [intOf]; omega
    · have hkD : D = k := by omega
      clear hlt hk
      subst hkD
      have HH := hide hH
      clear hH
      go_wp2_with fail
      go_loopw [4, 29] (fun v i wr => ∃ k T, k ≤ L ∧ i = .int .i64 (k : Nat) ∧ Tab wr (w.heap.size + 1) v T ∧ Holds T D ((List.range D).map (dataL D) ++ (List.range k).map (localL D L)) ∧ Below (w.heap.size + 1) (w.alloc (.cells #[.int .i64 D, .int .i64 L, .int .i64 G] 23)) wr ∧ w.heap.size + 1 ≤ wr.heap.size) (fun _ i _ => L - (intOf i).toNat)
      case atStart => exact ⟨0, T, Nat.zero_le _, rfl, hT, by rw [List.range_zero, List.map_nil, List.append_nil]; exact HH.out, hbr, hs⟩
      case round =>
        clear hT hbr p0 p1 p2 HH hs
        obtain ⟨k, T, hk, rfl, hT, hH, hbr, hs⟩ := hrel
        obtain ⟨p0, p1, p2⟩ := box_cells hbr
        by_cases hlt : k < L
        · have hlen := hH.length
          simp only [List.length_append, List.length_map, List.length_range] at hlen
          have hlt12 : T.length ≤ 20 := by omega
          clear hlen
          have HH := hide hH
          clear hH
          go_wp2_with fail
          refine (localRow_any D L G k hD hL hL4 hdiv hlt _).mono ?_
          rintro e w1 ⟨b, rfl, hb1, hB1, hbel⟩
          have hs1 := hbel.size
          go_wp2_with (at_builtin; refine wpList_append_own _ rfl (.tmp 32) (.tmp 36) 132 rfl (w.heap.size + 1) 166 i0 (.slice none 0 0) 1 24 Tryz.underlying132 hi0 hz0 hz1 hz2 rfl (by decide) _ T.length (T.map hdr) rfl ((hT.below hbel).alloc _).own ⟨w1.heap.size, 0, none⟩ 1 1 [.slice (some ⟨b, 0, none⟩) D D] rfl rfl (cell_one_new _ _ _) (by simp [Value.oneCell']) (by unfold maxLen; omega) (by omega) (by rw [nblk_alloc]; omega) ?_; intro v' w2 hown' hgrow hnn)
          have hT2 := Tab.append hT hbel hs hb1 hB1 (localL_ok D L k) (by omega) hgrow hown'
          have hb2 := below_append hT hbr hbel hs hgrow
          have hs2 := hgrow.size
          rw [nblk_alloc] at hs2
          clear hT hown' hgrow hnn hB1 hbel hbr
          go_roundw
          case rel => exact ⟨k + 1, _, by omega, by go_num, hT2, by rw [range_snoc, ← List.append_assoc]; exact HH.out.push b _, hb2, by omega⟩
          case measure => simp [intOf]; omega
        · have hkD : L = k := by omega
          clear hlt hk
          subst hkD
          have HH := hide hH
          clear hH
          go_wp2_with fail
          go_loopw [4, 41] (fun v i wr => ∃ k T, k ≤ G ∧ i = .int .i64 (k : Nat) ∧ Tab wr (w.heap.size + 1) v T ∧ Holds T D (((List.range D).map (dataL D) ++ (List.range L).map (localL D L)) ++ (List.range k).map (globalL D)) ∧ Below (w.heap.size + 1) (w.alloc (.cells #[.int .i64 D, .int .i64 L, .int .i64 G] 23)) wr ∧ w.heap.size + 1 ≤ wr.heap.size) (fun _ i _ => G - (intOf i).toNat)
          case atStart => exact ⟨0, T, Nat.zero_le _, rfl, hT, by rw [List.range_zero, List.map_nil, List.append_nil]; exact HH.out, hbr, hs⟩
          case round =>
            clear hT hbr p0 p1 p2 HH hs
            obtain ⟨k, T, hk, rfl, hT, hH, hbr, hs⟩ := hrel
            obtain ⟨p0, p1, p2⟩ := box_cells hbr
            by_cases hlt : k < G
            · have hlen := hH.length
              simp only [List.length_append, List.length_map, List.length_range] at hlen
              have hlt12 : T.length ≤ 20 := by omega
              clear hlen
              have HH := hide hH
              clear hH
              go_wp2_with fail
              refine (globalRow_any D L G k hD (by omega) _).mono ?_
              rintro e w1 ⟨b, rfl, hb1, hB1, hbel⟩
              have hs1 := hbel.size
              go_wp2_with (at_builtin; refine wpList_append_own _ rfl (.tmp 44) (.tmp 48) 132 rfl (w.heap.size + 1) 166 i0 (.slice none 0 0) 1 24 Tryz.underlying132 hi0 hz0 hz1 hz2 rfl (by decide) _ T.length (T.map hdr) rfl ((hT.below hbel).alloc _).own ⟨w1.heap.size, 0, none⟩ 1 1 [.slice (some ⟨b, 0, none⟩) D D] rfl rfl (cell_one_new _ _ _) (by simp [Value.oneCell']) (by unfold maxLen; omega) (by omega) (by rw [nblk_alloc]; omega) ?_; intro v' w2 hown' hgrow hnn)
              have hT2 := Tab.append hT hbel hs hb1 hB1 (globalL_ok D k hD (by omega)) (by omega) hgrow hown'
              have hb2 := below_append hT hbr hbel hs hgrow
              have hs2 := hgrow.size
              rw [nblk_alloc] at hs2
              clear hT hown' hgrow hnn hB1 hbel hbr
              go_roundw
              case rel => exact ⟨k + 1, _, by omega, by go_num, hT2, by rw [range_snoc, ← List.append_assoc]; exact HH.out.push b _, hb2, by omega⟩
              case measure => simp [intOf]; omega
            · have hkD : G = k := by omega
              clear hlt hk
              subst hkD
              have HH := hide hH
              clear hH
              go_wp2
              go_ret2
              refine ⟨_, T, rfl, hT, HH.out, ?_⟩
              exact ((Below.refl _ _).alloc (Nat.le_refl _) _).trans (hbr.mono (by omega))
end Go.Proofs.YtogdeaaphdlchaaGreatDoor
/-
  The document's matrix.
-/
namespace Go.Proofs.YtogdeaaphdlchaaGreatDoor
open Go.RowKit Go.Deep Gf

set_option maxRecDepth 100000 in
set_option maxHeartbeats 4000000 in
theorem matrix_wrong (D L G : Int) (hr : rightB D L G = false) (w : World) :
    Calls Tryz.prog 46 #[.agg #[.int .i64 D, .int .i64 L, .int .i64 G]] w fun e w' => e = .returned (.tuple #[.slice none 0 0, .iface 34 (.int .i64 1)]) ∧ Below w.heap.size w w' := by
  go_enter Tryz.func46, Tryz.ntmps46
  go_wp2_with fail
  refine (right_any D L G _).mono ?_
  rintro e wa ⟨rfl, hba⟩
  rw [nblk_alloc] at hba
  obtain ⟨p0, p1, p2⟩ := box_cells hba
  go_wp2
  go_ret2
  exact ⟨rfl, ((Below.refl _ _).alloc (Nat.le_refl _) _).trans (hba.mono (by omega))⟩
/-- what holds at each round's head of a loop that appends rows -/
def MRel (w0 : World) (base D N : Nat) (M : Nat → List (List Nat)) (v i : Value) (wr : World) : Prop :=
  ∃ k T, k ≤ N ∧ i = .int .i64 (k : Nat) ∧ Tab wr base v T ∧ Holds T D (M k) ∧ Below base w0 wr ∧ base ≤ wr.heap.size
end Go.Proofs.YtogdeaaphdlchaaGreatDoor
/-
  The law's own function that holds two lists of rows against each other, and writes into each row of the first.
-/
namespace Go.Proofs.YtogdeaaphdlchaaGreatDoor
open Go.RowKit Go.Deep Gf

/-- the first i rows are written into -/
def stg (L : List (Nat × Nat × List Nat)) (i : Nat) : List (Nat × Nat × List Nat) :=
  (List.range L.length).map fun j => if j < i then ((L.getD j (0, 0, [])).1, (L.getD j (0, 0, [])).2.1, xr ((j + 1) % 256) (L.getD j (0, 0, [])).2.2) else L.getD j (0, 0, [])
theorem stg_len (L : List (Nat × Nat × List Nat)) (i : Nat) : (stg L i).length = L.length := by simp [stg]
theorem stg_zero (L : List (Nat × Nat × List Nat)) : stg L 0 = L := by
  unfold stg
  apply List.ext_getElem
  · simp
  · intro j h1 h2; simp [h2]
theorem stg_ge (L : List (Nat × Nat × List Nat)) (i j : Nat) (hj : j < L.length) (h : i ≤ j) (h' : j < (stg L i).length) : (stg L i)[j] = L[j] := by
  simp [stg, hj, Nat.not_lt.2 h]
theorem stg_lt (L : List (Nat × Nat × List Nat)) (i j : Nat) (hj : j < L.length) (h : j < i) (h' : j < (stg L i).length) : (stg L i)[j] = (L[j].1, L[j].2.1, xr ((j + 1) % 256) L[j].2.2) := by
  simp [stg, hj, h]
theorem stg_step (L : List (Nat × Nat × List Nat)) (i : Nat) (hi : i < L.length) : (stg L i).set i (L[i].1, L[i].2.1, xr ((i + 1) % 256) L[i].2.2) = stg L (i + 1) := by
  apply List.ext_getElem
  · simp [stg]
  · intro j h1 h2
    have hj : j < L.length := by simpa [stg] using h2
    rw [List.getElem_set]
    by_cases e : i = j
    · subst e; rw [if_pos rfl, stg_lt L _ _ hi (by omega)]
    · rw [if_neg e]
      by_cases e2 : j < i
      · rw [stg_lt L _ _ hj e2, stg_lt L _ _ hj (by omega)]
      · rw [stg_ge L _ _ hj (by omega), stg_ge L _ _ hj (by omega)]
theorem stg_fst (L : List (Nat × Nat × List Nat)) (i : Nat) : ∀ p ∈ stg L i, ∃ q ∈ L, p.1 = q.1 := by
  intro p hp
  obtain ⟨j, hj, rfl⟩ := List.mem_iff_getElem.1 hp
  have hj' : j < L.length := by simpa [stg] using hj
  refine ⟨L[j], List.getElem_mem hj', ?_⟩
  by_cases e : j < i
  · rw [stg_lt L _ _ hj' e]
  · rw [stg_ge L _ _ hj' (by omega)]
theorem Tab.drew {w : World} {base : Nat} {v : Value} {L : List (Nat × Nat × List Nat)} (h : Tab w base v L) (n : Nat) : Tab (w.drewN n) base v L :=
  h.below ⟨rfl, rfl, rfl, Nat.le_refl _, fun _ _ => rfl⟩
/-- the same bytes, row by row -/
def Alikes (K L : List (Nat × Nat × List Nat)) : Prop := K.map (fun p => p.2.2.take p.2.1) = L.map (fun p => p.2.2.take p.2.1)
theorem Alikes.len {K L : List (Nat × Nat × List Nat)} (h : Alikes K L) : K.length = L.length := by simpa using congrArg List.length h
theorem Alikes.at {K L : List (Nat × Nat × List Nat)} (h : Alikes K L) {i : Nat} (h1 : i < K.length) (h2 : i < L.length) : K[i].2.2.take K[i].2.1 = L[i].2.2.take L[i].2.1 := by
  have := List.getElem_of_eq h (i := i) (by simpa using h1)
  simpa using this

theorem Tab.le_max {w : World} {base : Nat} {v : Value} {L : List (Nat × Nat × List Nat)} (h : Tab w base v L) : L.length ≤ maxLen := by
  rcases h.shape with ⟨rfl, rfl⟩ | ⟨g, cap, rfl, _, h2, h3, _⟩
  · exact Nat.zero_le _
  · omega
def SA1 (w : World) (B base base' : Nat) (va vb : Value) (K L : List (Nat × Nat × List Nat)) (i : Value) (wr : World) : Prop :=
  ∃ k : Nat, k ≤ K.length ∧ i = .int .i64 k ∧ Tab wr base va (stg K k) ∧ Tab wr base' vb L ∧ Below B w wr ∧ B ≤ wr.heap.size
end Go.Proofs.YtogdeaaphdlchaaGreatDoor
