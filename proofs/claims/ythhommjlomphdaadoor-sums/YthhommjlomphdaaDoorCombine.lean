/-
  Shards are added up, each times its number.
-/
import Derived.Test.YthhommjlomphdaaDoorAddTimes
import Derived.Test.YthhommjlomphdaaDoorRooms
namespace Go.Proofs.YthhommjlomphdaaDoor
open Go.RowKit Go.Deep Gf

set_option maxRecDepth 100000 in
set_option maxHeartbeats 4000000 in
theorem addTimes_none (ad ao : Option Addr) (cap fcap c : Nat) (w : World) (hc : c < 256) :
    Calls Tryd.prog 67 #[.slice ad 0 cap, .slice ao 0 fcap, .int .u8 c] w fun e w' => e = .returned (.tuple #[]) ∧ Below w.heap.size w w' := by
  by_cases h0 : c = 0
  · subst h0
    go_enter Tryd.func67, Tryd.ntmps67
    go_wp2
    exact bodyPost_ret (v := .tuple #[]) (by simp [results, Tryd.results67]) rfl ⟨rfl, Below.refl _ _⟩
  · have hc0 : ((c : Int) == 0) = false := by rw [beq_eq_false_iff_ne]; omega
    clear h0
    go_enter Tryd.func67, Tryd.ntmps67
    go_wp2_with fail
    refine (tableOf_any c hc _).mono ?_
    rintro e w1 ⟨cs, rfl, hsz, hget, hb1⟩
    have hs1 := hb1.size
    go_wp2_with (refine wpList_tab _ rfl (.tmp 6) (.tmp 11) rfl w1.heap.size c cs _ rfl rfl (heap_alloc_last w1 _) rfl hsz hget ?_; intro w2 hTb hg2)
    have hb2 : Below w.heap.size w w2 := by
      refine (hb1.trans ((Below.refl _ _).alloc hs1 _)).grown hg2 (by rw [nblk_alloc]; omega) (fun k hk => by simp at hk; omega)
    clear hg2 hTb hget hb1
    refine wp_loop_rounds 1 ?_
    rw [rounds_succ]
    go_wp2
    go_end0
    exact ⟨rfl, hb2⟩

theorem addTimes_nil (ad ao : Option Addr) (n m cap fcap c : Nat) (w : World) (hn : n = 0) (hm : m = 0) (hc : c < 256) :
    Calls Tryd.prog 67 #[.slice ad n cap, .slice ao m fcap, .int .u8 c] w fun e w' => e = .returned (.tuple #[]) ∧ Below w.heap.size w w' := by
  subst hn hm; exact addTimes_none ad ao cap fcap c w hc
/-- what has been added up at place k, when t shards are done -/
def acc (row : List Nat) (D : List (List Nat)) : Nat → Nat → Nat
  | 0, _ => 0
  | t + 1, k => acc row D t k ^^^ gm (row.getD t 0) ((D.getD t []).getD k 0)
def combTo (row : List Nat) (D : List (List Nat)) (n t : Nat) : List Nat := (List.range n).map (acc row D t)
theorem combTo_len (row : List Nat) (D : List (List Nat)) (n t : Nat) : (combTo row D n t).length = n := by simp [combTo]
theorem combTo_zero (row : List Nat) (D : List (List Nat)) (n : Nat) : combTo row D n 0 = List.replicate n 0 := by
  unfold combTo
  apply List.ext_getElem
  · simp
  · intro j h1 h2; simp [acc]
theorem acc_lt (row : List Nat) (D : List (List Nat)) (hr : ∀ x ∈ row, x < 256) (t k : Nat) : acc row D t k < 256 := by
  induction t with
  | zero => exact (by decide : (0 : Nat) < 256)
  | succ t ih => exact xlt ih (gm_lt _ (getD_lt hr t))
theorem combTo_lt (row : List Nat) (D : List (List Nat)) (hr : ∀ x ∈ row, x < 256) (n t : Nat) : ∀ x ∈ combTo row D n t, x < 256 := by
  intro x hx
  obtain ⟨k, _, rfl⟩ := List.mem_map.1 hx
  exact acc_lt row D hr t k
theorem combTo_get (row : List Nat) (D : List (List Nat)) (n t k : Nat) (hk : k < n) : (combTo row D n t).getD k 0 = acc row D t k := by simp [combTo, hk]
theorem combTo_step (row : List Nat) (D : List (List Nat)) (n t j : Nat) (hj : j < n) :
    tv (addTo (fun i => (combTo row D n t).getD i 0) (fun i => (D.getD t []).getD i 0) (row.getD t 0) 0 n) j = vb (combTo row D n (t + 1)) j := by
  unfold tv vb addTo
  rw [if_pos (by omega), combTo_get _ _ _ _ _ hj]
  show Value.int .u8 (((combTo row D n t).getD j 0 ^^^ gm (row.getD t 0) ((D.getD t []).getD (j - 0) 0) : Nat) : Int) = _
  rw [combTo_get _ _ _ _ _ hj, Nat.sub_zero]
  rfl
def CbR (w : World) (row : List Nat) (D : List (List Nat)) (n : Nat) (i : Value) (wr : World) : Prop :=
  ∃ t : Nat, t ≤ row.length ∧ i = .int .i64 t ∧ Brow wr w.heap.size (combTo row D n t) ∧ Below w.heap.size w wr
set_option maxRecDepth 100000 in
set_option maxHeartbeats 4000000 in
theorem combine_any (vr vd : Value) (row : List Nat) (D : List (List Nat)) (n : Nat) (w : World) (hr : Bs w vr row) (hd : Rd w vd D) (hn : n ≤ 4096) (hall : ∀ i (hi : i < D.length), (D[i]).length = n) (hlen : row.length = D.length) (hD : 0 < D.length) :
    Calls Tryd.prog 62 #[vr, vd] w fun e w' => ∃ b, e = .returned (.slice (some ⟨b, 0, none⟩) n n) ∧ w.heap.size ≤ b ∧ Brow w' b (combTo row D n D.length) ∧ Below w.heap.size w w' := by
  have hrx := hr.lt
  obtain ⟨ao, cr, rfl, h1, h2, _, h4⟩ := hr
  obtain ⟨rb, roff, rfl, hrc⟩ := h4 (by intro e; rw [e] at hlen; simp at hlen; omega)
  rcases hd.cases with ⟨rfl, _⟩ | ⟨b, off, c, rfl, hl, hc⟩
  · simp at hD
  have hrl : row.length ≤ 140737488355328 := by omega
  obtain ⟨u0, hu0, hB0⟩ := hc 0 hD
  obtain ⟨ao0, c0, rfl, l1, l2, _, _⟩ := hB0
  have hn0 := hall 0 hD
  rw [hn0] at hu0
  have HR := hide hrc
  have HC := hide hc
  have HA := hide hall
  have HLEN := hide hlen
  clear hrc hc hall hlen h1 h2 h4 hn0 l1 l2
  rw [Nat.add_zero] at hu0
  go_enter Tryd.func62, Tryd.ntmps62
  go_wp2_with (at_make; refine wpList_mk _ rfl (.tmp 11) (.tmp 11) rfl _ n rfl rfl rfl (by omega) ?_; intro w1 hB hb hz; clear hz)
  rw [← combTo_zero row D n] at hB
  clear hu0
  go_loopw [15] (fun i wr => CbR w row D n i wr) (fun i _ => row.length - (intOf i).toNat)
  case atStart => exact ⟨0, Nat.zero_le _, rfl, hB, hb⟩
  case round =>
    clear hB hb
    rename World => wo
    obtain ⟨t, ht, rfl, hBt, hbt⟩ := hrel
    have hso := hBt.lt
    by_cases hlt : t < row.length
    · have hltD : t < D.length := by rw [← HLEN.out]; exact hlt
      have c1 := HR.out t hlt
      have c1' : wo.cell? ⟨rb, roff + t, none⟩ = some (.int .u8 ((row.getD t 0 : Nat) : Int)) := by rw [hbt.cell (block_lt_of_cell c1)]; exact c1
      obtain ⟨u, hu, hBs⟩ := HC.out t hltD
      obtain ⟨fo, fc, rfl, q1, q2, q3, q4⟩ := hBs
      have hu' : wo.cell? ⟨b, off + t, none⟩ = some (.slice fo (D[t]).length fc) := by rw [hbt.cell (block_lt_of_cell hu)]; exact hu
      rw [HA.out t hltD] at hu'
      have hct := getD_lt hrx t
      have hgD : D.getD t [] = D[t] := by simp [hltD]
      have hstep := combTo_step row D n t
      rw [hgD] at hstep
      have hDt := HA.out t hltD
      have HD := hide hDt
      generalize D[t] = l at *
      generalize hrt : row.getD t 0 = x at *
      clear c1 hu hgD hrt hDt
      by_cases hn0 : n = 0
      · have hBt2 : Brow wo w.heap.size (combTo row D n (t + 1)) := by rw [hn0] at hBt ⊢; exact hBt
        have HN := hide hn0
        clear hstep q4 hBt hn0
        go_wp2_with fail
        refine (addTimes_nil _ _ _ _ _ _ x _ HN.out HN.out hct).mono ?_
        rintro e w2 ⟨rfl, hb2⟩
        have hB3 := hBt2.below hb2
        have hb3 := hbt.trans (hb2.mono (by omega))
        clear hBt2 hb2
        go_wp2
        go_roundw
        case rel => exact ⟨t + 1, by omega, by go_num, hB3, hb3⟩
        case measure => simp [intOf]; omega
      · obtain ⟨fb, foff, rfl, hfc⟩ := q4 (by intro e; rw [e] at HD; exact hn0 HD.out.symm)
        rw [HD.out] at hfc
        have hl0 : 0 < l.length := by rw [HD.out]; omega
        have hfb : fb < w.heap.size := block_lt_of_cell (hfc 0 (by omega))
        have hfc' : ∀ i, i < n → wo.cell? ⟨fb, foff + i, none⟩ = some (.int .u8 ((l.getD i 0 : Nat) : Int)) := fun i hi => by
          rw [hbt.cell (p := ⟨fb, foff + i, none⟩) hfb]; exact hfc i hi
        have hrow : wo.rowIs w.heap.size 5 n (tv (fun i => (combTo row D n t).getD i 0)) := by
          have := hBt
          unfold Brow at this
          rw [combTo_len] at this
          exact this
        have HS := hide hstep
        have HF := hide hfc'
        have HRW := hide hrow
        have hgl := fun j => getD_lt (combTo_lt row D hrx n t) j
        have hFl := fun j => getD_lt q3 j
        have HGL := hide hgl
        have HFL := hide hFl
        clear hstep hfc hfc' hrow hBt q4 hgl hFl hl0 HD
        go_wp2_with fail
        refine (addTimes_some w.heap.size 5 n 0 n n fb foff fc x (fun i => (combTo row D n t).getD i 0) (fun i => l.getD i 0) wo hct HRW.out HGL.out HFL.out (by omega) (by omega) HF.out (.inl (by omega))).mono ?_
        rintro e w2 ⟨rfl, hr2, hg2⟩
        have hB3 : Brow w2 w.heap.size (combTo row D n (t + 1)) := by
          unfold Brow
          rw [combTo_len]
          exact hr2.congr (fun j hj => HS.out j hj)
        have hb3 := grown_below hbt hg2 (by omega) (Nat.le_refl _)
        clear hr2 hg2 HS HF HRW HGL HFL
        go_wp2
        go_roundw
        case rel => exact ⟨t + 1, by omega, by go_num, hB3, hb3⟩
        case measure => simp [intOf]; omega
    · have htt : t = D.length := by rw [← HLEN.out]; omega
      rw [htt] at hBt
      clear htt
      go_wp2
      go_ret
      exact ⟨w.heap.size, rfl, Nat.le_refl _, hBt, hbt⟩
end Go.Proofs.YthhommjlomphdaaDoor
