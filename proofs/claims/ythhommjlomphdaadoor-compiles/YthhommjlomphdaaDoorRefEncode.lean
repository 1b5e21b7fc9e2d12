/-
  The document's Encode.
-/
import Derived.Test.YthhommjlomphdaaDoorPart18
namespace Go.Proofs.YthhommjlomphdaaDoor
open Go.RowKit Go.Deep Gf

def mixTo (row : List Nat) (D : List (List Nat)) (n j k : Nat) : List Nat := (List.range n).map fun q => if q < k then acc row D (j + 1) q else acc row D j q
theorem mixTo_len (row : List Nat) (D : List (List Nat)) (n j k : Nat) : (mixTo row D n j k).length = n := by simp [mixTo]
theorem mixTo_zero (row : List Nat) (D : List (List Nat)) (n j : Nat) : mixTo row D n j 0 = combTo row D n j := by
  unfold mixTo combTo
  apply List.ext_getElem
  · simp
  · intro q h1 h2; simp
theorem mixTo_end (row : List Nat) (D : List (List Nat)) (n j : Nat) : mixTo row D n j n = combTo row D n (j + 1) := by
  unfold mixTo combTo
  apply List.ext_getElem
  · simp
  · intro q h1 h2
    simp at h1
    simp [h1]
theorem mixTo_get (row : List Nat) (D : List (List Nat)) (n j k : Nat) (hk : k < n) : (mixTo row D n j k).getD k 0 = acc row D j k := by simp [mixTo, hk]
theorem mixTo_step (row : List Nat) (D : List (List Nat)) (n j k : Nat) : (mixTo row D n j k).set k (acc row D (j + 1) k) = mixTo row D n j (k + 1) := by
  unfold mixTo
  apply List.ext_getElem
  · simp
  · intro q h1 h2
    simp [List.getElem_set]
    by_cases e : k = q
    · subst e; simp
    · simp only [if_neg e]
      by_cases e2 : q < k
      · rw [if_pos e2, if_pos (by omega)]
      · rw [if_neg e2, if_neg (by omega)]
theorem combTo_skip (row : List Nat) (D : List (List Nat)) (n j : Nat) (h : row.getD j 0 = 0) : combTo row D n j = combTo row D n (j + 1) := by
  unfold combTo
  apply List.map_congr_left
  intro k _
  simp only [acc, h, zero_gm, Nat.xor_zero]
def RE1 (w : World) (B N n : Nat) (M D : List (List Nat)) (v i : Value) (wr : World) : Prop :=
  ∃ k T, k ≤ N ∧ i = .int .i64 (k : Nat) ∧ Tab wr B v T ∧ Holds T n (encL (M.take k) D n) ∧ Below B w wr ∧ B ≤ wr.heap.size
def RE2 (wo : World) (d n : Nat) (row : List Nat) (D : List (List Nat)) (i : Value) (wr : World) : Prop :=
  ∃ j : Nat, j ≤ d ∧ i = .int .i64 j ∧ Brow wr wo.heap.size (combTo row D n j) ∧ Below wo.heap.size wo wr
def RE3 (wo : World) (n j : Nat) (row : List Nat) (D : List (List Nat)) (i : Value) (wr : World) : Prop :=
  ∃ k : Nat, k ≤ n ∧ i = .int .i64 k ∧ Brow wr wo.heap.size (mixTo row D n j k) ∧ Below wo.heap.size wo wr
theorem rmul_eq {x y : Int} (a b : Nat) (hx : x = (a : Int)) (hy : y = (b : Int)) (ha : a < 256) (hb : b < 256) (w : World) :
    Calls Tryd.prog 44 #[.int .u8 x, .int .u8 y] w fun e w' => e = .returned (.int .u8 ((gm a b : Nat) : Int)) ∧ w' = w := by
  subst hx hy; exact rmul_any a b ha hb w
set_option maxRecDepth 100000 in
set_option maxHeartbeats 8000000 in
theorem rencode_fit (D L G : Nat) (hr : rightB D L G = true) (hD1 : 1 ≤ D) (hD : D ≤ 12) (hL : 1 ≤ L) (hL4 : L ≤ 4) (hG : G ≤ 4) (hdiv : D % L = 0) (vd : Value) (Dt : List (List Nat)) (w : World) (hd : Rd w vd Dt) (hlen : Dt.length = D) (hfit : Fit Dt) :
    Calls Tryd.prog 20 #[.agg #[.int .i64 D, .int .i64 L, .int .i64 G], vd] w fun e w' => EnPost w (Dt.getD 0 []).length (matL D L G) Dt (.int .i64 0) e w' := by
  obtain ⟨i0, hi0, hz0, hz1, hz2⟩ := info_parts Tryd.infoBytes
  have hnn : (((Dt.length : Nat) : Int) != (D : Int)) = false := by rw [hlen]; simp
  have hpos : 0 < Dt.length := by omega
  have hn4 : (Dt.getD 0 []).length ≤ 4096 := by
    have := (hfit 0 hpos)
    have h2 := this.2
    rw [this.1] at h2
    exact h2
  have hall : ∀ i (hi : i < Dt.length), (Dt[i]).length = (Dt.getD 0 []).length := fun i hi => (hfit i hi).1
  rcases hd.cases with ⟨rfl, _⟩ | ⟨b, off, c, rfl, hl, hc⟩
  · simp at hpos
  have h0 := hall 0 hpos
  generalize hn : (Dt.getD 0 []).length = n at *
  obtain ⟨u0, hu0, hB0⟩ := hc 0 hpos
  obtain ⟨ao0, c0, rfl, l1, l2, _, _⟩ := hB0
  rw [h0, Nat.add_zero] at hu0
  have HALL := hide hall
  have HC := hide hc
  have HLEN := hide hlen
  clear hn hall hfit hlen hc h0 l1 l2
  go_enter Tryd.func20, Tryd.ntmps20
  go_wp2_with fail
  refine (rmatrix_right D L G hr hD hL hL4 hG hdiv _).mono ?_
  rintro e wa ⟨v, T, rfl, hT, hH, hba⟩
  rw [nblk_alloc] at hT hba
  have hsa := hba.size
  rw [nblk_alloc] at hsa
  obtain ⟨p0, p1, p2⟩ := box_cells hba
  have hbwa : Below w.heap.size w wa := ((Below.refl _ _).alloc (Nat.le_refl _) _).trans (hba.mono (by omega))
  have hu0' : wa.cell? ⟨b, off, none⟩ = some (.slice ao0 n c0) := by rw [hbwa.cell (block_lt_of_cell hu0)]; exact hu0
  clear hu0
  obtain ⟨mo, mcap, rfl, hmo⟩ := hT.slice
  have hTl := hH.length
  rw [matL_len] at hTl
  obtain ⟨mg, rfl⟩ := hmo (by intro e; rw [e] at hTl; simp at hTl; omega)
  have hTl2 : T.length ≤ 20 := by omega
  generalize hM : matL D L G = M at *
  have HM : Hid (∀ i (hi : i < M.length), (M[i]).length = D) := by intro i hi; subst hM; exact matL_row D L G hi
  have HH := hide hH
  have HMM := hide hM
  clear hTl hmo hM hH
  go_wp2
  go_loop [9] (fun i => ∃ k : Nat, k ≤ Dt.length ∧ i = .int .i64 k) (fun i => Dt.length - (intOf i).toNat)
  case atStart => exact ⟨0, Nat.zero_le _, rfl⟩
  case round =>
    obtain ⟨k, hk, rfl⟩ := hrel
    by_cases hlt : k < Dt.length
    · obtain ⟨u, hu, hBs⟩ := HC.out k hlt
      obtain ⟨fo, fc, rfl, q1, q2, _, _⟩ := hBs
      have hu' : wa.cell? ⟨b, off + k, none⟩ = some (.slice fo (Dt[k]).length fc) := by rw [hbwa.cell (block_lt_of_cell hu)]; exact hu
      rw [HALL.out k hlt] at hu'
      have t1 : (((n : Nat) : Int) != ((n : Nat) : Int)) = false := by simp
      clear hu q1 q2
      go_wp2
      go_round
      case rel => exact ⟨k + 1, by omega, by go_num⟩
      case measure => simp [intOf]; omega
    · clear hu0'
      go_wp2
      go_loopw [10, 11] (fun v i wr => RE1 wa wa.heap.size T.length n M Dt v i wr) (fun _ i _ => T.length - (intOf i).toNat)
      case atStart => exact ⟨0, [], Nat.zero_le _, rfl, Tab.nil _ _, rfl, Below.refl _ _, Nat.le_refl _⟩
      case round =>
        rename World => wo
        obtain ⟨k2, S, hk2, rfl, hS, hHS, hbo, hso⟩ := hrel
        have hlenM := HH.out.length
        have hSl := hHS.length
        unfold encL at hSl
        rw [List.length_map, List.length_take] at hSl
        by_cases hlt2 : k2 < T.length
        · have hltM : k2 < M.length := by omega
          have hTo := hT.below hbo
          have hca := hTo.cell_at hlt2
          have hrow := (hTo.row _ (List.getElem_mem hlt2))
          have hat := HH.out.at hlt2 hltM
          have hMk := HM.out k2 hltM
          obtain ⟨⟨rb, rn, rl⟩, hTt⟩ : ∃ p, p = T[k2] := ⟨_, rfl⟩
          rw [← hTt] at hca hrow hat
          simp only [hdr, Prod.mk.injEq] at hca hrow hat
          obtain ⟨hrn, rfl⟩ := hat
          have hrn2 := hrn.symm
          clear hrn
          subst hrn2
          obtain ⟨r1, r2, r3, r4, r5⟩ := hrow
          rw [hMk] at hca
          have hsnoc := encL_snoc M Dt n k2 hltM
          have HSN := hide hsnoc
          have HHS := hide hHS
          have HBOX := hide (hba.trans (hbo.mono hsa))
          have HMK := hide hMk
          generalize M[k2] = row at *
          have hSl2 : S.length ≤ 20 := by omega
          clear hsnoc hHS hlenM hSl hTt hMk p0 p1 p2 r3 r4
          go_wp2_with (at_make; refine wpList_mk _ rfl (.tmp 56) (.tmp 56) rfl _ n rfl rfl rfl (by omega) ?_; intro w1 hB hb1 hz; clear hz)
          rw [← combTo_zero row Dt n] at hB
          go_loopw [13] (fun i wr => RE2 wo D n row Dt i wr) (fun i _ => D - (intOf i).toNat)
          case atStart => exact ⟨0, Nat.zero_le _, rfl, hB, hb1⟩
          case round =>
            clear hB hb1
            rename World => wm
            obtain ⟨j, hj, rfl, hBj, hbj⟩ := hrel
            have hbjs := hbj.size
            obtain ⟨p0, p1, p2⟩ := box_cells (HBOX.out.trans (hbj.mono (by omega)))
            by_cases hjD : j < D
            · have hjr : j < row.length := by rw [HMK.out]; exact hjD
              have hjd : j < Dt.length := by rw [HLEN.out]; exact hjD
              have hcm : wm.cell? ⟨mg, k2, none⟩ = some (.slice (some ⟨rb, 0, none⟩) D D) := by rw [hbj.cell (block_lt_of_cell hca)]; exact hca
              have hcr := (r2.below hbj).cell j hjr
              have hxl := getD_lt r5 j
              obtain ⟨u, hu, hBs⟩ := HC.out j hjd
              have hbw : Below w.heap.size w wm := hbwa.trans ((hbo.mono hbwa.size).trans (hbj.mono (by have := hbwa.size; omega)))
              have hbx := hBs.lt
              obtain ⟨fo, fc, rfl, q1, q2, q3, q4⟩ := hBs
              have hDj := HALL.out j hjd
              rw [hDj] at hu q4
              have HU := hide hu
              have HQ := hide q4
              have hgD : Dt.getD j [] = Dt[j] := by simp [hjd]
              have hacc : ∀ k, acc row Dt (j + 1) k = acc row Dt j k ^^^ gm (row.getD j 0) ((Dt[j]).getD k 0) := by intro k; rw [← hgD]; rfl
              have HACC := hide hacc
              have HDJ := hide hDj
              have hskip := combTo_skip row Dt n j
              have HSK := hide hskip
              clear hacc hDj hgD hu q1 q2 q3 q4 hskip hbw
              generalize Dt[j] = dj at *
              by_cases hx0 : row.getD j 0 = 0
              · have hB2 : Brow wm wo.heap.size (combTo row Dt n (j + 1)) := by rw [← HSK.out hx0]; exact hBj
                rw [hx0] at hcr
                clear hBj HACC hxl hx0
                by_cases hn0 : n = 0
                · have tn : ¬ ((0 : Int) < (n : Int)) := by omega
                  have HN := hide hn0
                  clear hn0
                  go_wp2
                  refine wp_loop_rounds 1 ?_
                  rw [rounds_succ]
                  go_wp2
                  go_roundw
                  case rel => exact ⟨j + 1, by omega, by go_num, hB2, hbj⟩
                  case measure => simp [intOf]; omega
                · have tn : (0 : Int) < (n : Int) := by omega
                  clear hn0
                  go_wp2
                  refine wp_loop_rounds 1 ?_
                  rw [rounds_succ]
                  go_wp2
                  go_roundw
                  case rel => exact ⟨j + 1, by omega, by go_num, hB2, hbj⟩
                  case measure => simp [intOf]; omega
              · have hcx : (((row.getD j 0 : Nat) : Int) != 0) = true := by rw [bne_iff_ne]; omega
                have hBm : Brow wm wo.heap.size (mixTo row Dt n j 0) := by rw [mixTo_zero]; exact hBj
                clear hBj hx0 HSK
                go_wp2
                go_loopw [14] (fun i wr => RE3 wo n j row Dt i wr) (fun i _ => n - (intOf i).toNat)
                case atStart => exact ⟨0, Nat.zero_le _, rfl, hBm, hbj⟩
                case round =>
                  clear hBm
                  rename World => wi
                  obtain ⟨k3, hk3, rfl, hBk, hbk⟩ := hrel
                  have hbiw : Below w.heap.size w wi := hbwa.trans ((hbo.mono hbwa.size).trans (hbk.mono (by have := hbwa.size; omega)))
                  have hcm2 : wi.cell? ⟨mg, k2, none⟩ = some (.slice (some ⟨rb, 0, none⟩) D D) := by rw [hbk.cell (block_lt_of_cell hca)]; exact hca
                  have hcr2 := (r2.below hbk).cell j hjr
                  by_cases hkn : k3 < n
                  · have hu2 : wi.cell? ⟨b, off + j, none⟩ = some (.slice fo n fc) := by rw [hbiw.cell (block_lt_of_cell HU.out)]; exact HU.out
                    obtain ⟨fb, foff, rfl, hfc⟩ := HQ.out (by intro e; rw [e] at HDJ; have := HDJ.out; simp at this; omega)
                    have hf0 := hfc k3 hkn
                    have hf1 : wi.cell? ⟨fb, foff + k3, none⟩ = some (.int .u8 ((dj.getD k3 0 : Nat) : Int)) := by rw [hbiw.cell (block_lt_of_cell hf0)]; exact hf0
                    have hs1 := hBk.cell k3 (by rw [mixTo_len]; exact hkn)
                    have hsf := hBk.frozen k3
                    rw [mixTo_get _ _ _ _ _ hkn] at hs1
                    have hdl := getD_lt hbx k3
                    have hal := acc_lt row Dt r5 j k3
                    have hB2 := hBk.set k3 (acc row Dt (j + 1) k3)
                    rw [mixTo_step] at hB2
                    have hb2 := hbk.setCell (p := ⟨wo.heap.size, k3, none⟩) (Nat.le_refl _) (.int .u8 ((acc row Dt (j + 1) k3 : Nat) : Int))
                    have hxx := u8_xor (acc row Dt j k3) (gm (row.getD j 0) (dj.getD k3 0)) hal (gm_lt _ hxl)
                    rw [← HACC.out k3] at hxx
                    generalize acc row Dt (j + 1) k3 = av at *
                    generalize acc row Dt j k3 = a0 at *
                    generalize hdd : dj.getD k3 0 = dd at *
                    generalize hxc : row.getD j 0 = xc at *
                    clear hdd hxc hfc hf0 hBk hbk HU HQ HACC hbiw hca hTo r2 hcr
                    by_cases hx1 : xc = 1
                    · have t1 : ((xc : Int) != 1) = false := by rw [hx1]; rfl
                      have hg1 : gm xc dd = dd := by rw [hx1, gm_comm (by decide) hdl, gm_one dd hdl]
                      rw [hg1] at hxx
                      clear hx1 hg1
                      go_wp2
                      go_roundw
                      case rel => exact ⟨k3 + 1, by omega, by go_num, hB2, hb2⟩
                      case measure => simp [intOf]; omega
                    · have t1 : ((xc : Int) != 1) = true := by rw [bne_iff_ne]; omega
                      clear hx1
                      go_wp2_with (go_at_call 44; refine (rmul_eq xc dd rfl rfl hxl hdl _).mono ?_; rintro e w' ⟨rfl, rfl⟩)
                      go_roundw
                      case rel => exact ⟨k3 + 1, by omega, by go_num, hB2, hb2⟩
                      case measure => simp [intOf]; omega
                  · have hk3n : k3 = n := by omega
                    rw [hk3n, mixTo_end] at hBk
                    clear hk3n
                    go_wp2
                    go_roundw
                    case rel => exact ⟨j + 1, by omega, by go_num, hBk, hbk⟩
                    case measure => simp [intOf]; omega
            · have hjD2 : j = D := by omega
              rw [hjD2] at hBj
              clear hjD2
              go_wp2_with (at_builtin; refine wpList_append_own _ rfl (.tmp 112) (.tmp 114) 24 rfl wa.heap.size 44 i0 (.slice none 0 0) 1 24 Tryd.underlying24 hi0 hz0 hz1 hz2 rfl (by decide) _ S.length (S.map hdr) rfl ((hS.below hbj).alloc _).own ⟨wm.heap.size, 0, none⟩ 1 1 [.slice (some ⟨wo.heap.size, 0, none⟩) n n] rfl rfl (one_new _ _ rfl _ _) (by simp [Value.oneCell']) (by unfold maxLen; omega) (by omega) (by rw [nblk_alloc]; omega) ?_; intro v' w2 hown' hgrow hnn2)
              have hS2 := Tab.append2 hS hbj hso (Nat.le_refl _) hBj (combTo_len row Dt n D).symm (by rw [combTo_len]; omega) (by rw [combTo_len]; omega) (combTo_lt _ _ r5 _ _) hgrow hown'
              have hb2 := below_append hS hbo hbj hso hgrow
              have hs2 := hgrow.size
              rw [nblk_alloc] at hs2
              have hH2 := HHS.out.push wo.heap.size (combTo row Dt n Dt.length)
              rw [← HSN.out, HLEN.out] at hH2
              have HH2 := hide hH2
              clear hS hown' hgrow hnn2 hBj hbj hbo hH2 hca hTo r2
              go_wp2
              go_roundw
              case rel => exact ⟨k2 + 1, _, by omega, by go_num, hS2, HH2.out, hb2, by omega⟩
              case measure => simp [intOf]; omega
        · have hkM : k2 = M.length := by omega
          have hHf : Holds S n (encL M Dt n) := by rw [hkM, List.take_length] at hHS; exact hHS
          have hbf := hbwa.trans (hbo.mono hbwa.size)
          have hTg := hS.weaken (base' := w.heap.size) hbwa.size
          clear hHS hS hbo hkM hlenM hSl p0 p1 p2
          go_wp2
          go_ret2
          exact ⟨_, S, rfl, hTg, by rw [HMM.out]; exact hHf, hbf⟩
end Go.Proofs.YthhommjlomphdaaDoor
