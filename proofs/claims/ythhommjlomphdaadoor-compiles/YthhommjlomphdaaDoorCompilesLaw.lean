/-
  The law on programs that repair.
-/
import Derived.Test.YthhommjlomphdaaDoorCompilesMem
import Derived.Test.YthhommjlomphdaaDoorPart24
import Derived.Test.YthhommjlomphdaaDoorPart15
namespace Go.Proofs.YthhommjlomphdaaDoor
open Go.RowKit Go.Deep Gf

attribute [local go_sem] Oper.semAt_some
theorem Tryd.infoByte' : (Tryd.prog.info? 5).map (fun i => (i.zero, i.size, i.bytes)) = some (some (.int .u8 0), 1, 1) := by kernel_rfl
theorem Tryd.infoBool' : (Tryd.prog.info? 4).map (fun i => (i.zero, i.size, i.bytes)) = some (some (.bool false), 1, 1) := by kernel_rfl
set_option maxRecDepth 100000 in
set_option maxHeartbeats 1000000 in
theorem compiles_none (D L G : Int) (lost : Nat) (vd : Value) (Da : List (List Nat)) (w : World) (hd : Rd w vd Da)
    (hc : Calls Tryd.prog 34 #[.agg #[.int .i64 D, .int .i64 L, .int .i64 G], .int .u64 lost] (w.alloc (.cells #[.int .i64 D, .int .i64 L, .int .i64 G] 23)) fun e w' => e = .returned (.tuple #[.agg #[.int .i64 0, .slice none 0 0], .bool false, .bool false]) ∧ Below (w.alloc (.cells #[.int .i64 D, .int .i64 L, .int .i64 G] 23)).heap.size (w.alloc (.cells #[.int .i64 D, .int .i64 L, .int .i64 G] 23)) w') :
    Calls Tryd.prog 9 #[.agg #[.int .i64 D, .int .i64 L, .int .i64 G], .int .u64 lost, vd] w fun e w' => e = .returned (.bool true) ∧ Below w.heap.size w w' := by
  obtain ⟨ad, cd, rfl, _⟩ := hd
  go_enter Tryd.func9, Tryd.ntmps9
  go_wp2_with fail
  refine hc.mono ?_
  rintro e w1 ⟨rfl, hb1⟩
  rw [nblk_alloc] at hb1
  have hs1 := hb1.size
  rw [nblk_alloc] at hs1
  have hbw1 : Below w.heap.size w w1 := ((Below.refl _ _).alloc (Nat.le_refl _) _).trans (hb1.mono (by omega))
  clear hb1 hc
  go_wp2
  go_ret
  exact ⟨rfl, hbw1.alloc (by omega) _⟩
set_option maxRecDepth 100000 in
set_option maxHeartbeats 16000000 in
theorem compiles_some (D L G lost : Nat) (hr : rightB D L G = true) (hD1 : 1 ≤ D) (hD : D ≤ 12) (hL : 1 ≤ L) (hL4 : L ≤ 4) (hG : G ≤ 4) (hdiv : D % L = 0) (h16 : D + L + G ≤ 16) (hl : lost < 18446744073709551616) (C : Ck) (hC : tells (cks D L G) (mems (goneN (D + L + G) lost)) = some C) (vd : Value) (Da : List (List Nat)) (w : World) (hd : Rd w vd Da) (hT : tabLaid w) (h2 : 2 ≤ w.heap.size) :
    Calls Tryd.prog 9 #[.agg #[.int .i64 D, .int .i64 L, .int .i64 G], .int .u64 lost, vd] w fun e w' => e = .returned (.bool true) ∧ Below w.heap.size w w' := by
  obtain ⟨i0, hi0, hz0, hz1, hz2⟩ := info_parts Tryd.infoByte'
  obtain ⟨j0, hj0, hy0, hy1, hy2⟩ := info_parts Tryd.infoBytes
  obtain ⟨k0, hk0, hx0, hx1, hx2⟩ := info_parts Tryd.infoBool'
  have hb0 : Below w.heap.size w (w.alloc (.cells #[.int .i64 D, .int .i64 L, .int .i64 G] 23)) := (Below.refl _ _).alloc (Nat.le_refl _) _
  have hc := compiled_yes D L G lost hr hD1 hD hL hL4 hG hdiv h16 hl C hC _ (hT.mono (by omega) hb0) (by rw [nblk_alloc]; omega)
  have hplan : (fewestS 8 C (keptN (D + L + G) lost)).1.told ≤ 8 := by
    have hp := (plan_of hD hG hC).1
    have h1 := hp.le
    have h2 := hp.most
    omega
  have HP : Hid ((cmpP D L G lost C).length ≤ 160) := hide (wr_len _ _ hplan)
  have HC := hide hC
  have HT := hide hT
  have HD := hide hd
  obtain ⟨ad, cd, rfl, hdl, _⟩ := id hd
  clear hplan hb0 hT hd hC
  go_enter Tryd.func9, Tryd.ntmps9
  go_wp2_with fail
  refine hc.mono ?_
  rintro e w1 ⟨ao, m, cc, rfl, hps, hb1⟩
  rw [nblk_alloc] at hb1
  have hs1 := hb1.size
  rw [nblk_alloc] at hs1
  obtain ⟨p0, p1, p2⟩ := box_cells hb1
  have hbw1 : Below w.heap.size w w1 := ((Below.refl _ _).alloc (Nat.le_refl _) _).trans (hb1.mono (by omega))
  obtain ⟨R, hR⟩ : ∃ R : Int, 1 + ((mems (goneN (D + L + G) lost)).length : Int) = R := ⟨_, rfl⟩
  rw [hR]
  have HR := hide hR
  have HPS := hide hps
  have ha := (Below.refl w1.heap.size w1).alloc (Nat.le_refl _) (.cells #[.int .i64 R, .slice ao m cc] 49)
  have HPR : Hid ((w1.alloc (.cells #[.int .i64 R, .slice ao m cc] 49)).heap[w1.heap.size]? = some (.cells #[.int .i64 R, .slice ao m cc] 49 (0, 0))) := hide (World.alloc_heap_new w1 _)
  have HA := hide ha
  have a0 := (ha.cell (p := ⟨w.heap.size, 0, none⟩) (by show w.heap.size < _; omega)).trans p0
  have a1 := (ha.cell (p := ⟨w.heap.size, 1, none⟩) (by show w.heap.size < _; omega)).trans p1
  have a2 := (ha.cell (p := ⟨w.heap.size, 2, none⟩) (by show w.heap.size < _; omega)).trans p2
  clear hb1 hc hps ha hR
  go_wp2_with fail
  refine (theirs_any D L G _).mono ?_
  clear a0 a1 a2
  rintro e w2 ⟨rfl, hb2⟩
  have hs2 := hb2.size
  rw [nblk_alloc] at hb2 hs2
  have hb12 : Below w1.heap.size w1 w2 := HA.out.trans (hb2.mono (by omega))
  have hpr2 := (hb2.block w1.heap.size (by omega)).trans HPR.out
  have ha2 := (Below.refl w2.heap.size w2).alloc (Nat.le_refl _) (.cells #[.int .i64 (D : Int), .int .i64 (L : Int), .int .i64 (G : Int)] 31)
  have hb13 : Below w1.heap.size w1 (w2.alloc (.cells #[.int .i64 (D : Int), .int .i64 (L : Int), .int .i64 (G : Int)] 31)) := hb12.trans (ha2.mono (by omega))
  have hpr3 := (ha2.block w1.heap.size (by omega)).trans hpr2
  have hrp3 : (w2.alloc (.cells #[.int .i64 (D : Int), .int .i64 (L : Int), .int .i64 (G : Int)] 31)).heap[w2.heap.size]? = some (.cells #[.int .i64 (D : Int), .int .i64 (L : Int), .int .i64 (G : Int)] 31 (0, 0)) := World.alloc_heap_new w2 _
  have hs3 : (w2.alloc (.cells #[.int .i64 (D : Int), .int .i64 (L : Int), .int .i64 (G : Int)] 31)).heap.size = w2.heap.size + 1 := by simp
  have HH := hide (And.intro hb13 (And.intro hpr3 hrp3))
  clear hb2 hb12 hpr2 ha2 hb13 hpr3 hrp3 HPR HA
  go_wp2
  obtain ⟨w3, hw3⟩ : ∃ w3, w2.alloc (.cells #[.int .i64 (D : Int), .int .i64 (L : Int), .int .i64 (G : Int)] 31) = w3 := ⟨_, rfl⟩
  rw [hw3] at HH hs3
  rw [hw3]
  clear hw3
  have hbw3 : Below w.heap.size w w3 := hbw1.trans (HH.out.1.mono (by omega))
  have p0 := (HH.out.1.cell (p := ⟨w.heap.size, 0, none⟩) (by show w.heap.size < _; omega)).trans p0
  have p1 := (HH.out.1.cell (p := ⟨w.heap.size, 1, none⟩) (by show w.heap.size < _; omega)).trans p1
  have p2 := (HH.out.1.cell (p := ⟨w.heap.size, 2, none⟩) (by show w.heap.size < _; omega)).trans p2
  go_loopw [11, 12] (fun dv iv wr => CdR w3 D dv iv wr) (fun _ iv _ => D - (intOf iv).toNat)
  case atStart => exact ⟨[], Nat.zero_le _, rfl, Rw.nil _⟩
  case round =>
    rename World => wo
    obtain ⟨K, hK, rfl, hRw⟩ := hrel
    have hbo := hRw.bel
    have hso := hbo.size
    have po := (hbo.cell (p := ⟨w.heap.size, 0, none⟩) (by show w.heap.size < _; omega)).trans p0
    have HRW := hide hRw
    clear hRw
    obtain ⟨k, hk⟩ : ∃ k, K.length = k := ⟨_, rfl⟩
    have HK := hide hk
    rw [hk] at hK ⊢
    clear hk
    by_cases hlt : k < D
    · have hlt' : (k : Int) < (D : Int) := by omega
      obtain ⟨c1, hc1, e1⟩ := byte_at ((k : Int) * 31 + 1)
      obtain ⟨c2, hc2, e2⟩ := byte_mod (wrap64 ((k : Int) * (k : Int)))
      obtain ⟨c3, hc3, e3⟩ := byte_at ((lost : Int) / 2 ^ k)
      have hk64 : (k : Int) < 64 := by omega
      go_wp2
      rw [e2]
      clear e1 e2 e3
      go_loopw [13, 14] (fun bv kv wr => CvR wo bv kv wr) (fun _ kv _ => 6 - (intOf kv).toNat)
      case atStart => exact ⟨0, Nat.zero_le _, rfl, row_start wo hc1 hc2 hc3, (Below.refl _ _).alloc (Nat.le_refl _) _⟩
      case round =>
        rename World => wi
        obtain ⟨q, hq, rfl, hrow, hbi⟩ := hrel
        obtain ⟨g, cap, rfl⟩ := hrow.slice (by omega)
        have hsi := hbi.size
        by_cases hgo : q < 6 ∧ k < Da.length
        · obtain ⟨hq6, hkd⟩ := hgo
          have hq6' : (q : Int) < 6 := by omega
          have hkd' : (k : Int) < (Da.length : Int) := by omega
          rcases HD.out.cases with ⟨e, _⟩ | ⟨db, doff, dc, e, _, hcell⟩
          · rw [e] at hkd; exact absurd hkd (by simp)
          obtain ⟨rfl, rfl⟩ : ad = some ⟨db, doff, none⟩ ∧ cd = dc := by simpa using e
          obtain ⟨row, u, hu, hBs⟩ : ∃ (row : List Nat) (u : Value), w.cell? ⟨db, doff + k, none⟩ = some u ∧ Bs w u row := ⟨_, hcell k hkd⟩
          have hbwi : Below w.heap.size w wi := hbw3.trans ((hbo.mono (by omega)).trans (hbi.mono (by omega)))
          have hui := (hbwi.cell (block_lt_of_cell hu)).trans hu
          obtain ⟨au, cu, rfl, _, hul, hux, huc⟩ := hBs.mono hbwi
          have HROW := hide hrow
          clear hcell hu hBs e hrow
          by_cases hql : q < row.length
          · have hql' : (q : Int) < (row.length : Int) := by omega
            obtain ⟨bb, boff, rfl, hbc⟩ := huc (fun e => by rw [e] at hql; exact absurd hql (by simp))
            have hx := hbc q hql
            have hx256 := getD_lt hux q
            generalize row.getD q 0 = x at hx hx256
            clear hbc huc hux
            obtain ⟨l, hll, hlx, hown⟩ := HROW.out
            have hol := hown.lt
            go_wp2_with (at_builtin; refine wpList_append_own _ rfl (.tmp 96) (.tmp 98) 44 rfl wo.heap.size 5 i0 (.int .u8 0) 1 1 Tryd.underlying44 hi0 hz0 hz1 hz2 rfl (by decide) _ (3 + q) (bvs l) rfl (ownsRow_below hown ((Below.refl _ _).alloc (Nat.le_refl _) _)) ⟨wi.heap.size, 0, none⟩ 1 1 [.int .u8 (x : Int)] rfl rfl (one_new _ _ rfl _ _) (by intro y hy; simp at hy; rw [hy]; rfl) (by unfold maxLen; omega) (by omega) (by rw [nblk_alloc]; omega) ?_; intro v' w5 hown' hgrow hnn)
            have hb5 : Below wo.heap.size wo w5 := (hbi.alloc hsi _).grown hgrow (by rw [nblk_alloc]; omega) fun y hy => (hol y hy).1
            have hrow5 := Row9.push hll hlx hx256 hown'
            clear hown hown' hgrow hnn hol
            go_wp2
            go_roundw
            case rel => exact ⟨q + 1, by omega, by go_num, hrow5, hb5⟩
            case measure => simp [intOf]; omega
          · have hql' : ¬ (q : Int) < (row.length : Int) := by omega
            have hx256 : q < 256 := by omega
            clear huc hux
            obtain ⟨l, hll, hlx, hown⟩ := HROW.out
            have hol := hown.lt
            go_wp2_with (at_builtin; refine wpList_append_own _ rfl (.tmp 96) (.tmp 98) 44 rfl wo.heap.size 5 i0 (.int .u8 0) 1 1 Tryd.underlying44 hi0 hz0 hz1 hz2 rfl (by decide) _ (3 + q) (bvs l) rfl (ownsRow_below hown ((Below.refl _ _).alloc (Nat.le_refl _) _)) ⟨wi.heap.size, 0, none⟩ 1 1 [.int .u8 (q : Int)] rfl rfl (one_new _ _ rfl _ _) (by intro y hy; simp at hy; rw [hy]; rfl) (by unfold maxLen; omega) (by omega) (by rw [nblk_alloc]; omega) ?_; intro v' w5 hown' hgrow hnn)
            have hb5 : Below wo.heap.size wo w5 := (hbi.alloc hsi _).grown hgrow (by rw [nblk_alloc]; omega) fun y hy => (hol y hy).1
            have hrow5 := Row9.push hll hlx hx256 hown'
            clear hown hown' hgrow hnn hol
            go_wp2
            go_roundw
            case rel => exact ⟨q + 1, by omega, by go_num, hrow5, hb5⟩
            case measure => simp [intOf]; omega
        · have HROW := hide hrow
          have hrun : ¬ ((q : Int) < 6 ∧ (k : Int) < (Da.length : Int)) := by omega
          have hq9 : 3 + q ≤ 9 := by omega
          have hcd : (q : Int) < 6 → ¬ (k : Int) < (Da.length : Int) := by omega
          clear hgo hrow hrun
          by_cases hq6 : (q : Int) < 6
          · have hkd := hcd hq6
            clear hcd
            go_wp2
            go_loopw [13, 16] (fun bv kv wr => CvR3 wo bv kv wr) (fun _ kv _ => 9 - (intOf kv).toNat)
            case atStart => exact ⟨3 + q, hq9, by go_num, HROW.out, hbi⟩
            case round =>
              rename World => wj
              obtain ⟨n, hn, rfl, hrow, hbj⟩ := hrel
              have hsj := hbj.size
              by_cases hn9 : n < 9
              · have hn9' : (n : Int) < 9 := by omega
                obtain ⟨l, hll, hlx, hown⟩ := hrow
                have hol := hown.lt
                go_wp2_with (at_builtin; refine wpList_append_own _ rfl (.tmp 106) (.tmp 109) 44 rfl wo.heap.size 5 i0 (.int .u8 0) 1 1 Tryd.underlying44 hi0 hz0 hz1 hz2 rfl (by decide) _ n (bvs l) rfl (ownsRow_below hown ((Below.refl _ _).alloc (Nat.le_refl _) _)) ⟨wj.heap.size, 0, none⟩ 1 1 [.int .u8 (n : Int)] rfl rfl (one_new _ _ rfl _ _) (by intro y hy; simp at hy; rw [hy]; rfl) (by unfold maxLen; omega) (by omega) (by rw [nblk_alloc]; omega) ?_; intro v' w5 hown' hgrow hnn)
                have hb5 : Below wo.heap.size wo w5 := (hbj.alloc hsj _).grown hgrow (by rw [nblk_alloc]; omega) fun y hy => (hol y hy).1
                have hrow5 := Row9.push hll hlx (show n < 256 by omega) hown'
                clear hown hown' hgrow hnn hol
                go_wp2
                go_roundw
                case rel => exact ⟨n + 1, by omega, by go_num, hrow5, hb5⟩
                case measure => simp [intOf]; omega
              · obtain rfl : n = 9 := by omega
                obtain ⟨g2, cap2, rfl⟩ := hrow.slice (by omega)
                obtain ⟨xs, hxl, hxB, h9, hdown, hdb⟩ := HRW.out.next hbj
                obtain ⟨l, hll, hlx, hrown⟩ := hrow
                have hKl := HK.out
                have HX := hide hxB
                have H9 := hide h9
                have HLX := hide hlx
                have hxl2 : xs.length ≤ 12 := by omega
                clear hxB h9 hlx hKl
                go_wp2_with (at_builtin; refine wpList_append_own _ rfl (.tmp 111) (.tmp 113) 24 rfl w3.heap.size 44 j0 (.slice none 0 0) 1 24 Tryd.underlying24 hj0 hy0 hy1 hy2 rfl (by decide) _ xs.length xs rfl (ownsRow_below hdown ((Below.refl _ _).alloc (Nat.le_refl _) _)) ⟨wj.heap.size, 0, none⟩ 1 1 [.slice (some ⟨g2, 0, none⟩) 9 cap2] rfl rfl (one_new _ _ rfl _ _) (by intro y hy; simp at hy; rw [hy]; rfl) (by unfold maxLen; omega) (by omega) (by rw [nblk_alloc]; omega) ?_; intro v' w6 hown' hgrow hnn)
                have hRw6 := Rw.push hxl HX.out H9.out hdown hdb rfl (ownsRow_weaken hrown hso) ⟨hll, HLX.out⟩ hgrow hown'
                clear hown' hgrow hnn hdown hrown hdb
                go_wp2
                go_roundw
                case rel => exact ⟨K ++ [l], by have := HK.out; simp; omega, by have := HK.out; simp; omega, hRw6⟩
                case measure => simp [intOf]; omega
          · clear hcd
            go_wp2
            go_loopw [13, 16] (fun bv kv wr => CvR3 wo bv kv wr) (fun _ kv _ => 9 - (intOf kv).toNat)
            case atStart => exact ⟨3 + q, hq9, by go_num, HROW.out, hbi⟩
            case round =>
              rename World => wj
              obtain ⟨n, hn, rfl, hrow, hbj⟩ := hrel
              have hsj := hbj.size
              by_cases hn9 : n < 9
              · have hn9' : (n : Int) < 9 := by omega
                obtain ⟨l, hll, hlx, hown⟩ := hrow
                have hol := hown.lt
                go_wp2_with (at_builtin; refine wpList_append_own _ rfl (.tmp 106) (.tmp 109) 44 rfl wo.heap.size 5 i0 (.int .u8 0) 1 1 Tryd.underlying44 hi0 hz0 hz1 hz2 rfl (by decide) _ n (bvs l) rfl (ownsRow_below hown ((Below.refl _ _).alloc (Nat.le_refl _) _)) ⟨wj.heap.size, 0, none⟩ 1 1 [.int .u8 (n : Int)] rfl rfl (one_new _ _ rfl _ _) (by intro y hy; simp at hy; rw [hy]; rfl) (by unfold maxLen; omega) (by omega) (by rw [nblk_alloc]; omega) ?_; intro v' w5 hown' hgrow hnn)
                have hb5 : Below wo.heap.size wo w5 := (hbj.alloc hsj _).grown hgrow (by rw [nblk_alloc]; omega) fun y hy => (hol y hy).1
                have hrow5 := Row9.push hll hlx (show n < 256 by omega) hown'
                clear hown hown' hgrow hnn hol
                go_wp2
                go_roundw
                case rel => exact ⟨n + 1, by omega, by go_num, hrow5, hb5⟩
                case measure => simp [intOf]; omega
              · obtain rfl : n = 9 := by omega
                obtain ⟨g2, cap2, rfl⟩ := hrow.slice (by omega)
                obtain ⟨xs, hxl, hxB, h9, hdown, hdb⟩ := HRW.out.next hbj
                obtain ⟨l, hll, hlx, hrown⟩ := hrow
                have hKl := HK.out
                have HX := hide hxB
                have H9 := hide h9
                have HLX := hide hlx
                have hxl2 : xs.length ≤ 12 := by omega
                clear hxB h9 hlx hKl
                go_wp2_with (at_builtin; refine wpList_append_own _ rfl (.tmp 111) (.tmp 113) 24 rfl w3.heap.size 44 j0 (.slice none 0 0) 1 24 Tryd.underlying24 hj0 hy0 hy1 hy2 rfl (by decide) _ xs.length xs rfl (ownsRow_below hdown ((Below.refl _ _).alloc (Nat.le_refl _) _)) ⟨wj.heap.size, 0, none⟩ 1 1 [.slice (some ⟨g2, 0, none⟩) 9 cap2] rfl rfl (one_new _ _ rfl _ _) (by intro y hy; simp at hy; rw [hy]; rfl) (by unfold maxLen; omega) (by omega) (by rw [nblk_alloc]; omega) ?_; intro v' w6 hown' hgrow hnn)
                have hRw6 := Rw.push hxl HX.out H9.out hdown hdb rfl (ownsRow_weaken hrown hso) ⟨hll, HLX.out⟩ hgrow hown'
                clear hown' hgrow hnn hdown hrown hdb
                go_wp2
                go_roundw
                case rel => exact ⟨K ++ [l], by have := HK.out; simp; omega, by have := HK.out; simp; omega, hRw6⟩
                case measure => simp [intOf]; omega
    · obtain rfl : k = D := by omega
      have hlt' : ¬ (k : Int) < (k : Int) := by omega
      have h9 := HRW.out.nine
      have hKD : K.length = k := HK.out
      have hg9 : (K.getD 0 []).length = 9 := by
        have h0 : 0 < K.length := by omega
        have e : K.getD 0 [] = K[0] := by simp [h0]
        rw [e]
        exact (h9 _ (List.getElem_mem h0)).1
      have hfit : Fit K := fun i hi => ⟨by rw [hg9]; exact (h9 _ (List.getElem_mem hi)).1, by have := (h9 _ (List.getElem_mem hi)).1; omega⟩
      obtain ⟨u0, u1, u2⟩ := par_cells ((hbo.block w2.heap.size (by omega)).trans HH.out.2.2)
      have hen := rencode_fit k L G hr hD1 hD hL hL4 hG hdiv _ K wo (HRW.out.rd (by omega)) hKD hfit
      rw [hg9] at hen
      obtain ⟨O, hO, hOl, hOk⟩ := cmp_out (m := 9) (Dt := K) hD hG h16 HC.out hKD (fun l hl => (h9 l hl).2)
      have hlds := cmp_lds (m := 9) (Dt := K) (C := C) (lost := lost) h16 (by decide)
      have hSl : (encL (matL k L G) K 9).length = k + L + G := by rw [enc_len, mat_len]
      have hS9 : ∀ l ∈ encL (matL k L G) K 9, l.length = 9 := fun l hl => by
        unfold encL at hl
        obtain ⟨r, _, rfl⟩ := List.mem_map.1 hl
        exact combTo_len _ _ _ _
      have HO := hide (And.intro hO (And.intro hOl (And.intro hOk hlds)))
      clear hO hOl hOk hlds hfit h9 hg9
      go_wp2_with fail
      refine hen.mono ?_
      rintro e w5 ⟨v, T, rfl, hTab, hH, hb5⟩
      have hrdS := hTab.rdH hH hS9 (by rw [hSl]; omega)
      have hs5 := hb5.size
      have hb35 : Below w3.heap.size w3 w5 := hbo.trans (hb5.mono hso)
      clear hen hTab hH u0 u1 u2 T
      generalize encL (matL k L G) K 9 = S at *
      have hS16 : S.length ≤ 16 := by omega
      rcases hrdS.cases with ⟨rfl, _⟩ | ⟨sb, soff, sc, rfl, _, hsc⟩
      · exact absurd hSl (by simp; omega)
      have HSL := hide hSl
      have HSC := hide hsc
      have HS9 := hide hS9
      clear hrdS hsc hSl po hlt hlt' hb5 hS9 hKD
      go_wp2
      go_loopw [19, 20, 21] (fun nv iv kv wr => InR w5 S lost nv iv kv wr) (fun _ _ kv _ => S.length - (intOf kv).toNat)
      case atStart => exact ⟨0, Nat.zero_le _, rfl, World.ownsRow_nil _ _ _ _, Rl.nil _⟩
      case round =>
        rename World => wp
        obtain ⟨i, hi, rfl, hnown, hRl⟩ := hrel
        obtain ⟨xs, hxl, hxB, hown, hbp⟩ := hRl
        have hsp := hbp.size
        by_cases hlt : i < S.length
        · have hlt' : (i : Int) < (S.length : Int) := by omega
          obtain ⟨u, hu, hB⟩ := HSC.out i hlt
          have hup := (hbp.cell (block_lt_of_cell hu)).trans hu
          have hul := block_lt_of_cell hu
          obtain ⟨au, cu, rfl, _⟩ := id hB
          have hxl2 : xs.length ≤ 16 := by rw [hxl, inTo_len]; omega
          have hget : S.getD i [] = S[i] := by simp [hlt]
          have HX := hide hxB
          have HXL := hide hxl
          have HB := hide (And.intro hB hget)
          have HN := hide hnown
          have HW := hide hown
          have HBP := hide hbp
          have hnlt := hnown.lt
          have hdis := own_apart hown hnown bytes_bool
          have HD2 := hide hdis
          clear hxB hxl hB hget hu hown hnown hbp hdis
          cases hz : lost.testBit i
          · have HZ := hide hz
            clear hz
            go_wp2_with (first
              | (go_at_call 26; refine (has_is lost i hl (by omega) _).mono ?_; rintro e w' ⟨rfl, hw⟩; have hw2 := hw.symm; clear hw; subst hw2; rw [HZ.out])
              | (at_builtin; refine wpList_append_own _ rfl (.tmp 130) (.tmp 132) 58 rfl w5.heap.size 4 k0 (.bool false) 1 1 Tryd.underlying58 hk0 hx0 hx1 hx2 rfl (by decide) _ i (bls lost i) rfl (ownsRow_below HN.out ((Below.refl _ _).alloc (Nat.le_refl _) _)) ⟨wp.heap.size, 0, none⟩ 1 1 [.bool false] rfl rfl (one_new _ _ rfl _ _) (by simp [Value.oneCell']) (by unfold maxLen; omega) (by omega) (by rw [nblk_alloc]; omega) ?_; intro v6 w6 hown6 hgrow6 hnn6
                 have hb56 : Below w5.heap.size w5 w6 := (HBP.out.alloc hsp _).grown hgrow6 (by rw [nblk_alloc]; omega) (fun q hq => (hnlt q hq).1)
                 have hs6 := hb56.size
                 have hup6 := hgrow6.cell ((((Below.refl _ _).alloc (Nat.le_refl _) _).cell (block_lt_of_cell hup)).trans hup) (fun e => by have h1 := (hnlt _ e.symm).1; simp at h1 hul; omega)
                 have hown7 := (ownsRow_below HW.out ((Below.refl _ _).alloc (Nat.le_refl _) (.cells #[.bool false] 4))).kept hgrow6 HD2.out
                 have HO6 := hide hown6
                 have HB6 := hide hb56
                 clear hown6 hgrow6 hnn6 hb56)
              | (at_builtin; refine wpList_append_own _ rfl (.tmp 138) (.tmp 143) 24 rfl w5.heap.size 44 j0 (.slice none 0 0) 1 24 Tryd.underlying24 hj0 hy0 hy1 hy2 rfl (by decide) _ xs.length xs rfl (ownsRow_below hown7 ((Below.refl _ _).alloc (Nat.le_refl _) _)) ⟨w6.heap.size, 0, none⟩ 1 1 [.slice au (S[i]).length cu] rfl rfl (one_new _ _ rfl _ _) (by intro q hq; simp at hq; rw [hq]; rfl) (by unfold maxLen; omega) (by omega) (by rw [nblk_alloc]; omega) ?_; intro v8 w8 hown8 hgrow8 hnn8))
            have hR8 := Rl.push HXL.out HX.out hown7 HB6.out rfl HB.out.1 hgrow8 hown8
            have hn8 := (ownsRow_below HO6.out ((Below.refl _ _).alloc (Nat.le_refl _) (.cells #[.slice au (S[i]).length cu] 44))).kept hgrow8 (own_apart HO6.out hown7 bool_bytes)
            clear hown7 hown8 hgrow8 hnn8 hup6
            go_wp2
            go_roundw
            case rel => exact ⟨i + 1, by omega, by go_num, by rw [bls_succ, HZ.out]; exact hn8, by rw [inTo_here S HZ.out, HB.out.2]; exact hR8⟩
            case measure => simp [intOf]; omega
          · have HZ := hide hz
            clear hz
            go_wp2_with (first
              | (go_at_call 26; refine (has_is lost i hl (by omega) _).mono ?_; rintro e w' ⟨rfl, hw⟩; have hw2 := hw.symm; clear hw; subst hw2; rw [HZ.out])
              | (at_builtin; refine wpList_append_own _ rfl (.tmp 130) (.tmp 132) 58 rfl w5.heap.size 4 k0 (.bool false) 1 1 Tryd.underlying58 hk0 hx0 hx1 hx2 rfl (by decide) _ i (bls lost i) rfl (ownsRow_below HN.out ((Below.refl _ _).alloc (Nat.le_refl _) _)) ⟨wp.heap.size, 0, none⟩ 1 1 [.bool true] rfl rfl (one_new _ _ rfl _ _) (by simp [Value.oneCell']) (by unfold maxLen; omega) (by omega) (by rw [nblk_alloc]; omega) ?_; intro v6 w6 hown6 hgrow6 hnn6
                 have hb56 : Below w5.heap.size w5 w6 := (HBP.out.alloc hsp _).grown hgrow6 (by rw [nblk_alloc]; omega) (fun q hq => (hnlt q hq).1)
                 have hs6 := hb56.size
                 have hup6 := hgrow6.cell ((((Below.refl _ _).alloc (Nat.le_refl _) _).cell (block_lt_of_cell hup)).trans hup) (fun e => by have h1 := (hnlt _ e.symm).1; simp at h1 hul; omega)
                 have hown7 := (ownsRow_below HW.out ((Below.refl _ _).alloc (Nat.le_refl _) (.cells #[.bool true] 4))).kept hgrow6 HD2.out
                 have HO6 := hide hown6
                 have HB6 := hide hb56
                 clear hown6 hgrow6 hnn6 hb56)
              | (at_builtin; refine wpList_append_own _ rfl (.tmp 135) (.tmp 136) 24 rfl w5.heap.size 44 j0 (.slice none 0 0) 1 24 Tryd.underlying24 hj0 hy0 hy1 hy2 rfl (by decide) _ xs.length xs rfl (ownsRow_below hown7 ((Below.refl _ _).alloc (Nat.le_refl _) _)) ⟨w6.heap.size, 0, none⟩ 1 1 [.slice none 0 0] rfl rfl (one_new _ _ rfl _ _) (by intro q hq; simp at hq; rw [hq]; rfl) (by unfold maxLen; omega) (by omega) (by rw [nblk_alloc]; omega) ?_; intro v8 w8 hown8 hgrow8 hnn8))
            have hR8 := Rl.push HXL.out HX.out hown7 HB6.out rfl (bs_none w5) hgrow8 hown8
            have hn8 := (ownsRow_below HO6.out ((Below.refl _ _).alloc (Nat.le_refl _) (.cells #[.slice none 0 0] 44))).kept hgrow8 (own_apart HO6.out hown7 bool_bytes)
            clear hown7 hown8 hgrow8 hnn8 hup6
            go_wp2
            go_roundw
            case rel => exact ⟨i + 1, by omega, by go_num, by rw [bls_succ, HZ.out]; exact hn8, by rw [inTo_gone S HZ.out]; exact hR8⟩
            case measure => simp [intOf]; omega
        · have hi' : i = S.length := by omega
          subst hi'
          have hRd := Rl.rd (⟨xs, hxl, hxB, hown, hbp⟩ : Rl w5 wp _ _) (by rw [inTo_len]; omega)
          rw [inTo_all] at hRd
          have hGn := gn_own hnown
          have hs35 : w3.heap.size ≤ w5.heap.size := hb35.size
          have hb3p : Below w3.heap.size w3 wp := hb35.trans (hbp.mono hs35)
          have hs3p := hb3p.size
          have hbw1p : Below w1.heap.size w1 wp := HH.out.1.trans (hb3p.mono (by omega))
          obtain ⟨r0, r1, _⟩ := obj_cells ((hb3p.block w1.heap.size (by omega)).trans HH.out.2.1)
          have hlt' : ¬ (S.length : Int) < (S.length : Int) := by omega
          have hpg := program_any R (.slice ao m cc) (cmpP k L G lost C) wp (HPS.out.mono hbw1p) (by have := HP.out; omega) (fun t ht => wr_kind ht)
          have HRD := hide hRd
          have HGN := hide hGn
          obtain ⟨an, cn, rfl, _⟩ := id hGn
          clear hRd hGn hnown hown hxB hxl hlt
          go_wp2_with fail
          refine hpg.mono ?_
          clear hpg
          rintro e w7 ⟨v7, rfl, hps7, hb7⟩
          obtain ⟨a7, c7, rfl⟩ := hps7.slice
          have hs7 := hb7.size
          have ha7 := (Below.refl w7.heap.size w7).alloc (Nat.le_refl _) (.cells #[.int .i64 R, .slice a7 (cmpP k L G lost C).length c7] 53)
          have hbp7 : Below wp.heap.size wp (w7.alloc (.cells #[.int .i64 R, .slice a7 (cmpP k L G lost C).length c7] 53)) := hb7.trans (ha7.mono hs7)
          have hrg : (w7.alloc (.cells #[.int .i64 R, .slice a7 (cmpP k L G lost C).length c7] 53)).heap[w7.heap.size]? = some (.cells #[.int .i64 R, .slice a7 (cmpP k L G lost C).length c7] 53 (0, 0)) := World.alloc_heap_new w7 _
          have hil : (inL S lost).length = S.length := inL_len S lost
          have hrun := rrun_any R _ _ _ (cmpP k L G lost C) (inL S lost) lost _ (hps7.mono ha7) (cmp_ints hD hG h16 HC.out) (HRD.out.mono hbp7) (by rw [hil]; exact HGN.out.mono hbp7) (fun l hl => by
              unfold inL at hl
              obtain ⟨j, hj, rfl⟩ := List.mem_map.1 hl
              have hj' := List.mem_range.1 hj
              split
              · simp
              · have e : S.getD j [] = S[j] := by simp [hj']
                rw [e, HS9.out _ (List.getElem_mem hj')]; decide) (by have := HP.out; omega)
          have HQ := hide (And.intro ha7 (And.intro hbp7 (And.intro hrg hps7)))
          clear r0 r1 ha7 hbp7 hrg hps7
          go_wp2_with fail
          refine hrun.mono ?_
          clear hrun
          rintro e w8 ⟨h8, _, _, hb8⟩
          have hok8 : okProg R (cmpP k L G lost C) ((inL S lost).length : Nat) := by
            have := cmp_ok hD hL4 hG h16 HC.out
            rw [HR.out] at this
            rw [hil, HSL.out]
            exact this
          obtain ⟨v8, O8, rfl, hOuts, hO8⟩ := h8 hok8 HO.out.2.2.2
          have hRn : R.toNat = 1 + (mems (goneN (k + L + G) lost)).length := by have := HR.out; omega
          rw [hRn, HO.out.1] at hO8
          obtain ⟨hO8l, hO8k⟩ := outs_at h16 hO8 HO.out.2.1 HO.out.2.2.1
          obtain ⟨a8, c8, rfl, hcell8⟩ := hOuts.form
          have hs8 := hb8.size
          rw [nblk_alloc] at hb8 hs8
          have HO8 := hide (And.intro hO8l (And.intro hO8k hcell8))
          have hO16 : O8.length ≤ 16 := by rw [hO8l]; exact Nat.le_trans (List.length_filter_le _ _) (by simp)
          have hb38 : Below w3.heap.size w3 w8 := hb3p.trans ((HQ.out.2.1.mono hs3p).trans (hb8.mono (by omega)))
          have hbp8 : Below wp.heap.size wp w8 := HQ.out.2.1.trans (hb8.mono (by omega))
          have hrg8 := (hb8.block w7.heap.size (by omega)).trans HQ.out.2.2.1
          have hps8 := (HQ.out.2.2.2.mono HQ.out.1).mono (show Below _ _ w8 by rw [nblk_alloc]; exact hb8)
          have HQ8 := hide (And.intro hrg8 hps8)
          have HB38 := hide hb38
          have HBP8 := hide hbp8
          have HBP := hide hbp
          have hs38 := hb38.size
          clear h8 hok8 hOuts hO8 hO8l hO8k hcell8 hrg8 hps8 hb38 hbp8 HQ hb8 hbp hRn
          obtain ⟨SS, hSS, _, _⟩ := ld_all (fewestS 8 C (keptN (k + L + G) lost)).1 (goneN (k + L + G) lost) (keptN (k + L + G) lost)
          have HSS : Hid (ldAll (cmpP k L G lost C) = (SS, cntR (mems (keptN (k + L + G) lost)) (fewestS 8 C (keptN (k + L + G) lost)).1, false)) := hide hSS
          have hq16 : cntR (mems (keptN (k + L + G) lost)) (fewestS 8 C (keptN (k + L + G) lost)).1 ≤ 16 := Nat.le_trans (List.length_filter_le _ _) (Nat.le_trans (List.length_filter_le _ _) (by simp))
          generalize cntR (mems (keptN (k + L + G) lost)) (fewestS 8 C (keptN (k + L + G) lost)).1 = q at HSS HO HO8 hq16
          clear hSS
          go_wp2
          go_loopw [26, 27] (fun av iv wr => AtR w8 S.length lost av iv wr) (fun _ iv _ => S.length - (intOf iv).toNat)
          case atStart => exact ⟨0, Nat.zero_le _, rfl, rfl, Below.refl _ _⟩
          case round =>
            rename World => wq
            obtain ⟨i, hi, rfl, rfl, hbq⟩ := hrel
            have hsq := hbq.size
            have HBQ := hide hbq
            by_cases hlt : i < S.length
            · have hlt' : (i : Int) < (S.length : Int) := by omega
              obtain ⟨an', cn', e, hnc⟩ := HGN.out.mono (HBP8.out.trans (hbq.mono HBP8.out.size))
              obtain ⟨nb, hnb, hnv⟩ := hnc i hlt
              obtain ⟨rfl, rfl⟩ : an = an' ∧ cn = cn' := by simpa using e
              subst hnb
              rw [goneV_bit] at hnv
              clear hnc e
              cases hz : lost.testBit i
              · rw [hz] at hnv
                have HZ := hide (atN_out hz)
                clear hz hbq
                go_wp2
                go_roundw
                case rel => exact ⟨i + 1, by omega, by go_num, by rw [HZ.out], HBQ.out⟩
                case measure => simp [intOf]; omega
              · rw [hz] at hnv
                have HZ := hide (atN_in hz)
                obtain ⟨hat, ho1, ho2⟩ := HO8.out.2.1 i (by have := HSL.out; omega) hz
                obtain ⟨g8, hg8, hc1, hc2, hBs8⟩ := HO8.out.2.2 _ hat
                subst hg8
                obtain ⟨⟨osh, ob, on, ol⟩, hoo⟩ : ∃ o, O8[atN lost i] = o := ⟨_, rfl⟩
                rw [hoo] at ho1 ho2 hc1 hc2 hBs8
                simp only at ho1 ho2 hc1 hc2 hBs8
                subst ho1
                unfold hdr at hc2 hBs8
                simp only at hc2 hBs8
                have HO2 := hide ho2
                clear hoo hz ho2
                have hai : atN lost i ≤ i := atN_le lost i
                obtain ⟨a, ha⟩ : ∃ a, atN lost i = a := ⟨_, rfl⟩
                rw [ha] at hat hc1 hc2 hai HZ ⊢
                clear ha
                have hat' : ¬ (O8.length : Int) ≤ (a : Int) := by omega
                have hat2 : (a : Int) < (O8.length : Int) := by omega
                have d1 := (hbq.cell (block_lt_of_cell hc1)).trans hc1
                have hb3q : Below w3.heap.size w3 wq := HB38.out.trans (hbq.mono hs38)
                have hbw1q : Below w1.heap.size w1 wq := HH.out.1.trans (hb3q.mono (by omega))
                obtain ⟨r0, r1, _⟩ := obj_cells ((hb3q.block w1.heap.size (by omega)).trans HH.out.2.1)
                have hla := loaded_any R (.slice ao m cc) (cmpP k L G lost C) wq (HPS.out.mono hbw1q) (by have := HP.out; omega) (fun t ht => wr_kind ht)
                rw [HSS.out] at hla
                simp only at hla
                obtain ⟨u, hu, hB⟩ := HSC.out i hlt
                have hb5q : Below w5.heap.size w5 wq := HBP.out.trans ((HBP8.out.mono HBP.out.size).trans (hbq.mono (Nat.le_trans HBP.out.size HBP8.out.size)))
                have huq := (hb5q.cell (block_lt_of_cell hu)).trans hu
                have hBq := hB.mono hb5q
                obtain ⟨au, cu, rfl, _⟩ := id hB
                have hBs8q := hBs8.mono hbq
                have d2 := (hbq.cell (block_lt_of_cell hc2)).trans hc2
                have HBB := hide (And.intro hBq hBs8q)
                have hget : S.getD i [] = S[i] := by simp [hlt]
                rw [hget] at HO2
                generalize S[i] = row at *
                clear hB hu hBq hBs8 hBs8q hc1 hc2 hb5q hbw1q hb3q hbq hget
                go_wp2_with fail
                refine hla.mono ?_
                clear hla
                rintro e w10 ⟨rfl, hb10⟩
                have hs10 := hb10.size
                have d2 := (hb10.cell (block_lt_of_cell d2)).trans d2
                have huq := (hb10.cell (block_lt_of_cell huq)).trans huq
                have hsm : ∀ W, Below w10.heap.size w10 W → Calls Tryd.prog 32 #[.slice (some ⟨ob, 0, none⟩) on ol.length, .slice au row.length cu] W fun e w' => (∃ b : Bool, e = .returned (.bool b) ∧ (0 < q → b = true)) ∧ Below W.heap.size W w' := by
                  intro W hbW
                  have hbqW : Below wq.heap.size wq W := hb10.trans (hbW.mono hs10)
                  refine (same_some _ _ _ _ W (HBB.out.2.mono hbqW) (HBB.out.1.mono hbqW)).mono ?_
                  rintro e w' ⟨⟨b, rfl, hbt⟩, hbb⟩
                  exact ⟨⟨b, rfl, fun h => hbt (HO2.out h)⟩, hbb⟩
                have hl8 : Below w8.heap.size w8 w10 := HBQ.out.trans (hb10.mono hsq)
                clear r0 r1 d1 hb10 hnv
                go_upto_region 45 with fail
                go_region_held3 (fun w' => w'.cell? ⟨g8, a * 2 + 1, none⟩ = some (.slice (some ⟨ob, 0, none⟩) on ol.length) ∧ w'.cell? ⟨sb, soff + i, none⟩ = some (.slice au row.length cu)) (first | exact ⟨d2, huq⟩ | exact ⟨db2, dbu⟩ | go_keep) ((go_at_call 32; refine (hsm _ ((Below.refl _ w10).drew)).mono ?_; rintro e wb ⟨⟨bb, rfl, hbt⟩, hbb⟩; have hb10b : Below w10.heap.size w10 wb := ((Below.refl _ w10).drew).trans hbb; have db2 := (hb10b.cell (block_lt_of_cell d2)).trans d2; have dbu := (hb10b.cell (block_lt_of_cell huq)).trans huq))
                have hl9 : Below w8.heap.size w8 wb := hl8.trans (hb10b.mono (Nat.le_trans hsq hs10))
                clear d2 huq db2 dbu hsm hbb hl8
                by_cases hq0 : 0 < q
                · have hq0' : (0 : Int) < (q : Int) := by omega
                  obtain rfl := hbt hq0
                  go_wp2
                  go_roundw
                  case rel => exact ⟨i + 1, by omega, by go_num, by rw [HZ.out]; go_num, hl9⟩
                  case measure => simp [intOf]; omega
                · have hq0' : ¬ (0 : Int) < (q : Int) := by omega
                  clear hbt
                  go_wp2
                  go_roundw
                  case rel => exact ⟨i + 1, by omega, by go_num, by rw [HZ.out]; go_num, hl9⟩
                  case measure => simp [intOf]; omega
            · have hi' : i = S.length := by omega
              subst hi'
              have hlt' : ¬ (S.length : Int) < (S.length : Int) := by omega
              have hend : atN lost S.length = O8.length := by rw [HO8.out.1, HSL.out, at_all h16]
              rw [hend]
              have hb3q : Below w3.heap.size w3 wq := HB38.out.trans (hbq.mono hs38)
              have hs3q := hb3q.size
              have hbwq : Below w.heap.size w wq := hbw3.trans (hb3q.mono (by omega))
              have p0 := (hb3q.cell (p := ⟨w.heap.size, 0, none⟩) (by show w.heap.size < _; omega)).trans p0
              have p1 := (hb3q.cell (p := ⟨w.heap.size, 1, none⟩) (by show w.heap.size < _; omega)).trans p1
              have p2 := (hb3q.cell (p := ⟨w.heap.size, 2, none⟩) (by show w.heap.size < _; omega)).trans p2
              have hcp := scompile_right k L G lost hr hD1 hD hL hL4 hG hdiv h16 hl wq (HT.out.mono (by omega) hbwq) (by have := hbwq.size; omega)
              have hbq7 := (hbq.block w7.heap.size (by omega)).trans HQ8.out.1
              have hpsq := HQ8.out.2.mono hbq
              have HPQ := hide (And.intro hbq7 hpsq)
              clear hlt hi hbq7 hpsq hend hb3q
              go_wp2_with fail
              refine hcp.mono ?_
              clear hcp
              rintro e w11 ⟨hb11, hcs⟩
              have hs11 := hb11.size
              obtain ⟨v9, rfl, hps9⟩ : ∃ v9, e = .returned (.tuple #[.agg #[.int .i64 R, v9], .nilIface]) ∧ Ps .u8 w11 v9 (cmpP k L G lost C) := by
                rcases hcs with ⟨hno, _⟩ | ⟨C', v, hs, h1, h2⟩
                · rw [HC.out] at hno; cases hno
                · rw [HC.out] at hs
                  obtain rfl := Option.some.inj hs
                  rw [HR.out] at h1
                  exact ⟨v, h1, owns_ps h2 (show (cmpP k L G lost C).length ≤ _ by have := HP.out; omega)⟩
              obtain ⟨a9, c9, rfl⟩ := hps9.slice
              have ha11 := (Below.refl w11.heap.size w11).alloc (Nat.le_refl _) (.cells #[.int .i64 R, .slice a9 (cmpP k L G lost C).length c9] 49)
              have hbqa : Below wq.heap.size wq (w11.alloc (.cells #[.int .i64 R, .slice a9 (cmpP k L G lost C).length c9] 49)) := hb11.trans (ha11.mono hs11)
              obtain ⟨g0, g1, _⟩ := obj_cells ((hbqa.block w7.heap.size (by omega)).trans HPQ.out.1)
              have hsp := sameProgram_any R _ _ (cmpP k L G lost C) _ (hps9.mono ha11) (HPQ.out.2.mono hbqa) (cmp_ints hD hG h16 HC.out)
              have HBA := hide (hbwq.trans (hbqa.mono (hbwq.size)))
              clear hcs p0 p1 p2 hps9 ha11 hbqa
              go_wp2_with fail
              refine hsp.mono ?_
              clear hsp
              rintro e w12 ⟨rfl, hb12⟩
              have hbw12 := HBA.out.trans (hb12.mono HBA.out.size)
              clear g0 g1 hb12
              go_wp2
              go_ret
              exact ⟨rfl, hbw12⟩
theorem compiles_any (D L G : Int) (lost : Nat) (hl : lost < 18446744073709551616) (vd : Value) (Da : List (List Nat)) (w : World) (hd : Rd w vd Da) (hg : globalLaid w) (hT : tabLaid w) (h2 : 2 ≤ w.heap.size) :
    Calls Tryd.prog 9 #[.agg #[.int .i64 D, .int .i64 L, .int .i64 G], .int .u64 lost, vd] w fun e w' => e = .returned (.bool true) ∧ Below w.heap.size w w' := by
  have hb0 : Below w.heap.size w (w.alloc (.cells #[.int .i64 D, .int .i64 L, .int .i64 G] 23)) := (Below.refl _ _).alloc (Nat.le_refl _) _
  have hg0 : globalLaid (w.alloc (.cells #[.int .i64 D, .int .i64 L, .int .i64 G] 23)) := (hb0.cell (block_lt_of_cell hg)).trans hg
  have hT0 := hT.mono (by omega) hb0
  have h20 : 2 ≤ (w.alloc (.cells #[.int .i64 D, .int .i64 L, .int .i64 G] 23)).heap.size := by rw [nblk_alloc]; omega
  cases hr : rightB D L G with
  | false => exact compiles_none D L G lost vd Da w hd (compiled_wrong D L G lost hr _ hg0)
  | true =>
    obtain ⟨d, l, g, rfl, rfl, rfl, h1, h3, h4, h5, h6, h7, h8⟩ := right_nats hr
    cases hC : tells (cks d l g) (mems (goneN (d + l + g) lost)) with
    | none => exact compiles_none d l g lost vd Da w hd (compiled_no d l g lost hr h1 h3 h4 h5 h6 h7 h8 hl hC _ hg0 hT0 h20)
    | some C => exact compiles_some d l g lost hr h1 h3 h4 h5 h6 h7 h8 hl C hC vd Da w hd hT h2
end Go.Proofs.YthhommjlomphdaaDoor
