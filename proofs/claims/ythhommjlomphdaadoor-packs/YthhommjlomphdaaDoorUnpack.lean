/-
  Unpack: the program's.
-/
import Derived.Test.YthhommjlomphdaaDoorPackable
import Derived.Test.YthhommjlomphdaaDoorUnpackRegion
import Derived.Test.YthhommjlomphdaaDoorSame
import Derived.Laws.BitsAllLaws
namespace Go.Proofs.YthhommjlomphdaaDoor
open Go.RowKit Go.Deep

/-- bytes from the head of a block on -/
def Bh (w : World) (b : Nat) (l : List Nat) : Prop := ∀ k, k < l.length → w.cell? ⟨b, k, none⟩ = some (.int .u8 ((l.getD k 0 : Nat) : Int))
theorem Bh.mono {w w' : World} {b : Nat} {l : List Nat} (h : Bh w b l) (hb : Below w.heap.size w w') : Bh w' b l := fun k hk => by
  rw [hb.cell (block_lt_of_cell (h k hk))]; exact h k hk
def nOf (l : List Nat) : Nat := l.getD 1 0 * 256 + l.getD 2 0
theorem or_256 (a b : Nat) (ha : a < 256) (hb : b < 256) : bits .or .i64 ((a : Int) * 256) (b : Int) = ((a * 256 + b : Nat) : Int) := by
  have h : ((a : Int) * 256) = ((a * 256 : Nat) : Int) := by omega
  have e : a * 256 ||| b = a * 256 + b := by
    have := Nat.shiftLeft_add_eq_or_of_lt (show b < 2 ^ 8 from hb) a
    rw [Nat.shiftLeft_eq] at this
    exact this.symm
  rw [h, (bits_nat .i64 62 (by decide) wraps_i64 (a * 256) b (by omega) (by omega)).2, e]
set_option maxRecDepth 100000 in
set_option maxHeartbeats 1000000 in
theorem stepsOf_any (b c : Nat) (l : List Nat) (w : World) (h : Bh w b l) (h3 : 3 ≤ l.length) (hx : ∀ x ∈ l, x < 256) :
    Calls Tryd.prog 84 #[.slice (some ⟨b, 0, none⟩) l.length c] w fun r w' => r = .returned (.int .i64 (nOf l : Nat)) ∧ Below w.heap.size w w' := by
  have c1 := h 1 (by omega)
  have c2 := h 2 (by omega)
  have hb1 := getD_lt hx 1
  have hb2 := getD_lt hx 2
  have hor := or_256 _ _ hb1 hb2
  have hn : Hid (nOf l = l.getD 1 0 * 256 + l.getD 2 0) := rfl
  clear h hx
  generalize l.getD 1 0 = x1 at *
  generalize l.getD 2 0 = x2 at *
  go_enter Tryd.func84, Tryd.ntmps84
  go_wp2
  go_quiet (fail)
  go_wp2
  go_ret
  refine ⟨?_, ⟨rfl, rfl, rfl, Nat.le_refl _, fun _ _ => rfl⟩⟩
  rw [hn.out]
  refine ret_int ?_
  omega
/-- the steps that bytes tell -/
def stp (l : List Nat) (i : Nat) : St := ⟨l.getD (3 + 4 * i) 0, (l.getD (4 + 4 * i) 0 : Nat), (l.getD (5 + 4 * i) 0 : Nat), l.getD (6 + 4 * i) 0⟩
def stpTo (l : List Nat) (k : Nat) : List St := (List.range k).map (stp l)
theorem stpTo_len (l : List Nat) (k : Nat) : (stpTo l k).length = k := by simp [stpTo]
theorem stpTo_succ (l : List Nat) (k : Nat) : stpTo l (k + 1) = stpTo l k ++ [stp l k] := by simp [stpTo, List.range_succ]
def Good (l : List Nat) : Prop := 3 ≤ l.length ∧ l.length = 3 + 4 * nOf l ∧ okPack ((l.getD 0 0 : Nat) : Int) (stpTo l (nOf l))
def UnPost (l : List Nat) (w : World) (r : Ending) (w' : World) : Prop :=
  (Good l → ∃ v, r = .returned (.tuple #[.agg #[.int .i64 ((l.getD 0 0 : Nat) : Int), v], .nilIface]) ∧ Ps .u8 w' v (stpTo l (nOf l))) ∧
  (¬ Good l → r = .returned (.tuple #[.agg #[.int .i64 0, .slice none 0 0], .iface 29 (.int .i64 4)])) ∧ Below w.heap.size w w'
theorem Tryd.infoStep : (Tryd.prog.info? 92).map (fun i => (i.zero, i.size, i.bytes)) = some (some (.agg #[.int .u8 0, .int .i64 0, .int .i64 0, .int .u8 0]), 4, 32) := by kernel_rfl
/-- at each round's head -/
def UnR (w3 : World) (ob bb r0 : Nat) (l : List Nat) (bv0 : Value) (wr : World) : Prop :=
  ∃ (k : Nat) (v : Value), k ≤ nOf l ∧ bv0 = .slice (some ⟨bb, 3 + 4 * k, none⟩) (4 * (nOf l - k)) (4 * (nOf l - k) + 2) ∧ wr.heap[ob]? = some (.cells #[.int .i64 (r0 : Int), v] 49 (0, 0)) ∧ wr.ownsRow w3.heap.size 92 4 v k (stcs .u8 (stpTo l k)) ∧ w3.grownBy wr (some ob)
def lenOf : Value → Nat
  | .slice _ n _ => n
  | _ => 0
set_option maxRecDepth 100000 in
set_option maxHeartbeats 4000000 in
theorem unpack_any (bb : Nat) (l : List Nat) (w : World) (h : Bh w bb l) (hx : ∀ x ∈ l, x < 256) (hlb : bb < w.heap.size) (hl : l.length ≤ 1000000) :
    Calls Tryd.prog 70 #[.slice (some ⟨bb, 0, none⟩) l.length (l.length + 2)] w fun r w' => UnPost l w r w' := by
  obtain ⟨i0, hi0, hz0, hz1, hz2⟩ := info_parts Tryd.infoStep
  have hb0 : Below w.heap.size w (w.alloc (.cells #[.int .i64 0, .slice none 0 0] 49)) := (Below.refl _ _).alloc (Nat.le_refl _) _
  by_cases h3 : 3 ≤ l.length
  · have h0 := h.mono hb0
    have hnn : nOf l ≤ 65535 := by
      unfold nOf
      have := getD_lt hx 1
      have := getD_lt hx 2
      omega
    by_cases hn : l.length = 3 + 4 * nOf l
    · have t0 : (((l.length : Nat) : Int) != 3 + 4 * ((nOf l : Nat) : Int)) = false := by simp; omega
      have HNL := hide hn
      have HX := hide hx
      have HB := hide h
      have hlI : ¬ ((l.length : Nat) : Int) < 3 := by omega
      clear hn hx h
      go_enter Tryd.func70, Tryd.ntmps70
      go_wp2_with fail
      refine (stepsOf_any bb (l.length + 2) l _ h0 h3 HX.out).mono ?_
      rintro e w1 ⟨rfl, hb1⟩
      rw [nblk_alloc] at hb1
      have hx1 : w1.heap[w.heap.size]? = some (.cells #[.int .i64 0, .slice none 0 0] 49 (0, 0)) := (hb1.block _ (by omega)).trans (heap_alloc_last w _)
      obtain ⟨p0, p1, p2, p3⟩ := obj_cells hx1
      have hs1 := hb1.size
      rw [nblk_alloc] at hs1
      have hbw1 := hb0.trans (hb1.mono (by omega))
      have c0 := (HB.out.mono hbw1) 0 (by omega)
      clear hb1 h0
      have hr0 := getD_lt HX.out 0
      have HR0 : Hid (∃ r, l.getD 0 0 = r) := ⟨_, rfl⟩
      obtain ⟨r0, hl0⟩ := HR0.out
      have HL0 := hide hl0
      rw [hl0] at hr0 c0
      clear hl0 HR0
      go_wp2
      obtain ⟨w3, hw3, hz3⟩ : ∃ w3, w1.alloc (.cells #[.int .i64 (r0 : Int), .slice none 0 0] 49) = w3 ∧ w3.heap[w1.heap.size]? = some (.cells #[.int .i64 (r0 : Int), .slice none 0 0] 49 (0, 0)) := ⟨_, rfl, heap_alloc_last w1 _⟩
      have hs3 : w3.heap.size = w1.heap.size + 1 := by rw [← hw3, nblk_alloc]
      have hb3 : Below w1.heap.size w1 w3 := by rw [← hw3]; exact (Below.refl _ _).alloc (Nat.le_refl _) _
      have hbw3 := hbw1.trans (hb3.mono (by omega))
      rw [hw3]
      clear hw3 c0
      go_loopw [0] (fun bv0 wr => UnR w3 w1.heap.size bb r0 l bv0 wr) (fun bv0 _ => lenOf bv0)
      case atStart =>
        have := HNL.out
        refine ⟨0, _, Nat.zero_le _, ?_, hz3, World.ownsRow_nil _ _ _ _, World.grownBy.refl _ _⟩
        rw [show l.length - 3 = 4 * (nOf l - 0) by omega, show l.length - 1 = 4 * (nOf l - 0) + 2 by omega]
      case round =>
        clear hz3
        rename World => wo
        obtain ⟨k, vv, hk, rfl, hob, hown, hgr⟩ := hrel
        obtain ⟨o0, o1, f1, f0⟩ := obj_cells hob
        have hso := hgr.size
        have hbo : Below w.heap.size w wo := ⟨hgr.os.trans hbw3.os, hgr.tape.trans hbw3.tape, hgr.output.trans hbw3.output, by omega, fun j hj => (hgr.block j (by omega) (by simp; omega)).trans (hbw3.block j hj)⟩
        have hyo := ((hgr.block w.heap.size (by omega) (by simp; omega)).trans (hb3.block _ (by omega))).trans hx1
        have hBo := HB.out.mono hbo
        by_cases hlt : k < nOf l
        · obtain ⟨m, hm⟩ : ∃ m, nOf l - k = m + 1 := ⟨nOf l - k - 1, by omega⟩
          have HM := hide hm
          have hlen := HNL.out
          have c0 := hBo (3 + 4 * k) (by omega)
          have c1 := hBo (3 + 4 * k + 1) (by omega)
          have c2 := hBo (3 + 4 * k + 2) (by omega)
          have c3 := hBo (3 + 4 * k + 3) (by omega)
          have x0 := getD_lt HX.out (3 + 4 * k)
          have x1 := getD_lt HX.out (3 + 4 * k + 1)
          have x2 := getD_lt HX.out (3 + 4 * k + 2)
          have x3 := getD_lt HX.out (3 + 4 * k + 3)
          have HSP : Hid (stc .u8 (stp l k) = [.int .u8 ((l.getD (3 + 4 * k) 0 : Nat) : Int), .int .i64 ((l.getD (3 + 4 * k + 1) 0 : Nat) : Int), .int .i64 ((l.getD (3 + 4 * k + 2) 0 : Nat) : Int), .int .u8 ((l.getD (3 + 4 * k + 3) 0 : Nat) : Int)]) := by
            simp only [stc, stp]
            rw [show 4 + 4 * k = 3 + 4 * k + 1 by omega, show 5 + 4 * k = 3 + 4 * k + 2 by omega, show 6 + 4 * k = 3 + 4 * k + 3 by omega]
            exact (rfl : _ = _)
          have HOB := hide hob
          have HG := hide hgr
          have HLT := hide hown.lt
          have HOW := hide hown
          clear hown
          have HBO := hide hbo
          clear hob hgr hBo hbo hlen
          rw [hm]
          clear hm
          generalize l.getD (3 + 4 * k) 0 = y0 at *
          generalize l.getD (3 + 4 * k + 1) 0 = y1 at *
          generalize l.getD (3 + 4 * k + 2) 0 = y2 at *
          generalize l.getD (3 + 4 * k + 3) 0 = y3 at *
          have e4 : 4 * (m + 1) = 4 * m + 4 := by omega
          rw [e4]
          clear e4
          have hnb : w1.heap.size ≠ bb := by omega
          go_wp2
          refine region7 bb (3 + 4 * k) (4 * m + 4) (4 * m + 4 + 2) w1.heap.size y0 y1 y2 y3 w3.heap.size k vv (stcs .u8 (stpTo l k)) (by kernel_rfl) (fun _ _ _ _ _ h => h) rfl rfl rfl (by omega) hnb x1 x2 c0 c1 c2 c3 o1 hso (by omega) (by omega) (by omega) HOW.out f1 ?_
          intro g' cap' w2 hg1 hown' hgrow
          have hob2 : w2.heap[w1.heap.size]? = some (.cells #[.int .i64 (r0 : Int), vv] 49 (0, 0)) :=
            ((hgrow.block _ (by rw [nblk_alloc]; omega) (fun e => by have := (HLT.out _ e.symm).1; omega)).trans (heap_old wo _ _ (by omega))).trans HOB.out
          have HO2 := hide hown'
          have HG2 := hide hgrow
          have HB2 := hide hob2
          clear hown' hgrow hob2
          unfold act7 act7a
          have hset : w2.grownBy (w2.setCell ⟨w1.heap.size, 1, none⟩ (.slice (some ⟨g', 0, none⟩) (k + 1) cap')) (some w1.heap.size) := grown_set' _ _ _ _
          have hR := hide (show UnR w3 w1.heap.size bb r0 l (.slice (some ⟨bb, 3 + 4 * (k + 1), none⟩) (4 * (nOf l - (k + 1))) (4 * (nOf l - (k + 1)) + 2)) (w2.setCell ⟨w1.heap.size, 1, none⟩ (.slice (some ⟨g', 0, none⟩) (k + 1) cap')) from by
            refine ⟨k + 1, .slice (some ⟨g', 0, none⟩) (k + 1) cap', by omega, rfl, ?_, ?_, ?_⟩
            · simp [World.setCell, Array.getElem?_modify, HB2.out]
            · rw [stpTo_succ, stcs_append]
              simp only [stcs, List.append_nil]
              rw [HSP.out]
              exact HO2.out.kept hset (.inr (by simp [Value.ownBlock]; omega))
            · have h1 := grown_alloc HG.out (.cells #[.int .u8 (y0 : Int), .int .i64 (y1 : Int), .int .i64 (y2 : Int), .int .u8 (y3 : Int)] 92)
              have h2 := grown_own h1 HG2.out (fun q hq => (HLT.out q hq).1)
              exact ⟨hset.os.trans h2.os, hset.tape.trans h2.tape, hset.output.trans h2.output, Nat.le_trans h2.size hset.size, fun q hq hne => (hset.block q (Nat.lt_of_lt_of_le hq h2.size) hne).trans (h2.block q hq hne)⟩)
          have hm := HM.out
          rw [show 4 * (nOf l - (k + 1)) = 4 * m by omega, show 3 + 4 * (k + 1) = 3 + 4 * k + 4 by omega] at hR
          clear HO2 HG2 HB2 HG HOB HOW HLT hset hm
          go_wp2
          go_roundw
          case rel => exact hR.out
          case measure => simp [lenOf]
        · have hkk : k = nOf l := by omega
          rw [hkk, Nat.sub_self]
          rw [hkk] at hown
          have hps := owns_ps (P := stpTo l (nOf l)) (by rw [stpTo_len]; exact hown) (by rw [stpTo_len]; omega)
          obtain ⟨av, cv, rfl⟩ := hps.slice
          obtain ⟨m0, m1, m2, m3⟩ := obj_cells hyo
          have hne : (Value.slice av (stpTo l (nOf l)).length cv).ownBlock ≠ some w.heap.size := fun e => by have := (hown.lt _ e).1; omega
          have HOWN := hide hown
          have HPS := hide hps
          have hgd : okPack (r0 : Int) (stpTo l (nOf l)) ↔ Good l := by
            unfold Good
            rw [HL0.out]
            exact ⟨fun h => ⟨h3, HNL.out, h⟩, fun h => h.2.2⟩
          have HGD := hide hgd
          clear hgd
          clear hown hps hBo hgr hkk
          go_wp2_with fail
          refine (packable_any (r0 : Int) _ (stpTo l (nOf l)) _ HPS.out).mono ?_
          rintro r w5 ⟨bk, rfl, hbk, hb5⟩
          have HBK := hide hbk
          have hs5 := hb5.size
          have t0' := (hb5.cell (block_lt_of_cell o0)).trans o0
          have t1' := (hb5.cell (block_lt_of_cell o1)).trans o1
          have hy5 : w5.heap[w.heap.size]? = some (.cells #[.int .i64 0, .slice none 0 0] 49 (0, 0)) := (hb5.block _ (by omega)).trans hyo
          obtain ⟨n0, n1, n2, n3⟩ := obj_cells hy5
          have hbw5 := hbo.trans (hb5.mono (by omega))
          clear hbk m0 m1 m2 m3 o0 o1 f0 f1
          cases bk
          · have HN : Hid (¬ Good l) := fun hg => by have := HBK.out.2 (HGD.out.2 hg); simp at this
            clear HBK HGD HPS HOWN hne
            go_wp2
            exact bodyPost_ret (v := .tuple #[.agg #[.int .i64 0, .slice none 0 0], .iface 29 (.int .i64 4)]) (by simp [results, Tryd.results70, go_sem, n0, n1]) rfl ⟨fun hg => absurd hg HN.out, fun _ => rfl, (hbw5.setCell (by simp) _).setCell (by simp) _⟩
          · have HG2 := hide (HGD.out.1 (HBK.out.1 (by trivial)))
            have ho5 := ownsRow_below HOWN.out hb5
            have HP5 := hide (owns_ps (P := stpTo l (nOf l)) ((((show w5.ownsRow w3.heap.size 92 4 _ (stpTo l (nOf l)).length (stcs .u8 (stpTo l (nOf l))) by rw [stpTo_len] at *; exact ho5).kept (grown_set' w5 w.heap.size 0 (.int .i64 (r0 : Int))) (.inr hne)).kept (grown_set' _ w.heap.size 1 (.slice av (stpTo l (nOf l)).length cv)) (.inr hne))) (by rw [stpTo_len]; omega))
            clear HBK HGD HPS HOWN hne ho5
            go_wp2
            exact bodyPost_ret (v := .tuple #[.agg #[.int .i64 (r0 : Int), .slice av (stpTo l (nOf l)).length cv], .nilIface]) (by simp [results, Tryd.results70, go_sem, n0, n1]) rfl ⟨fun _ => ⟨_, by rw [HL0.out], HP5.out⟩, fun hg => absurd HG2.out hg, (hbw5.setCell (by simp) _).setCell (by simp) _⟩
    · have HN : Hid (¬ Good l) := fun hg => hn hg.2.1
      have t0 : (((l.length : Nat) : Int) != 3 + 4 * ((nOf l : Nat) : Int)) = true := by simp; omega
      have HX := hide hx
      have hlI : ¬ ((l.length : Nat) : Int) < 3 := by omega
      clear hn hx h
      go_enter Tryd.func70, Tryd.ntmps70
      go_wp2_with fail
      refine (stepsOf_any bb (l.length + 2) l _ h0 h3 HX.out).mono ?_
      rintro e w1 ⟨rfl, hb1⟩
      rw [nblk_alloc] at hb1
      have hx1 : w1.heap[w.heap.size]? = some (.cells #[.int .i64 0, .slice none 0 0] 49 (0, 0)) := (hb1.block _ (by omega)).trans (heap_alloc_last w _)
      obtain ⟨p0, p1, p2, p3⟩ := obj_cells hx1
      have hbw1 := hb0.trans (hb1.mono (by omega))
      clear hb1 h0
      go_wp2
      exact bodyPost_ret (v := .tuple #[.agg #[.int .i64 0, .slice none 0 0], .iface 29 (.int .i64 4)]) (by simp [results, Tryd.results70, go_sem, p0, p1]) rfl ⟨fun hg => absurd hg HN.out, fun _ => rfl, (hbw1.setCell (by simp) _).setCell (by simp) _⟩
  · have HN : Hid (¬ Good l) := fun hg => h3 hg.1
    have hlt3 : ((l.length : Nat) : Int) < 3 := by omega
    go_enter Tryd.func70, Tryd.ntmps70
    have hx1 := heap_alloc_last w (.cells #[.int .i64 0, .slice none 0 0] 49)
    obtain ⟨p0, p1, p2, p3⟩ := obj_cells hx1
    go_wp2
    exact bodyPost_ret (v := .tuple #[.agg #[.int .i64 0, .slice none 0 0], .iface 29 (.int .i64 4)]) (by simp [results, Tryd.results70, go_sem, p0, p1]) rfl ⟨fun hg => absurd hg HN.out, fun _ => rfl, hb0⟩
end Go.Proofs.YthhommjlomphdaaDoor
