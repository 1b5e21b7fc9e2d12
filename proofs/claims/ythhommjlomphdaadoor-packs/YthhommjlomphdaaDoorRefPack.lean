/-
  Pack: the document's.
-/
import Derived.Test.YthhommjlomphdaaDoorPack
namespace Go.Proofs.YthhommjlomphdaaDoor
open Go.RowKit Go.Deep

def RpPost (regs : Int) (P : List St) (w : World) (r : Ending) (w' : World) : Prop :=
  (okPack regs P → ∃ v, r = .returned (.tuple #[v, .int .i64 0]) ∧ w'.ownsRow w.heap.size 5 1 v (3 + P.length * 4) (bv (packTo regs P P.length))) ∧
  (¬ okPack regs P → r = .returned (.tuple #[.slice none 0 0, .int .i64 4])) ∧ Below w.heap.size w w'
def RpR (w : World) (regs : Int) (P : List St) (v i : Value) (wr : World) : Prop := ∃ k : Nat, k ≤ P.length ∧ i = .int .i64 k ∧ (∀ j (hj : j < P.length), j < k → okPk P[j]) ∧ wr.ownsRow w.heap.size 5 1 v (3 + k * 4) (bv (packTo regs P k)) ∧ Below w.heap.size w wr ∧ w.heap.size ≤ wr.heap.size
set_option maxRecDepth 100000 in
set_option maxHeartbeats 4000000 in
theorem rpack_any (regs : Int) (v : Value) (P : List St) (w : World) (h : Ps .i64 w v P) (hP : ∀ s ∈ P, okInts s) :
    Calls Tryd.prog 31 #[.agg #[.int .i64 regs, v]] w fun r w' => RpPost regs P w r w' := by
  obtain ⟨i0, hi0, hz0, hz1, hz2⟩ := info_parts Tryd.infoByte
  have hb0 : Below w.heap.size w (w.alloc (.cells #[.int .i64 regs, v] 53)) := (Below.refl _ _).alloc (Nat.le_refl _) _
  obtain ⟨ao, c, rfl⟩ := h.slice
  by_cases hh : okHead regs P
  · have HH := hide hh
    obtain ⟨g0, g1, g2⟩ := hh
    obtain ⟨r, rfl⟩ : ∃ r : Nat, regs = (r : Int) := ⟨regs.toNat, by omega⟩
    have hr32 : r ≤ 32 := by omega
    obtain ⟨w1, hw1, hx⟩ : ∃ w1, w.alloc (.cells #[.int .i64 (r : Int), .slice ao P.length c] 53) = w1 ∧ w1.heap[w.heap.size]? = some (.cells #[.int .i64 (r : Int), .slice ao P.length c] 53 (0, 0)) := ⟨_, rfl, heap_alloc_last w _⟩
    have hs1 : w1.heap.size = w.heap.size + 1 := by rw [← hw1, nblk_alloc]
    rw [hw1] at hb0
    have h1 := h.mono hb0
    obtain ⟨p0, p1, _, _⟩ := obj_cells hx
    have hlit := World.ownsRow_lit (e := 5) (size := 1) (base := w1.heap.size) w1 #[.int .u8 (r : Int), .int .u8 ((P.length : Int) / 256), .int .u8 ((P.length : Int) % 256)] 3 (Nat.le_refl _) (by unfold maxLen; omega) rfl
    have ho2 : (w1.alloc (.cells #[.int .u8 (r : Int), .int .u8 ((P.length : Int) / 256), .int .u8 ((P.length : Int) % 256)] 5)).ownsRow w1.heap.size 5 1 (.slice (some ⟨w1.heap.size, 0, none⟩) 3 3) (3 + 0 * 4) (bv (packTo (r : Int) P 0)) := by
      have e : bv (packTo (r : Int) P 0) = [.int .u8 (r : Int), .int .u8 ((P.length : Int) / 256), .int .u8 ((P.length : Int) % 256)] := by simp [bv, packTo]
      rw [e]; exact hlit
    have HO2 := hide ho2
    clear hlit ho2 g0 g1
    go_enter Tryd.func31, Tryd.ntmps31
    go_wp2
    clear hw1 h
    have hb2 := (Below.refl w1.heap.size w1).alloc (Nat.le_refl _) (.cells #[.int .u8 (r : Int), .int .u8 ((P.length : Int) / 256), .int .u8 ((P.length : Int) % 256)] 5)
    go_loopw [4, 5] (fun v i wr => RpR w1 (r : Int) P v i wr) (fun _ i _ => P.length - (intOf i).toNat)
    case atStart => exact ⟨0, Nat.zero_le _, rfl, fun j _ hj => absurd hj (by omega), by rw [← hs1]; exact HO2.out, hb2, hb2.size⟩
    case round =>
      clear hb2 HO2
      rename World => wo
      obtain ⟨k, hk, rfl, hok, hown, hbo, hso⟩ := hrel
      have q0 := (hbo.cell (block_lt_of_cell p0)).trans p0
      have q1 := (hbo.cell (block_lt_of_cell p1)).trans p1
      have hbwo := hb0.trans (hbo.mono (by omega))
      by_cases hlt : k < P.length
      · rcases (h1.mono hbo).cases with ⟨rfl, _⟩ | ⟨b, off, c', e, _, hc⟩
        · simp at hlt
        simp at e
        obtain ⟨rfl, rfl⟩ := e
        obtain ⟨d0, d1, d2, d3⟩ := hc k hlt
        obtain ⟨w2, hw2, hx2, hbo2⟩ : ∃ w2, wo.alloc (.cells #[.int .i64 P[k].k, .int .i64 P[k].a, .int .i64 P[k].b, .int .u8 P[k].c] 94) = w2 ∧ w2.heap[wo.heap.size]? = some (.cells #[.int .i64 P[k].k, .int .i64 P[k].a, .int .i64 P[k].b, .int .u8 P[k].c] 94 (0, 0)) ∧ Below wo.heap.size wo w2 :=
          ⟨_, rfl, heap_alloc_last wo _, (Below.refl _ _).alloc (Nat.le_refl _) _⟩
        have hs2 : w2.heap.size = wo.heap.size + 1 := by rw [← hw2, nblk_alloc]
        have z1 : w2.cell? ⟨wo.heap.size, 0, none⟩ = some (.int .i64 P[k].k) := by simp [World.cell?, hx2]
        have z2 : w2.cell? ⟨wo.heap.size, 1, none⟩ = some (.int .i64 P[k].a) := by simp [World.cell?, hx2]
        have z3 : w2.cell? ⟨wo.heap.size, 2, none⟩ = some (.int .i64 P[k].b) := by simp [World.cell?, hx2]
        have z4 : w2.cell? ⟨wo.heap.size, 3, none⟩ = some (.int .u8 P[k].c) := by simp [World.cell?, hx2]
        have HST : Hid (okPk P[k] ↔ P[k].k ≤ 2 ∧ 0 ≤ P[k].a ∧ P[k].a ≤ 255 ∧ 0 ≤ P[k].b ∧ P[k].b ≤ 255 ∧ (P[k].k = 1 ∨ P[k].c = 0)) := Iff.rfl
        have HPS := hide (packTo_succ (r : Int) P k hlt)
        have HPK : Hid (packS P[k] = [P[k].k, P[k].a.toNat, P[k].b.toNat, P[k].c]) := rfl
        have HC := hide hc
        have HOK := hide hok
        have HW := hide (ownsRow_below hown hbo2)
        have HLT := hide hown.lt
        have hsk := (hP _ (List.getElem_mem hlt)).1
        clear hc hok h1 hx2 hown hP
        generalize P[k].k = sk at *
        generalize P[k].c = sc at *
        generalize P[k].a = sa at *
        generalize P[k].b = sb at *
        have e0 : ¬ ((sk : Int) < 0) := by omega
        by_cases hst : okPk P[k]
        · obtain ⟨y0, y1, y2, y3, y4, y5⟩ := HST.out.1 hst
          obtain ⟨x, rfl⟩ : ∃ x : Nat, sa = (x : Int) := ⟨sa.toNat, by omega⟩
          obtain ⟨y, rfl⟩ : ∃ y : Nat, sb = (y : Int) := ⟨sb.toNat, by omega⟩
          have hx : x < 256 := by omega
          have hy : y < 256 := by omega
          have HST2 := hide hst
          clear y1 y2 y3 y4 hst HST
          by_cases hk1 : sk = 1
          · have e1 : ((sk : Int) != 1) = false := by simp [hk1]
            have hk1' := hide hk1
            clear hk1 y5
            go_wp2_with (at_builtin; refine wpList_append_own _ rfl (.tmp 85) (.tmp 97) 44 rfl w1.heap.size 5 i0 (.int .u8 0) 1 1 Tryd.underlying44 hi0 hz0 hz1 hz2 rfl (by decide) _ (3 + k * 4) (bv (packTo (r : Int) P k)) rfl (ownsRow_below HW.out ((Below.refl _ _).alloc (Nat.le_refl _) _)) ⟨wo.heap.size + 1, 0, none⟩ 4 4 [.int .u8 (sk : Int), .int .u8 (x : Int), .int .u8 (y : Int), .int .u8 (sc : Int)] rfl rfl (four_new _ _ hs2.symm _ _ _ _ _) (by intro q hq; simp at hq; rcases hq with rfl | rfl | rfl | rfl <;> rfl) (by unfold maxLen; omega) (by omega) (by rw [nblk_alloc]; omega) ?_; intro v4 w4 hown4 hgr4 hnn4)
            have hb4 : Below w1.heap.size w1 w4 := ((hbo.trans (hbo2.mono hso)).alloc (by omega) _).grown hgr4 (by rw [nblk_alloc]; omega) (fun q hq => (HLT.out q hq).1)
            have ho4 : w4.ownsRow w1.heap.size 5 1 v4 (3 + (k + 1) * 4) (bv (packTo (r : Int) P (k + 1))) := by
              rw [HPS.out, bv_append, HPK.out]
              have e : 3 + (k + 1) * 4 = 3 + k * 4 + 4 := by omega
              rw [e]
              simpa [bv] using hown4
            clear hown4 hgr4 hnn4 HW HLT HPS HPK d0 d1 d2 d3 q0 q1 z1 z2 z3 z4 hw2
            go_wp2
            go_roundw
            case rel =>
              refine ⟨k + 1, by omega, by go_num, fun j hj hjk => ?_, ho4, hb4, hb4.size⟩
              by_cases e : j = k
              · subst e; exact HST2.out
              · exact HOK.out j hj (by omega)
            case measure => simp [intOf]; omega
          · have e1 : ((sk : Int) != 1) = true := by simp; omega
            have e2 : ((sc : Int) != 0) = false := by simp; omega
            have hk1' := hide hk1
            clear hk1 y5
            go_wp2_with (at_builtin; refine wpList_append_own _ rfl (.tmp 85) (.tmp 97) 44 rfl w1.heap.size 5 i0 (.int .u8 0) 1 1 Tryd.underlying44 hi0 hz0 hz1 hz2 rfl (by decide) _ (3 + k * 4) (bv (packTo (r : Int) P k)) rfl (ownsRow_below HW.out ((Below.refl _ _).alloc (Nat.le_refl _) _)) ⟨wo.heap.size + 1, 0, none⟩ 4 4 [.int .u8 (sk : Int), .int .u8 (x : Int), .int .u8 (y : Int), .int .u8 (sc : Int)] rfl rfl (four_new _ _ hs2.symm _ _ _ _ _) (by intro q hq; simp at hq; rcases hq with rfl | rfl | rfl | rfl <;> rfl) (by unfold maxLen; omega) (by omega) (by rw [nblk_alloc]; omega) ?_; intro v4 w4 hown4 hgr4 hnn4)
            have hb4 : Below w1.heap.size w1 w4 := ((hbo.trans (hbo2.mono hso)).alloc (by omega) _).grown hgr4 (by rw [nblk_alloc]; omega) (fun q hq => (HLT.out q hq).1)
            have ho4 : w4.ownsRow w1.heap.size 5 1 v4 (3 + (k + 1) * 4) (bv (packTo (r : Int) P (k + 1))) := by
              rw [HPS.out, bv_append, HPK.out]
              have e : 3 + (k + 1) * 4 = 3 + k * 4 + 4 := by omega
              rw [e]
              simpa [bv] using hown4
            clear hown4 hgr4 hnn4 HW HLT HPS HPK d0 d1 d2 d3 q0 q1 z1 z2 z3 z4 hw2
            go_wp2
            go_roundw
            case rel =>
              refine ⟨k + 1, by omega, by go_num, fun j hj hjk => ?_, ho4, hb4, hb4.size⟩
              by_cases e : j = k
              · subst e; exact HST2.out
              · exact HOK.out j hj (by omega)
            case measure => simp [intOf]; omega
        · have HBAD : Hid (¬ okPack (r : Int) P) := fun hp => hst (hp.2 k hlt)
          have hbad : ¬ (sk ≤ 2 ∧ 0 ≤ sa ∧ sa ≤ 255 ∧ 0 ≤ sb ∧ sb ≤ 255 ∧ (sk = 1 ∨ sc = 0)) := fun h => hst (HST.out.2 h)
          have hbw2 := hbwo.trans (hbo2.mono (by omega))
          have hsplit : (2 : Int) < sk ∨ (sk : Int) ≤ 2 ∧ (sa < 0 ∨ 0 ≤ sa ∧ (255 < sa ∨ sa ≤ 255 ∧ (sb < 0 ∨ 0 ≤ sb ∧ (255 < sb ∨ sb ≤ 255 ∧ sk ≠ 1 ∧ sc ≠ 0)))) := by omega
          clear hst HST hbad HW HLT HPS HPK HOK
          rcases hsplit with a1 | ⟨a1, a2 | ⟨a2, a3 | ⟨a3, a4 | ⟨a4, a5 | ⟨a5, a6, a7⟩⟩⟩⟩⟩
          · go_wp2
            go_ret2
            exact ⟨fun hp => absurd hp HBAD.out, fun _ => rfl, hbw2⟩
          · go_wp2
            go_ret2
            exact ⟨fun hp => absurd hp HBAD.out, fun _ => rfl, hbw2⟩
          · go_wp2
            go_ret2
            exact ⟨fun hp => absurd hp HBAD.out, fun _ => rfl, hbw2⟩
          · go_wp2
            go_ret2
            exact ⟨fun hp => absurd hp HBAD.out, fun _ => rfl, hbw2⟩
          · go_wp2
            go_ret2
            exact ⟨fun hp => absurd hp HBAD.out, fun _ => rfl, hbw2⟩
          · have e1 : ((sk : Int) != 1) = true := by simp; omega
            have e2 : ((sc : Int) != 0) = true := by simp; omega
            clear a6 a7
            go_wp2
            go_ret2
            exact ⟨fun hp => absurd hp HBAD.out, fun _ => rfl, hbw2⟩
      · have hkk : k = P.length := by omega
        subst hkk
        have HW := hide hown
        have HOK := hide hok
        clear hown hok
        go_wp2
        go_ret2
        exact ⟨fun _ => ⟨_, rfl, ownsRow_weaken HW.out (by omega)⟩, fun hp => absurd ⟨HH.out, fun i hi => HOK.out i hi hi⟩ hp, hbwo⟩
  · have HN := hide (show ¬ okPack regs P from fun hp => hh hp.1)
    have HH := hide hh
    clear hh
    go_enter Tryd.func31, Tryd.ntmps31
    go_wp2
    all_goals first
      | (go_ret2; exact ⟨fun hp => absurd hp HN.out, fun _ => rfl, hb0⟩)
      | (exfalso; have := HH.out; unfold okHead at this; omega)
end Go.Proofs.YthhommjlomphdaaDoor
