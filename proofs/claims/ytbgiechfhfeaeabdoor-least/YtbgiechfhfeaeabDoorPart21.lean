import Derived.Test.YtbgiechfhfeaeabDoorPart19
import Derived.Test.YtbgiechfhfeaeabDoorCompiled
import Derived.Test.YtbgiechfhfeaeabDoorPart20
import Derived.Test.YtbgiechfhfeaeabDoorPart14
import Derived.Lib.LaidTab
/-
  The law that no program loads fewer.
-/
namespace Go.Proofs.YtbgiechfhfeaeabDoor
open Go.RowKit Go.Deep Gf

attribute [local go_sem] Oper.semAt_some
set_option maxRecDepth 100000 in
set_option maxHeartbeats 1000000 in
theorem least_none (D L G : Int) (lost : Nat) (w : World)
    (hc : Calls Tryd.prog 5 #[.agg #[.int .i64 D, .int .i64 L, .int .i64 G], .int .u64 lost] (w.alloc (.cells #[.int .i64 D, .int .i64 L, .int .i64 G] 23)) fun e w' => e = .returned (.tuple #[.agg #[.int .i64 0, .slice none 0 0], .bool false, .bool false]) ∧ Below (w.alloc (.cells #[.int .i64 D, .int .i64 L, .int .i64 G] 23)).heap.size (w.alloc (.cells #[.int .i64 D, .int .i64 L, .int .i64 G] 23)) w') :
    Calls Tryd.prog 3 #[.agg #[.int .i64 D, .int .i64 L, .int .i64 G], .int .u64 lost] w fun e w' => e = .returned (.bool true) ∧ Below w.heap.size w w' := by
  go_enter Tryd.func3, Tryd.ntmps3
  go_wp2_with fail
  refine hc.mono ?_
  rintro e w1 ⟨rfl, hb1⟩
  rw [nblk_alloc] at hb1
  have hs1 := hb1.size
  rw [nblk_alloc] at hs1
  have hbw1 : Below w.heap.size w w1 := ((Below.refl _ _).alloc (Nat.le_refl _) _).trans (hb1.mono (by omega))
  clear hb1 hc
  go_wp2
  go_ret
  exact ⟨rfl, hbw1.alloc (by omega) _⟩
set_option maxRecDepth 100000 in
set_option maxHeartbeats 2000000 in
theorem least_some (D L G lost : Nat) (hr : rightB D L G = true) (hD1 : 1 ≤ D) (hD : D ≤ 12) (hL : 1 ≤ L) (hL4 : L ≤ 4) (hG : G ≤ 4) (hdiv : D % L = 0) (h16 : D + L + G ≤ 16) (hl : lost < 18446744073709551616) (C : Ck) (hC : tells (cks D L G) (mems (goneN (D + L + G) lost)) = some C) (w : World) (hT : tabLaid w) (h2 : 2 ≤ w.heap.size) :
    Calls Tryd.prog 3 #[.agg #[.int .i64 D, .int .i64 L, .int .i64 G], .int .u64 lost] w fun e w' => e = .returned (.bool true) ∧ Below w.heap.size w w' := by
  have hb0 : Below w.heap.size w (w.alloc (.cells #[.int .i64 D, .int .i64 L, .int .i64 G] 23)) := (Below.refl _ _).alloc (Nat.le_refl _) _
  have hc := compiled_yes D L G lost hr hD1 hD hL hL4 hG hdiv h16 hl C hC _ (hT.mono (by omega) hb0) (by rw [nblk_alloc]; omega)
  have hplan : (fewestS 8 C (keptN (D + L + G) lost)).1.told ≤ 8 := by
    have hp := (plan_of hD hG hC).1
    have h1 := hp.le
    have h2 := hp.most
    omega
  have HP : Hid ((cmpP D L G lost C).length ≤ 160) := hide (wr_len _ _ hplan)
  obtain ⟨S, hS, _, _⟩ := ld_all (fewestS 8 C (keptN (D + L + G) lost)).1 (goneN (D + L + G) lost) (keptN (D + L + G) lost)
  obtain ⟨S', hup⟩ := least_up hD hG h16 hC
  have hq16 : cntOf D L G lost C ≤ 16 := Nat.le_trans (List.length_filter_le _ _) (Nat.le_trans (List.length_filter_le _ _) (by simp))
  have hls := fun W => rleast_any D L G lost (cntOf D L G lost C) S' hr hD1 hD hL hL4 hG hdiv h16 hl hq16 hup (fun s h1 h2 => least_low hD hL4 hG h16 hC h1 h2) W
  have HS : Hid (ldAll (cmpP D L G lost C) = (S, cntOf D L G lost C, false)) := hide hS
  generalize cntOf D L G lost C = q at *
  clear hS hplan hup hb0
  go_enter Tryd.func3, Tryd.ntmps3
  go_wp2_with fail
  refine hc.mono ?_
  rintro e w1 ⟨ao, m, cc, rfl, hps, hb1⟩
  rw [nblk_alloc] at hb1
  have hs1 := hb1.size
  rw [nblk_alloc] at hs1
  obtain ⟨p0, p1, p2⟩ := box_cells hb1
  have hbw1 : Below w.heap.size w w1 := ((Below.refl _ _).alloc (Nat.le_refl _) _).trans (hb1.mono (by omega))
  generalize 1 + ((mems (goneN (D + L + G) lost)).length : Int) = R
  have ha := (Below.refl w1.heap.size w1).alloc (Nat.le_refl _) (.cells #[.int .i64 R, .slice ao m cc] 27)
  have hla := loaded_any R (.slice ao m cc) (cmpP D L G lost C) _ (hps.mono ha) (by have := HP.out; omega) (fun t ht => wr_kind ht)
  rw [HS.out] at hla
  simp only at hla
  have HA := hide ha
  clear hb1 hc hps ha
  go_wp2_with fail
  refine hla.mono ?_
  clear hla
  rintro e w2 ⟨rfl, hb2⟩
  rw [nblk_alloc] at hb2
  have hb12 : Below w1.heap.size w1 w2 := HA.out.trans (hb2.mono (by omega))
  have hs2 := hb12.size
  have p0 := (hb12.cell (p := ⟨w.heap.size, 0, none⟩) (by show w.heap.size < _; omega)).trans p0
  have p1 := (hb12.cell (p := ⟨w.heap.size, 1, none⟩) (by show w.heap.size < _; omega)).trans p1
  have p2 := (hb12.cell (p := ⟨w.heap.size, 2, none⟩) (by show w.heap.size < _; omega)).trans p2
  have hbw2 := hbw1.trans (hb12.mono (by omega))
  clear hb2 hb12 HA hbw1
  go_wp2_with fail
  refine (theirs_any D L G _).mono ?_
  rintro e w3 ⟨rfl, hb3⟩
  have hs3 := hb3.size
  have hbw3 := hbw2.trans (hb3.mono (by omega))
  clear hb3 hbw2 p0 p1 p2
  go_wp2_with fail
  refine (hls _).mono ?_
  rintro e w4 ⟨rfl, hb4⟩
  rw [nblk_alloc] at hb4
  have hbw4 := (hbw3.alloc (by omega) (.cells #[.int .i64 D, .int .i64 L, .int .i64 G] 32)).trans (hb4.mono (by omega))
  clear hb4 hls
  go_wp2
  go_ret
  exact ⟨rfl, hbw4⟩
theorem least_any (D L G : Int) (lost : Nat) (hl : lost < 18446744073709551616) (w : World) (hg : globalLaid w) (hT : tabLaid w) (h2 : 2 ≤ w.heap.size) :
    Calls Tryd.prog 3 #[.agg #[.int .i64 D, .int .i64 L, .int .i64 G], .int .u64 lost] w fun e w' => e = .returned (.bool true) ∧ Below w.heap.size w w' := by
  have hb0 : Below w.heap.size w (w.alloc (.cells #[.int .i64 D, .int .i64 L, .int .i64 G] 23)) := (Below.refl _ _).alloc (Nat.le_refl _) _
  have hg0 : globalLaid (w.alloc (.cells #[.int .i64 D, .int .i64 L, .int .i64 G] 23)) := (hb0.cell (block_lt_of_cell hg)).trans hg
  have hT0 := hT.mono (by omega) hb0
  have h20 : 2 ≤ (w.alloc (.cells #[.int .i64 D, .int .i64 L, .int .i64 G] 23)).heap.size := by rw [nblk_alloc]; omega
  cases hr : rightB D L G with
  | false => exact least_none D L G lost w (compiled_wrong D L G lost hr _ hg0)
  | true =>
    obtain ⟨d, l, g, rfl, rfl, rfl, h1, h3, h4, h5, h6, h7, h8⟩ := right_nats hr
    cases hC : tells (cks d l g) (mems (goneN (d + l + g) lost)) with
    | none => exact least_none d l g lost w (compiled_no d l g lost hr h1 h3 h4 h5 h6 h7 h8 hl hC _ hg0 hT0 h20)
    | some C => exact least_some d l g lost hr h1 h3 h4 h5 h6 h7 h8 hl C hC w hT h2
end Go.Proofs.YtbgiechfhfeaeabDoor
/-
  Two package-level variables: the one that errors.As reads, and the table that math/bits reads.
-/
namespace Go.Proofs.YtbgiechfhfeaeabDoor
open Go.ChangeShapes Go.WideShapes Go.RowKit

abbrev laids : List (String × DataW Unit) := [("math/bits.deBruijn64tab", Rows.laid_math_bits_deBruijn64tab), ("errors.errorType", Rows.laid_errors_errorType)]
/-- the table's numbers -/
def tabZ : List Int := (List.range 64).map fun j => ((Lib.deBruijn64tab.getD j 0 : Nat) : Int)
theorem Tryd.bt : Tryd.prog.globalNamed "math/bits.deBruijn64tab" = some 1 := by kernel_rfl
theorem Tryd.btType : (Tryd.prog.globals[1]?).map (·.type) = some 116 := by kernel_rfl
theorem Tryd.btCells : Tryd.prog.cellsOf 116 = 64 := by kernel_rfl
theorem Tryd.byteCells : Tryd.prog.cellsOf 5 = 1 := by kernel_rfl
theorem tab_data : (Rows.laid_math_bits_deBruijn64tab : DataW Unit) = Lib.tabData .u8 tabZ := by rfl
theorem both_of_laid {W : World} (h : laidMetH Tryd.prog laids W) : globalLaid W ∧ tabLaid W ∧ 2 ≤ W.heap.size := by
  have h' : laidMet Tryd.prog [("math/bits.deBruijn64tab", Rows.laid_math_bits_deBruijn64tab)] W ∧ handlesMet Tryd.prog [("errors.errorType", Rows.laid_errors_errorType)] W := h
  have hg : globalLaid W := handle_of_laid (show laidMetH Tryd.prog [("errors.errorType", Rows.laid_errors_errorType)] W from ⟨⟨[], rfl, List.nodup_nil, fun b off hb => by cases hb⟩, h'.2⟩)
  have hd := h'.1
  rw [tab_data] at hd
  have ht := Lib.tabIs_of_head Tryd.bt Tryd.btType Tryd.underlying116 Tryd.underlying5 Tryd.byteCells Tryd.btCells hd
  have htl : tabLaid W := fun j hj => by
    have := ht.cell Tryd.bt j (by simpa [tabZ] using hj)
    rw [this]
    unfold tabZ
    simp [hj]
  refine ⟨hg, htl, ?_⟩
  have := block_lt_of_cell (htl 0 (by decide))
  exact this
/-- a world that meets it -/
noncomputable def laidWorld (os : Os) : World :=
  { World.holding Tryd.prog os ⟨#[], #[], []⟩ with heap := ((World.holding Tryd.prog os ⟨#[], #[], []⟩).heap.modify 0 fun | .cells _ t frozen => .cells #[.iface 102 (.agg #[.pointer (some ⟨2, 38, none⟩)])] t frozen | o => o).modify 1 fun | .cells _ t frozen => .cells (tabZ.map fun z => Value.int .u8 z).toArray t frozen | o => o }
theorem laidWorld2_met (os : Os) (args : Array Value) : laidMetH Tryd.prog laids ((laidWorld os).forCall (fun _ _ => 0) ⟨#[], args, []⟩).memory :=
  laidMetH_of_parts (laidMet_of_run' 8 (by kernel_rfl) (by kernel_rfl)) (by kernel_rfl)
end Go.Proofs.YtbgiechfhfeaeabDoor
