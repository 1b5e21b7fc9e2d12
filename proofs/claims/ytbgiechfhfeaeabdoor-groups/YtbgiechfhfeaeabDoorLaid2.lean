/-
  Two package-level variables: the one that errors.As reads, and the table that math/bits reads.
-/
import Derived.Test.YtbgiechfhfeaeabDoorLaid
import Derived.Test.YtbgiechfhfeaeabDoorPlanBits
import Derived.Lib.LaidTab
namespace Go.Proofs.YtbgiechfhfeaeabDoor
open Go.ChangeShapes Go.WideShapes Go.RowKit

abbrev laids : List (String × DataW Unit) := [("math/bits.deBruijn64tab", Rows.laid_math_bits_deBruijn64tab), ("errors.errorType", Rows.laid_errors_errorType)]
/-- the table's numbers -/
def tabZ : List Int := (List.range 64).map fun j => ((Lib.deBruijn64tab.getD j 0 : Nat) : Int)
theorem Tryd.bt : Tryd.prog.globalNamed "math/bits.deBruijn64tab" = some 1 := by kernel_rfl
theorem Tryd.btType : (Tryd.prog.globals[1]?).map (·.type) = some 116 := by kernel_rfl
theorem Tryd.btCells : Tryd.prog.cellsOf 116 = 64 := by kernel_rfl
theorem Tryd.byteCells : Tryd.prog.cellsOf 5 = 1 := by kernel_rfl
theorem tab_data : (Rows.laid_math_bits_deBruijn64tab : DataW Unit) = Lib.tabData .u8 tabZ := by rfl
theorem both_of_laid {W : World} (h : laidMetH Tryd.prog laids W) : globalLaid W ∧ tabLaid W ∧ 2 ≤ W.heap.size := by
  have h' : laidMet Tryd.prog [("math/bits.deBruijn64tab", Rows.laid_math_bits_deBruijn64tab)] W ∧ handlesMet Tryd.prog [("errors.errorType", Rows.laid_errors_errorType)] W := h
  have hg : globalLaid W := handle_of_laid (show laidMetH Tryd.prog [("errors.errorType", Rows.laid_errors_errorType)] W from ⟨⟨[], rfl, List.nodup_nil, fun b off hb => by cases hb⟩, h'.2⟩)
  have hd := h'.1
  rw [tab_data] at hd
  have ht := Lib.tabIs_of_head Tryd.bt Tryd.btType Tryd.underlying116 Tryd.underlying5 Tryd.byteCells Tryd.btCells hd
  have htl : tabLaid W := fun j hj => by
    have := ht.cell Tryd.bt j (by simpa [tabZ] using hj)
    rw [this]
    unfold tabZ
    simp [hj]
  refine ⟨hg, htl, ?_⟩
  have := block_lt_of_cell (htl 0 (by decide))
  exact this
/-- a world that meets it -/
noncomputable def laidWorld (os : Os) : World :=
  { World.holding Tryd.prog os ⟨#[], #[], []⟩ with heap := ((World.holding Tryd.prog os ⟨#[], #[], []⟩).heap.modify 0 fun | .cells _ t frozen => .cells #[.iface 102 (.agg #[.pointer (some ⟨2, 38, none⟩)])] t frozen | o => o).modify 1 fun | .cells _ t frozen => .cells (tabZ.map fun z => Value.int .u8 z).toArray t frozen | o => o }
theorem laidWorld2_met (os : Os) (args : Array Value) : laidMetH Tryd.prog laids ((laidWorld os).forCall (fun _ _ => 0) ⟨#[], args, []⟩).memory :=
  laidMetH_of_parts (laidMet_of_run' 8 (by kernel_rfl) (by kernel_rfl)) (by kernel_rfl)
end Go.Proofs.YtbgiechfhfeaeabDoor
