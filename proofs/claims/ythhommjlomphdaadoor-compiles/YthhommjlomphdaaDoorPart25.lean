import Derived.Test.YthhommjlomphdaaDoorPart05
import Derived.SizedLaws
import Derived.Carry
import Derived.Test.YthhommjlomphdaaDoorPart17
import Derived.Test.YthhommjlomphdaaDoorPart12
import Derived.Lib.LaidTab
/-
  An argument that is a list of rows of bytes, opened.
-/
namespace Go.Proofs.YthhommjlomphdaaDoor
open Go.RowKit Go.Deep Go.ChangeShapes Go.WideShapes

theorem Tryd.laidOut : laidOutB Tryd.prog = true := by kernel_rfl
theorem Tryd.cellsBytes : Tryd.prog.cellsOf 44 = 1 := by kernel_rfl
theorem Tryd.cellsByte : Tryd.prog.cellsOf 5 = 1 := by kernel_rfl
theorem Tryd.bytesBytes : Tryd.prog.bytesOf 44 = 24 := by kernel_rfl
theorem Tryd.bytesByte : Tryd.prog.bytesOf 5 = 1 := by kernel_rfl
theorem reach_is : reachBytes = 140737488351232 := rfl
theorem weightsAll_mem {H : Type} {P : Program} {e : TypeId} : ∀ {ds : List (DataW H)} {d : DataW H}, d ∈ ds → ∀ n ∈ d.weights P e, n ∈ DataW.weightsAll P e ds
  | d0 :: ds, d, hd, n, hn => by
    simp only [DataW.weightsAll, List.mem_append]
    rcases List.mem_cons.1 hd with rfl | hd
    · exact .inl hn
    · exact .inr (weightsAll_mem hd n hn)
theorem rd_of_trod {H : Type} {enc : TypeId × Value → H} {W : World} {ao : Option Addr} {len0 cap0 : Nat} {d : DataW H} {ps : List MemPlace}
    (h : DataW.Trod enc Tryd.prog W 0 (fun _ => true) true 24 (.slice ao len0 cap0) d ps) (hsz : ∀ n ∈ d.weights Tryd.prog 24, n ≤ reachBytes) : ∃ D, Rd W (.slice ao len0 cap0) D := by
  obtain ⟨fuel, hf⟩ := h
  rcases open_int_rows Tryd.underlying24 Tryd.underlying44 Tryd.underlying5 Tryd.cellsBytes Tryd.cellsByte hf with ⟨hcs, _⟩ | ⟨a, len, cap, A, L, C, Z, hcs, _, hl, hm, hx, hrows⟩
  · simp [Value.cells] at hcs
    obtain ⟨rfl, rfl, rfl⟩ := hcs
    exact ⟨[], none, 0, rfl, by simp, fun h => absurd rfl h⟩
  · simp [Value.cells] at hcs
    obtain ⟨rfl, rfl, rfl⟩ := hcs
    simp only [Prod.mk.injEq] at hx
    obtain ⟨rfl, _⟩ := hx
    simp only [DataW.weights, Tryd.underlying24] at hsz
    have h1 := hsz _ (List.mem_cons_self)
    rw [List.length_map, List.length_range, List.length_map, List.length_range, Tryd.bytesBytes, reach_is] at h1
    have hC : ∀ r, r < len0 → C r ≤ 140737488351232 := by
      intro r hr
      obtain ⟨_, q1, q2, q3, q4, q5, q6⟩ := hrows r (by omega)
      cases hA : A r with
      | none => rw [q5 hA]; omega
      | some a' =>
        have := hsz ((Z r).length * 1) (List.mem_cons_of_mem _ (List.mem_append_left _ (weightsAll_mem (d := intRow .u8 (A r) (L r) (Z r)) (List.mem_map.2 ⟨r, List.mem_range.2 hr, rfl⟩) _ (by
          simp only [intRow, hA, DataW.weights, Tryd.underlying44, lits, Tryd.bytesByte]
          refine List.mem_cons.2 (.inl ?_)
          simp only [List.length_map, List.length_take, List.length_drop]
          omega))))
        rw [reach_is] at this
        omega
    refine ⟨(List.range len0).map (fun r => ((Z r).take (L r)).map Int.toNat), some a, cap0, by simp, by simp; omega, fun hD => ?_⟩
    have hlen0 : 0 < len0 := by
      rcases Nat.eq_zero_or_pos len0 with e | e
      · exfalso; apply hD; rw [e]; rfl
      · exact e
    obtain ⟨bm, om, spot⟩ := a
    have hspot : spot = none := by simpa [Addr.add] using World.cell?_spot (hrows 0 (by omega)).1
    subst hspot
    refine ⟨bm, om, rfl, fun i hi => ?_⟩
    have hi' : i < len0 := by simpa using hi
    obtain ⟨q0, q1, q2, q3, q4, q5, q6⟩ := hrows i (by omega)
    have hCi := hC i hi'
    rw [add_plain] at q0
    refine ⟨_, q0, ?_⟩
    simp only [List.getElem_map, List.getElem_range]
    have hll : (((Z i).take (L i)).map Int.toNat).length = L i := by simp; omega
    have hnat : ∀ z ∈ Z i, 0 ≤ z ∧ z ≤ 255 := fun z hz => bounds_u8 (q4 z hz)
    refine ⟨A i, C i, by rw [hll], by rw [hll]; exact q1, by rw [hll]; omega, fun x hx => ?_, fun hne => ?_⟩
    · obtain ⟨z, hz, rfl⟩ := List.mem_map.1 hx
      have := hnat z (List.mem_of_mem_take hz)
      omega
    · have hLi : 0 < L i := by
        rcases Nat.eq_zero_or_pos (L i) with e | e
        · exfalso; apply hne; rw [e]; rfl
        · exact e
      cases hA : A i with
      | none => have := q5 hA; omega
      | some a' =>
        obtain ⟨_, hcell⟩ := q6 a' hA
        obtain ⟨b', o', sp'⟩ := a'
        have hsp : sp' = none := by simpa [Addr.add] using World.cell?_spot (hcell 0 (by omega))
        subst hsp
        refine ⟨b', o', rfl, fun k hk => ?_⟩
        rw [hll] at hk
        have hk2 := hcell k (by omega)
        rw [add_plain] at hk2
        rw [hk2]
        have hkz : k < (Z i).length := by omega
        have hb := hnat ((Z i)[k]) (List.getElem_mem hkz)
        simp [hkz, hk]
        omega
end Go.Proofs.YthhommjlomphdaaDoor
/-
  Two package-level variables: the one that errors.As reads, and the table that math/bits reads.
-/
namespace Go.Proofs.YthhommjlomphdaaDoor
open Go.ChangeShapes Go.WideShapes Go.RowKit

abbrev laids : List (String × DataW Unit) := [("math/bits.deBruijn64tab", Rows.laid_math_bits_deBruijn64tab), ("errors.errorType", Rows.laid_errors_errorType)]
/-- the table's numbers -/
def tabZ : List Int := (List.range 64).map fun j => ((Lib.deBruijn64tab.getD j 0 : Nat) : Int)
theorem Tryd.bt : Tryd.prog.globalNamed "math/bits.deBruijn64tab" = some 1 := by kernel_rfl
theorem Tryd.btType : (Tryd.prog.globals[1]?).map (·.type) = some 169 := by kernel_rfl
theorem Tryd.btCells : Tryd.prog.cellsOf 169 = 64 := by kernel_rfl
theorem Tryd.byteCells : Tryd.prog.cellsOf 5 = 1 := by kernel_rfl
theorem tab_data : (Rows.laid_math_bits_deBruijn64tab : DataW Unit) = Lib.tabData .u8 tabZ := by rfl
theorem both_of_laid {W : World} (h : laidMetH Tryd.prog laids W) : globalLaid W ∧ tabLaid W ∧ 2 ≤ W.heap.size := by
  have h' : laidMet Tryd.prog [("math/bits.deBruijn64tab", Rows.laid_math_bits_deBruijn64tab)] W ∧ handlesMet Tryd.prog [("errors.errorType", Rows.laid_errors_errorType)] W := h
  have hg : globalLaid W := handle_of_laid (show laidMetH Tryd.prog [("errors.errorType", Rows.laid_errors_errorType)] W from ⟨⟨[], rfl, List.nodup_nil, fun b off hb => by cases hb⟩, h'.2⟩)
  have hd := h'.1
  rw [tab_data] at hd
  have ht := Lib.tabIs_of_head Tryd.bt Tryd.btType Tryd.underlying169 Tryd.underlying5 Tryd.byteCells Tryd.btCells hd
  have htl : tabLaid W := fun j hj => by
    have := ht.cell Tryd.bt j (by simpa [tabZ] using hj)
    rw [this]
    unfold tabZ
    simp [hj]
  refine ⟨hg, htl, ?_⟩
  have := block_lt_of_cell (htl 0 (by decide))
  exact this
/-- a world that meets it -/
noncomputable def laidWorld (os : Os) : World :=
  { World.holding Tryd.prog os ⟨#[], #[], []⟩ with heap := ((World.holding Tryd.prog os ⟨#[], #[], []⟩).heap.modify 0 fun | .cells _ t frozen => .cells #[.iface 133 (.agg #[.pointer (some ⟨2, 26, none⟩)])] t frozen | o => o).modify 1 fun | .cells _ t frozen => .cells (tabZ.map fun z => Value.int .u8 z).toArray t frozen | o => o }
theorem laidWorld2_met (os : Os) (args : Array Value) : laidMetH Tryd.prog laids ((laidWorld os).forCall (fun _ _ => 0) ⟨#[], args, []⟩).memory :=
  laidMetH_of_parts (laidMet_of_run' 8 (by kernel_rfl) (by kernel_rfl)) (by kernel_rfl)
end Go.Proofs.YthhommjlomphdaaDoor
