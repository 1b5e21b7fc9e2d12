/-
  An argument that is a slice of bytes, opened.
-/
import Derived.Test.YthhommjlomphdaaDoorSame
import Derived.Lib.SmallJoins
import Derived.Carry
namespace Go.Proofs.YthhommjlomphdaaDoor
open Go.RowKit Go.Deep Go.ChangeShapes Go.WideShapes Go.Joins

theorem Tryd.cellsB : Tryd.prog.cellsOf 5 = 1 := by kernel_rfl
theorem bytes_of_trod {H : Type} {enc : TypeId × Value → H} {W : World} {ao : Option Addr} {len cap : Nat} {d : DataW H} {ps : List MemPlace}
    (h : DataW.Trod enc Tryd.prog W 0 (fun _ => true) true 44 (.slice ao len cap) d ps) : len ≤ 100000 → ∃ l : List Nat, l.length = len ∧ Bs W (.slice ao len cap) l := by
  intro hlen
  obtain ⟨fuel, hf⟩ := h
  rcases open_ints Tryd.underlying44 Tryd.underlying5 Tryd.cellsB hf with ⟨hcs, _⟩ | ⟨a, len', cap', zs, hcs, _, hl, hm, hz, _, hcell, hw⟩
  · simp [Value.cells] at hcs
    obtain ⟨rfl, rfl, rfl⟩ := hcs
    exact ⟨[], rfl, none, 0, rfl, by simp, by simp, by simp, fun h => absurd rfl h⟩
  · simp [Value.cells] at hcs
    obtain ⟨rfl, rfl, rfl⟩ := hcs
    simp only [if_true] at hz
    refine ⟨(zs.take len).map Int.toNat, by simp; omega, some a, cap, by simp; omega, by simp; omega, by simp; omega, fun x hx => ?_, fun hne => ?_⟩
    · obtain ⟨z, hz2, rfl⟩ := List.mem_map.1 hx
      have := bounds_u8 (hw z (List.mem_of_mem_take hz2))
      omega
    · have hpos : 0 < len := by
        rcases Nat.eq_zero_or_pos len with e | e
        · subst e; exact absurd rfl hne
        · exact e
      obtain ⟨b, o, sp⟩ := a
      have h00 := hcell 0 (by omega)
      have hsp : sp = none := by simpa [Addr.add] using World.cell?_spot h00
      subst hsp
      refine ⟨b, o, rfl, fun k hk => ?_⟩
      have hk' : k < len := by simp at hk; omega
      have hkz : k < zs.length := by omega
      have hk2 := hcell k hkz
      have e3 : (⟨b, o, none⟩ : Addr).add k = ⟨b, o + k, none⟩ := by unfold Addr.add; split <;> simp_all
      rw [e3] at hk2
      rw [hk2]
      have hb := bounds_u8 (hw _ (List.getElem_mem hkz))
      simp [hkz, hk']
      omega
end Go.Proofs.YthhommjlomphdaaDoor
