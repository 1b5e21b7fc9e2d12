/-
  An argument that is a program, opened.
-/
import Derived.Test.YthhommjlomphdaaDoorSteps
import Derived.Lib.SmallJoins
import Derived.Carry
namespace Go.Proofs.YthhommjlomphdaaDoor
open Go.RowKit Go.Deep Go.ChangeShapes Go.WideShapes Go.Joins

theorem Tryd.laidOut2 : laidOutB Tryd.prog = true := by kernel_rfl
theorem Tryd.cellsStep : Tryd.prog.cellsOf 92 = 4 := by kernel_rfl
theorem Tryd.cellsKind : Tryd.prog.cellsOf 90 = 1 := by kernel_rfl
theorem Tryd.cellsInt : Tryd.prog.cellsOf 3 = 1 := by kernel_rfl
theorem Tryd.cellsU8 : Tryd.prog.cellsOf 5 = 1 := by kernel_rfl
theorem Tryd.cellsProg : Tryd.prog.cellsOf 49 = 2 := by kernel_rfl
instance : Inhabited St := ⟨⟨0, 0, 0, 0⟩⟩
theorem list4 {l : List Value} (h : l.length = 4) : ∃ a b c d, l = [a, b, c, d] := by
  match l, h with
  | [a, b, c, d], _ => exact ⟨a, b, c, d, rfl⟩
theorem step_of_trod {H : Type} {enc : TypeId × Value → H} {W : World} {n : Nat} {cs : List Value} {x : DataW H × List MemPlace} (h : DataW.trod enc Tryd.prog W 0 (fun _ => true) true n 92 cs = some x) : ∃ s : St, cs = stc .u8 s ∧ okInts s := by
  obtain ⟨y0, y1, y2, y3, m, _, hl, h0, h1, h2, h3⟩ := trod_struct4 Tryd.underlying92 h
  rw [Tryd.cellsStep] at hl
  obtain ⟨a, b, c, d, rfl⟩ := list4 hl
  obtain ⟨z0, e0, _, w0⟩ := DataW.trod_int Tryd.underlying90 h0
  obtain ⟨z1, e1, _, w1⟩ := DataW.trod_int Tryd.underlying3 h1
  obtain ⟨z2, e2, _, w2⟩ := DataW.trod_int Tryd.underlying3 h2
  obtain ⟨z3, e3, _, w3⟩ := DataW.trod_int Tryd.underlying5 h3
  rw [show Tryd.prog.cellsOf 90 = 1 from Tryd.cellsKind] at e0
  rw [show Tryd.prog.cellsOf 3 = 1 from Tryd.cellsInt] at e1 e2
  rw [show Tryd.prog.cellsOf 5 = 1 from Tryd.cellsU8] at e3
  simp at e0 e1 e2 e3
  subst e0 e1 e2 e3
  have b0 := bounds_u8 w0
  have b1 := bounds_i64 w1
  have b2 := bounds_i64 w2
  have b3 := bounds_u8 w3
  refine ⟨⟨z0.toNat, z1, z2, z3.toNat⟩, ?_, ?_⟩
  · simp only [stc, Int.toNat_of_nonneg b0.1, Int.toNat_of_nonneg b3.1]
  · simp only [okInts]; omega
theorem steps_of_trod {H : Type} {enc : TypeId × Value → H} {W : World} {n : Nat} {v : Value} {x : DataW H × List MemPlace} (h : DataW.trod enc Tryd.prog W 0 (fun _ => true) true n 47 [v] = some x) :
    ∃ ao len cap, v = .slice ao len cap ∧ (len ≤ 5000 → ∃ P : List St, P.length = len ∧ Ps .u8 W v P ∧ ∀ s ∈ P, okInts s) := by
  rcases open_slice Tryd.underlying47 h with ⟨hcs, _⟩ | ⟨a, len, cap, m, n', D, Pl, hcs, _, hl, hm, hmm, _, hx⟩
  · simp at hcs
    exact ⟨none, 0, 0, hcs, fun _ => ⟨[], rfl, ⟨none, 0, hcs, by simp, fun h => absurd rfl h⟩, by simp⟩⟩
  · simp at hcs
    simp only [if_true] at hmm
    have hmm2 := hmm.symm
    subst hmm2
    refine ⟨some a, len, cap, hcs, fun h5 => ?_⟩
    rw [Tryd.cellsStep] at hx
    obtain ⟨f, hf⟩ := choose_lt (α := St) (n := len) (p := fun i s => (∀ j, j < 4 → W.cell? ((a.add (i * 4)).add j) = (stc .u8 s)[j]?) ∧ okInts s) (fun i hi => by
      obtain ⟨cs', h1, h2⟩ := hx i (by omega)
      obtain ⟨s, rfl, hs⟩ := step_of_trod h2
      obtain ⟨_, _, hc⟩ := World.cells?_some h1
      exact ⟨s, hc, hs⟩)
    obtain ⟨b, o, sp⟩ := a
    refine ⟨(List.range len).map f, by simp, ⟨some ⟨b, o, sp⟩, cap, by simp [hcs], by simp; omega, fun hne => ?_⟩, ?_⟩
    · have hpos : 0 < len := by
        rcases Nat.eq_zero_or_pos len with e | e
        · subst e; exact absurd rfl hne
        · exact e
      have h00 := (hf 0 hpos).1 0 (by decide)
      have hsp : sp = none := by
        have : W.cell? (((⟨b, o, sp⟩ : Addr).add (0 * 4)).add 0) = some (.int .u8 (f 0).k) := h00
        simpa [Addr.add] using World.cell?_spot this
      subst hsp
      refine ⟨b, o, rfl, fun i hi => ?_⟩
      have hi' : i < len := by simpa using hi
      have hc := (hf i hi').1
      simp only [List.getElem_map, List.getElem_range]
      have q0 := hc 0 (by decide)
      have q1 := hc 1 (by decide)
      have q2 := hc 2 (by decide)
      have q3 := hc 3 (by decide)
      rw [add_plain, add_plain] at q0 q1 q2 q3
      exact ⟨q0, q1, q2, q3⟩
    · intro s hs
      obtain ⟨i, hi, rfl⟩ := List.mem_map.1 hs
      exact (hf i (by simpa using hi)).2
end Go.Proofs.YthhommjlomphdaaDoor
