/-
  The law's comparison of two programs.
-/
import Derived.Test.YthhommjlomphdaaDoorLawProg
namespace Go.Proofs.YthhommjlomphdaaDoor
open Go.RowKit Go.Deep

def SpR (w : World) (P : List St) (i : Value) (wr : World) : Prop := ∃ k : Nat, k ≤ P.length ∧ i = .int .i64 k ∧ Below w.heap.size w wr
set_option maxRecDepth 100000 in
set_option maxHeartbeats 4000000 in
theorem sameProgram_any (regs : Int) (v v' : Value) (P : List St) (w : World) (h : Ps .u8 w v P) (h' : Ps .i64 w v' P) (hP : ∀ s ∈ P, okInts s) :
    Calls Tryd.prog 37 #[.agg #[.int .i64 regs, v], .agg #[.int .i64 regs, v']] w fun r w' => r = .returned (.bool true) ∧ Below w.heap.size w w' := by
  obtain ⟨ao, c, rfl⟩ := h.slice
  obtain ⟨ao', c', rfl⟩ := h'.slice
  have t0 : (regs != regs) = false := by simp
  have t1 : ((P.length : Int) != (P.length : Int)) = false := by simp
  obtain ⟨w2, hw2, hs2, hx, hy, hb2⟩ : ∃ w2, (w.alloc (.cells #[.int .i64 regs, .slice ao P.length c] 49)).alloc (.cells #[.int .i64 regs, .slice ao' P.length c'] 53) = w2 ∧ w2.heap.size = w.heap.size + 2 ∧
      w2.heap[w.heap.size]? = some (.cells #[.int .i64 regs, .slice ao P.length c] 49 (0, 0)) ∧ w2.heap[w.heap.size + 1]? = some (.cells #[.int .i64 regs, .slice ao' P.length c'] 53 (0, 0)) ∧ Below w.heap.size w w2 := by
    refine ⟨_, rfl, by simp only [nblk_alloc], ?_, ?_, ((Below.refl _ _).alloc (Nat.le_refl _) _).alloc (by simp) _⟩
    · rw [heap_old _ _ _ (by rw [nblk_alloc]; omega)]; exact heap_alloc_last w _
    · have := heap_alloc_last (w.alloc (.cells #[.int .i64 regs, .slice ao P.length c] 49)) (.cells #[.int .i64 regs, .slice ao' P.length c'] 53)
      rwa [nblk_alloc] at this
  obtain ⟨p0, p1, _, _⟩ := obj_cells hx
  obtain ⟨q0, q1, _, _⟩ := obj_cells hy
  go_enter Tryd.func37, Tryd.ntmps37
  go_wp2
  clear hw2
  go_loopw [5] (fun i wr => SpR w2 P i wr) (fun i _ => P.length - (intOf i).toNat)
  case atStart => exact ⟨0, Nat.zero_le _, rfl, Below.refl _ _⟩
  case round =>
    rename World => wo
    obtain ⟨k, hk, rfl, hbo⟩ := hrel
    have hso := hbo.size
    have m0 := (hbo.cell (block_lt_of_cell p0)).trans p0
    have m1 := (hbo.cell (block_lt_of_cell p1)).trans p1
    have n0 := (hbo.cell (block_lt_of_cell q0)).trans q0
    have n1 := (hbo.cell (block_lt_of_cell q1)).trans q1
    have hbwo := hb2.trans (hbo.mono (by omega))
    by_cases hlt : k < P.length
    · rcases (h.mono hbwo).cases with ⟨rfl, _⟩ | ⟨b, off, cc, e, hbd, hc⟩
      · simp at hlt
      simp at e
      obtain ⟨rfl, rfl⟩ := e
      rcases (h'.mono hbwo).cases with ⟨rfl, _⟩ | ⟨b', off', cc', e, _, hc'⟩
      · simp at hlt
      simp at e
      obtain ⟨rfl, rfl⟩ := e
      obtain ⟨d0, d1, d2, d3⟩ := hc k hlt
      obtain ⟨f0, f1, f2, f3⟩ := hc' k hlt
      have al := (Below.refl wo.heap.size wo).alloc (Nat.le_refl _) (.cells #[.int .u8 P[k].k, .int .i64 P[k].a, .int .i64 P[k].b, .int .u8 P[k].c] 92)
      have g0 := (al.cell (block_lt_of_cell f0)).trans f0
      have g1 := (al.cell (block_lt_of_cell f1)).trans f1
      have g2 := (al.cell (block_lt_of_cell f2)).trans f2
      have g3 := (al.cell (block_lt_of_cell f3)).trans f3
      have o1 := (al.cell (block_lt_of_cell n1)).trans n1
      have hbo3 := (hbo.alloc hso (.cells #[.int .u8 P[k].k, .int .i64 P[k].a, .int .i64 P[k].b, .int .u8 P[k].c] 92)).alloc (by rw [nblk_alloc]; omega) (.cells #[.int .i64 P[k].k, .int .i64 P[k].a, .int .i64 P[k].b, .int .u8 P[k].c] 94)
      have hsk := (hP _ (List.getElem_mem hlt)).1
      have t2 : (((P[k].k : Nat) : Int) != (P[k].k : Int)) = false := by simp
      have t3 : (P[k].a != P[k].a) = false := by simp
      have t4 : (P[k].b != P[k].b) = false := by simp
      have t5 : (((P[k].c : Nat) : Int) != (P[k].c : Int)) = false := by simp
      have HC := hide hc
      have HC' := hide hc'
      clear hc hc' al h h' hP f0 f1 f2 f3
      go_wp2
      go_roundw
      case rel => exact ⟨k + 1, by omega, by go_num, hbo3⟩
      case measure => simp [intOf]; omega
    · clear h h' hP
      have hkk : k = P.length := by omega
      subst hkk
      go_wp2
      go_ret
      exact ⟨rfl, hbwo⟩
end Go.Proofs.YthhommjlomphdaaDoor
