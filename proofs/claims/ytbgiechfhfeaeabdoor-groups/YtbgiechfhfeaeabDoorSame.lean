/-
  Bytes that are read, wherever they lie; the law's own small functions on them.
-/
import Derived.Test.YtbgiechfhfeaeabDoorMem
import Derived.Deep.QuietTactic
import Derived.BigQuiet
namespace Go.Proofs.YtbgiechfhfeaeabDoor
open Go.RowKit Go.Deep

/-- a slice of just these bytes, wherever it lies -/
def Bs (w : World) (v : Value) (l : List Nat) : Prop :=
  ∃ ao c, v = .slice ao l.length c ∧ l.length ≤ c ∧ l.length ≤ 140737488355328 ∧ (∀ x ∈ l, x < 256) ∧ (l ≠ [] → ∃ b off, ao = some ⟨b, off, none⟩ ∧ ∀ k, k < l.length → w.cell? ⟨b, off + k, none⟩ = some (.int .u8 ((l.getD k 0 : Nat) : Int)))
theorem Bs.mono {w w' : World} {v : Value} {l : List Nat} (h : Bs w v l) (hb : Below w.heap.size w w') : Bs w' v l := by
  obtain ⟨ao, c, h1, h2, h3, h4, h5⟩ := h
  refine ⟨ao, c, h1, h2, h3, h4, fun hl => ?_⟩
  obtain ⟨b, off, e, hc⟩ := h5 hl
  refine ⟨b, off, e, fun k hk => ?_⟩
  have := hc k hk
  rw [hb.cell (block_lt_of_cell this)]; exact this
theorem Bs.of_row {w : World} {b n : Nat} {l : List Nat} (h : Brow w b l) (hn : n ≤ l.length) (hm : n ≤ 140737488355328) (hx : ∀ x ∈ l, x < 256) : Bs w (.slice (some ⟨b, 0, none⟩) n l.length) (l.take n) := by
  have hl : (l.take n).length = n := by rw [List.length_take]; omega
  refine ⟨some ⟨b, 0, none⟩, l.length, by rw [hl], by omega, by omega, fun x h => hx x (List.mem_of_mem_take h), fun _ => ⟨b, 0, rfl, fun k hk => ?_⟩⟩
  rw [hl] at hk
  have := h.cell k (by omega)
  rw [Nat.zero_add, this]
  simp [hk]

def SameR (w : World) (n : Nat) (i : Value) (wr : World) : Prop := ∃ k m : Nat, k ≤ n ∧ i = .int .i64 k ∧ wr = w.drewN m
end Go.Proofs.YtbgiechfhfeaeabDoor
