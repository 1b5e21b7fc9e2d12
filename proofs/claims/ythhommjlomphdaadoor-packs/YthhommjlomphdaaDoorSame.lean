/-
  Bytes that are read, wherever they lie; the law's own small functions on them.
-/
import Derived.Test.YthhommjlomphdaaDoorMem
import Derived.Deep.QuietTactic
import Derived.BigQuiet
namespace Go.Proofs.YthhommjlomphdaaDoor
open Go.RowKit Go.Deep

/-- a slice of just these bytes, wherever it lies -/
def Bs (w : World) (v : Value) (l : List Nat) : Prop :=
  ∃ ao c, v = .slice ao l.length c ∧ l.length ≤ c ∧ l.length ≤ 140737488355328 ∧ (∀ x ∈ l, x < 256) ∧ (l ≠ [] → ∃ b off, ao = some ⟨b, off, none⟩ ∧ ∀ k, k < l.length → w.cell? ⟨b, off + k, none⟩ = some (.int .u8 ((l.getD k 0 : Nat) : Int)))
theorem Bs.mono {w w' : World} {v : Value} {l : List Nat} (h : Bs w v l) (hb : Below w.heap.size w w') : Bs w' v l := by
  obtain ⟨ao, c, h1, h2, h3, h4, h5⟩ := h
  refine ⟨ao, c, h1, h2, h3, h4, fun hl => ?_⟩
  obtain ⟨b, off, e, hc⟩ := h5 hl
  refine ⟨b, off, e, fun k hk => ?_⟩
  have := hc k hk
  rw [hb.cell (block_lt_of_cell this)]; exact this
theorem Bs.of_row {w : World} {b n : Nat} {l : List Nat} (h : Brow w b l) (hn : n ≤ l.length) (hm : n ≤ 140737488355328) (hx : ∀ x ∈ l, x < 256) : Bs w (.slice (some ⟨b, 0, none⟩) n l.length) (l.take n) := by
  have hl : (l.take n).length = n := by rw [List.length_take]; omega
  refine ⟨some ⟨b, 0, none⟩, l.length, by rw [hl], by omega, by omega, fun x h => hx x (List.mem_of_mem_take h), fun _ => ⟨b, 0, rfl, fun k hk => ?_⟩⟩
  rw [hl] at hk
  have := h.cell k (by omega)
  rw [Nat.zero_add, this]
  simp [hk]

def SameR (w : World) (n : Nat) (i : Value) (wr : World) : Prop := ∃ k m : Nat, k ≤ n ∧ i = .int .i64 k ∧ wr = w.drewN m
set_option maxRecDepth 100000 in
set_option maxHeartbeats 2000000 in
theorem same_eq (va vb : Value) (l : List Nat) (w : World) (ha : Bs w va l) (hb : Bs w vb l) :
    Calls Tryd.prog 32 #[va, vb] w fun e w' => e = .returned (.bool true) ∧ ∃ m, w' = w.drewN m := by
  obtain ⟨ao, ca, rfl, hca, hma, hx, hA⟩ := ha
  obtain ⟨bo, cb, rfl, hcb, hmb, _, hB⟩ := hb
  have hlen : l.length ≤ 140737488355328 := by omega
  clear hca hma hcb hmb
  by_cases hl : l = []
  · subst hl
    clear hA hB
    go_enter Tryd.func32, Tryd.ntmps32
    go_wp2
    refine wp_loop_rounds 1 ?_
    rw [rounds_succ]
    go_wp2
    go_ret
    exact ⟨rfl, 0, rfl⟩
  · obtain ⟨b, off, rfl, hA2⟩ := hA hl
    obtain ⟨b', off', rfl, hB2⟩ := hB hl
    clear hl hA hB
    have hnn : (((l.length : Nat) : Int) != ((l.length : Nat) : Int)) = false := by simp
    go_enter Tryd.func32, Tryd.ntmps32
    go_wp2
    go_loopw [5] (fun i wr => SameR w l.length i wr) (fun i _ => l.length - (intOf i).toNat)
    case atStart => exact ⟨0, 0, Nat.zero_le _, rfl, rfl⟩
    case round =>
      obtain ⟨k, m, hk, rfl, rfl⟩ := hrel
      by_cases hlt : k < l.length
      · have c1 := hA2 k hlt
        have c2 := hB2 k hlt
        have hx2 : (((l.getD k 0 : Nat) : Int) != ((l.getD k 0 : Nat) : Int)) = false := by simp
        generalize l.getD k 0 = x at c1 c2 hx2
        clear hA2 hB2
        go_wp2
        go_quiet (fail)
        go_wp2
        go_roundw
        case rel => exact ⟨k + 1, _, by omega, by go_num, rfl⟩
        case measure => simp [intOf]; omega
      · go_wp2
        go_ret
        exact ⟨rfl, _, rfl⟩
end Go.Proofs.YthhommjlomphdaaDoor
