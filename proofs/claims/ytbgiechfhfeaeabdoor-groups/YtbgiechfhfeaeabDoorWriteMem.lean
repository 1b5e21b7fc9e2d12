/-
  The program that is written: its steps in memory, and one more.
-/
import Derived.Test.YtbgiechfhfeaeabDoorChecksOf
import Derived.Test.YtbgiechfhfeaeabDoorLawProg
namespace Go.Proofs.YtbgiechfhfeaeabDoor
open Go.RowKit Go.Shelf Go.Deep Gf

/-- a program in a block of its own, its steps in another, from n0 on -/
def PB (W : World) (n0 Bg : Nat) (regs : Int) (L : List St) : Prop :=
  Bg < n0 ∧ n0 ≤ W.heap.size ∧ ∃ v, W.heap[Bg]? = some (.cells #[.int .i64 regs, v] 27 (0, 0)) ∧ W.ownsRow n0 50 4 v L.length (stcs .u8 L)
theorem Tryd.infoStepW : (Tryd.prog.info? 50).map (fun i => (i.zero, i.size, i.bytes)) = some (some (.agg #[.int .u8 0, .int .i64 0, .int .i64 0, .int .u8 0]), 4, 32) := by kernel_rfl
theorem in_push {F : Fence} {n : Nat} {w : World} {ops : Array Oper} {rest : List Oper} {o : Oper} {a : Act} {Q : Exit → Act → World → Prop} (hg : o.guard = none) (x y : Operand) (ho : o.op = .call { callee := .builtin .append, args := #[x, y], argTypes := #[25, 25] })
    (n0 q : Nat) (L : List St) (s : St) (v : Value) (hx : a.eval x = v) (hy : a.eval y = .slice (some ⟨q, 0, none⟩) 1 1) (hown : w.ownsRow n0 50 4 v L.length (stcs .u8 L)) (hc : ∀ j u, (stc .u8 s)[j]? = some u → w.cell? ((⟨q, 0, none⟩ : Addr).add j) = some u) (hn0 : n0 ≤ w.heap.size) (hL : L.length ≤ 100000)
    (hK : ∀ g' cap' w2, n0 ≤ g' → w2.ownsRow n0 50 4 (.slice (some ⟨g', 0, none⟩) (L.length + 1) cap') (L.length + 1) (stcs .u8 (L ++ [s])) → w.grownBy w2 v.ownBlock → wpListIn F n Tryd.prog ops Q rest (a.put o.dst (.slice (some ⟨g', 0, none⟩) (L.length + 1) cap')) w2) : wpListIn F n Tryd.prog ops Q (o :: rest) a w := by
  obtain ⟨i0, hi0, hz0, hz1, hz2⟩ := info_parts Tryd.infoStepW
  refine wpListIn_append_own w hg x y 25 ho n0 50 i0 (.agg #[.int .u8 0, .int .i64 0, .int .i64 0, .int .u8 0]) 4 32 Tryd.underlying25 hi0 hz0 hz1 hz2 rfl (by decide) v L.length (stcs .u8 L) hx hown ⟨q, 0, none⟩ 1 1 (stc .u8 s) hy (by simp [stc]) hc (fun u hu => by simp [stc] at hu; rcases hu with rfl | rfl | rfl | rfl <;> rfl) (by unfold maxLen; omega) (by omega) hn0 ?_
  intro v' w2 hown' hgrow _
  obtain ⟨g', cap', rfl, hg1⟩ : ∃ g' cap', v' = .slice (some ⟨g', 0, none⟩) (L.length + 1) cap' ∧ n0 ≤ g' := by
    rcases hown'.2 with ⟨_, h0⟩ | ⟨g, cap, cur, hv, hb, _⟩
    · omega
    · exact ⟨g, cap, hv, hb⟩
  have e : stcs .u8 L ++ stc .u8 s = stcs .u8 (L ++ [s]) := by rw [stcs_append]; simp [stcs]
  rw [e] at hown'
  exact hK g' cap' w2 hg1 hown' hgrow
theorem own_from {w : World} {n0 k : Nat} {v : Value} {xs : List Value} {t : TypeId} (h : w.ownsRow n0 t 4 v k xs) {q : Nat} (e : v.ownBlock = some q) : n0 ≤ q := (h.lt q e).1
/-- behind the append and the store -/
theorem PB.next {W w2 : World} {n0 Bg g' cap' : Nat} {regs : Int} {L : List St} {s : St} {v : Value} {ob : Obj} (hB : Bg < n0) (hn : n0 ≤ W.heap.size) (hobj : W.heap[Bg]? = some (.cells #[.int .i64 regs, v] 27 (0, 0))) (hown : W.ownsRow n0 50 4 v L.length (stcs .u8 L))
    (hg : (W.alloc ob).grownBy w2 v.ownBlock) (hg' : n0 ≤ g') (hown' : w2.ownsRow n0 50 4 (.slice (some ⟨g', 0, none⟩) (L.length + 1) cap') (L.length + 1) (stcs .u8 (L ++ [s]))) :
    PB (w2.setCell ⟨Bg, 1, none⟩ (.slice (some ⟨g', 0, none⟩) (L.length + 1) cap')) n0 Bg regs (L ++ [s]) ∧ w2.cell? ⟨Bg, 1, none⟩ = some v ∧ w2.frozen? ⟨Bg, 1, none⟩ = false ∧
      (∀ k, k < n0 → k ≠ Bg → (w2.setCell ⟨Bg, 1, none⟩ (.slice (some ⟨g', 0, none⟩) (L.length + 1) cap')).heap[k]? = W.heap[k]?) ∧ KeepsOthers W (w2.setCell ⟨Bg, 1, none⟩ (.slice (some ⟨g', 0, none⟩) (L.length + 1) cap')) ∧
      (w2.setCell ⟨Bg, 1, none⟩ (.slice (some ⟨g', 0, none⟩) (L.length + 1) cap')).os = W.os ∧ (w2.setCell ⟨Bg, 1, none⟩ (.slice (some ⟨g', 0, none⟩) (L.length + 1) cap')).tape = W.tape ∧ (w2.setCell ⟨Bg, 1, none⟩ (.slice (some ⟨g', 0, none⟩) (L.length + 1) cap')).output = W.output := by
  have hold : ∀ k, k < n0 → w2.heap[k]? = W.heap[k]? := fun k hk => (hg.block k (by simp; omega) (fun e => by have := own_from hown e.symm; omega)).trans (heap_old W _ k (by omega))
  have hob2 := (hold Bg hB).trans hobj
  obtain ⟨_, c1, f1, _⟩ := obj_cells hob2
  have hsz : W.heap.size ≤ w2.heap.size := by have := hg.size; simp at this; omega
  have hset : (w2.setCell ⟨Bg, 1, none⟩ (.slice (some ⟨g', 0, none⟩) (L.length + 1) cap')).heap[Bg]? = some (.cells #[.int .i64 regs, .slice (some ⟨g', 0, none⟩) (L.length + 1) cap'] 27 (0, 0)) := by
    obtain ⟨hlt, hk⟩ := Array.getElem?_eq_some_iff.1 hob2
    show (w2.heap.modify Bg _)[Bg]? = _
    rw [Array.getElem?_eq_getElem (by rw [Array.size_modify]; exact hlt), Array.getElem_modify_self, hk]
    rfl
  refine ⟨⟨hB, by simp [World.setCell]; omega, _, hset, ?_⟩, c1, f1, fun k hk hne => (Below.heap_setCell _ _ _ _ hne).trans (hold k hk), ?_, hg.os, hg.tape, hg.output⟩
  · have := hown'.kept (grown_set' w2 Bg 1 (.slice (some ⟨g', 0, none⟩) (L.length + 1) cap')) (.inr (by simp [Value.ownBlock]; omega))
    simpa using this
  · refine ((KeepsOthers.alloc W ob).trans (KeepsOthers.of_grownBy hg fun j o ej hj => ?_)).trans (KeepsOthers.setCell _ _ _)
    rcases (hown.alloc ob).2 with ⟨rfl, _⟩ | ⟨g, cap, cur, rfl, _, hgb, _⟩
    · simp [Value.ownBlock] at ej
    · obtain rfl : g = j := by simpa [Value.ownBlock] using ej
      rw [hgb] at hj; cases hj; rfl
theorem PB.own {B n0 Bg : Nat} {regs : Int} {X Y : World} {row : Option Nat} {L : List St} (h : PB X n0 Bg regs L) (hn : n0 ≤ B) (hg : X.grownBy Y row) (hr : ∀ r, row = some r → B ≤ r ∧ ∃ o : Obj, X.heap[r]? = some o ∧ o.isCells = false) : PB Y n0 Bg regs L := by
  obtain ⟨h1, h2, v, h3, h4⟩ := h
  refine ⟨h1, Nat.le_trans h2 hg.size, v, (hg.block Bg (by omega) (fun e => by have := (hr Bg e.symm).1; omega)).trans h3, h4.kept hg ?_⟩
  rcases h4.2 with ⟨rfl, _⟩ | ⟨g, cap, cur, rfl, _, hgb, _⟩
  · exact .inl rfl
  · refine .inr fun e' => ?_
    obtain ⟨_, o, ho, hc⟩ := hr g (by simpa [Value.ownBlock] using e'.symm)
    rw [hgb] at ho; cases ho; cases hc

/-! ### what is written -/
/-- the steps for one shard that is kept -/
def wrOne (C : Ck) (i : Nat) : List St := if readsB C i = true then ⟨0, 0, i, 0⟩ :: ((List.range C.told).filter (fun r => decide (C.m r i ≠ 0))).map (fun r : Nat => (⟨1, 1 + (r : Int), 0, C.m r i⟩ : St)) else []
def wrTo (C : Ck) (pre : List Nat) : List St := (pre.map (wrOne C)).flatten
theorem wrTo_snoc (C : Ck) (pre : List Nat) (i : Nat) : wrTo C (pre ++ [i]) = wrTo C pre ++ wrOne C i := by unfold wrTo; simp
/-- the steps for r checks of one shard -/
def wrAdd (C : Ck) (i k : Nat) : List St := ((List.range k).filter (fun r => decide (C.m r i ≠ 0))).map (fun r : Nat => (⟨1, 1 + (r : Int), 0, C.m r i⟩ : St))
theorem wrAdd_zero (C : Ck) (i : Nat) : wrAdd C i 0 = [] := rfl
theorem wrAdd_in (C : Ck) (i k : Nat) (h : C.m k i ≠ 0) : wrAdd C i (k + 1) = wrAdd C i k ++ [⟨1, 1 + (k : Int), 0, C.m k i⟩] := by unfold wrAdd; rw [List.range_succ]; simp [h]
theorem wrAdd_out (C : Ck) (i k : Nat) (h : C.m k i = 0) : wrAdd C i (k + 1) = wrAdd C i k := by unfold wrAdd; rw [List.range_succ]; simp [h]
theorem wrAdd_le (C : Ck) (i k : Nat) : (wrAdd C i k).length ≤ k := by
  unfold wrAdd; rw [List.length_map]; exact Nat.le_trans (List.length_filter_le _ _) (by simp)
theorem wrOne_yes {C : Ck} {i : Nat} (h : readsB C i = true) : wrOne C i = ⟨0, 0, i, 0⟩ :: wrAdd C i C.told := by unfold wrOne wrAdd; rw [if_pos h]
theorem wrOne_no {C : Ck} {i : Nat} (h : readsB C i = false) : wrOne C i = [] := by unfold wrOne; simp [h]
theorem wrOne_le (C : Ck) (i : Nat) : (wrOne C i).length ≤ C.told + 1 := by
  cases h : readsB C i
  · rw [wrOne_no h]; simp
  · rw [wrOne_yes h]; have := wrAdd_le C i C.told; simp; omega
theorem wrTo_le (C : Ck) : ∀ pre : List Nat, (wrTo C pre).length ≤ pre.length * (C.told + 1)
  | [] => by simp [wrTo]
  | i :: pre => by
    have h1 := wrTo_le C pre
    have h2 := wrOne_le C i
    have e : wrTo C (i :: pre) = wrOne C i ++ wrTo C pre := by unfold wrTo; simp
    rw [e, List.length_append, List.length_cons, Nat.succ_mul]
    omega
/-- the lost ones are put out -/
def wrPut (pre : List Nat) : List St := (List.range pre.length).map (fun k : Nat => (⟨2, (k : Int) + 1, ((pre.getD k 0 : Nat) : Int), 0⟩ : St))
theorem wrPut_snoc (pre : List Nat) (i : Nat) : wrPut (pre ++ [i]) = wrPut pre ++ [⟨2, (pre.length : Int) + 1, i, 0⟩] := by
  unfold wrPut
  rw [List.length_append, List.length_singleton, List.range_succ, List.map_append]
  congr 1
  · apply List.map_congr_left
    intro k hk
    have := List.mem_range.1 hk
    simp [this, List.getElem?_append_left]
  · simp
/-- all steps -/
def wrAll (C : Ck) (gone kept : Nat) : List St := wrTo C (mems kept) ++ wrPut (mems gone)
end Go.Proofs.YtbgiechfhfeaeabDoor
