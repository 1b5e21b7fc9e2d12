/-
  Checks as a value: loaded, stored, put into a block of their own; inside a fence too.
-/
import Derived.Test.YtbgiechfhfeaeabDoorCkTell
import Derived.Test.YtbgiechfhfeaeabDoorRangeLaw
namespace Go.Proofs.YtbgiechfhfeaeabDoor
open Go.RowKit Go.Deep Gf

/-- checks as a value -/
def ckA (C : Ck) : Array Value := ((List.range 130).map (ckV C)).toArray
theorem ckA_size (C : Ck) : (ckA C).size = 130 := by unfold ckA; rw [List.size_toArray, List.length_map, List.length_range]
theorem ckA_get (C : Ck) (i : Nat) (hi : i < 130) : (ckA C)[i]? = some (ckV C i) := by
  unfold ckA; rw [List.getElem?_toArray, List.getElem?_map, List.getElem?_range hi]; rfl
theorem Tryd.infoCk : (Tryd.prog.info? 69).map (fun i => i.size) = some 130 := by kernel_rfl
theorem ckA_info (C : Ck) : (Tryd.prog.info? 69).map (fun i => i.size) = some (ckA C).size := by rw [ckA_size]; exact Tryd.infoCk
theorem ckV_one (C : Ck) (i : Nat) : (ckV C i).oneCell' = true := by
  unfold ckV; split
  · rfl
  · split <;> rfl
theorem ckA_one (C : Ck) : (ckA C).all (fun v => v.oneCell') = true := by
  rw [Array.all_eq_true]
  intro i hi
  have := ckA_get C i (by rw [← ckA_size C]; exact hi)
  rw [Array.getElem?_eq_getElem hi] at this
  rw [Option.some.inj this]; exact ckV_one C i
theorem CkAt.heap {w : World} {b : Nat} {C : Ck} (h : CkAt w b C) : w.heap[b]? = some (.cells (ckA C) 69 (0, 0)) := by
  obtain ⟨c, hc, hs, hg⟩ := h
  have e : c = ckA C := by
    apply Array.ext
    · rw [hs, ckA_size]
    · intro i h1 h2
      have q1 := hg i (by omega)
      have q2 := ckA_get C i (by omega)
      rw [Array.getElem?_eq_getElem h1] at q1
      rw [Array.getElem?_eq_getElem h2] at q2
      rw [Option.some.inj q1, Option.some.inj q2]
  rw [← e]; exact hc
theorem CkAt.of_heap {w : World} {b : Nat} {C : Ck} (h : w.heap[b]? = some (.cells (ckA C) 69 (0, 0))) : CkAt w b C := ⟨_, h, ckA_size C, fun i hi => ckA_get C i hi⟩
theorem CkAt.new (w : World) (C : Ck) : CkAt (w.alloc (.cells (ckA C) 69)) w.heap.size C := CkAt.of_heap (World.alloc_heap_new w _)
theorem CkAt.lt {w : World} {b : Nat} {C : Ck} (h : CkAt w b C) : b < w.heap.size := (Array.getElem?_eq_some_iff.1 h.heap).1
theorem CkAt.keep {w w' : World} {b : Nat} {C : Ck} (h : CkAt w b C) (e : w'.heap[b]? = w.heap[b]?) : CkAt w' b C := CkAt.of_heap (e.trans h.heap)
theorem CkAt.setRow {w : World} {b : Nat} {C' : Ck} (C : Ck) (h : CkAt w b C') : CkAt (w.setRow b (ckA C)) b C := CkAt.of_heap (setRow_heap w b (ckA C') (ckA C) _ _ h.heap)
theorem grown_setRow (w : World) (b : Nat) (cs : Array Value) : w.grownBy (w.setRow b cs) (some b) :=
  ⟨rfl, rfl, rfl, by simp, fun k _ hne => by
    have : b ≠ k := fun e => hne (by rw [e])
    simp [World.setRow, Array.getElem?_modify, this]⟩
theorem ck_loadAt {w : World} {b : Nat} {C : Ck} (h : CkAt w b C) : (Instr.loadAt 69 (.pointer (some ⟨b, 0, none⟩))).run Tryd.prog w = .ok (.agg (ckA C)) w := by
  simp only [Instr.loadAt, Instr.sureAddr, Sem.run_bind, Sem.run_pure, Result.andThen_ok, run_loadVar_row w b 69 69 (ckA C) (0, 0) _ h.heap Tryd.underlying69 rfl (ckA_info C)]
theorem ck_storeAt {w : World} {b : Nat} {C' : Ck} (C : Ck) (h : CkAt w b C') : (Instr.storeAt 69 (.pointer (some ⟨b, 0, none⟩)) (.agg (ckA C))).run Tryd.prog w = .ok () (w.setRow b (ckA C)) := by
  simp only [Instr.storeAt, Instr.sureAddr, Sem.run_bind, Sem.run_pure, Result.andThen_ok, run_storeVar_row w b 69 69 (ckA C') (ckA C) h.heap (ckA_info C) (by rw [ckA_size, ckA_size]) (ckA_one C)]
theorem in_load {F : Fence} {n : Nat} {w : World} {ops : Array Oper} {rest : List Oper} {o : Oper} {a : Act} {Q : Exit → Act → World → Prop} (hg : o.guard = none) (x : Operand) (ho : o.op = .load 69 x) (b : Nat) (C : Ck)
    (hx : a.eval x = .pointer (some ⟨b, 0, none⟩)) (hC : CkAt w b C) (h : wpListIn F n Tryd.prog ops Q rest (a.put o.dst (.agg (ckA C))) w) : wpListIn F n Tryd.prog ops Q (o :: rest) a w := by
  refine wpListIn_plain hg fun K hK => ?_
  unfold Oper.wpIn
  refine ⟨by simp [Oper.about, ho], ?_⟩
  rw [Oper.semAt_plain F _ _ (by rw [ho]; intro c hc'; cases hc')]
  simp [execOp, ho, hx, ck_loadAt hC, Result.andThen]
  exact hK _ _ h
theorem in_store {F : Fence} {n : Nat} {w : World} {ops : Array Oper} {rest : List Oper} {o : Oper} {a : Act} {Q : Exit → Act → World → Prop} (hg : o.guard = none) (x y : Operand) (ho : o.op = .store 69 x y) (b : Nat) (C C' : Ck)
    (hx : a.eval x = .pointer (some ⟨b, 0, none⟩)) (hy : a.eval y = .agg (ckA C)) (hC : CkAt w b C') (h : wpListIn F n Tryd.prog ops Q rest (a.put o.dst undef) (w.setRow b (ckA C))) : wpListIn F n Tryd.prog ops Q (o :: rest) a w := by
  refine wpListIn_plain hg fun K hK => ?_
  unfold Oper.wpIn
  refine ⟨by simp [Oper.about, ho], ?_⟩
  rw [Oper.semAt_plain F _ _ (by rw [ho]; intro c hc'; cases hc')]
  simp [execOp, ho, hx, hy, ck_storeAt C hC, Result.andThen]
  exact hK _ _ h
/-- no checks at all -/
def ckZ : Ck := ⟨fun _ _ => 0, 0, 0⟩
theorem Tryd.zeroCk : (Tryd.prog.info? 69).map (fun i => (i.zero, i.size, i.bytes)) = some (some (.agg (ckA ckZ)), 130, 144) := by kernel_rfl
theorem zeroCk (w : World) : (zeroValue 69).run Tryd.prog w = .ok (.agg (ckA ckZ)) w := by
  obtain ⟨i0, hi0, hz0, _, _⟩ := info_parts Tryd.zeroCk
  simp [zeroValue, typeInfo, Sem.run_bind, hi0, hz0]
/-- what no checks take: the program's new blocks -/
theorem CkAt.mono {w w' : World} {b B : Nat} {C : Ck} (h : CkAt w b C) (hb : Below B w w') (hB : b < B) : CkAt w' b C := h.keep (hb.block b hB)
end Go.Proofs.YtbgiechfhfeaeabDoor
