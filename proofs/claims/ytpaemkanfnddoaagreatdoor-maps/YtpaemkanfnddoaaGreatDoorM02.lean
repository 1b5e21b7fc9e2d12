import Derived.Test.YtpaemkanfnddoaaGreatDoorM01
set_option maxRecDepth 100000
set_option maxHeartbeats 8000000
namespace Go.Proofs.YtpaemkanfnddoaaGreatDoor
open Go.RowKit Go.Deep
variable {a : Act} {ops : Array Oper} {Q : Exit → Act → World → Prop} {l l' : List Nat} {rest : List Oper} {b : Nat} {o : Oper} {w : World}
def blkA (l : List Nat) : Array Value := (bts l).toArray
theorem blkA_size (l : List Nat) : (blkA l).size = l.length := by unfold blkA bts; simp
theorem blkA_list (l : List Nat) : (blkA l).toList = bts l := by unfold blkA; rfl
theorem bts_len (l : List Nat) : (bts l).length = l.length := by unfold bts; simp
theorem blkA_one (l : List Nat) : (blkA l).all (fun v => v.oneCell') = true := all_oneCell_toArray fun v hv => by
 unfold bts at hv
 rw [List.mem_map] at hv
 obtain ⟨x, _, rfl⟩ := hv
 rfl
theorem Tryz.sizeBlk : (Tryz.prog.info? 240).map (fun i => i.size) = some 64 := by kernel_rfl
theorem blkA_info (h : l.length = 64) : (Tryz.prog.info? 240).map (fun i => i.size) = some (blkA l).size := by rw [blkA_size, h]; exact Tryz.sizeBlk
def zb : List Nat := List.replicate 64 0
theorem zb_len : zb.length = 64 := by simp [zb]
theorem Tryz.zeroBlk : (Tryz.prog.info? 240).map (fun i => (i.zero, i.size, i.bytes)) = some (some (.agg (blkA zb)), 64, 64) := by kernel_rfl
theorem zeroBlk (w : World) : (zeroValue 240).run Tryz.prog w = .ok (.agg (blkA zb)) w := by
 obtain ⟨i0, h0, h1, _, _⟩ := info_parts Tryz.zeroBlk
 simp [zeroValue, typeInfo, Sem.run_bind, h0, h1]
def BlkAt (w : World) (b : Nat) (l : List Nat) : Prop := w.heap[b]? = some (.cells (blkA l) 240 (0, 0))
theorem BlkAt.lt (h : BlkAt w b l) : b < w.heap.size := (Array.getElem?_eq_some_iff.1 h).1
theorem BlkAt.new (w : World) (l : List Nat) : BlkAt (w.alloc (.cells (blkA l) 240)) w.heap.size l := blk_alloc_new _ _
theorem BlkAt.keep {w' : World} (h : BlkAt w b l) (e : w'.heap[b]? = w.heap[b]?) : BlkAt w' b l := e.trans h
theorem BlkAt.setRow (l : List Nat) (h : BlkAt w b l') : BlkAt (w.setRow b (blkA l)) b l := setRow_heap w b (blkA l') (blkA l) _ _ h
theorem grown_setRow' (w : World) (b : Nat) (cs : Array Value) : w.grownBy (w.setRow b cs) (some b) :=
 ⟨rfl, rfl, rfl, by simp, fun k _ h0 => by
  have : b ≠ k := fun e => h0 (by rw [e])
  simp [World.setRow, Array.getElem?_modify, this]⟩
theorem Outside.setRow {S : Nat → Prop} (w : World) (b : Nat) (cs : Array Value) (h : S b) : Outside S w (w.setRow b cs) :=
 have g := grown_setRow' w b cs
 ⟨g.os, g.tape, g.output, g.size, fun k hk hs => g.block k hk (fun e => hs (by cases e; exact h))⟩
theorem size_setRow (w : World) (b : Nat) (cs : Array Value) : (w.setRow b cs).heap.size = w.heap.size := by simp [World.setRow]
theorem blk_loadAt (h : BlkAt w b l) (hl : l.length = 64) : (Instr.loadAt 240 (.pointer (some ⟨b, 0, none⟩))).run Tryz.prog w = .ok (.agg (blkA l)) w := by
 simp only [Instr.loadAt, Instr.sureAddr, Sem.run_bind, Sem.run_pure, Result.andThen_ok, run_loadVar_row w b 240 240 (blkA l) (0, 0) _ h Tryz.underlying240 rfl (blkA_info hl)]
theorem blk_loadVar (h : BlkAt w b l) (hl : l.length = 64) : (loadVar 240 ⟨b, 0, none⟩).run Tryz.prog w = .ok (.agg (blkA l)) w :=
 run_loadVar_row w b 240 240 (blkA l) (0, 0) _ h Tryz.underlying240 rfl (blkA_info hl)
theorem blk_storeAt (l : List Nat) (h : BlkAt w b l') (h0 : l'.length = 64) (hl : l.length = 64) : (Instr.storeAt 240 (.pointer (some ⟨b, 0, none⟩)) (.agg (blkA l))).run Tryz.prog w = .ok () (w.setRow b (blkA l)) := by
 simp only [Instr.storeAt, Instr.sureAddr, Sem.run_bind, Sem.run_pure, Result.andThen_ok, run_storeVar_row w b 240 240 (blkA l') (blkA l) h (blkA_info hl) (by rw [blkA_size, blkA_size, hl, h0]) (blkA_one l)]
theorem bl_load (hg : o.guard = none) (x : Operand) (ho : o.op = .load 240 x) (b : Nat) (l : List Nat)
 (hx : a.eval x = .pointer (some ⟨b, 0, none⟩)) (hb : BlkAt w b l) (hl : l.length = 64) (h : wpList Tryz.prog ops Q rest (a.put o.dst (.agg (blkA l))) w) : wpList Tryz.prog ops Q (o :: rest) a w := by
 refine wpList_plain hg fun K hK => ?_
 unfold Oper.wp
 simp [execOp, ho, hx, blk_loadAt hb hl, Result.andThen]
 exact hK _ _ h
theorem bl_store (hg : o.guard = none) (x y : Operand) (ho : o.op = .store 240 x y) (b : Nat) (l l' : List Nat)
 (hx : a.eval x = .pointer (some ⟨b, 0, none⟩)) (hy : a.eval y = .agg (blkA l)) (hb : BlkAt w b l') (h0 : l'.length = 64) (hl : l.length = 64) (h : wpList Tryz.prog ops Q rest (a.put o.dst undef) (w.setRow b (blkA l))) : wpList Tryz.prog ops Q (o :: rest) a w := by
 refine wpList_plain hg fun K hK => ?_
 unfold Oper.wp
 simp [execOp, ho, hx, hy, blk_storeAt l hb h0 hl, Result.andThen]
 exact hK _ _ h
theorem bl_loadMid (hg : o.guard = none) (x : Operand) (ho : o.op = .load 240 x) (b k : Nat) (l : List Nat)
 (hx : a.eval x = .pointer (some ⟨b, k, none⟩)) (hb : w.rangeAt b k (bts l)) (hl : l.length = 64) (h : wpList Tryz.prog ops Q rest (a.put o.dst (.agg (blkA l))) w) : wpList Tryz.prog ops Q (o :: rest) a w :=
 wpList_load_mid hg 240 x ho b k hx (bts l) _ hb Tryz.underlying240 rfl (by rw [bts_len, hl]; exact Tryz.sizeBlk) h
theorem results_cell_slot {P : Program} {fn : Func} {p q : Tmp} {ty : TypeId} (h : fn.results = #[.cell p ty, .tmp q]) (tmps : Array Value) (w : World) (ad : Addr) (v u : Value)
 (hp : tmps.getD p undef = .pointer (some ad)) (hq : tmps.getD q undef = u) (hl : (loadVar ty ad).run P w = .ok v w) : (results fn tmps).run P w = .ok (.tuple #[v, u]) w := by
 have h0 : tmps[p]?.getD undef = .pointer (some ad) := by simpa using hp
 have h1 : tmps[q]?.getD undef = u := by simpa using hq
 simp [results, h, h0, h1, asAddr, hl]
end Go.Proofs.YtpaemkanfnddoaaGreatDoor
