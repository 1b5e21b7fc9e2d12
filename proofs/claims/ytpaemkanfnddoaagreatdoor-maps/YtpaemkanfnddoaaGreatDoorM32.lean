import Derived.Test.YtpaemkanfnddoaaGreatDoorM31
import Derived.Lib.BufferWrite
set_option maxRecDepth 100000
set_option maxHeartbeats 8000000
namespace Go.Proofs.YtpaemkanfnddoaaGreatDoor
open Go.RowKit Go.Deep
variable {a : Act} {ops : Array Oper} {s : ByteArray} {Q : Exit → Act → World → Prop} {L : List (Nat × Nat)} {l : List Nat} {xs : List Value} {n nb p k b g : Nat} {D Dn : Nat → Bool} {v0 v : Value} {w0 w w' wr : World}
def newArr (n nb : Nat) : Arr := ⟨n, nb, -1, fun _ => false, fun _ _ => false, fun _ _ => zb, fun _ => 0⟩
theorem newArr_fit (h1 : n ≤ 1000) (h2 : nb ≤ 1000000) : (newArr n nb).fit := ⟨h1, h2, fun _ _ => zb_len, fun _ _ x hx => by have := List.eq_of_mem_replicate hx; show x < 256; omega⟩
def zRow (w : World) (b nb : Nat) : Prop := w.rowIs b 240 (64 * nb) (fun _ => .int .u8 0)
def zBad (w : World) (b nb : Nat) : Prop := w.rowIs b 4 nb (fun _ => .bool false)
def dCells (nb : Nat) (q : Nat × Nat) : List Value := [.bool false, .slice (some ⟨q.1, 0, none⟩) nb nb, .slice (some ⟨q.2, 0, none⟩) nb nb, .int .i64 0]
def dAll (nb : Nat) (l : List (Nat × Nat)) : List Value := l.flatMap (dCells nb)
theorem Tryz.infoDrive : (Tryz.prog.info? 76).map (fun i => (i.zero, i.size, i.bytes)) = some (some (.agg #[.bool false, .slice none 0 0, .slice none 0 0, .int .i64 0]), 4, 64) := by kernel_rfl
theorem Tryz.infoBool1 : (Tryz.prog.info? 4).map (fun i => (i.zero, i.size, i.bytes)) = some (some (.bool false), 1, 1) := by kernel_rfl
theorem made_blk (w : World) (nb : Nat) : zRow (w.alloc (.cells (madeCells (blkA zb) (nb * 64)) 240)) w.heap.size nb := by
 refine ⟨_, blk_alloc_new _ _, by rw [size_madeCells]; omega, fun i hi => ?_⟩
 have hs : (blkA zb).size = 64 := by rw [blkA_size, zb_len]
 have hm : i % 64 < 64 := Nat.mod_lt _ (by decide)
 have hg : (blkA zb)[i % 64]! = .int .u8 0 := by
  have e : blkA zb = Array.replicate 64 (.int .u8 0) := by simp only [blkA, bts, zb, List.map_replicate, List.toArray_replicate]; rfl
  rw [getElem!_pos (blkA zb) (i % 64) (by omega)]
  simp only [e, Array.getElem_replicate]
 simp [madeCells, hs, hg, show i < nb * 64 by omega]
noncomputable def RNa : Array Oper := ((Tryz.f9.body.bind (rgf · 4))).getD #[]
def shNa : List (Op × Option Nat × List Nat) := [(Op.move (.tmp 5), some 11, []),
 (Op.move (.tmp 5), some 12, []),
 (Op.nilCheck (.tmp 12), some 13, [1]),
 (Op.fieldAddr 72 (.tmp 13) 0, some 14, [2]),
 (Op.load 70 (.tmp 14), some 15, [3]),
 (Op.move (.tmp 1), some 16, []),
 (Op.call { callee := Callee.builtin Builtin.max, args := #[.tmp 16, Operand.const (Value.int IntKind.i64 0)], argTypes := #[3, 3] }, some 17, [5]),
 (Op.makeSlice 73 (.tmp 17) (.tmp 17), some 18, [6, 6]),
 (Op.move (.tmp 1), some 19, []),
 (Op.call { callee := Callee.builtin Builtin.max, args := #[.tmp 19, Operand.const (Value.int IntKind.i64 0)], argTypes := #[3, 3] }, some 20, [8]),
 (Op.makeSlice 74 (.tmp 20) (.tmp 20), some 21, [9, 9]),
 (Op.build 76 #[(1, .tmp 18), (2, .tmp 21)], some 22, [7, 10]),
 (Op.buildSlice 70 1 #[(0, .tmp 22)], some 23, [11]),
 (Op.call { callee := Callee.builtin Builtin.append, args := #[.tmp 15, .tmp 23], argTypes := #[70, 70] }, some 24, [4, 12]),
 (Op.nilCheck (.tmp 11), some 25, [0, 0, 1, 2, 3, 4, 5, 6, 7, 8, 9, 10, 11, 12, 13]),
 (Op.fieldAddr 72 (.tmp 25) 0, some 26, [14, 0, 1, 2, 3, 4, 5, 6, 7, 8, 9, 10, 11, 12, 13]),
 (Op.store 70 (.tmp 26) (.tmp 24), none, [15, 13, 13, 0, 1, 2, 3, 4, 5, 6, 7, 8, 9, 10, 11, 12, 13])]
theorem RNa_shape : RegShape RNa 11 27 shNa := regShape (by kernel_rfl) (by kernel_rfl)
def VNa (w0 : World) (p nb : Nat) (v0 : Value) (xs : List Value) (k : Nat) (i : Nat) (u : Value) (w : World) : Prop := match i with
 | 0 | 1 | 2 | 3 | 14 | 15 => u = .pointer (some ⟨p, 0, none⟩)
 | 4 => u = v0
 | 5 | 6 | 8 | 9 => u = .int .i64 nb
 | 7 => ∃ b, w0.heap.size ≤ b ∧ u = .slice (some ⟨b, 0, none⟩) nb nb ∧ zRow w b nb
 | 10 => ∃ b, w0.heap.size ≤ b ∧ u = .slice (some ⟨b, 0, none⟩) nb nb ∧ zBad w b nb
 | 11 => ∃ q : Nat × Nat, w0.heap.size ≤ q.1 ∧ w0.heap.size ≤ q.2 ∧ u = .agg (dCells nb q).toArray ∧ zRow w q.1 nb ∧ zBad w q.2 nb
 | 12 => ∃ (c : Nat) (q : Nat × Nat), w0.heap.size ≤ c ∧ w0.heap.size ≤ q.1 ∧ w0.heap.size ≤ q.2 ∧ u = .slice (some ⟨c, 0, none⟩) 1 1 ∧ w.heap[c]? = some (.cells (dCells nb q).toArray 76 (0, 0)) ∧ zRow w q.1 nb ∧ zBad w q.2 nb
 | 13 => ∃ q : Nat × Nat, w0.heap.size ≤ q.1 ∧ w0.heap.size ≤ q.2 ∧ w.ownsRow (p + 1) 76 4 u (k + 1) (xs ++ dCells nb q) ∧ zRow w q.1 nb ∧ zBad w q.2 nb
 | 16 => ∃ (v' : Value) (q : Nat × Nat), w.heap[p]? = some (.cells #[v', .int .i64 (-1)] 72 (0, 0)) ∧ w0.heap.size ≤ q.1 ∧ w0.heap.size ≤ q.2 ∧ w.ownsRow (p + 1) 76 4 v' (k + 1) (xs ++ dCells nb q) ∧ zRow w q.1 nb ∧ zBad w q.2 nb
 | _ => True
theorem VNa_keep (hk : ∀ b, w0.heap.size ≤ b → b < w.heap.size → w'.heap[b]? = w.heap[b]?) (i : Nat) (u : Value) (hi : i ≠ 13 ∧ i ≠ 16) (h : VNa w0 p nb v0 xs k i u w) : VNa w0 p nb v0 xs k i u w' := by
 have hz : ∀ b, w0.heap.size ≤ b → zRow w b nb → zRow w' b nb := fun b hb q => World.rowIs.of_block q (hk b hb q.lt)
 have hb : ∀ b, w0.heap.size ≤ b → zBad w b nb → zBad w' b nb := fun b hb q => World.rowIs.of_block q (hk b hb q.lt)
 match i with
 | 0 | 1 | 2 | 3 | 14 | 15 | 4 | 5 | 6 | 8 | 9 => exact h
 | 7 => obtain ⟨b, q1, q2, q3⟩ := h; exact ⟨b, q1, q2, hz b q1 q3⟩
 | 10 => obtain ⟨b, q1, q2, q3⟩ := h; exact ⟨b, q1, q2, hb b q1 q3⟩
 | 11 => obtain ⟨q, q1, q2, q3, q4, q5⟩ := h; exact ⟨q, q1, q2, q3, hz _ q1 q4, hb _ q2 q5⟩
 | 12 => obtain ⟨c, q, q0, q1, q2, q3, q4, q5, q6⟩ := h; exact ⟨c, q, q0, q1, q2, q3, (hk c q0 (Array.getElem?_eq_some_iff.1 q4).1).trans q4, hz _ q1 q5, hb _ q2 q6⟩
 | 13 => exact absurd rfl hi.1
 | 16 => exact absurd rfl hi.2
 | n + 17 => trivial
def BNa (w0 : World) (p : Nat) (v0 : Value) (D : Nat → Bool) (w : World) : Prop := (∀ k, k < w0.heap.size → (D 13 = true → v0.ownBlock ≠ some k) → (D 16 = true → k ≠ p) → w.heap[k]? = w0.heap[k]?) ∧ w0.heap.size ≤ w.heap.size ∧ w.os = w0.os ∧ w.tape = w0.tape ∧ w.output = w0.output
theorem BNa_upd (h : BNa w0 p v0 D w) (i : Nat) (h1 : w.heap.size ≤ w'.heap.size ∧ w'.os = w.os ∧ w'.tape = w.tape ∧ w'.output = w.output) (hk : ∀ k, k < w0.heap.size → (i = 13 → v0.ownBlock ≠ some k) → (i = 16 → k ≠ p) → w'.heap[k]? = w.heap[k]?) : BNa w0 p v0 (upd D i) w' := by
 obtain ⟨q1, q2, q3, q4, q5⟩ := h
 refine ⟨fun k h3 h0 h2 => ?_, Nat.le_trans q2 h1.1, h1.2.1.trans q3, h1.2.2.1.trans q4, h1.2.2.2.trans q5⟩
 unfold upd at h0 h2
 refine (hk k h3 (fun e => h0 (by rw [if_pos e.symm])) (fun e => h2 (by rw [if_pos e.symm]))).trans (q1 k h3 (fun e => h0 ?_) (fun e => h2 ?_))
 · split
   · rfl
   · exact e
 · split
   · rfl
   · exact e
theorem BNa_pure (h : BNa w0 p v0 D w) (i : Nat) : BNa w0 p v0 (upd D i) w := BNa_upd h i ⟨Nat.le_refl _, rfl, rfl, rfl⟩ (fun _ _ _ _ => rfl)
theorem BNa_alloc (h : BNa w0 p v0 D w) (i : Nat) (o : Obj) : BNa w0 p v0 (upd D i) (w.alloc o) :=
 BNa_upd h i ⟨by simp, rfl, rfl, rfl⟩ (fun k hk _ _ => blk_alloc_lt _ _ _ (Nat.lt_of_lt_of_le hk h.2.1))
theorem new_region (hx : RNa = ops) (kn : nb ≤ 1000000) (hk : k ≤ 1000) (hh : w.ownsRow (p + 1) 76 4 v0 k xs)
 (hm : w.heap[p]? = some (.cells #[v0, .int .i64 (-1)] 72 (0, 0))) (ko : a.tmps.size = 29) (e5 : a.eval (.tmp 5) = .pointer (some ⟨p, 0, none⟩)) (e1 : a.eval (.tmp 1) = .int .i64 nb)
 (hQ : ∀ (w' : World) (vs : List Value) (v' : Value) (q : Nat × Nat), vs.length = 16 → w.heap.size ≤ q.1 → w.heap.size ≤ q.2 → w'.ownsRow (p + 1) 76 4 v' (k + 1) (xs ++ dCells nb q) → zRow w' q.1 nb → zBad w' q.2 nb → w'.heap[p]? = some (.cells #[v', .int .i64 (-1)] 72 (0, 0)) →
  Outside (fun j => j = p ∨ v0.ownBlock = some j) w w' → Q .normal (Act.putFrom a 11 vs) w') : (Code.region 4 ops true).wp Tryz.prog Q a w := by
 subst hx
 have hy : p < w.heap.size := (Array.getElem?_eq_some_iff.1 hm).1
 have n1 : ¬ (nb : Int) < 0 := by omega
 have k5 : ∀ (i : Nat), shNa.length = 17 := fun _ => rfl
 obtain ⟨ib, k6, k7, k8, k9⟩ := info_parts Tryz.zeroBlk
 obtain ⟨ic, ka, kb, kc, kd⟩ := info_parts Tryz.infoBool1
 obtain ⟨id, hid, ke, kf, kg⟩ := info_parts Tryz.infoDrive
 refine region_facts (by kernel_rfl) RNa_shape a w (by omega) (VNa w p nb v0 xs k) (BNa w p v0) ⟨fun _ _ _ _ => rfl, Nat.le_refl _, rfl, rfl, rfl⟩ ?_ ?_
 · intro i hi
   match i, hi with
   | 0, _ => exact fun o a' w' D hg ho h0 hk h8 h9 h7 hB hV => op_val (run_op_move ho ((hk.slot 5 (by omega)).trans e5) w') h0 ⟨BNa_pure hB _, rfl, kq⟩
   | 1, _ => exact fun o a' w' D hg ho h0 hk h8 h9 h7 hB hV => op_val (run_op_move ho ((hk.slot 5 (by omega)).trans e5) w') h0 ⟨BNa_pure hB _, rfl, kq⟩
   | 2, _ =>
    intro o a' w' D hg ho h0 hk h8 h9 h7 hB hV
    have u0 : a'.eval (.tmp 12) = .pointer (some ⟨p, 0, none⟩) := hV 1 (h7 1 (by decide))
    exact op_val (run_op_nil ho u0 w') h0 ⟨BNa_pure hB _, rfl, kq⟩
   | 3, _ =>
    intro o a' w' D hg ho h0 hk h8 h9 h7 hB hV
    have u0 : a'.eval (.tmp 13) = .pointer (some ⟨p, 0, none⟩) := hV 2 (h7 2 (by decide))
    exact op_val (v := .pointer (some ⟨p, 0, none⟩)) (by simp only [execOp, show o.op = Op.fieldAddr 72 (.tmp 13) 0 from ho, u0]; go_simp) h0 ⟨BNa_pure hB _, rfl, kq⟩
   | 4, _ =>
    intro o a' w' D hg ho h0 hk h8 h9 h7 hB hV
    have u0 : a'.eval (.tmp 14) = .pointer (some ⟨p, 0, none⟩) := hV 3 (h7 3 (by decide))
    have hz : D 13 = false := by
     cases q : D 13 with
     | false => rfl
     | true => have := (h9 13 q).2 4 (by decide); rw [h8] at this; cases this
    have hf : D 16 = false := by
     cases q : D 16 with
     | false => rfl
     | true => have := (h9 16 q).2 4 (by decide); rw [h8] at this; cases this
    have c : w'.cell? ⟨p, 0, none⟩ = some v0 := by
     have := (hB.1 p hy (fun q => by rw [hz] at q; cases q) (fun q => by rw [hf] at q; cases q)).trans hm
     simp [World.cell?, this]
    exact op_val (v := v0) (by simp only [execOp, show o.op = Op.load 70 (.tmp 14) from ho, u0]; go_simp) h0 ⟨BNa_pure hB _, rfl, kq⟩
   | 5, _ => exact fun o a' w' D hg ho h0 hk h8 h9 h7 hB hV => op_val (run_op_move ho ((hk.slot 1 (by omega)).trans e1) w') h0 ⟨BNa_pure hB _, rfl, kq⟩
   | 6, _ =>
    intro o a' w' D hg ho h0 hk h8 h9 h7 hB hV
    have u0 : a'.eval (.tmp 16) = .int .i64 nb := hV 5 (h7 5 (by decide))
    exact op_val (v := .int .i64 nb) (by have := run_op_max (P := Tryz.prog) (s := .tmp 16) (t := .const (.int .i64 0)) ho u0 rfl w'; rwa [if_neg (show ¬ (0 : Int) > (nb : Int) by omega)] at this) h0 ⟨BNa_pure hB _, rfl, kq⟩
   | 7, _ =>
    intro o a' w' D hg ho h0 hk h8 h9 h7 hB hV
    have u0 : a'.eval (.tmp 17) = .int .i64 nb := hV 6 (h7 6 (by decide))
    have hr := run_make (P := Tryz.prog) w' 73 240 ib (.agg (blkA zb)) Tryz.underlying73 k6 k7 .i64 .i64 nb nb (by omega) (Int.le_refl _) (by rw [k9]; omega) (by omega)
    rw [k8, Int.toNat_natCast] at hr
    refine op_val (v := .slice (some ⟨w'.heap.size, 0, none⟩) nb nb) (w' := w'.alloc (.cells (madeCells (blkA zb) (nb * 64)) 240)) (by simp [execOp, show o.op = Op.makeSlice 73 (.tmp 17) (.tmp 17) from ho, u0, hr, Value.cells]) h0 ⟨BNa_alloc hB _ _, ⟨_, hB.2.1, rfl, made_blk w' nb⟩, fun j u hj q => ?_⟩
    refine VNa_keep (fun b _ hb => blk_alloc_lt _ _ _ hb) j u ⟨fun e => ?_, fun e => ?_⟩ q
    · subst e; have := (h9 13 hj).2 12 (by decide); have := (h9 12 this).2 11 (by decide); have := (h9 11 this).2 7 (by decide); rw [h8] at this; cases this
    · subst e; have := (h9 16 hj).2 7 (by decide); rw [h8] at this; cases this
   | 8, _ => exact fun o a' w' D hg ho h0 hk h8 h9 h7 hB hV => op_val (run_op_move ho ((hk.slot 1 (by omega)).trans e1) w') h0 ⟨BNa_pure hB _, rfl, kq⟩
   | 9, _ =>
    intro o a' w' D hg ho h0 hk h8 h9 h7 hB hV
    have u0 : a'.eval (.tmp 19) = .int .i64 nb := hV 8 (h7 8 (by decide))
    exact op_val (v := .int .i64 nb) (by have := run_op_max (P := Tryz.prog) (s := .tmp 19) (t := .const (.int .i64 0)) ho u0 rfl w'; rwa [if_neg (show ¬ (0 : Int) > (nb : Int) by omega)] at this) h0 ⟨BNa_pure hB _, rfl, kq⟩
   | 10, _ =>
    intro o a' w' D hg ho h0 hk h8 h9 h7 hB hV
    have u0 : a'.eval (.tmp 20) = .int .i64 nb := hV 9 (h7 9 (by decide))
    have hr := run_make (P := Tryz.prog) w' 74 4 ic (.bool false) Tryz.underlying74 ka kb .i64 .i64 nb nb (by omega) (Int.le_refl _) (by rw [kd]; omega) (by omega)
    rw [kc, Int.toNat_natCast, Nat.mul_one] at hr
    refine op_val (v := .slice (some ⟨w'.heap.size, 0, none⟩) nb nb) (w' := w'.alloc (.cells (madeCells #[.bool false] nb) 4)) (by simp [execOp, show o.op = Op.makeSlice 74 (.tmp 20) (.tmp 20) from ho, u0, hr, Value.cells]) h0 ⟨BNa_alloc hB _ _, ⟨_, hB.2.1, rfl, World.rowIs_made w' (.bool false) nb _⟩, fun j u hj q => ?_⟩
    refine VNa_keep (fun b _ hb => blk_alloc_lt _ _ _ hb) j u ⟨fun e => ?_, fun e => ?_⟩ q
    · subst e; have := (h9 13 hj).2 12 (by decide); have := (h9 12 this).2 11 (by decide); have := (h9 11 this).2 10 (by decide); rw [h8] at this; cases this
    · subst e; have := (h9 16 hj).2 10 (by decide); rw [h8] at this; cases this
   | 11, _ =>
    intro o a' w' D hg ho h0 hk h8 h9 h7 hB hV
    obtain ⟨b1, q1, u0, z1⟩ : VNa w p nb v0 xs k 7 (a'.eval (.tmp 18)) w' := hV 7 (h7 7 (by decide))
    obtain ⟨b2, q2, u1, z2⟩ : VNa w p nb v0 xs k 10 (a'.eval (.tmp 21)) w' := hV 10 (h7 10 (by decide))
    exact op_val (v := .agg (dCells nb (b1, b2)).toArray) (by simp only [execOp, show o.op = Op.build 76 #[(1, .tmp 18), (2, .tmp 21)] from ho, List.map_toArray, List.map_cons, List.map_nil, u0, u1, dCells]; go_simp) h0 ⟨BNa_pure hB _, ⟨(b1, b2), q1, q2, rfl, z1, z2⟩, kq⟩
   | 12, _ =>
    intro o a' w' D hg ho h0 hk h8 h9 h7 hB hV
    obtain ⟨q, q1, q2, u0, z1, z2⟩ : VNa w p nb v0 xs k 11 (a'.eval (.tmp 22)) w' := hV 11 (h7 11 (by decide))
    refine op_val (v := .slice (some ⟨w'.heap.size, 0, none⟩) 1 1) (w' := w'.alloc (.cells (dCells nb q).toArray 76)) (by simp only [execOp, show o.op = Op.buildSlice 70 1 #[(0, .tmp 22)] from ho, List.map_toArray, List.map_cons, List.map_nil, u0, dCells]; go_simp) h0 ⟨BNa_alloc hB _ _, ⟨_, q, hB.2.1, q1, q2, rfl, blk_alloc_new _ _, z1.alloc _, z2.alloc _⟩, fun j u hj r => ?_⟩
    refine VNa_keep (fun b _ hb => blk_alloc_lt _ _ _ hb) j u ⟨fun e => ?_, fun e => ?_⟩ r
    · subst e; have := (h9 13 hj).2 12 (by decide); rw [h8] at this; cases this
    · subst e; have := (h9 16 hj).2 12 (by decide); rw [h8] at this; cases this
   | 13, _ =>
    intro o a' w' D hg ho h0 k0 h8 h9 h7 hB hV
    have u0 : a'.eval (.tmp 15) = v0 := hV 4 (h7 4 (by decide))
    obtain ⟨c, q, q0, q1, q2, u1, hc, z1, z2⟩ : VNa w p nb v0 xs k 12 (a'.eval (.tmp 23)) w' := hV 12 (h7 12 (by decide))
    have hf : D 16 = false := by
     cases q : D 16 with
     | false => rfl
     | true => have := (h9 16 q).2 13 (by decide); rw [h8] at this; cases this
    have ha : w'.ownsRow (p + 1) 76 4 v0 k xs := hh.kept (row := none) ⟨hB.2.2.1, hB.2.2.2.1, hB.2.2.2.2, hB.2.1, fun j hj _ => hB.1 j hj (fun q => by rw [h8] at q; cases q) (fun q => by rw [hf] at q; cases q)⟩ (by cases v0.ownBlock <;> simp)
    refine wp_append_own w' (.tmp 15) (.tmp 23) 70 ho (p + 1) 76 id _ 4 64 Tryz.underlying70 hid ke kf kg rfl (by decide) v0 k xs u0 ha ⟨c, 0, none⟩ 1 1 (dCells nb q) u1 rfl (fun j u hj => ?_) (fun u hu => ?_) (by simp [maxLen]; omega) (by omega) (Nat.le_trans hy hB.2.1) ?_
    · rw [add0]; simp only [World.cell?, hc]; simpa using hj
    · simp [dCells] at hu; rcases hu with rfl | rfl | rfl | rfl <;> rfl
    · intro v' w'' kh hq _
      have hp : ∀ b, w.heap.size ≤ b → b < w'.heap.size → w''.heap[b]? = w'.heap[b]? := fun b hb ki => hq.block b ki (fun e => by have := (hh.lt b e.symm).2; omega)
      refine ⟨v', rfl, fun e => (by rw [h0] at e; cases e), BNa_upd hB 13 ⟨hq.size, hq.os, hq.tape, hq.output⟩ (fun j hj kj _ => hq.block j (Nat.lt_of_lt_of_le hj hB.2.1) (fun e => kj rfl e.symm)), ⟨q, q1, q2, kh, World.rowIs.of_block z1 (hp _ q1 z1.lt), World.rowIs.of_block z2 (hp _ q2 z2.lt)⟩, fun j u hj r => VNa_keep hp j u ⟨fun e => (by subst e; rw [h8] at hj; cases hj), fun e => (by subst e; rw [hf] at hj; cases hj)⟩ r⟩
   | 14, _ =>
    intro o a' w' D hg ho h0 hk h8 h9 h7 hB hV
    have u0 : a'.eval (.tmp 11) = .pointer (some ⟨p, 0, none⟩) := hV 0 (h7 0 (by decide))
    exact op_val (run_op_nil ho u0 w') h0 ⟨BNa_pure hB _, rfl, kq⟩
   | 15, _ =>
    intro o a' w' D hg ho h0 hk h8 h9 h7 hB hV
    have u0 : a'.eval (.tmp 25) = .pointer (some ⟨p, 0, none⟩) := hV 14 (h7 14 (by decide))
    exact op_val (v := .pointer (some ⟨p, 0, none⟩)) (by simp only [execOp, show o.op = Op.fieldAddr 72 (.tmp 25) 0 from ho, u0]; go_simp) h0 ⟨BNa_pure hB _, rfl, kq⟩
   | 16, _ =>
    intro o a' w' D hg ho h0 hk h8 h9 h7 hB hV
    have u0 : a'.eval (.tmp 26) = .pointer (some ⟨p, 0, none⟩) := hV 15 (h7 15 (by decide))
    obtain ⟨q, q1, q2, ha, z1, z2⟩ : VNa w p nb v0 xs k 13 (a'.eval (.tmp 24)) w' := hV 13 (h7 13 (by decide))
    have he : w'.heap[p]? = some (.cells #[v0, .int .i64 (-1)] 72 (0, 0)) := (hB.1 p hy (fun _ e => by have := (hh.lt p e).1; omega) (fun q => by rw [h8] at q; cases q)).trans hm
    obtain ⟨u, hu⟩ : ∃ u, a'.eval (.tmp 24) = u := ⟨_, rfl⟩
    have c : w'.cell? ⟨p, 0, none⟩ = some v0 := by simp [World.cell?, he]
    have fz : w'.frozen? ⟨p, 0, none⟩ = false := by simp [World.frozen?, he]
    rw [hu] at ha
    obtain ⟨so, sl, sc, kk⟩ : ∃ so sl sc, u = .slice so sl sc := by
     rcases ha.2 with ⟨e, _⟩ | ⟨g, cap, cur, e, _⟩
     · exact ⟨_, _, _, e⟩
     · exact ⟨_, _, _, e⟩
    refine op_skip (w' := w'.setCell ⟨p, 0, none⟩ u) (by rw [kk] at hu ⊢; simp only [execOp, show o.op = Op.store 70 (.tmp 26) (.tmp 24) from ho, u0, hu]; go_simp) ⟨BNa_upd hB 16 ⟨by simp [World.setCell], rfl, rfl, rfl⟩ (fun j _ _ km => blk_setCell_other _ _ _ _ (km rfl)), ?_, fun j x hj r => ?_⟩
    · refine ⟨u, q, by simp [World.setCell, Array.getElem?_modify, he], q1, q2, ha.kept (row := some p) ⟨rfl, rfl, rfl, by simp [World.setCell], fun i _ hi => blk_setCell_other _ _ _ _ (fun e => hi (by rw [e]))⟩ (.inr fun e => by have := (ha.lt p e).1; omega), World.rowIs.of_block z1 (blk_setCell_other _ _ _ _ (by show q.1 ≠ p; omega)), World.rowIs.of_block z2 (blk_setCell_other _ _ _ _ (by show q.2 ≠ p; omega))⟩
    have hp : ∀ b, w.heap.size ≤ b → b < w'.heap.size → (w'.setCell ⟨p, 0, none⟩ u).heap[b]? = w'.heap[b]? := fun b hb _ => blk_setCell_other _ _ _ _ (by show b ≠ p; omega)
    by_cases e : j = 13
    · subst e
      obtain ⟨q, q1, q2, r1, r2, r3⟩ := r
      refine ⟨q, q1, q2, r1.kept (row := some p) ⟨rfl, rfl, rfl, by simp [World.setCell], fun i _ hi => blk_setCell_other _ _ _ _ (fun e => hi (by rw [e]))⟩ (.inr fun e => by have := (r1.lt p e).1; omega), World.rowIs.of_block r2 (hp _ q1 r2.lt), World.rowIs.of_block r3 (hp _ q2 r3.lt)⟩
    · exact VNa_keep hp j x ⟨e, fun e => (by subst e; rw [h8] at hj; cases hj)⟩ r
   | n + 17, hn => exact absurd hn (by show ¬ n + 17 < 17; omega)
 · rintro a' w' k0 ⟨D, hD, hB⟩ hV
   obtain ⟨v', q, h1, h2, h3, h4, h5, h6⟩ : VNa w p nb v0 xs k 16 undef w' := hV 16 (by decide)
   have e : a' = Act.putFrom a 11 ((List.range 16).map fun i => a'.eval (.tmp (11 + i))) := k0.out _ (by rw [List.length_map, List.length_range]) (by omega) (fun i hi => by
    rw [List.length_map, List.length_range] at hi
    rw [List.getD_eq_getElem?_getD, List.getElem?_map, List.getElem?_range hi]; rfl)
   rw [e]
   refine hQ w' _ v' q (by rw [List.length_map, List.length_range]) h2 h3 h4 h5 h6 h1 ⟨hB.2.2.1, hB.2.2.2.1, hB.2.2.2.2, hB.2.1, fun j hj hs => hB.1 j hj (fun _ e => hs (.inr e)) (fun _ e => hs (.inl e))⟩
def NaS (w : World) (p nb k : Nat) (L : List (Nat × Nat)) (v : Value) (wr : World) : Prop :=
 L.length = k ∧ wr.heap[p]? = some (.cells #[v, .int .i64 (-1)] 72 (0, 0)) ∧ wr.ownsRow (p + 1) 76 4 v k (dAll nb L) ∧ (∀ q ∈ L, (p < q.1 ∧ p < q.2) ∧ zRow wr q.1 nb ∧ zBad wr q.2 nb) ∧ (L.map (fun q => q.1)).Nodup ∧ (L.map (fun q => q.2)).Nodup ∧ Below p w wr
def NaR (w : World) (p nb n : Nat) (i : Value) (wr : World) : Prop := ∃ k L v, k ≤ n ∧ i = .int .i64 (k : Nat) ∧ NaS w p nb k L v wr
theorem own_not {base : Nat} {t m : Nat} {f : Nat → Value} (h : w.ownsRow base 76 4 v n xs) (hb : w.rowIs b t m f) (ht : t ≠ 76) : v.ownBlock ≠ some b := by
 intro e
 rcases h.2 with ⟨h0, _⟩ | ⟨g, cap, cur, e1, e2, e3, e4⟩
 · rw [h0] at e; simp [Value.ownBlock] at e
 · rw [e1] at e
   simp [Value.ownBlock] at e
   subst e
   obtain ⟨c, hc, _⟩ := hb
   rw [hc] at e3
   simp at e3
   exact ht e3.2
theorem nodup_snoc (h : l.Nodup) (hb : ∀ x ∈ l, x < b) (c : Nat) (hc : b ≤ c) : (l ++ [c]).Nodup := by
 rw [List.nodup_append]
 refine ⟨h, by simp, fun x hx y hy e => ?_⟩
 simp at hy
 have := hb x hx
 omega
theorem NaS.next {v' : Value} {q : Nat × Nat} (h : NaS w p nb k L v wr) (q1 : wr.heap.size ≤ q.1) (q2 : wr.heap.size ≤ q.2) (ho : w'.ownsRow (p + 1) 76 4 v' (k + 1) (dAll nb L ++ dCells nb q))
 (z1 : zRow w' q.1 nb) (z2 : zBad w' q.2 nb) (ht : w'.heap[p]? = some (.cells #[v', .int .i64 (-1)] 72 (0, 0))) (hO : Outside (fun j => j = p ∨ v.ownBlock = some j) wr w') : NaS w p nb (k + 1) (L ++ [q]) v' w' := by
 obtain ⟨h1, h2, h3, h4, h5, h6, h7⟩ := h
 have h8 : p < wr.heap.size := (Array.getElem?_eq_some_iff.1 h2).1
 have h0 : ∀ x ∈ L, zRow w' x.1 nb ∧ zBad w' x.2 nb := fun x hx => by
  obtain ⟨⟨a1, a2⟩, a3, a4⟩ := h4 x hx
  refine ⟨World.rowIs.of_block a3 (hO.block _ a3.lt ?_), World.rowIs.of_block a4 (hO.block _ a4.lt ?_)⟩
  · rintro (e | e)
    · omega
    · exact own_not h3 a3 (by decide) e
  · rintro (e | e)
    · omega
    · exact own_not h3 a4 (by decide) e
 refine ⟨by simp [h1], ht, ?_, fun x hx => ?_, ?_, ?_, ⟨hO.os.trans h7.os, hO.tape.trans h7.tape, hO.output.trans h7.output, Nat.le_trans h7.size hO.size, fun j hj => (hO.block j (by omega) (fun e => ?_)).trans (h7.block j hj)⟩⟩
 · have e : dAll nb (L ++ [q]) = dAll nb L ++ dCells nb q := by simp [dAll]
   rw [e]; exact ho
 · rcases List.mem_append.1 hx with hx | hx
   · exact ⟨(h4 x hx).1, h0 x hx⟩
   · simp at hx
     subst hx
     exact ⟨⟨by omega, by omega⟩, z1, z2⟩
 · rw [List.map_append]
   exact nodup_snoc h5 (fun x hx => by obtain ⟨y, hy, rfl⟩ := List.mem_map.1 hx; exact (h4 y hy).2.1.lt) _ q1
 · rw [List.map_append]
   exact nodup_snoc h6 (fun x hx => by obtain ⟨y, hy, rfl⟩ := List.mem_map.1 hx; exact (h4 y hy).2.2.lt) _ q2
 · rcases e with e | e
   · omega
   · have := (h3.lt j e).1; omega
def NaPost (n nb : Nat) (w : World) (e : Ending) (w' : World) : Prop := e = .returned (.pointer (some ⟨w.heap.size, 0, none⟩)) ∧ Below w.heap.size w w' ∧
 ((n = 0 ∧ ∃ ao cap, w'.heap[w.heap.size]? = some (.cells #[.slice ao 0 cap, .int .i64 (-1)] 72 (0, 0))) ∨ (0 < n ∧ ∃ F : Foot, ArrAt w' w.heap.size (newArr n nb) F ∧ ∀ k, F.has w.heap.size n k → w.heap.size ≤ k))
theorem dAll_get (nb : Nat) : ∀ (L : List (Nat × Nat)) (k : Nat), k < 4 * L.length → (dAll nb L)[k]? = some (drvV (newArr L.length nb) ⟨0, 0, fun i => (L.getD i (0, 0)).1, fun i => (L.getD i (0, 0)).2⟩ k)
 | [], k, h => absurd h (by simp)
 | q :: L, k, h => by
  simp only [List.length_cons] at h
  have e : dAll nb (q :: L) = dCells nb q ++ dAll nb L := by simp [dAll]
  rw [e]
  by_cases hk : k < 4
  · rw [List.getElem?_append_left (by simpa [dCells] using hk)]
    match k, hk with
    | 0, _ => rfl
    | 1, _ => rfl
    | 2, _ => rfl
    | 3, _ => rfl
  · rw [List.getElem?_append_right (by simp [dCells]; omega)]
    have ih := dAll_get nb L (k - 4) (by omega)
    rw [show (dCells nb q).length = 4 from rfl, ih]
    obtain ⟨j, rfl⟩ : ∃ j, k = j + 4 := ⟨k - 4, by omega⟩
    rw [Nat.add_sub_cancel]
    unfold drvV
    rw [show (j + 4) % 4 = j % 4 by omega, show (j + 4) / 4 = j / 4 + 1 by omega]
    rfl
theorem nodup_at (h : l.Nodup) {i j : Nat} (hi : i < l.length) (hj : j < l.length) (e : l[i] = l[j]) : i = j := (List.getElem_inj h).1 e
theorem NaS.post (h : NaS w w.heap.size nb n L v wr) : NaPost n nb w (.returned (.pointer (some ⟨w.heap.size, 0, none⟩))) wr := by
 obtain ⟨h1, h2, h3, h4, h5, h6, h7⟩ := h
 refine ⟨rfl, h7, ?_⟩
 rcases h3.2 with ⟨rfl, h0⟩ | ⟨g, cap, cur, rfl, e2, e3, e4, e5, e6, e7⟩
 · exact .inl ⟨h0, _, _, h2⟩
 · by_cases hn : n = 0
   · subst hn
     exact .inl ⟨rfl, _, _, h2⟩
   · have h8 : ∀ i, i < n → (L.getD i (0, 0)) ∈ L := fun i hi => by
      rw [List.getD_eq_getElem?_getD, List.getElem?_eq_getElem (show i < L.length by omega)]
      exact List.getElem_mem _
     refine .inr ⟨by omega, ⟨g, cap, fun i => (L.getD i (0, 0)).1, fun i => (L.getD i (0, 0)).2⟩, ⟨h2, ⟨cur, e3, fun k hk => ?_⟩, fun i hi => ?_, fun i hi => ?_, fun i j hi hj => ⟨fun e => ?_, fun e => ?_⟩⟩, ?_⟩
     · have h9 : k < 4 * L.length := by rw [h1]; exact hk
       have q := dAll_get nb L k h9
       rw [← e7, List.getElem?_take_of_lt (by rw [h1] at h9; omega)] at q
       rw [← Array.getElem?_toList, q]
       unfold drvV
       rfl
     · refine World.rowIs.congr (h4 _ (h8 i hi)).2.1 fun j hj => ?_
       show Value.int .u8 0 = Value.int .u8 ((zb.getD (j % 64) 0 : Nat) : Int)
       have hz : zb.getD (j % 64) 0 = 0 := by
        unfold zb
        rw [List.getD_eq_getElem?_getD, List.getElem?_replicate]
        split <;> rfl
       rw [hz]; rfl
     · exact (h4 _ (h8 i hi)).2.2
     · have e1 : i < (L.map (fun q => q.1)).length := by rw [List.length_map, h1]; exact hi
       have e2 : j < (L.map (fun q => q.1)).length := by rw [List.length_map, h1]; exact hj
       refine nodup_at h5 e1 e2 ?_
       have a1 : i < L.length := by rw [h1]; exact hi
       have a2 : j < L.length := by rw [h1]; exact hj
       simpa [a1, a2] using e
     · have e1 : i < (L.map (fun q => q.2)).length := by rw [List.length_map, h1]; exact hi
       have e2 : j < (L.map (fun q => q.2)).length := by rw [List.length_map, h1]; exact hj
       refine nodup_at h6 e1 e2 ?_
       have a1 : i < L.length := by rw [h1]; exact hi
       have a2 : j < L.length := by rw [h1]; exact hj
       simpa [a1, a2] using e
     · rintro k (rfl | rfl | ⟨i, hi, rfl | rfl⟩)
       · exact Nat.le_refl _
       · exact Nat.le_of_succ_le e2
       · exact Nat.le_of_lt (h4 _ (h8 i hi)).1.1
       · exact Nat.le_of_lt (h4 _ (h8 i hi)).1.2
theorem list16 {vs : List Value} (h : vs.length = 16) : ∃ x0 x1 x2 x3 x4 x5 x6 x7 x8 x9 xa xb xc xd xe xf, vs = [x0, x1, x2, x3, x4, x5, x6, x7, x8, x9, xa, xb, xc, xd, xe, xf] := by
 match vs, h with
 | [x0, x1, x2, x3, x4, x5, x6, x7, x8, x9, xa, xb, xc, xd, xe, xf], _ => exact ⟨_, _, _, _, _, _, _, _, _, _, _, _, _, _, _, _, rfl⟩
theorem newArray_any (n nb : Nat) (w : World) (hn : n ≤ 1000) (h2 : nb ≤ 1000000) :
 Calls Tryz.prog 9 #[.int .i64 n, .int .i64 nb] w fun e w' => NaPost n nb w e w' := by
 go_enter Tryz.func9, Tryz.ntmps9
 have h0 : NaS w w.heap.size nb 0 [] (.slice none 0 0) (w.alloc (.cells #[.slice none 0 0, .int .i64 (-1)] 72)) := ⟨rfl, blk_alloc_new _ _, World.ownsRow_nil _ _ _ _, fun q hq => (by simp at hq), by simp, by simp, (Below.refl _ w).alloc (Nat.le_refl _) _⟩
 go_wp2_with fail
 go_loopw [9] (fun i wr => NaR w w.heap.size nb n i wr) (fun i _ => n - (intOf i).toNat)
 case atStart => exact ⟨0, [], _, Nat.zero_le _, rfl, h0⟩
 case round =>
  clear h0
  obtain ⟨k, L, v, hk, rfl, hS⟩ := hrel
  by_cases h4 : k < n
  · have HS := hide hS
    clear hS
    go_wp2_with fail
    refine new_region (by kernel_rfl) h2 (by omega) HS.out.2.2.1 HS.out.2.1 rfl rfl rfl ?_
    intro w' vs v' q h1 q1 q2 ho z1 z2 ht hO
    obtain ⟨x0, x1, x2, x3, x4, x5, x6, x7, x8, x9, xa, xb, xc, xd, xe, xf, rfl⟩ := list16 h1
    have hN := HS.out.next q1 q2 ho z1 z2 ht hO
    have HN := hide hN
    clear hN ho z1 z2 ht hO HS q1 q2 h1
    rename_i hK
    refine hK _ _ ?_
    clear hK
    simp only [Act.putFrom]
    go_wp2
    exact ⟨⟨k + 1, _, _, by omega, by go_num, HN.out⟩, by simp [intOf]; omega⟩
  · have h3 : k = n := by omega
    subst h3
    have HS := hide hS
    clear hS
    go_wp2
    go_ret
    exact HS.out.post
section
open Gf
theorem rem_key (d : Int) (m : Nat) (hm : 0 < m) (h3 : m ≤ 1000) : ∃ n : Nat, n < m ∧ wrap64 ((IntKind.u64.wrap d).tmod m) = (n : Int) := by
 have h0 : 0 ≤ IntKind.u64.wrap d := by rw [IntKind.wrap_u64]; omega
 rw [Int.tmod_eq_emod_of_nonneg h0]
 have h1 := Int.emod_nonneg (IntKind.u64.wrap d) (show (m : Int) ≠ 0 by omega)
 have h2 := Int.emod_lt_of_pos (IntKind.u64.wrap d) (show (0 : Int) < m by omega)
 refine ⟨(IntKind.u64.wrap d % m).toNat, by omega, ?_⟩
 rw [show ((IntKind.u64.wrap d % (m : Int)).toNat : Int) = IntKind.u64.wrap d % m by omega]
 generalize IntKind.u64.wrap d % (m : Int) = z at h1 h2
 unfold wrap64
 omega
theorem newArc_fit {A : Arr} (h : A.fit) {D L G : Nat} (hD : D ≤ 12) (hL : L ≤ 4) (hG : G ≤ 4) (hn : A.n = D + L + G) : (newArc A D L G).fit := by
 have hf : (Rec.filled).ok := trivial
 have hr : (Rec.root D L G 1 2 0).ok := ⟨by omega, by omega, by omega, by decide, by decide, by decide⟩
 exact (pagesTo_fit (h.putAt _ _ _ fun _ _ => ⟨blk_len hf, blk_lt hf⟩) hD hG hn [2] [] 1).putAt _ _ _ fun _ _ => ⟨blk_len hr, blk_lt hr⟩
end
section
open Gf
def nameB (s : ByteArray) : List Nat := s.toList.map (fun (b : UInt8) => b.toNat) ++ List.replicate (16 - s.size) 0
def packOb (o : Ob) : List Nat := be o.name.size 1 ++ nameB o.name ++ be o.size 2 ++ o.stripes.flatMap (fun s => be s 4)
def packL (os : List Ob) : List Nat := os.flatMap packOb
structure Ob.fit (o : Ob) : Prop where
 name : 1 ≤ o.name.size ∧ o.name.size ≤ 16
 size : o.size ≤ 1500
 st : ∀ s ∈ o.stripes, s < 4294967296
 len : o.stripes.length ≤ 1000
theorem flat4_len (l : List Nat) : (l.flatMap (fun s => be s 4)).length = 4 * l.length := by
 induction l with
 | nil => rfl
 | cons x l ih => rw [List.flatMap_cons, List.length_append, ih, be_len, List.length_cons]; omega
theorem nameB_len (h : s.size ≤ 16) : (nameB s).length = 16 := by
 unfold nameB
 rw [List.length_append, List.length_map, List.length_replicate, ByteArray.toList_eq]
 have : s.data.toList.length = s.size := by rw [Array.length_toList]; rfl
 omega
theorem packOb_len {o : Ob} (h : o.fit) : (packOb o).length = 19 + 4 * o.stripes.length := by
 unfold packOb
 rw [List.length_append, List.length_append, List.length_append, be_len, be_len, nameB_len h.name.2, flat4_len]
theorem packL_take (os : List Ob) (k : Nat) (hk : k < os.length) : packL (os.take (k + 1)) = packL (os.take k) ++ packOb os[k] := by
 unfold packL
 rw [List.take_add_one, List.getElem?_eq_getElem hk, List.flatMap_append]
 simp
theorem packed_any (k : Nat) (hk : k ≤ 1000000) (w : World) : Calls Tryz.prog 85 #[.int .i64 k] w fun e w' => e = .returned (.int .i64 ((19 + 4 * k : Nat) : Int)) ∧ w' = w := by
 have e1 : ((19 + 4 * k : Nat) : Int) = 19 + 4 * (k : Int) := by omega
 rw [e1]
 go_enter Tryz.func85, Tryz.ntmps85
 go_wp2
 go_ret
 exact ⟨rfl, rfl⟩
def LnR (w : World) (os : List Ob) (s i : Value) (wr : World) : Prop := ∃ k : Nat, k ≤ os.length ∧ i = .int .i64 k ∧ s = .int .i64 (((packL (os.take k)).length : Nat) : Int) ∧ Below w.heap.size w wr
theorem length_any {K : Nat → Prop} {os : List Ob} (hC : Cat K w v os) (hf : ∀ o ∈ os, o.fit) (hc : os.length ≤ 10000) : Calls Tryz.prog 70 #[v] w fun e w' => e = .returned (.int .i64 (((packL os).length : Nat) : Int)) ∧ Below w.heap.size w w' := by
 obtain ⟨ao, c, rfl, _, h0⟩ := hC
 have h2 : ∀ k, k ≤ os.length → (packL (os.take k)).length ≤ k * 5000 := by
  intro k hk
  induction k with
  | zero => simp [packL]
  | succ k ih =>
   have h3 : k < os.length := by omega
   have := ih (by omega)
   have h6 := hf _ (List.getElem_mem h3)
   rw [packL_take os k h3, List.length_append, packOb_len h6]
   have := h6.len
   omega
 obtain ⟨N, hN⟩ : ∃ N, os.length = N := ⟨_, rfl⟩
 have HC := hide4 h0 hf h2 hN
 rw [hN] at hc ⊢
 clear h0 hf h2 hN
 go_enter Tryz.func70, Tryz.ntmps70
 go_wp2_with fail
 go_loopw [3, 8] (fun s i wr => LnR w os s i wr) (fun _ i _ => N - (intOf i).toNat)
 case atStart => exact ⟨0, Nat.zero_le _, rfl, rfl, Below.refl _ _⟩
 case round =>
  obtain ⟨k, hk, rfl, rfl, hb⟩ := hrel
  rw [HC.out.2.2.2] at hk
  by_cases hp : k < N
  · obtain ⟨h0, hf, h2, hN⟩ := HC.out
    have h3 : k < os.length := by omega
    obtain ⟨b, off, rfl, hr, h5, h7⟩ := h0 (fun e => by rw [e] at h3; cases h3)
    obtain ⟨sv, c0, c1, c2, hI⟩ := h7 k h3
    obtain ⟨sao, sc, he, hg, _⟩ := hI
    have d0 : wr.cell? ⟨b, off + k * 3, none⟩ = some (.string os[k].name) := (World.cell?_of_block (hb.block b h5)).trans c0
    have d1 : wr.cell? ⟨b, off + k * 3 + 1, none⟩ = some (.int .i64 (os[k].size : Nat)) := (World.cell?_of_block (hb.block b h5)).trans c1
    have d2 : wr.cell? ⟨b, off + k * 3 + 2, none⟩ = some sv := (World.cell?_of_block (hb.block b h5)).trans c2
    subst he
    have hh := h2 k (by omega)
    have hi := h2 (k + 1) (by omega)
    have h1 : (packL (os.take (k + 1))).length = (packL (os.take k)).length + (19 + 4 * os[k].stripes.length) := by rw [packL_take os k h3, List.length_append, packOb_len (hf _ (List.getElem_mem h3))]
    obtain ⟨a, ha⟩ : ∃ a, (packL (os.take k)).length = a := ⟨_, rfl⟩
    obtain ⟨a', h4⟩ : ∃ a', (packL (os.take (k + 1))).length = a' := ⟨_, rfl⟩
    obtain ⟨m, hm⟩ : ∃ m, os[k].stripes.length = m := ⟨_, rfl⟩
    obtain ⟨nm, h8⟩ : ∃ nm, os[k].name = nm := ⟨_, rfl⟩
    obtain ⟨sz, h9⟩ : ∃ sz, os[k].size = sz := ⟨_, rfl⟩
    rw [ha, h4, hm] at h1
    rw [ha] at hh ⊢
    rw [h4] at hi
    rw [hm] at d2
    rw [h8] at d0
    rw [h9] at d1
    rw [hm] at hg
    have hj := hb.size
    have H := hide3 hb h4 h1
    have hs : ((k : Nat) : Int).toNat = k := by omega
    clear hb c0 c1 c2 h0 hf h2 h7 h1 ha h4 hm h8 h9 hN
    go_wp2_with fail
    refine (packed_any m (by omega) _).mono ?_
    obtain ⟨q, hq⟩ : ∃ q, 19 + 4 * m = q := ⟨_, rfl⟩
    rw [hq]
    rintro e w2 ⟨rfl, rfl⟩
    have hx : a + q ≤ 100000000 := by have := H.out.2.2; omega
    go_wp2
    obtain ⟨hb, h4, h1⟩ := H.out
    refine ⟨⟨k + 1, by rw [HC.out.2.2.2]; omega, by go_num, ?_, hb.alloc hj _⟩, by simp [intOf]; omega⟩
    rw [h4, h1, hq]
    first | rfl | (congr 1)
  · have hn : k = N := by omega
    subst hn
    have H := hide hb
    clear hb
    go_wp2
    go_ret
    refine ⟨?_, H.out⟩
    rw [List.take_of_length_le (by rw [HC.out.2.2.2]; exact Nat.le_refl _)]
    rfl
end
section
open Gf
theorem nameB_cells (s : ByteArray) : (List.take 0 (bts (List.replicate 16 0)) ++ Lib.byteCells s.data.toList ++ List.drop (0 + s.size) (bts (List.replicate 16 0))).toArray = (bts (nameB s)).toArray := by
 congr 1
 unfold nameB bts Lib.byteCells
 rw [ByteArray.toList_eq, List.map_replicate, List.take_zero, List.nil_append, Nat.zero_add, List.drop_replicate, List.map_append, List.map_replicate, List.map_map]
 rfl
def BK6 (w : World) (g : Nat) (s : ByteArray) (Dn : Nat → Bool) (w' : World) : Prop := w' = if Dn 3 = true then w.drew.setRow g (bts (nameB s)).toArray else w.drew
theorem BK6_upd (h : BK6 w g s Dn w') (i : Nat) (hi : 3 ≠ i) : BK6 w g s (upd Dn i) w' := by unfold BK6; rw [upd_ne hi]; exact h
theorem BK6_cell (h : BK6 w g s Dn w') {a : Addr} (hg : a.block ≠ g) {v : Value} (hc : w.cell? a = some v) : w'.cell? a = some v := by
 unfold BK6 at h
 subst h
 split
 · exact (World.cell?_of_block ((grown_setRow' w.drew g _).block a.block (block_lt_of_cell hc) (fun e => hg (Option.some.inj e)))).trans hc
 · exact hc
noncomputable def RK6 : Array Oper := ((Tryz.f104.body.bind (rgf · 6))).getD #[]
def shK6 : List (Op × Option Nat × List Nat) := [(Op.slice 229 (.tmp 6) none none none, some 18, []),
 (Op.fieldAddr 114 (.tmp 5) 0, some 19, []),
 (Op.load 9 (.tmp 19), some 20, [1]),
 (Op.call { callee := Callee.builtin Builtin.copy, args := #[.tmp 18, .tmp 20], argTypes := #[31, 9] }, some 21, [0, 2])]
theorem RK6_shape : RegShape RK6 18 22 shK6 := regShape (by kernel_rfl) (by kernel_rfl)
def vsK6 (g q : Nat) (s : ByteArray) : List Value := [.slice (some ⟨g, 0, none⟩) 16 16, .pointer (some ⟨q, 0, none⟩), .string s, .int .i64 (s.size : Nat)]
theorem pack_region6 {q : Nat} (hs : s.size ≤ 16) (h9 : w.heap[g]? = some (.cells (bts (List.replicate 16 0)).toArray 229 (0, 0))) (hq : w.cell? ⟨q, 0, none⟩ = some (.string s)) (ha : q ≠ g) (h5 : RK6 = ops) (h7 : a.tmps.size = 50)
 (e5 : a.eval (.tmp 5) = .pointer (some ⟨q, 0, none⟩)) (e6 : a.eval (.tmp 6) = .pointer (some ⟨g, 0, none⟩))
 (hQ : ∀ (w' : World), w' = w.drew.setRow g (bts (nameB s)).toArray → Q .normal (Act.putFrom a 18 [.slice (some ⟨g, 0, none⟩) 16 16, .pointer (some ⟨q, 0, none⟩), .string s, .int .i64 (s.size : Nat)]) w') : (Code.region 6 ops true).wp Tryz.prog Q a w := by
 subst h5
 have h7 : (Tryz.prog.info? 5).map (fun i => i.size) = some 1 := by kernel_rfl
 refine region_factsS (by kernel_rfl) RK6_shape a w (by omega) (fun i u _ => u = (vsK6 g q s).getD i undef) (BK6 w g s) rfl ?_ ?_
 · intro i hi
   match i, hi with
   | 0, _ =>
    intro o a' w' Dn hg ho h0 hk h4 h6 h1 hB h2
    have u0 : a'.eval (.tmp 6) = .pointer (some ⟨g, 0, none⟩) := (hk.slot 6 (by omega)).trans e6
    exact op_val (v := .slice (some ⟨g, 0, none⟩) 16 16) (by simp only [execOp, show o.op = Op.slice 229 (.tmp 6) none none none from ho, u0]; go_simp) h0 ⟨BK6_upd hB 0 (by decide), rfl, kq⟩
   | 1, _ =>
    intro o a' w' Dn hg ho h0 hk h4 h6 h1 hB h2
    have u0 : a'.eval (.tmp 5) = .pointer (some ⟨q, 0, none⟩) := (hk.slot 5 (by omega)).trans e5
    exact op_val (v := .pointer (some ⟨q, 0, none⟩)) (by simp only [execOp, show o.op = Op.fieldAddr 114 (.tmp 5) 0 from ho, u0]; go_simp) h0 ⟨BK6_upd hB 1 (by decide), rfl, kq⟩
   | 2, _ =>
    intro o a' w' Dn hg ho h0 hk h4 h6 h1 hB h2
    have u0 : a'.eval (.tmp 19) = .pointer (some ⟨q, 0, none⟩) := h2 1 (h1 1 (by decide))
    have cc : w'.cell? ⟨q, 0, none⟩ = some (.string s) := BK6_cell hB ha hq
    exact op_val (v := .string s) (by simp only [execOp, show o.op = Op.load 9 (.tmp 19) from ho, u0]; go_simp) h0 ⟨BK6_upd hB 2 (by decide), rfl, kq⟩
   | 3, _ =>
    intro o a' w' Dn hg ho h0 hk h4 h6 h1 hB h2
    have u0 : a'.eval (.tmp 18) = .slice (some ⟨g, 0, none⟩) 16 16 := h2 0 (h1 0 (by decide))
    have u1 : a'.eval (.tmp 20) = .string s := h2 2 (h1 2 (by decide))
    have hw : w' = w.drew := by have := hB; unfold BK6 at this; rw [if_neg (by rw [h4]; decide)] at this; exact this
    subst hw
    have h3 := Lib.run_copy_row_string (P := Tryz.prog) w.drew 31 9 o.type 5 g 0 16 16 s (bts (List.replicate 16 0)).toArray 229 Tryz.underlying31 h7 h9 hs (by rw [List.size_toArray, bts_len]; simpa using hs)
    rw [show (bts (List.replicate 16 0)).toArray.toList = bts (List.replicate 16 0) from rfl, nameB_cells s] at h3
    exact op_val (v := .int .i64 (s.size : Nat)) (by
     simp only [execOp, show o.op = Op.call { callee := Callee.builtin Builtin.copy, args := #[.tmp 18, .tmp 20], argTypes := #[31, 9] } from ho, resolve, invoke, builtin, Sem.run_bind, Sem.run_pure, Result.andThen_ok, List.map_toArray, List.map_cons, List.map_nil, u0, u1, h3]
     rfl) h0 ⟨by unfold BK6; rw [if_pos upd_eq], rfl, kq⟩
   | n + 4, hn => exact absurd hn (by show ¬ n + 4 < 4; omega)
 · rintro a' w' hc h8 ⟨Dn, he, hB⟩ h2
   have e : a' = Act.putFrom a 18 [.slice (some ⟨g, 0, none⟩) 16 16, .pointer (some ⟨q, 0, none⟩), .string s, .int .i64 (s.size : Nat)] := hc.out _ rfl (by omega) (fun i hi => ?_)
   · rw [e]; exact hQ w' (by unfold BK6 at hB; rw [if_pos (he 3 (by decide))] at hB; exact hB)
   · match i, hi with
     | 0, _ => exact h2 0 (by decide)
     | 1, _ => exact h2 1 (by decide)
     | 2, _ => exact h2 2 (by decide)
     | 3, _ => exact h2 3 (by decide)
     | n + 4, hn => exact absurd hn (by simp)
end
end Go.Proofs.YtpaemkanfnddoaaGreatDoor
