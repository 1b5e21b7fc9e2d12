/-
  A new array.
-/
import Derived.Test.YtogdeaaphdlchaaGreatDoorPart06
import Derived.Test.YtogdeaaphdlchaaGreatDoorPart02
namespace Go.Proofs.YtogdeaaphdlchaaGreatDoor
open Go.RowKit Go.Deep

/-- an array that is new -/
def newArr (n nb : Nat) : Arr := ⟨n, nb, -1, fun _ => false, fun _ _ => false, fun _ _ => zb, fun _ => 0⟩
theorem newArr_fit {n nb : Nat} (h1 : n ≤ 1000) (h2 : nb ≤ 1000000) : (newArr n nb).fit := ⟨h1, h2, fun _ _ => zb_len, fun _ _ x hx => by have := List.eq_of_mem_replicate hx; show x < 256; omega⟩
/-- blocks that were made -/
def zRow (w : World) (b nb : Nat) : Prop := w.rowIs b 157 (64 * nb) (fun _ => .int .u8 0)
def zBad (w : World) (b nb : Nat) : Prop := w.rowIs b 4 nb (fun _ => .bool false)
/-- a drive's cells -/
def dCells (nb : Nat) (q : Nat × Nat) : List Value := [.bool false, .slice (some ⟨q.1, 0, none⟩) nb nb, .slice (some ⟨q.2, 0, none⟩) nb nb, .int .i64 0]
def dAll (nb : Nat) (l : List (Nat × Nat)) : List Value := l.flatMap (dCells nb)
theorem dAll_len (nb : Nat) (l : List (Nat × Nat)) : (dAll nb l).length = 4 * l.length := by
  induction l with
  | nil => rfl
  | cons q l ih => simp only [dAll, List.flatMap_cons, List.length_append, List.length_cons] at ih ⊢; rw [ih]; simp [dCells]; omega
theorem Tryz.infoDrive : (Tryz.prog.info? 50).map (fun i => (i.zero, i.size, i.bytes)) = some (some (.agg #[.bool false, .slice none 0 0, .slice none 0 0, .int .i64 0]), 4, 64) := by kernel_rfl
theorem Tryz.infoBool1 : (Tryz.prog.info? 4).map (fun i => (i.zero, i.size, i.bytes)) = some (some (.bool false), 1, 1) := by kernel_rfl
theorem made_blk (w : World) (nb : Nat) : zRow (w.alloc (.cells (madeCells (blkA zb) (nb * 64)) 157)) w.heap.size nb := by
  refine ⟨_, blk_alloc_new _ _, by rw [size_madeCells]; omega, fun i hi => ?_⟩
  have hs : (blkA zb).size = 64 := by rw [blkA_size, zb_len]
  have hm : i % 64 < 64 := Nat.mod_lt _ (by decide)
  have hg : (blkA zb)[i % 64]! = .int .u8 0 := by
    have e : blkA zb = Array.replicate 64 (.int .u8 0) := by simp only [blkA, bts, zb, List.map_replicate, List.toArray_replicate]; rfl
    rw [getElem!_pos (blkA zb) (i % 64) (by omega)]
    simp only [e, Array.getElem_replicate]
  simp [madeCells, hs, hg, show i < nb * 64 by omega]

noncomputable def RNa : Array Oper := ((Tryz.f4.body.bind (rgf · 4))).getD #[]
def shNa : List (Op × Option Nat × List Nat) := [(Op.move (Operand.tmp 5), some 11, []),
    (Op.move (Operand.tmp 5), some 12, []),
    (Op.nilCheck (Operand.tmp 12), some 13, [1]),
    (Op.fieldAddr 46 (Operand.tmp 13) 0, some 14, [2]),
    (Op.load 44 (Operand.tmp 14), some 15, [3]),
    (Op.move (Operand.tmp 1), some 16, []),
    (Op.call { callee := Callee.builtin Builtin.max, args := #[Operand.tmp 16, Operand.const (Value.int IntKind.i64 0)], argTypes := #[3, 3] }, some 17, [5]),
    (Op.makeSlice 47 (Operand.tmp 17) (Operand.tmp 17), some 18, [6, 6]),
    (Op.move (Operand.tmp 1), some 19, []),
    (Op.call { callee := Callee.builtin Builtin.max, args := #[Operand.tmp 19, Operand.const (Value.int IntKind.i64 0)], argTypes := #[3, 3] }, some 20, [8]),
    (Op.makeSlice 48 (Operand.tmp 20) (Operand.tmp 20), some 21, [9, 9]),
    (Op.build 50 #[(1, Operand.tmp 18), (2, Operand.tmp 21)], some 22, [7, 10]),
    (Op.buildSlice 44 1 #[(0, Operand.tmp 22)], some 23, [11]),
    (Op.call { callee := Callee.builtin Builtin.append, args := #[Operand.tmp 15, Operand.tmp 23], argTypes := #[44, 44] }, some 24, [4, 12]),
    (Op.nilCheck (Operand.tmp 11), some 25, [0, 0, 1, 2, 3, 4, 5, 6, 7, 8, 9, 10, 11, 12, 13]),
    (Op.fieldAddr 46 (Operand.tmp 25) 0, some 26, [14, 0, 1, 2, 3, 4, 5, 6, 7, 8, 9, 10, 11, 12, 13]),
    (Op.store 44 (Operand.tmp 26) (Operand.tmp 24), none, [15, 13, 13, 0, 1, 2, 3, 4, 5, 6, 7, 8, 9, 10, 11, 12, 13])]
theorem RNa_shape : RegShape RNa 11 27 shNa := regShape (by kernel_rfl) (by kernel_rfl)
/-- what each of them leaves -/
def VNa (w0 : World) (p nb : Nat) (v0 : Value) (xs : List Value) (k : Nat) (i : Nat) (u : Value) (w : World) : Prop := match i with
  | 0 | 1 | 2 | 3 | 14 | 15 => u = .pointer (some ⟨p, 0, none⟩)
  | 4 => u = v0
  | 5 | 6 | 8 | 9 => u = .int .i64 nb
  | 7 => ∃ b, w0.heap.size ≤ b ∧ u = .slice (some ⟨b, 0, none⟩) nb nb ∧ zRow w b nb
  | 10 => ∃ b, w0.heap.size ≤ b ∧ u = .slice (some ⟨b, 0, none⟩) nb nb ∧ zBad w b nb
  | 11 => ∃ q : Nat × Nat, w0.heap.size ≤ q.1 ∧ w0.heap.size ≤ q.2 ∧ u = .agg (dCells nb q).toArray ∧ zRow w q.1 nb ∧ zBad w q.2 nb
  | 12 => ∃ (c : Nat) (q : Nat × Nat), w0.heap.size ≤ c ∧ w0.heap.size ≤ q.1 ∧ w0.heap.size ≤ q.2 ∧ u = .slice (some ⟨c, 0, none⟩) 1 1 ∧ w.heap[c]? = some (.cells (dCells nb q).toArray 50 (0, 0)) ∧ zRow w q.1 nb ∧ zBad w q.2 nb
  | 13 => ∃ q : Nat × Nat, w0.heap.size ≤ q.1 ∧ w0.heap.size ≤ q.2 ∧ w.ownsRow (p + 1) 50 4 u (k + 1) (xs ++ dCells nb q) ∧ zRow w q.1 nb ∧ zBad w q.2 nb
  | 16 => ∃ (v' : Value) (q : Nat × Nat), w.heap[p]? = some (.cells #[v', .int .i64 (-1)] 46 (0, 0)) ∧ w0.heap.size ≤ q.1 ∧ w0.heap.size ≤ q.2 ∧ w.ownsRow (p + 1) 50 4 v' (k + 1) (xs ++ dCells nb q) ∧ zRow w q.1 nb ∧ zBad w q.2 nb
  | _ => True
/-- the blocks that the region made stay -/
theorem VNa_keep {w0 : World} {p nb : Nat} {v0 : Value} {xs : List Value} {k : Nat} {w w' : World} (hk : ∀ b, w0.heap.size ≤ b → b < w.heap.size → w'.heap[b]? = w.heap[b]?) (i : Nat) (u : Value) (hi : i ≠ 13 ∧ i ≠ 16) (h : VNa w0 p nb v0 xs k i u w) : VNa w0 p nb v0 xs k i u w' := by
  have hz : ∀ b, w0.heap.size ≤ b → zRow w b nb → zRow w' b nb := fun b hb q => World.rowIs.of_block q (hk b hb q.lt)
  have hb : ∀ b, w0.heap.size ≤ b → zBad w b nb → zBad w' b nb := fun b hb q => World.rowIs.of_block q (hk b hb q.lt)
  match i with
  | 0 | 1 | 2 | 3 | 14 | 15 | 4 | 5 | 6 | 8 | 9 => exact h
  | 7 => obtain ⟨b, q1, q2, q3⟩ := h; exact ⟨b, q1, q2, hz b q1 q3⟩
  | 10 => obtain ⟨b, q1, q2, q3⟩ := h; exact ⟨b, q1, q2, hb b q1 q3⟩
  | 11 => obtain ⟨q, q1, q2, q3, q4, q5⟩ := h; exact ⟨q, q1, q2, q3, hz _ q1 q4, hb _ q2 q5⟩
  | 12 => obtain ⟨c, q, q0, q1, q2, q3, q4, q5, q6⟩ := h; exact ⟨c, q, q0, q1, q2, q3, (hk c q0 (Array.getElem?_eq_some_iff.1 q4).1).trans q4, hz _ q1 q5, hb _ q2 q6⟩
  | 13 => exact absurd rfl hi.1
  | 16 => exact absurd rfl hi.2
  | n + 17 => trivial
/-- between two of them -/
def BNa (w0 : World) (p : Nat) (v0 : Value) (D : Nat → Bool) (w : World) : Prop := (∀ k, k < w0.heap.size → (D 13 = true → v0.ownBlock ≠ some k) → (D 16 = true → k ≠ p) → w.heap[k]? = w0.heap[k]?) ∧ w0.heap.size ≤ w.heap.size ∧ w.os = w0.os ∧ w.tape = w0.tape ∧ w.output = w0.output
theorem BNa_upd {w0 : World} {p : Nat} {v0 : Value} {D : Nat → Bool} {w w' : World} (h : BNa w0 p v0 D w) (i : Nat) (h1 : w.heap.size ≤ w'.heap.size ∧ w'.os = w.os ∧ w'.tape = w.tape ∧ w'.output = w.output) (hk : ∀ k, k < w0.heap.size → (i = 13 → v0.ownBlock ≠ some k) → (i = 16 → k ≠ p) → w'.heap[k]? = w.heap[k]?) : BNa w0 p v0 (upd D i) w' := by
  obtain ⟨q1, q2, q3, q4, q5⟩ := h
  refine ⟨fun k hk' h13 h16 => ?_, Nat.le_trans q2 h1.1, h1.2.1.trans q3, h1.2.2.1.trans q4, h1.2.2.2.trans q5⟩
  unfold upd at h13 h16
  refine (hk k hk' (fun e => h13 (by rw [if_pos e.symm])) (fun e => h16 (by rw [if_pos e.symm]))).trans (q1 k hk' (fun e => h13 ?_) (fun e => h16 ?_))
  · split
    · rfl
    · exact e
  · split
    · rfl
    · exact e
theorem BNa_pure {w0 : World} {p : Nat} {v0 : Value} {D : Nat → Bool} {w : World} (h : BNa w0 p v0 D w) (i : Nat) : BNa w0 p v0 (upd D i) w := BNa_upd h i ⟨Nat.le_refl _, rfl, rfl, rfl⟩ (fun _ _ _ _ => rfl)
theorem BNa_alloc {w0 : World} {p : Nat} {v0 : Value} {D : Nat → Bool} {w : World} (h : BNa w0 p v0 D w) (i : Nat) (o : Obj) : BNa w0 p v0 (upd D i) (w.alloc o) :=
  BNa_upd h i ⟨by simp, rfl, rfl, rfl⟩ (fun k hk _ _ => blk_alloc_lt _ _ _ (Nat.lt_of_lt_of_le hk h.2.1))
set_option maxRecDepth 100000 in
set_option maxHeartbeats 1000000 in
theorem new_region {ops : Array Oper} {Q : Exit → Act → World → Prop} {a : Act} {w : World} {p nb k : Nat} {v0 : Value} {xs : List Value} (hops : RNa = ops) (hnb : nb ≤ 1000000) (hk : k ≤ 1000) (hown : w.ownsRow (p + 1) 50 4 v0 k xs)
    (htop : w.heap[p]? = some (.cells #[v0, .int .i64 (-1)] 46 (0, 0))) (hsz : a.tmps.size = 29) (e5 : a.eval (.tmp 5) = .pointer (some ⟨p, 0, none⟩)) (e1 : a.eval (.tmp 1) = .int .i64 nb)
    (hQ : ∀ (w' : World) (vs : List Value) (v' : Value) (q : Nat × Nat), vs.length = 16 → w.heap.size ≤ q.1 → w.heap.size ≤ q.2 → w'.ownsRow (p + 1) 50 4 v' (k + 1) (xs ++ dCells nb q) → zRow w' q.1 nb → zBad w' q.2 nb → w'.heap[p]? = some (.cells #[v', .int .i64 (-1)] 46 (0, 0)) →
      Outside (fun j => j = p ∨ v0.ownBlock = some j) w w' → Q .normal (Act.putFrom a 11 vs) w') : (Code.region 4 ops true).wp Tryz.prog Q a w := by
  subst hops
  have hpl : p < w.heap.size := (Array.getElem?_eq_some_iff.1 htop).1
  have n1 : ¬ (nb : Int) < 0 := by omega
  have hfin : ∀ (i : Nat), shNa.length = 17 := fun _ => rfl
  obtain ⟨ib, hib, hbz, hbs, hbb⟩ := info_parts Tryz.zeroBlk
  obtain ⟨ic, hic, hcz, hcs, hcb⟩ := info_parts Tryz.infoBool1
  obtain ⟨id, hid, hdz, hds, hdb⟩ := info_parts Tryz.infoDrive
  refine region_facts (by kernel_rfl) RNa_shape a w (by omega) (VNa w p nb v0 xs k) (BNa w p v0) ⟨fun _ _ _ _ => rfl, Nat.le_refl _, rfl, rfl, rfl⟩ ?_ ?_
  · intro i hi
    match i, hi with
    | 0, _ => exact fun o a' w' D hg ho hdst hk hDi hcl hdep hB hV => op_val (run_op_move ho ((hk.slot 5 (by omega)).trans e5) w') hdst ⟨BNa_pure hB _, rfl, fun _ _ _ q => q⟩
    | 1, _ => exact fun o a' w' D hg ho hdst hk hDi hcl hdep hB hV => op_val (run_op_move ho ((hk.slot 5 (by omega)).trans e5) w') hdst ⟨BNa_pure hB _, rfl, fun _ _ _ q => q⟩
    | 2, _ =>
      intro o a' w' D hg ho hdst hk hDi hcl hdep hB hV
      have u0 : a'.eval (.tmp 12) = .pointer (some ⟨p, 0, none⟩) := hV 1 (hdep 1 (by decide))
      exact op_val (v := .pointer (some ⟨p, 0, none⟩)) (by simp only [execOp, show o.op = Op.nilCheck (.tmp 12) from ho, u0]; go_simp) hdst ⟨BNa_pure hB _, rfl, fun _ _ _ q => q⟩
    | 3, _ =>
      intro o a' w' D hg ho hdst hk hDi hcl hdep hB hV
      have u0 : a'.eval (.tmp 13) = .pointer (some ⟨p, 0, none⟩) := hV 2 (hdep 2 (by decide))
      exact op_val (v := .pointer (some ⟨p, 0, none⟩)) (by simp only [execOp, show o.op = Op.fieldAddr 46 (.tmp 13) 0 from ho, u0]; go_simp) hdst ⟨BNa_pure hB _, rfl, fun _ _ _ q => q⟩
    | 4, _ =>
      intro o a' w' D hg ho hdst hk hDi hcl hdep hB hV
      have u0 : a'.eval (.tmp 14) = .pointer (some ⟨p, 0, none⟩) := hV 3 (hdep 3 (by decide))
      have hD13 : D 13 = false := by
        cases q : D 13 with
        | false => rfl
        | true => have := (hcl 13 q).2 4 (by decide); rw [hDi] at this; cases this
      have hD16 : D 16 = false := by
        cases q : D 16 with
        | false => rfl
        | true => have := (hcl 16 q).2 4 (by decide); rw [hDi] at this; cases this
      have c : w'.cell? ⟨p, 0, none⟩ = some v0 := by
        have := (hB.1 p hpl (fun q => by rw [hD13] at q; cases q) (fun q => by rw [hD16] at q; cases q)).trans htop
        simp [World.cell?, this]
      exact op_val (v := v0) (by simp only [execOp, show o.op = Op.load 44 (.tmp 14) from ho, u0]; go_simp) hdst ⟨BNa_pure hB _, rfl, fun _ _ _ q => q⟩
    | 5, _ => exact fun o a' w' D hg ho hdst hk hDi hcl hdep hB hV => op_val (run_op_move ho ((hk.slot 1 (by omega)).trans e1) w') hdst ⟨BNa_pure hB _, rfl, fun _ _ _ q => q⟩
    | 6, _ =>
      intro o a' w' D hg ho hdst hk hDi hcl hdep hB hV
      have u0 : a'.eval (.tmp 16) = .int .i64 nb := hV 5 (hdep 5 (by decide))
      exact op_val (v := .int .i64 nb) (by have := run_op_max (P := Tryz.prog) (s := .tmp 16) (t := .const (.int .i64 0)) ho u0 rfl w'; rwa [if_neg (show ¬ (0 : Int) > (nb : Int) by omega)] at this) hdst ⟨BNa_pure hB _, rfl, fun _ _ _ q => q⟩
    | 7, _ =>
      intro o a' w' D hg ho hdst hk hDi hcl hdep hB hV
      have u0 : a'.eval (.tmp 17) = .int .i64 nb := hV 6 (hdep 6 (by decide))
      have hr := run_make (P := Tryz.prog) w' 47 157 ib (.agg (blkA zb)) Tryz.underlying47 hib hbz .i64 .i64 nb nb (by omega) (Int.le_refl _) (by rw [hbb]; omega) (by omega)
      rw [hbs, Int.toNat_natCast] at hr
      refine op_val (v := .slice (some ⟨w'.heap.size, 0, none⟩) nb nb) (w' := w'.alloc (.cells (madeCells (blkA zb) (nb * 64)) 157)) (by simp [execOp, show o.op = Op.makeSlice 47 (.tmp 17) (.tmp 17) from ho, u0, hr, Value.cells]) hdst ⟨BNa_alloc hB _ _, ⟨_, hB.2.1, rfl, made_blk w' nb⟩, fun j u hj q => ?_⟩
      refine VNa_keep (fun b _ hb => blk_alloc_lt _ _ _ hb) j u ⟨fun e => ?_, fun e => ?_⟩ q
      · subst e; have := (hcl 13 hj).2 12 (by decide); have := (hcl 12 this).2 11 (by decide); have := (hcl 11 this).2 7 (by decide); rw [hDi] at this; cases this
      · subst e; have := (hcl 16 hj).2 7 (by decide); rw [hDi] at this; cases this
    | 8, _ => exact fun o a' w' D hg ho hdst hk hDi hcl hdep hB hV => op_val (run_op_move ho ((hk.slot 1 (by omega)).trans e1) w') hdst ⟨BNa_pure hB _, rfl, fun _ _ _ q => q⟩
    | 9, _ =>
      intro o a' w' D hg ho hdst hk hDi hcl hdep hB hV
      have u0 : a'.eval (.tmp 19) = .int .i64 nb := hV 8 (hdep 8 (by decide))
      exact op_val (v := .int .i64 nb) (by have := run_op_max (P := Tryz.prog) (s := .tmp 19) (t := .const (.int .i64 0)) ho u0 rfl w'; rwa [if_neg (show ¬ (0 : Int) > (nb : Int) by omega)] at this) hdst ⟨BNa_pure hB _, rfl, fun _ _ _ q => q⟩
    | 10, _ =>
      intro o a' w' D hg ho hdst hk hDi hcl hdep hB hV
      have u0 : a'.eval (.tmp 20) = .int .i64 nb := hV 9 (hdep 9 (by decide))
      have hr := run_make (P := Tryz.prog) w' 48 4 ic (.bool false) Tryz.underlying48 hic hcz .i64 .i64 nb nb (by omega) (Int.le_refl _) (by rw [hcb]; omega) (by omega)
      rw [hcs, Int.toNat_natCast, Nat.mul_one] at hr
      refine op_val (v := .slice (some ⟨w'.heap.size, 0, none⟩) nb nb) (w' := w'.alloc (.cells (madeCells #[.bool false] nb) 4)) (by simp [execOp, show o.op = Op.makeSlice 48 (.tmp 20) (.tmp 20) from ho, u0, hr, Value.cells]) hdst ⟨BNa_alloc hB _ _, ⟨_, hB.2.1, rfl, World.rowIs_made w' (.bool false) nb _⟩, fun j u hj q => ?_⟩
      refine VNa_keep (fun b _ hb => blk_alloc_lt _ _ _ hb) j u ⟨fun e => ?_, fun e => ?_⟩ q
      · subst e; have := (hcl 13 hj).2 12 (by decide); have := (hcl 12 this).2 11 (by decide); have := (hcl 11 this).2 10 (by decide); rw [hDi] at this; cases this
      · subst e; have := (hcl 16 hj).2 10 (by decide); rw [hDi] at this; cases this
    | 11, _ =>
      intro o a' w' D hg ho hdst hk hDi hcl hdep hB hV
      obtain ⟨b1, q1, u0, z1⟩ : VNa w p nb v0 xs k 7 (a'.eval (.tmp 18)) w' := hV 7 (hdep 7 (by decide))
      obtain ⟨b2, q2, u1, z2⟩ : VNa w p nb v0 xs k 10 (a'.eval (.tmp 21)) w' := hV 10 (hdep 10 (by decide))
      exact op_val (v := .agg (dCells nb (b1, b2)).toArray) (by simp only [execOp, show o.op = Op.build 50 #[(1, Operand.tmp 18), (2, Operand.tmp 21)] from ho, List.map_toArray, List.map_cons, List.map_nil, u0, u1, dCells]; go_simp) hdst ⟨BNa_pure hB _, ⟨(b1, b2), q1, q2, rfl, z1, z2⟩, fun _ _ _ q => q⟩
    | 12, _ =>
      intro o a' w' D hg ho hdst hk hDi hcl hdep hB hV
      obtain ⟨q, q1, q2, u0, z1, z2⟩ : VNa w p nb v0 xs k 11 (a'.eval (.tmp 22)) w' := hV 11 (hdep 11 (by decide))
      refine op_val (v := .slice (some ⟨w'.heap.size, 0, none⟩) 1 1) (w' := w'.alloc (.cells (dCells nb q).toArray 50)) (by simp only [execOp, show o.op = Op.buildSlice 44 1 #[(0, Operand.tmp 22)] from ho, List.map_toArray, List.map_cons, List.map_nil, u0, dCells]; go_simp) hdst ⟨BNa_alloc hB _ _, ⟨_, q, hB.2.1, q1, q2, rfl, blk_alloc_new _ _, z1.alloc _, z2.alloc _⟩, fun j u hj r => ?_⟩
      refine VNa_keep (fun b _ hb => blk_alloc_lt _ _ _ hb) j u ⟨fun e => ?_, fun e => ?_⟩ r
      · subst e; have := (hcl 13 hj).2 12 (by decide); rw [hDi] at this; cases this
      · subst e; have := (hcl 16 hj).2 12 (by decide); rw [hDi] at this; cases this
    | 13, _ =>
      intro o a' w' D hg ho hdst hk' hDi hcl hdep hB hV
      have u0 : a'.eval (.tmp 15) = v0 := hV 4 (hdep 4 (by decide))
      obtain ⟨c, q, q0, q1, q2, u1, hc, z1, z2⟩ : VNa w p nb v0 xs k 12 (a'.eval (.tmp 23)) w' := hV 12 (hdep 12 (by decide))
      have hD16 : D 16 = false := by
        cases q : D 16 with
        | false => rfl
        | true => have := (hcl 16 q).2 13 (by decide); rw [hDi] at this; cases this
      have hown' : w'.ownsRow (p + 1) 50 4 v0 k xs := hown.kept (row := none) ⟨hB.2.2.1, hB.2.2.2.1, hB.2.2.2.2, hB.2.1, fun j hj _ => hB.1 j hj (fun q => by rw [hDi] at q; cases q) (fun q => by rw [hD16] at q; cases q)⟩ (by cases v0.ownBlock <;> simp)
      refine wp_append_own w' (.tmp 15) (.tmp 23) 44 ho (p + 1) 50 id _ 4 64 Tryz.underlying44 hid hdz hds hdb rfl (by decide) v0 k xs u0 hown' ⟨c, 0, none⟩ 1 1 (dCells nb q) u1 rfl (fun j u hj => ?_) (fun u hu => ?_) (by simp [maxLen]; omega) (by omega) (Nat.le_trans hpl hB.2.1) ?_
      · rw [add0]; simp only [World.cell?, hc]; simpa using hj
      · simp [dCells] at hu; rcases hu with rfl | rfl | rfl | rfl <;> rfl
      · intro v' w'' ho' hg' _
        have hkk : ∀ b, w.heap.size ≤ b → b < w'.heap.size → w''.heap[b]? = w'.heap[b]? := fun b hb hb' => hg'.block b hb' (fun e => by have := (hown.lt b e.symm).2; omega)
        refine ⟨v', rfl, fun e => (by rw [hdst] at e; cases e), BNa_upd hB 13 ⟨hg'.size, hg'.os, hg'.tape, hg'.output⟩ (fun j hj h13 _ => hg'.block j (Nat.lt_of_lt_of_le hj hB.2.1) (fun e => h13 rfl e.symm)), ⟨q, q1, q2, ho', World.rowIs.of_block z1 (hkk _ q1 z1.lt), World.rowIs.of_block z2 (hkk _ q2 z2.lt)⟩, fun j u hj r => VNa_keep hkk j u ⟨fun e => (by subst e; rw [hDi] at hj; cases hj), fun e => (by subst e; rw [hD16] at hj; cases hj)⟩ r⟩
    | 14, _ =>
      intro o a' w' D hg ho hdst hk hDi hcl hdep hB hV
      have u0 : a'.eval (.tmp 11) = .pointer (some ⟨p, 0, none⟩) := hV 0 (hdep 0 (by decide))
      exact op_val (v := .pointer (some ⟨p, 0, none⟩)) (by simp only [execOp, show o.op = Op.nilCheck (.tmp 11) from ho, u0]; go_simp) hdst ⟨BNa_pure hB _, rfl, fun _ _ _ q => q⟩
    | 15, _ =>
      intro o a' w' D hg ho hdst hk hDi hcl hdep hB hV
      have u0 : a'.eval (.tmp 25) = .pointer (some ⟨p, 0, none⟩) := hV 14 (hdep 14 (by decide))
      exact op_val (v := .pointer (some ⟨p, 0, none⟩)) (by simp only [execOp, show o.op = Op.fieldAddr 46 (.tmp 25) 0 from ho, u0]; go_simp) hdst ⟨BNa_pure hB _, rfl, fun _ _ _ q => q⟩
    | 16, _ =>
      intro o a' w' D hg ho hdst hk hDi hcl hdep hB hV
      have u0 : a'.eval (.tmp 26) = .pointer (some ⟨p, 0, none⟩) := hV 15 (hdep 15 (by decide))
      obtain ⟨q, q1, q2, hown', z1, z2⟩ : VNa w p nb v0 xs k 13 (a'.eval (.tmp 24)) w' := hV 13 (hdep 13 (by decide))
      have htop' : w'.heap[p]? = some (.cells #[v0, .int .i64 (-1)] 46 (0, 0)) := (hB.1 p hpl (fun _ e => by have := (hown.lt p e).1; omega) (fun q => by rw [hDi] at q; cases q)).trans htop
      obtain ⟨u, hu⟩ : ∃ u, a'.eval (.tmp 24) = u := ⟨_, rfl⟩
      have c : w'.cell? ⟨p, 0, none⟩ = some v0 := by simp [World.cell?, htop']
      have fz : w'.frozen? ⟨p, 0, none⟩ = false := by simp [World.frozen?, htop']
      rw [hu] at hown'
      obtain ⟨so, sl, sc, hsl⟩ : ∃ so sl sc, u = .slice so sl sc := by
        rcases hown'.2 with ⟨e, _⟩ | ⟨g, cap, cur, e, _⟩
        · exact ⟨_, _, _, e⟩
        · exact ⟨_, _, _, e⟩
      refine op_skip (w' := w'.setCell ⟨p, 0, none⟩ u) (by rw [hsl] at hu ⊢; simp only [execOp, show o.op = Op.store 44 (.tmp 26) (.tmp 24) from ho, u0, hu]; go_simp) ⟨BNa_upd hB 16 ⟨by simp [World.setCell], rfl, rfl, rfl⟩ (fun j _ _ h16 => blk_setCell_other _ _ _ _ (h16 rfl)), ?_, fun j x hj r => ?_⟩
      · refine ⟨u, q, by simp [World.setCell, Array.getElem?_modify, htop'], q1, q2, hown'.kept (row := some p) ⟨rfl, rfl, rfl, by simp [World.setCell], fun i _ hi => blk_setCell_other _ _ _ _ (fun e => hi (by rw [e]))⟩ (.inr fun e => by have := (hown'.lt p e).1; omega), World.rowIs.of_block z1 (blk_setCell_other _ _ _ _ (by show q.1 ≠ p; omega)), World.rowIs.of_block z2 (blk_setCell_other _ _ _ _ (by show q.2 ≠ p; omega))⟩
      have hkk : ∀ b, w.heap.size ≤ b → b < w'.heap.size → (w'.setCell ⟨p, 0, none⟩ u).heap[b]? = w'.heap[b]? := fun b hb _ => blk_setCell_other _ _ _ _ (by show b ≠ p; omega)
      by_cases e : j = 13
      · subst e
        obtain ⟨q, q1, q2, r1, r2, r3⟩ := r
        refine ⟨q, q1, q2, r1.kept (row := some p) ⟨rfl, rfl, rfl, by simp [World.setCell], fun i _ hi => blk_setCell_other _ _ _ _ (fun e => hi (by rw [e]))⟩ (.inr fun e => by have := (r1.lt p e).1; omega), World.rowIs.of_block r2 (hkk _ q1 r2.lt), World.rowIs.of_block r3 (hkk _ q2 r3.lt)⟩
      · exact VNa_keep hkk j x ⟨e, fun e => (by subst e; rw [hDi] at hj; cases hj)⟩ r
    | n + 17, hn => exact absurd hn (by show ¬ n + 17 < 17; omega)
  · rintro a' w' hk' ⟨D, hD, hB⟩ hV
    obtain ⟨v', q, h1, h2, h3, h4, h5, h6⟩ : VNa w p nb v0 xs k 16 undef w' := hV 16 (by decide)
    have e : a' = Act.putFrom a 11 ((List.range 16).map fun i => a'.eval (.tmp (11 + i))) := hk'.out _ (by rw [List.length_map, List.length_range]) (by omega) (fun i hi => by
      rw [List.length_map, List.length_range] at hi
      rw [List.getD_eq_getElem?_getD, List.getElem?_map, List.getElem?_range hi]; rfl)
    rw [e]
    refine hQ w' _ v' q (by rw [List.length_map, List.length_range]) h2 h3 h4 h5 h6 h1 ⟨hB.2.2.1, hB.2.2.2.1, hB.2.2.2.2, hB.2.1, fun j hj hs => hB.1 j hj (fun _ e => hs (.inr e)) (fun _ e => hs (.inl e))⟩
/-- so many drives have been made -/
def NaS (w : World) (p nb k : Nat) (L : List (Nat × Nat)) (v : Value) (wr : World) : Prop :=
  L.length = k ∧ wr.heap[p]? = some (.cells #[v, .int .i64 (-1)] 46 (0, 0)) ∧ wr.ownsRow (p + 1) 50 4 v k (dAll nb L) ∧ (∀ q ∈ L, (p < q.1 ∧ p < q.2) ∧ zRow wr q.1 nb ∧ zBad wr q.2 nb) ∧ (L.map (fun q => q.1)).Nodup ∧ (L.map (fun q => q.2)).Nodup ∧ Below p w wr
def NaR (w : World) (p nb n : Nat) (i : Value) (wr : World) : Prop := ∃ k L v, k ≤ n ∧ i = .int .i64 (k : Nat) ∧ NaS w p nb k L v wr
theorem own_not {w : World} {base : Nat} {v : Value} {n : Nat} {xs : List Value} {t b m : Nat} {f : Nat → Value} (h : w.ownsRow base 50 4 v n xs) (hb : w.rowIs b t m f) (ht : t ≠ 50) : v.ownBlock ≠ some b := by
  intro e
  rcases h.2 with ⟨h0, _⟩ | ⟨g, cap, cur, e1, e2, e3, e4⟩
  · rw [h0] at e; simp [Value.ownBlock] at e
  · rw [e1] at e
    simp [Value.ownBlock] at e
    subst e
    obtain ⟨c, hc, _⟩ := hb
    rw [hc] at e3
    simp at e3
    exact ht e3.2
theorem nodup_snoc {l : List Nat} {b : Nat} (h : l.Nodup) (hb : ∀ x ∈ l, x < b) (c : Nat) (hc : b ≤ c) : (l ++ [c]).Nodup := by
  rw [List.nodup_append]
  refine ⟨h, by simp, fun x hx y hy e => ?_⟩
  simp at hy
  have := hb x hx
  omega
theorem NaS.next {w wr w' : World} {p nb k : Nat} {L : List (Nat × Nat)} {v v' : Value} {q : Nat × Nat} (h : NaS w p nb k L v wr) (q1 : wr.heap.size ≤ q.1) (q2 : wr.heap.size ≤ q.2) (ho : w'.ownsRow (p + 1) 50 4 v' (k + 1) (dAll nb L ++ dCells nb q))
    (z1 : zRow w' q.1 nb) (z2 : zBad w' q.2 nb) (ht : w'.heap[p]? = some (.cells #[v', .int .i64 (-1)] 46 (0, 0))) (hO : Outside (fun j => j = p ∨ v.ownBlock = some j) wr w') : NaS w p nb (k + 1) (L ++ [q]) v' w' := by
  obtain ⟨h1, h2, h3, h4, h5, h6, h7⟩ := h
  have hpl : p < wr.heap.size := (Array.getElem?_eq_some_iff.1 h2).1
  have hkeep : ∀ x ∈ L, zRow w' x.1 nb ∧ zBad w' x.2 nb := fun x hx => by
    obtain ⟨⟨a1, a2⟩, a3, a4⟩ := h4 x hx
    refine ⟨World.rowIs.of_block a3 (hO.block _ a3.lt ?_), World.rowIs.of_block a4 (hO.block _ a4.lt ?_)⟩
    · rintro (e | e)
      · omega
      · exact own_not h3 a3 (by decide) e
    · rintro (e | e)
      · omega
      · exact own_not h3 a4 (by decide) e
  refine ⟨by simp [h1], ht, ?_, fun x hx => ?_, ?_, ?_, ⟨hO.os.trans h7.os, hO.tape.trans h7.tape, hO.output.trans h7.output, Nat.le_trans h7.size hO.size, fun j hj => (hO.block j (by omega) (fun e => ?_)).trans (h7.block j hj)⟩⟩
  · have e : dAll nb (L ++ [q]) = dAll nb L ++ dCells nb q := by simp [dAll]
    rw [e]; exact ho
  · rcases List.mem_append.1 hx with hx | hx
    · exact ⟨(h4 x hx).1, hkeep x hx⟩
    · simp at hx
      subst hx
      exact ⟨⟨by omega, by omega⟩, z1, z2⟩
  · rw [List.map_append]
    exact nodup_snoc h5 (fun x hx => by obtain ⟨y, hy, rfl⟩ := List.mem_map.1 hx; exact (h4 y hy).2.1.lt) _ q1
  · rw [List.map_append]
    exact nodup_snoc h6 (fun x hx => by obtain ⟨y, hy, rfl⟩ := List.mem_map.1 hx; exact (h4 y hy).2.2.lt) _ q2
  · rcases e with e | e
    · omega
    · have := (h3.lt j e).1; omega
/-- what NewArray answers -/
def NaPost (n nb : Nat) (w : World) (e : Ending) (w' : World) : Prop := e = .returned (.pointer (some ⟨w.heap.size, 0, none⟩)) ∧ Below w.heap.size w w' ∧
  ((n = 0 ∧ ∃ ao cap, w'.heap[w.heap.size]? = some (.cells #[.slice ao 0 cap, .int .i64 (-1)] 46 (0, 0))) ∨ (0 < n ∧ ∃ F : Foot, ArrAt w' w.heap.size (newArr n nb) F ∧ ∀ k, F.has w.heap.size n k → w.heap.size ≤ k))
theorem dAll_get (nb : Nat) : ∀ (L : List (Nat × Nat)) (k : Nat), k < 4 * L.length → (dAll nb L)[k]? = some (drvV (newArr L.length nb) ⟨0, 0, fun i => (L.getD i (0, 0)).1, fun i => (L.getD i (0, 0)).2⟩ k)
  | [], k, h => absurd h (by simp)
  | q :: L, k, h => by
    simp only [List.length_cons] at h
    have e : dAll nb (q :: L) = dCells nb q ++ dAll nb L := by simp [dAll]
    rw [e]
    by_cases hk : k < 4
    · rw [List.getElem?_append_left (by simpa [dCells] using hk)]
      match k, hk with
      | 0, _ => rfl
      | 1, _ => rfl
      | 2, _ => rfl
      | 3, _ => rfl
    · rw [List.getElem?_append_right (by simp [dCells]; omega)]
      have ih := dAll_get nb L (k - 4) (by omega)
      rw [show (dCells nb q).length = 4 from rfl, ih]
      obtain ⟨j, rfl⟩ : ∃ j, k = j + 4 := ⟨k - 4, by omega⟩
      rw [Nat.add_sub_cancel]
      unfold drvV
      rw [show (j + 4) % 4 = j % 4 by omega, show (j + 4) / 4 = j / 4 + 1 by omega]
      rfl
theorem nodup_at {l : List Nat} (h : l.Nodup) {i j : Nat} (hi : i < l.length) (hj : j < l.length) (e : l[i] = l[j]) : i = j := (List.getElem_inj h).1 e
theorem NaS.post {w wr : World} {nb n : Nat} {L : List (Nat × Nat)} {v : Value} (h : NaS w w.heap.size nb n L v wr) : NaPost n nb w (.returned (.pointer (some ⟨w.heap.size, 0, none⟩))) wr := by
  obtain ⟨h1, h2, h3, h4, h5, h6, h7⟩ := h
  refine ⟨rfl, h7, ?_⟩
  rcases h3.2 with ⟨rfl, h0⟩ | ⟨g, cap, cur, rfl, e2, e3, e4, e5, e6, e7⟩
  · exact .inl ⟨h0, _, _, h2⟩
  · by_cases hn : n = 0
    · subst hn
      exact .inl ⟨rfl, _, _, h2⟩
    · have hget : ∀ i, i < n → (L.getD i (0, 0)) ∈ L := fun i hi => by
        rw [List.getD_eq_getElem?_getD, List.getElem?_eq_getElem (show i < L.length by omega)]
        exact List.getElem_mem _
      refine .inr ⟨by omega, ⟨g, cap, fun i => (L.getD i (0, 0)).1, fun i => (L.getD i (0, 0)).2⟩, ⟨h2, ⟨cur, e3, fun k hk => ?_⟩, fun i hi => ?_, fun i hi => ?_, fun i j hi hj => ⟨fun e => ?_, fun e => ?_⟩⟩, ?_⟩
      · have hk' : k < 4 * L.length := by rw [h1]; exact hk
        have q := dAll_get nb L k hk'
        rw [← e7, List.getElem?_take_of_lt (by rw [h1] at hk'; omega)] at q
        rw [← Array.getElem?_toList, q]
        unfold drvV
        rfl
      · refine World.rowIs.congr (h4 _ (hget i hi)).2.1 fun j hj => ?_
        show Value.int .u8 0 = Value.int .u8 ((zb.getD (j % 64) 0 : Nat) : Int)
        have hz : zb.getD (j % 64) 0 = 0 := by
          unfold zb
          rw [List.getD_eq_getElem?_getD, List.getElem?_replicate]
          split <;> rfl
        rw [hz]; rfl
      · exact (h4 _ (hget i hi)).2.2
      · have e1 : i < (L.map (fun q => q.1)).length := by rw [List.length_map, h1]; exact hi
        have e2 : j < (L.map (fun q => q.1)).length := by rw [List.length_map, h1]; exact hj
        refine nodup_at h5 e1 e2 ?_
        have a1 : i < L.length := by rw [h1]; exact hi
        have a2 : j < L.length := by rw [h1]; exact hj
        simpa [a1, a2] using e
      · have e1 : i < (L.map (fun q => q.2)).length := by rw [List.length_map, h1]; exact hi
        have e2 : j < (L.map (fun q => q.2)).length := by rw [List.length_map, h1]; exact hj
        refine nodup_at h6 e1 e2 ?_
        have a1 : i < L.length := by rw [h1]; exact hi
        have a2 : j < L.length := by rw [h1]; exact hj
        simpa [a1, a2] using e
      · rintro k (rfl | rfl | ⟨i, hi, rfl | rfl⟩)
        · exact Nat.le_refl _
        · exact Nat.le_of_succ_le e2
        · exact Nat.le_of_lt (h4 _ (hget i hi)).1.1
        · exact Nat.le_of_lt (h4 _ (hget i hi)).1.2
theorem list16 {vs : List Value} (h : vs.length = 16) : ∃ x0 x1 x2 x3 x4 x5 x6 x7 x8 x9 xa xb xc xd xe xf, vs = [x0, x1, x2, x3, x4, x5, x6, x7, x8, x9, xa, xb, xc, xd, xe, xf] := by
  match vs, h with
  | [x0, x1, x2, x3, x4, x5, x6, x7, x8, x9, xa, xb, xc, xd, xe, xf], _ => exact ⟨_, _, _, _, _, _, _, _, _, _, _, _, _, _, _, _, rfl⟩
set_option maxRecDepth 100000 in
set_option maxHeartbeats 2000000 in
theorem newArray_any (n nb : Nat) (w : World) (hn : n ≤ 1000) (hnb : nb ≤ 1000000) :
    Calls Tryz.prog 4 #[.int .i64 n, .int .i64 nb] w fun e w' => NaPost n nb w e w' := by
  go_enter Tryz.func4, Tryz.ntmps4
  have h0 : NaS w w.heap.size nb 0 [] (.slice none 0 0) (w.alloc (.cells #[.slice none 0 0, .int .i64 (-1)] 46)) := ⟨rfl, blk_alloc_new _ _, World.ownsRow_nil _ _ _ _, fun q hq => (by simp at hq), by simp, by simp, (Below.refl _ w).alloc (Nat.le_refl _) _⟩
  go_wp2_with fail
  go_loopw [9] (fun i wr => NaR w w.heap.size nb n i wr) (fun i _ => n - (intOf i).toNat)
  case atStart => exact ⟨0, [], _, Nat.zero_le _, rfl, h0⟩
  case round =>
    clear h0
    obtain ⟨k, L, v, hk, rfl, hS⟩ := hrel
    by_cases hlt : k < n
    · have HS := hide hS
      clear hS
      go_wp2_with fail
      refine new_region (by kernel_rfl) hnb (by omega) HS.out.2.2.1 HS.out.2.1 rfl rfl rfl ?_
      intro w' vs v' q hvs q1 q2 ho z1 z2 ht hO
      obtain ⟨x0, x1, x2, x3, x4, x5, x6, x7, x8, x9, xa, xb, xc, xd, xe, xf, rfl⟩ := list16 hvs
      have hN := HS.out.next q1 q2 ho z1 z2 ht hO
      have HN := hide hN
      clear hN ho z1 z2 ht hO HS q1 q2 hvs
      rename_i hK
      refine hK _ _ ?_
      clear hK
      simp only [Act.putFrom]
      go_wp2
      exact ⟨⟨k + 1, _, _, by omega, by go_num, HN.out⟩, by simp [intOf]; omega⟩
    · have hkk : k = n := by omega
      subst hkk
      have HS := hide hS
      clear hS
      go_wp2
      go_ret
      exact HS.out.post
end Go.Proofs.YtogdeaaphdlchaaGreatDoor
