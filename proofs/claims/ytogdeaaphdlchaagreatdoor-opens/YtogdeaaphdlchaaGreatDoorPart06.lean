import Derived.Test.YtogdeaaphdlchaaGreatDoorPart02
import Derived.Test.YtogdeaaphdlchaaGreatDoorPart04
import Derived.Test.YtogdeaaphdlchaaGreatDoorPart05
/-
  The array's own calls, where there is power, no drive is lost, and the block is one.
-/
namespace Go.Proofs.YtogdeaaphdlchaaGreatDoor
open Go.RowKit Go.Deep

set_option maxRecDepth 100000 in
set_option maxHeartbeats 1000000 in
theorem find_ok {w : World} {p : Nat} {A : Arr} {F : Foot} (h : ArrAt w p A F) (hf : A.fit) (d b : Nat) (hd : d < A.n) (hb : b < A.nb) (hw : A.wait ≠ 0) (hl : A.lost d = false) :
    Calls Tryz.prog 75 #[.pointer (some ⟨p, 0, none⟩), .int .i64 d, .int .i64 b] w fun e w' => e = .returned (.tuple #[.pointer (some ⟨F.g, d * 4, none⟩), .nilIface]) ∧ w' = w := by
  obtain ⟨c0, c1, _, _⟩ := h.p_cells
  obtain ⟨d0, d1, d2, d3⟩ := h.drvs d hd
  have hn := hf.n
  have hnb := hf.nb
  have e1 : ¬ (d : Int) < 0 := by omega
  have e2 : ¬ (A.n : Int) ≤ (d : Int) := by omega
  have e2' : (d : Int) < (A.n : Int) := by omega
  have e3 : ¬ (b : Int) < 0 := by omega
  have e4 : ¬ (A.nb : Int) ≤ (b : Int) := by omega
  go_enter Tryz.func75, Tryz.ntmps75
  go_wp2
  go_ret2
  exact ⟨rfl, rfl⟩

set_option maxRecDepth 100000 in
set_option maxHeartbeats 1000000 in
theorem read_ok {w : World} {p : Nat} {A : Arr} {F : Foot} (h : ArrAt w p A F) (hf : A.fit) (d b : Nat) (hd : d < A.n) (hb : b < A.nb) (hw : A.wait ≠ 0) (hl : A.lost d = false) (hbad : A.bad d b = false) :
    Calls Tryz.prog 54 #[.pointer (some ⟨p, 0, none⟩), .int .i64 d, .int .i64 b] w fun e w' => e = .returned (.tuple #[.agg (blkA (A.blk d b)), .nilIface]) ∧
      ArrAt w' p (A.setReads d (wrap64 (A.reads d + 1))) F ∧ Outside (F.has p A.n) w w' := by
  have hz := zeroBlk
  have hlen := hf.len d b
  have hn := hf.n
  have hnb := hf.nb
  have h1 := h.alloc (.cells (blkA zb) 157)
  have hb1 := BlkAt.new w zb
  have hpl := h.p_lt
  have hgl := h.g_lt
  have hO1 : Outside (F.has p A.n) w (w.alloc (.cells (blkA zb) 157)) := Outside.alloc w _
  obtain ⟨w1, hw1⟩ : ∃ w1, w.alloc (.cells (blkA zb) 157) = w1 := ⟨_, rfl⟩
  rw [hw1] at h1 hb1 hO1
  have hszz : (blkA zb).size = 64 := by rw [blkA_size, zb_len]
  go_enter Tryz.func54, Tryz.ntmps54
  go_wp2_with fail
  refine (find_ok h1 hf d b hd hb hw hl).mono ?_
  rintro e w' ⟨rfl, rfl⟩
  have h2 := h1.setReads d (wrap64 (A.reads d + 1))
  obtain ⟨d0, d1, d2, d3⟩ := h1.drvs d hd
  have hfz := h1.unfrozen (d * 4 + 3)
  obtain ⟨w2, hw2⟩ : ∃ w2, w'.setCell ⟨F.g, d * 4 + 3, none⟩ (.int .i64 (wrap64 (A.reads d + 1))) = w2 := ⟨_, rfl⟩
  rw [hw2] at h2
  obtain ⟨q0, q1, q2, q3⟩ := h2.drvs d hd
  have qb : w2.cell? ⟨F.bd d, b, none⟩ = some (.bool (A.bad d b)) := h2.badC d b hd hb
  have qr : w2.rangeAt (F.bb d) (b * 64) (bts (A.blk d b)) := h2.range (hf.setReads _ _) d b hd hb
  have hb2 : BlkAt w2 w.heap.size zb := hb1.keep (by rw [← hw2]; exact blk_setCell_other _ _ _ _ (by show w.heap.size ≠ F.g; omega))
  have hO2 : Outside (F.has p A.n) w w2 := hO1.trans (by rw [← hw2]; exact Outside.setCell _ _ _ (.inr (.inl rfl)))
  have e3 : ¬ (b : Int) < 0 := by omega
  have e4 : (b : Int) < (A.nb : Int) := by omega
  go_wp2_with (first | (refine bl_loadMid rfl (.tmp 46) rfl (F.bb d) (b * 64) (A.blk d b) rfl qr hlen ?_) | (refine bl_store rfl (.tmp 6) (.tmp 47) rfl w.heap.size (A.blk d b) zb rfl rfl hb2 zb_len hlen ?_))
  have hb3 := hb2.setRow (A.blk d b)
  have hld := blk_loadVar hb3 hlen
  refine bodyPost_ret (v := .tuple #[.agg (blkA (A.blk d b)), .nilIface]) (results_cell_slot Tryz.results54 _ _ _ _ _ rfl rfl hld) rfl ?_
  refine ⟨rfl, h2.keep fun k hk => ?_, hO2.later (T := fun k => k = w.heap.size) (Outside.setRow _ _ _ rfl) fun k hk e => absurd e (by omega)⟩
  · have := h.has_lt (k := k) hk
    exact (grown_setRow' w2 w.heap.size (blkA (A.blk d b))).block k (Nat.lt_of_lt_of_le this hO2.size) (fun e => by cases e; omega)
/-! ### Write: its last assignment draws its order -/
noncomputable def RWr : Array Oper := ((Tryz.f87.body.bind (rgf · 9))).getD #[]
def shWr : List (Op × Option Nat × List Nat) := [(Op.move (Operand.tmp 9), some 49, []),
    (Op.nilCheck (Operand.tmp 49), some 50, [0]),
    (Op.fieldAddr 50 (Operand.tmp 50) 1, some 51, [1]),
    (Op.load 47 (Operand.tmp 51), some 52, [2]),
    (Op.move (Operand.tmp 2), some 53, []),
    (Op.move (Operand.tmp 9), some 54, []),
    (Op.nilCheck (Operand.tmp 54), some 55, [5]),
    (Op.fieldAddr 50 (Operand.tmp 55) 2, some 56, [6]),
    (Op.load 48 (Operand.tmp 56), some 57, [7]),
    (Op.move (Operand.tmp 2), some 58, []),
    (Op.load 157 (Operand.tmp 7), some 59, []),
    (Op.indexAddr 47 (Operand.tmp 52) (Operand.tmp 53), some 60, [3, 4, 0, 1, 2, 3, 4, 8, 10]),
    (Op.store 157 (Operand.tmp 60) (Operand.tmp 59), none, [11, 10, 0, 1, 2, 3, 4, 8, 10]),
    (Op.indexAddr 48 (Operand.tmp 57) (Operand.tmp 58), some 61, [8, 9, 0, 1, 2, 3, 4, 5, 6, 7, 8, 9, 10, 11, 12]),
    (Op.store 4 (Operand.tmp 61) (Operand.const (Value.bool false)), none, [13, 12, 0, 1, 2, 3, 4, 5, 6, 7, 8, 9, 10, 11, 12])]
theorem RWr_shape : RegShape RWr 49 62 shWr := regShape (by kernel_rfl) (by kernel_rfl)
/-- what each of them leaves -/
def vsWr (F : Foot) (nb d b : Nat) (l : List Nat) : List Value := [.pointer (some ⟨F.g, d * 4, none⟩), .pointer (some ⟨F.g, d * 4, none⟩), .pointer (some ⟨F.g, d * 4 + 1, none⟩), .slice (some ⟨F.bb d, 0, none⟩) nb nb, .int .i64 b,
  .pointer (some ⟨F.g, d * 4, none⟩), .pointer (some ⟨F.g, d * 4, none⟩), .pointer (some ⟨F.g, d * 4 + 2, none⟩), .slice (some ⟨F.bd d, 0, none⟩) nb nb, .int .i64 b, .agg (blkA l), .pointer (some ⟨F.bb d, b * 64, none⟩), undef, .pointer (some ⟨F.bd d, b, none⟩), undef]
def wsWr (F : Foot) (nb d b : Nat) (l : List Nat) : List Value := [.pointer (some ⟨F.g, d * 4, none⟩), .pointer (some ⟨F.g, d * 4, none⟩), .pointer (some ⟨F.g, d * 4 + 1, none⟩), .slice (some ⟨F.bb d, 0, none⟩) nb nb, .int .i64 b, .pointer (some ⟨F.g, d * 4, none⟩), .pointer (some ⟨F.g, d * 4, none⟩), .pointer (some ⟨F.g, d * 4 + 2, none⟩), .slice (some ⟨F.bd d, 0, none⟩) nb nb, .int .i64 b, .agg (blkA l), .pointer (some ⟨F.bb d, b * 64, none⟩), .pointer (some ⟨F.bd d, b, none⟩)]
/-- the array between two of them -/
def arWr (A : Arr) (d b : Nat) (l : List Nat) (D : Nat → Bool) : Arr := if D 14 = true then (A.setBlk d b l).setBad d b false else if D 12 = true then A.setBlk d b l else A
theorem arWr_upd (A : Arr) (d b : Nat) (l : List Nat) (D : Nat → Bool) (i : Nat) (h1 : i ≠ 12) (h2 : i ≠ 14) : arWr A d b l (upd D i) = arWr A d b l D := by
  unfold arWr upd
  rw [if_neg (fun e : 14 = i => h2 e.symm), if_neg (fun e : 12 = i => h1 e.symm)]
theorem arWr_n (A : Arr) (d b : Nat) (l : List Nat) (D : Nat → Bool) : (arWr A d b l D).n = A.n ∧ (arWr A d b l D).nb = A.nb := by
  unfold arWr
  split
  · exact ⟨rfl, rfl⟩
  · split <;> exact ⟨rfl, rfl⟩
set_option maxRecDepth 100000 in
set_option maxHeartbeats 1000000 in
theorem write_region {ops : Array Oper} {Q : Exit → Act → World → Prop} {a : Act} {w : World} {p : Nat} {A : Arr} {F : Foot} {d b box : Nat} {l : List Nat} (hops : RWr = ops) (h : ArrAt w p A F) (hf : A.fit) (hd : d < A.n) (hb : b < A.nb) (hl : l.length = 64)
    (hbox : BlkAt w box l) (hbx : ¬ F.has p A.n box) (hsz : a.tmps.size = 62) (e9 : a.eval (.tmp 9) = .pointer (some ⟨F.g, d * 4, none⟩)) (e2 : a.eval (.tmp 2) = .int .i64 b) (e7 : a.eval (.tmp 7) = .pointer (some ⟨box, 0, none⟩))
    (hQ : ∀ w', ArrAt w' p ((A.setBlk d b l).setBad d b false) F → Outside (F.has p A.n) w w' →
      Q .normal (Act.putFrom a 49 (wsWr F A.nb d b l)) w') :
    (Code.region 9 ops true).wp Tryz.prog Q a w := by
  subst hops
  have hnb := hf.nb
  have e3 : ¬ (b : Int) < 0 := by omega
  have e4 : (b : Int) < (A.nb : Int) := by omega
  refine region_facts (by kernel_rfl) RWr_shape a w (by omega) (fun i v _ => v = (vsWr F A.nb d b l).getD i undef) (fun D w' => ArrAt w' p (arWr A d b l D) F ∧ BlkAt w' box l ∧ Outside (F.has p A.n) w w') ⟨(h.keep fun _ _ => rfl : ArrAt w.drew p A F), hbox, Outside.drew w⟩ ?_ ?_
  · intro i hi
    have hpure : ∀ (i : Nat), i ≠ 12 → i ≠ 14 → ∀ (D : Nat → Bool) (w' : World), (ArrAt w' p (arWr A d b l D) F ∧ BlkAt w' box l ∧ Outside (F.has p A.n) w w') → (ArrAt w' p (arWr A d b l (upd D i)) F ∧ BlkAt w' box l ∧ Outside (F.has p A.n) w w') := fun i h1 h2 D w' q => by rw [arWr_upd A d b l D i h1 h2]; exact q
    match i, hi with
    | 0, _ => exact fun o a' w' D hg ho hdst hk hDi hcl hdep hB hV => op_val (run_op_move ho ((hk.slot 9 (by omega)).trans e9) w') hdst ⟨hpure 0 (by decide) (by decide) D w' hB, rfl, fun _ _ _ q => q⟩
    | 1, _ =>
      intro o a' w' D hg ho hdst hk hDi hcl hdep hB hV
      have v0 : a'.eval (.tmp 49) = .pointer (some ⟨F.g, d * 4, none⟩) := hV 0 (hdep 0 (by decide))
      exact op_val (v := .pointer (some ⟨F.g, d * 4, none⟩)) (by simp only [execOp, show o.op = Op.nilCheck (.tmp 49) from ho, v0]; go_simp) hdst ⟨hpure 1 (by decide) (by decide) D w' hB, rfl, fun _ _ _ q => q⟩
    | 2, _ =>
      intro o a' w' D hg ho hdst hk hDi hcl hdep hB hV
      have v0 : a'.eval (.tmp 50) = .pointer (some ⟨F.g, d * 4, none⟩) := hV 1 (hdep 1 (by decide))
      exact op_val (v := .pointer (some ⟨F.g, d * 4 + 1, none⟩)) (by simp only [execOp, show o.op = Op.fieldAddr 50 (.tmp 50) 1 from ho, v0]; go_simp) hdst ⟨hpure 2 (by decide) (by decide) D w' hB, rfl, fun _ _ _ q => q⟩
    | 3, _ =>
      intro o a' w' D hg ho hdst hk hDi hcl hdep hB hV
      have v0 : a'.eval (.tmp 51) = .pointer (some ⟨F.g, d * 4 + 1, none⟩) := hV 2 (hdep 2 (by decide))
      have c := (hB.1.drvs d (by rw [(arWr_n A d b l D).1]; exact hd)).2.1
      rw [(arWr_n A d b l D).2] at c
      exact op_val (v := .slice (some ⟨F.bb d, 0, none⟩) A.nb A.nb) (by simp only [execOp, show o.op = Op.load 47 (.tmp 51) from ho, v0]; go_simp) hdst ⟨hpure 3 (by decide) (by decide) D w' hB, rfl, fun _ _ _ q => q⟩
    | 4, _ => exact fun o a' w' D hg ho hdst hk hDi hcl hdep hB hV => op_val (run_op_move ho ((hk.slot 2 (by omega)).trans e2) w') hdst ⟨hpure 4 (by decide) (by decide) D w' hB, rfl, fun _ _ _ q => q⟩
    | 5, _ => exact fun o a' w' D hg ho hdst hk hDi hcl hdep hB hV => op_val (run_op_move ho ((hk.slot 9 (by omega)).trans e9) w') hdst ⟨hpure 5 (by decide) (by decide) D w' hB, rfl, fun _ _ _ q => q⟩
    | 6, _ =>
      intro o a' w' D hg ho hdst hk hDi hcl hdep hB hV
      have v0 : a'.eval (.tmp 54) = .pointer (some ⟨F.g, d * 4, none⟩) := hV 5 (hdep 5 (by decide))
      exact op_val (v := .pointer (some ⟨F.g, d * 4, none⟩)) (by simp only [execOp, show o.op = Op.nilCheck (.tmp 54) from ho, v0]; go_simp) hdst ⟨hpure 6 (by decide) (by decide) D w' hB, rfl, fun _ _ _ q => q⟩
    | 7, _ =>
      intro o a' w' D hg ho hdst hk hDi hcl hdep hB hV
      have v0 : a'.eval (.tmp 55) = .pointer (some ⟨F.g, d * 4, none⟩) := hV 6 (hdep 6 (by decide))
      exact op_val (v := .pointer (some ⟨F.g, d * 4 + 2, none⟩)) (by simp only [execOp, show o.op = Op.fieldAddr 50 (.tmp 55) 2 from ho, v0]; go_simp) hdst ⟨hpure 7 (by decide) (by decide) D w' hB, rfl, fun _ _ _ q => q⟩
    | 8, _ =>
      intro o a' w' D hg ho hdst hk hDi hcl hdep hB hV
      have v0 : a'.eval (.tmp 56) = .pointer (some ⟨F.g, d * 4 + 2, none⟩) := hV 7 (hdep 7 (by decide))
      have c := (hB.1.drvs d (by rw [(arWr_n A d b l D).1]; exact hd)).2.2.1
      rw [(arWr_n A d b l D).2] at c
      exact op_val (v := .slice (some ⟨F.bd d, 0, none⟩) A.nb A.nb) (by simp only [execOp, show o.op = Op.load 48 (.tmp 56) from ho, v0]; go_simp) hdst ⟨hpure 8 (by decide) (by decide) D w' hB, rfl, fun _ _ _ q => q⟩
    | 9, _ => exact fun o a' w' D hg ho hdst hk hDi hcl hdep hB hV => op_val (run_op_move ho ((hk.slot 2 (by omega)).trans e2) w') hdst ⟨hpure 9 (by decide) (by decide) D w' hB, rfl, fun _ _ _ q => q⟩
    | 10, _ =>
      intro o a' w' D hg ho hdst hk hDi hcl hdep hB hV
      have v0 : a'.eval (.tmp 7) = .pointer (some ⟨box, 0, none⟩) := (hk.slot 7 (by omega)).trans e7
      exact op_val (v := .agg (blkA l)) (by simp [execOp, show o.op = Op.load 157 (.tmp 7) from ho, v0, blk_loadAt hB.2.1 hl]) hdst ⟨hpure 10 (by decide) (by decide) D w' hB, rfl, fun _ _ _ q => q⟩
    | 11, _ =>
      intro o a' w' D hg ho hdst hk hDi hcl hdep hB hV
      have v0 : a'.eval (.tmp 52) = .slice (some ⟨F.bb d, 0, none⟩) A.nb A.nb := hV 3 (hdep 3 (by decide))
      have v1 : a'.eval (.tmp 53) = .int .i64 b := hV 4 (hdep 4 (by decide))
      exact op_val (v := .pointer (some ⟨F.bb d, b * 64, none⟩)) (by simp only [execOp, show o.op = Op.indexAddr 47 (.tmp 52) (.tmp 53) from ho, v0, v1]; go_simp) hdst ⟨hpure 11 (by decide) (by decide) D w' hB, rfl, fun _ _ _ q => q⟩
    | 12, _ =>
      intro o a' w' D hg ho hdst hk hDi hcl hdep hB hV
      have v0 : a'.eval (.tmp 60) = .pointer (some ⟨F.bb d, b * 64, none⟩) := hV 11 (hdep 11 (by decide))
      have v1 : a'.eval (.tmp 59) = .agg (blkA l) := hV 10 (hdep 10 (by decide))
      have hD14 : D 14 = false := by
        cases q : D 14 with
        | false => rfl
        | true => have := (hcl 14 q).2 12 (by decide); rw [hDi] at this; cases this
      have hA : arWr A d b l D = A := by unfold arWr; rw [if_neg (by rw [hD14]; decide), if_neg (by rw [hDi]; decide)]
      have hA' : arWr A d b l (upd D 12) = A.setBlk d b l := by unfold arWr upd; rw [if_neg (by rw [if_neg (by decide), hD14]; decide), if_pos (by rw [if_pos rfl])]
      rw [hA] at hB
      refine op_skip (w' := w'.setCells (F.bb d) (b * 64) (bts l)) ?_ ⟨?_, rfl, fun _ _ _ q => q⟩
      · have := run_storeAt_mid (P := Tryz.prog) w' (F.bb d) (b * 64) 157 (blkA l) (by rw [blkA_size, hl]; exact hB.1.there d b hd hb) (blkA_info hl) (blkA_one l)
        rw [blkA_list] at this
        simp [execOp, show o.op = Op.store 157 (.tmp 60) (.tmp 59) from ho, v0, v1, this]
      · show ArrAt _ p (arWr A d b l (upd D 12)) F ∧ _ ∧ _
        rw [hA']
        refine ⟨hB.1.setBlk d b hd l hl, hB.2.1.keep (heap_setCells_other _ _ _ _ _ (fun e => hbx (.inr (.inr ⟨d, hd, .inl e⟩)))), hB.2.2.trans (Outside.setCells _ _ _ _ (.inr (.inr ⟨d, hd, .inl rfl⟩)))⟩
    | 13, _ =>
      intro o a' w' D hg ho hdst hk hDi hcl hdep hB hV
      have v0 : a'.eval (.tmp 57) = .slice (some ⟨F.bd d, 0, none⟩) A.nb A.nb := hV 8 (hdep 8 (by decide))
      have v1 : a'.eval (.tmp 58) = .int .i64 b := hV 9 (hdep 9 (by decide))
      exact op_val (v := .pointer (some ⟨F.bd d, b, none⟩)) (by simp only [execOp, show o.op = Op.indexAddr 48 (.tmp 57) (.tmp 58) from ho, v0, v1]; go_simp) hdst ⟨hpure 13 (by decide) (by decide) D w' hB, rfl, fun _ _ _ q => q⟩
    | 14, _ =>
      intro o a' w' D hg ho hdst hk hDi hcl hdep hB hV
      have v0 : a'.eval (.tmp 61) = .pointer (some ⟨F.bd d, b, none⟩) := hV 13 (hdep 13 (by decide))
      have hD12 : D 12 = true := hdep 12 (by decide)
      have hA : arWr A d b l D = A.setBlk d b l := by unfold arWr; rw [if_neg (by rw [hDi]; decide), if_pos hD12]
      have hA' : arWr A d b l (upd D 14) = (A.setBlk d b l).setBad d b false := by unfold arWr upd; rw [if_pos (by rw [if_pos rfl])]
      rw [hA] at hB
      have c := hB.1.badC d b hd hb
      have fz := (hB.1.bad d hd).frozen b
      refine op_skip (w' := w'.setCell ⟨F.bd d, b, none⟩ (.bool false)) ?_ ⟨?_, rfl, fun _ _ _ q => q⟩
      · simp only [execOp, show o.op = Op.store 4 (.tmp 61) (.const (.bool false)) from ho, v0]; go_simp
      · show ArrAt _ p (arWr A d b l (upd D 14)) F ∧ _ ∧ _
        rw [hA']
        exact ⟨hB.1.setBad d b hd false, hB.2.1.keep (blk_setCell_other _ _ _ _ (fun e => hbx (.inr (.inr ⟨d, hd, .inr e⟩)))), hB.2.2.trans (Outside.setCell _ _ _ (.inr (.inr ⟨d, hd, .inr rfl⟩)))⟩
    | n + 15, hn => exact absurd hn (by show ¬ n + 15 < 15; omega)
  · rintro a' w' hk ⟨D, hD, hA, _, hO⟩ hV
    have hA' : arWr A d b l D = (A.setBlk d b l).setBad d b false := by unfold arWr; rw [if_pos (hD 14 (by decide))]
    rw [hA'] at hA
    have hv : ∀ i : Nat, i < 13 → a'.eval (.tmp (49 + i)) = (wsWr F A.nb d b l).getD i undef := by
      intro i hi
      match i, hi with
      | 0, _ => exact hV 0 (by decide)
      | 1, _ => exact hV 1 (by decide)
      | 2, _ => exact hV 2 (by decide)
      | 3, _ => exact hV 3 (by decide)
      | 4, _ => exact hV 4 (by decide)
      | 5, _ => exact hV 5 (by decide)
      | 6, _ => exact hV 6 (by decide)
      | 7, _ => exact hV 7 (by decide)
      | 8, _ => exact hV 8 (by decide)
      | 9, _ => exact hV 9 (by decide)
      | 10, _ => exact hV 10 (by decide)
      | 11, _ => exact hV 11 (by decide)
      | 12, _ => exact hV 13 (by decide)
      | n + 13, hn => exact absurd hn (by show ¬ n + 13 < 13; omega)
    rw [hk.out (wsWr F A.nb d b l) rfl (by omega) hv]
    exact hQ w' hA hO
set_option maxRecDepth 100000 in
set_option maxHeartbeats 1000000 in
theorem write_ok {w : World} {p : Nat} {A : Arr} {F : Foot} (h : ArrAt w p A F) (hf : A.fit) (d b : Nat) (hd : d < A.n) (hb : b < A.nb) (hw : A.wait < 0) (hl : A.lost d = false) (l : List Nat) (hlen : l.length = 64) :
    Calls Tryz.prog 87 #[.pointer (some ⟨p, 0, none⟩), .int .i64 d, .int .i64 b, .agg (blkA l)] w fun e w' => e = .returned .nilIface ∧
      ArrAt w' p ((A.setBlk d b l).setBad d b false) F ∧ Outside (F.has p A.n) w w' := by
  have h1 := h.alloc (.cells (blkA l) 157)
  have hb1 := BlkAt.new w l
  have hO1 : Outside (F.has p A.n) w (w.alloc (.cells (blkA l) 157)) := Outside.alloc w _
  have hbx : ¬ F.has p A.n w.heap.size := fun q => by have := h.has_lt q; omega
  obtain ⟨w1, hw1⟩ : ∃ w1, w.alloc (.cells (blkA l) 157) = w1 := ⟨_, rfl⟩
  rw [hw1] at h1 hb1 hO1
  have hszz : (blkA l).size = 64 := by rw [blkA_size, hlen]
  obtain ⟨c0, c1, _, _⟩ := h1.p_cells
  have hw2 : ¬ 0 < A.wait := by omega
  go_enter Tryz.func87, Tryz.ntmps87
  go_wp2_with fail
  refine (find_ok h1 hf d b hd hb (by omega) hl).mono ?_
  rintro e w' ⟨rfl, rfl⟩
  go_wp2_with fail
  refine write_region (by kernel_rfl) h1 hf hd hb hlen hb1 hbx rfl rfl rfl rfl ?_
  intro w3 hA hO
  rename_i hK
  refine hK _ _ ?_
  simp only [Act.putFrom, wsWr]
  go_wp2
  go_ret
  exact ⟨rfl, hA, hO1.trans hO⟩
end Go.Proofs.YtogdeaaphdlchaaGreatDoor
/-
  A volume: blocks read and written as records.
-/
namespace Go.Proofs.YtogdeaaphdlchaaGreatDoor
open Go.RowKit Go.Deep

/-- a volume over an array -/
def VolAt (w : World) (v p D L G ps ho : Nat) : Prop := w.heap[v]? = some (.cells #[.pointer (some ⟨p, 0, none⟩), .int .i64 D, .int .i64 L, .int .i64 G, .pointer (some ⟨ps, 0, none⟩), .int .u64 ho] 91 (0, 0))
theorem VolAt.keep {w w' : World} {v p D L G ps ho : Nat} (h : VolAt w v p D L G ps ho) (e : w'.heap[v]? = w.heap[v]?) : VolAt w' v p D L G ps ho := e.trans h
theorem VolAt.lt {w : World} {v p D L G ps ho : Nat} (h : VolAt w v p D L G ps ho) : v < w.heap.size := (Array.getElem?_eq_some_iff.1 h).1
theorem VolAt.cells {w : World} {v p D L G ps ho : Nat} (h : VolAt w v p D L G ps ho) : w.cell? ⟨v, 0, none⟩ = some (.pointer (some ⟨p, 0, none⟩)) ∧ w.cell? ⟨v, 1, none⟩ = some (.int .i64 D) ∧ w.cell? ⟨v, 2, none⟩ = some (.int .i64 L) ∧ w.cell? ⟨v, 3, none⟩ = some (.int .i64 G) ∧ w.cell? ⟨v, 4, none⟩ = some (.pointer (some ⟨ps, 0, none⟩)) ∧ w.cell? ⟨v, 5, none⟩ = some (.int .u64 ho) := by
  have h' : w.heap[v]? = some (.cells #[.pointer (some ⟨p, 0, none⟩), .int .i64 D, .int .i64 L, .int .i64 G, .pointer (some ⟨ps, 0, none⟩), .int .u64 ho] 91 (0, 0)) := h
  simp [World.cell?, h']
theorem hvLaid.outside {w w' : World} {S : Nat → Prop} (h : hvLaid w) (hO : Outside S w w') (hS : ¬ S 2) : hvLaid w' := fun j hj => by
  have := h j hj
  rw [← this]
  exact World.cell?_of_block (hO.block _ (block_lt_of_cell this) hS)
set_option maxRecDepth 100000 in
set_option maxHeartbeats 1000000 in
theorem is_nil (n : Int) (w : World) : Calls Tryz.prog 28 #[.nilIface, .iface 34 (.int .i64 n)] w fun e w' => e = .returned (.bool false) ∧ w' = w := by
  have he0 : ∀ d w, (Op.equalIn (d + 1) 29 .nilIface (.iface 34 (.int .i64 n))).run Tryz.prog w = .ok false w := fun d w => by
    simp only [Op.equalIn, Sem.run_bind, run_underlying Tryz.underlying29, Result.andThen_ok]
    rfl
  have he : ∀ w, (Op.equalIn 10000 29 .nilIface (.iface 34 (.int .i64 n))).run Tryz.prog w = .ok false w := fun w => he0 9999 w
  have hn : ∀ w, (binOp .eql 29 .nilIface (.iface 34 (.int .i64 n))).run Tryz.prog w = .ok (.bool false) w := fun w => by
    simp only [binOp]
    simp [Op.equal, Op.maxDepth, he]
  clear he0 he
  go_enter Tryz.func28, Tryz.ntmps28
  go_wp2
  go_ret
  exact ⟨rfl, rfl⟩
set_option maxRecDepth 100000 in
set_option maxHeartbeats 1000000 in
theorem stop_nil (w : World) : Calls Tryz.prog 55 #[.nilIface] w fun e w' => e = .returned (.tuple #[]) ∧ w' = w := by
  go_enter Tryz.func55, Tryz.ntmps55
  go_wp2_with fail
  refine (is_nil 13 w).mono ?_
  rintro e w' ⟨rfl, rfl⟩
  go_wp2
  first | go_end0 | skip
  exact ⟨rfl, rfl⟩
set_option maxRecDepth 100000 in
set_option maxHeartbeats 2000000 in
theorem volRead_ok {w : World} {v p D L G ps ho : Nat} {A : Arr} {F : Foot} (hV : VolAt w v p D L G ps ho) (h : ArrAt w p A F) (hf : A.fit) (d b : Nat) (hd : d < A.n) (hb : b < A.nb) (hw : A.wait ≠ 0) (hl : A.lost d = false) (hbad : A.bad d b = false)
    (r : Rec) (hr : r.ok) (hm : Makes r) (he : A.blk d b = r.blk) (hv : hvLaid w) (hg : ¬ F.has p A.n 2) :
    Calls Tryz.prog 42 #[.pointer (some ⟨v, 0, none⟩), .int .i64 d, .int .i64 b] w fun e w' => e = .returned (.tuple #[recV r, .nilIface]) ∧ ArrAt w' p (A.setReads d (wrap64 (A.reads d + 1))) F ∧ Outside (F.has p A.n) w w' := by
  obtain ⟨c0, _⟩ := hV.cells
  have hz := zeroBlk
  have hszz : (blkA zb).size = 64 := by rw [blkA_size, zb_len]
  have hc := read_ok h hf d b hd hb hw hl hbad
  rw [he] at hc
  obtain ⟨l, hll⟩ : ∃ l, r.blk = l := ⟨_, rfl⟩
  have hlen := blk_len hr
  rw [hll] at hc hlen
  have HL := hide hll
  clear hll he
  go_enter Tryz.func42, Tryz.ntmps42
  go_wp2_with fail
  refine hc.mono ?_
  rintro e w1 ⟨rfl, hA1, hO1⟩
  have hb2 := BlkAt.new w1 zb
  have hszl : (blkA l).size = 64 := by rw [blkA_size, hlen]
  have hA2 := hA1.alloc (.cells (blkA zb) 157)
  have hO2 : Outside (F.has p A.n) w (w1.alloc (.cells (blkA zb) 157)) := hO1.trans (Outside.alloc _ _)
  have hfr : ∀ k, F.has p A.n k → k ≠ w1.heap.size := fun k hk e => by have := hA1.has_lt (k := k) hk; omega
  have H1 := hide (And.intro hb2 (And.intro hA2 (And.intro hO2 hfr)))
  have hws := hO1.size
  clear hc hA1 hO1 hb2 hA2 hO2 hfr c0
  go_wp2_with (first | (refine bl_store rfl (.tmp 8) (.tmp 20) rfl w1.heap.size l zb rfl rfl H1.out.1 zb_len hlen ?_) | (refine bl_load rfl (.tmp 8) rfl w1.heap.size l rfl (H1.out.1.setRow l) hlen ?_))
  have hb3 := H1.out.1.setRow l
  have hA3 : ArrAt ((w1.alloc (.cells (blkA zb) 157)).setRow w1.heap.size (blkA l)) p (A.setReads d (wrap64 (A.reads d + 1))) F := H1.out.2.1.keep fun k hk => (grown_setRow' _ _ _).block k (H1.out.2.1.has_lt hk) (fun e => H1.out.2.2.2 k hk (by cases e; rfl))
  have hO3 : Outside (F.has p A.n) w ((w1.alloc (.cells (blkA zb) 157)).setRow w1.heap.size (blkA l)) := H1.out.2.2.1.later (T := fun k => k = w1.heap.size) (Outside.setRow _ _ _ rfl) (fun k hk e => absurd e (by omega))
  obtain ⟨w3, hw3⟩ : ∃ w3, (w1.alloc (.cells (blkA zb) 157)).setRow w1.heap.size (blkA l) = w3 := ⟨_, rfl⟩
  rw [hw3] at hA3 hO3 ⊢
  have ho := of_ok r w3 hm hr (hv.outside hO3 hg)
  rw [HL.out] at ho
  refine ho.mono ?_
  rintro e w4 ⟨rfl, hb4⟩
  have hA4 := hA3.below hb4 (Nat.le_refl _)
  have hO4 : Outside (F.has p A.n) w w4 := hO3.trans (Outside.of_all hb4 _)
  have H4 := hide (And.intro hA4 hO4)
  clear ho hb4 hA4 hO4 hA3 hO3 hb3 hw3 H1
  obtain ⟨rv, hrv⟩ : ∃ rv, recV r = rv := ⟨_, rfl⟩
  have HR := hide hrv
  simp only [hrv]
  clear hrv
  go_wp2
  go_ret2
  exact ⟨by rw [HR.out]; rfl, H4.out.1, H4.out.2⟩
noncomputable def RVw : Array Oper := ((Tryz.f62.body.bind (rgf · 1))).getD #[]
def shVw : List (Op × Option Nat × List Nat) := [(Op.move (Operand.tmp 0), some 10, []),
    (Op.nilCheck (Operand.tmp 10), some 11, [0]),
    (Op.fieldAddr 91 (Operand.tmp 11) 0, some 12, [1]),
    (Op.load 25 (Operand.tmp 12), some 13, [2]),
    (Op.move (Operand.tmp 1), some 14, []),
    (Op.move (Operand.tmp 2), some 15, []),
    (Op.move (Operand.tmp 3), some 16, []),
    (Op.call { callee := Callee.value (Operand.func 77), args := #[Operand.tmp 16], argTypes := #[125] }, some 17, [6]),
    (Op.call { callee := Callee.value (Operand.func 87), args := #[Operand.tmp 13, Operand.tmp 14, Operand.tmp 15, Operand.tmp 17], argTypes := #[25, 3, 3, 157] }, some 18, [3, 4, 5, 7, 7]),
    (Op.assign (Operand.tmp 18), some 9, [8, 8, 0, 1, 2, 3, 4, 5, 6, 7, 8])]
theorem RVw_shape : RegShape RVw 9 19 shVw := regShape (by kernel_rfl) (by kernel_rfl)
def vsVw (v p d b : Nat) (r : Rec) : List Value := [.pointer (some ⟨v, 0, none⟩), .pointer (some ⟨v, 0, none⟩), .pointer (some ⟨v, 0, none⟩), .pointer (some ⟨p, 0, none⟩), .int .i64 d, .int .i64 b, recV r, .agg (blkA r.blk), .nilIface, .nilIface]
def arVw (A : Arr) (d b : Nat) (r : Rec) (D : Nat → Bool) : Arr := if D 8 = true then (A.setBlk d b r.blk).setBad d b false else A
def BVw (w0 : World) (v p D L G ps ho : Nat) (A : Arr) (F : Foot) (d b : Nat) (r : Rec) (Dn : Nat → Bool) (w : World) : Prop := ArrAt w p (arVw A d b r Dn) F ∧ VolAt w v p D L G ps ho ∧ Outside (F.has p A.n) w0 w
theorem BVw_upd {w0 : World} {v p D L G ps ho : Nat} {A : Arr} {F : Foot} {d b : Nat} {r : Rec} {Dn : Nat → Bool} {w w' : World} (h : BVw w0 v p D L G ps ho A F d b r Dn w) (i : Nat) (hi : i ≠ 8) (hb : Below w.heap.size w w') : BVw w0 v p D L G ps ho A F d b r (upd Dn i) w' := by
  refine ⟨?_, h.2.1.keep (hb.block _ h.2.1.lt), h.2.2.trans (Outside.of_all hb _)⟩
  have e : arVw A d b r (upd Dn i) = arVw A d b r Dn := by unfold arVw upd; rw [if_neg (fun e : 8 = i => hi e.symm)]
  rw [e]; exact h.1.below hb (Nat.le_refl _)
set_option maxRecDepth 100000 in
set_option maxHeartbeats 1000000 in
theorem volWrite_region {ops : Array Oper} {Q : Exit → Act → World → Prop} {a : Act} {w : World} {v p D L G ps ho : Nat} {A : Arr} {F : Foot} (hops : RVw = ops) (hV : VolAt w v p D L G ps ho) (h : ArrAt w p A F) (hf : A.fit) (d b : Nat) (hd : d < A.n) (hb : b < A.nb) (hw : A.wait < 0) (hl : A.lost d = false)
    (r : Rec) (hr : r.ok) (hm : Makes r) (hv : hvLaid w) (hg : ¬ F.has p A.n 2) (hnv : ¬ F.has p A.n v) (hsz : a.tmps.size = 22) (e0 : a.eval (.tmp 0) = .pointer (some ⟨v, 0, none⟩)) (e1 : a.eval (.tmp 1) = .int .i64 d) (e2 : a.eval (.tmp 2) = .int .i64 b) (e3 : a.eval (.tmp 3) = recV r)
    (hQ : ∀ w', ArrAt w' p ((A.setBlk d b r.blk).setBad d b false) F → Outside (F.has p A.n) w w' → Q .normal (Act.putFrom a 9 [.nilIface, .pointer (some ⟨v, 0, none⟩), .pointer (some ⟨v, 0, none⟩), .pointer (some ⟨v, 0, none⟩), .pointer (some ⟨p, 0, none⟩), .int .i64 d, .int .i64 b, recV r, .agg (blkA r.blk), .nilIface]) w') :
    (Code.region 1 ops true).wp Tryz.prog Q a w := by
  subst hops
  refine region_facts (by kernel_rfl) RVw_shape a w (by omega) (fun i u _ => u = (vsVw v p d b r).getD i undef) (BVw w v p D L G ps ho A F d b r) ⟨h.keep fun _ _ => rfl, hV, Outside.drew w⟩ ?_ ?_
  · intro i hi
    match i, hi with
    | 0, _ => exact fun o a' w' Dn hg ho hdst hk hDi hcl hdep hB hV => op_val (run_op_move ho ((hk.slot 0 (by omega)).trans e0) w') hdst ⟨BVw_upd hB _ (by decide) (Below.refl _ _), rfl, fun _ _ _ q => q⟩
    | 1, _ =>
      intro o a' w' Dn hg ho hdst hk hDi hcl hdep hB hV
      have u0 : a'.eval (.tmp 10) = .pointer (some ⟨v, 0, none⟩) := hV 0 (hdep 0 (by decide))
      exact op_val (v := .pointer (some ⟨v, 0, none⟩)) (by simp only [execOp, show o.op = Op.nilCheck (.tmp 10) from ho, u0]; go_simp) hdst ⟨BVw_upd hB _ (by decide) (Below.refl _ _), rfl, fun _ _ _ q => q⟩
    | 2, _ =>
      intro o a' w' Dn hg ho hdst hk hDi hcl hdep hB hV
      have u0 : a'.eval (.tmp 11) = .pointer (some ⟨v, 0, none⟩) := hV 1 (hdep 1 (by decide))
      exact op_val (v := .pointer (some ⟨v, 0, none⟩)) (by simp only [execOp, show o.op = Op.fieldAddr 91 (.tmp 11) 0 from ho, u0]; go_simp) hdst ⟨BVw_upd hB _ (by decide) (Below.refl _ _), rfl, fun _ _ _ q => q⟩
    | 3, _ =>
      intro o a' w' Dn hg ho hdst hk hDi hcl hdep hB hV
      have u0 : a'.eval (.tmp 12) = .pointer (some ⟨v, 0, none⟩) := hV 2 (hdep 2 (by decide))
      have c := hB.2.1.cells.1
      exact op_val (v := .pointer (some ⟨p, 0, none⟩)) (by simp only [execOp, show o.op = Op.load 25 (.tmp 12) from ho, u0]; go_simp) hdst ⟨BVw_upd hB _ (by decide) (Below.refl _ _), rfl, fun _ _ _ q => q⟩
    | 4, _ => exact fun o a' w' Dn hg ho hdst hk hDi hcl hdep hB hV => op_val (run_op_move ho ((hk.slot 1 (by omega)).trans e1) w') hdst ⟨BVw_upd hB _ (by decide) (Below.refl _ _), rfl, fun _ _ _ q => q⟩
    | 5, _ => exact fun o a' w' Dn hg ho hdst hk hDi hcl hdep hB hV => op_val (run_op_move ho ((hk.slot 2 (by omega)).trans e2) w') hdst ⟨BVw_upd hB _ (by decide) (Below.refl _ _), rfl, fun _ _ _ q => q⟩
    | 6, _ => exact fun o a' w' Dn hg ho hdst hk hDi hcl hdep hB hV => op_val (run_op_move ho ((hk.slot 3 (by omega)).trans e3) w') hdst ⟨BVw_upd hB _ (by decide) (Below.refl _ _), rfl, fun _ _ _ q => q⟩
    | 7, _ =>
      intro o a' w' Dn hg' ho hdst hk hDi hcl hdep hB hV
      have u0 : a'.eval (.tmp 16) = recV r := hV 6 (hdep 6 (by decide))
      refine op_call (f := 77) (args := #[recV r]) (w1 := w') (by simp only [execOp, show o.op = Op.call { callee := Callee.value (Operand.func 77), args := #[Operand.tmp 16], argTypes := #[125] } from ho]; go_simp; simpa [Act.eval] using u0) hdst (hm w' (hv.outside hB.2.2 hg)) ?_
      rintro e w'' ⟨rfl, hb⟩
      exact ⟨_, rfl, BVw_upd hB 7 (by decide) hb, rfl, fun _ _ _ q => q⟩
    | 8, _ =>
      intro o a' w' Dn hg' ho hdst hk hDi hcl hdep hB hV
      have u0 : a'.eval (.tmp 13) = .pointer (some ⟨p, 0, none⟩) := hV 3 (hdep 3 (by decide))
      have u1 : a'.eval (.tmp 14) = .int .i64 d := hV 4 (hdep 4 (by decide))
      have u2 : a'.eval (.tmp 15) = .int .i64 b := hV 5 (hdep 5 (by decide))
      have u3 : a'.eval (.tmp 17) = .agg (blkA r.blk) := hV 7 (hdep 7 (by decide))
      have hA : ArrAt w' p A F := by have := hB.1; unfold arVw at this; rw [if_neg (by rw [hDi]; decide)] at this; exact this
      refine op_call (f := 87) (args := #[.pointer (some ⟨p, 0, none⟩), .int .i64 d, .int .i64 b, .agg (blkA r.blk)]) (w1 := w') (by simp only [execOp, show o.op = Op.call { callee := Callee.value (Operand.func 87), args := #[Operand.tmp 13, Operand.tmp 14, Operand.tmp 15, Operand.tmp 17], argTypes := #[25, 3, 3, 157] } from ho]; go_simp; exact ⟨by simpa [Act.eval] using u0, by simpa [Act.eval] using u1, by simpa [Act.eval] using u2, by simpa [Act.eval] using u3⟩) hdst (write_ok hA hf d b hd hb hw hl r.blk (blk_len hr)) ?_
      rintro e w'' ⟨rfl, hA', hO'⟩
      refine ⟨_, rfl, ⟨?_, hB.2.1.keep (hO'.block _ hB.2.1.lt hnv), hB.2.2.trans hO'⟩, rfl, fun _ _ _ q => q⟩
      have e : arVw A d b r (upd Dn 8) = (A.setBlk d b r.blk).setBad d b false := by unfold arVw upd; rw [if_pos (by rw [if_pos rfl])]
      rw [e]; exact hA'
    | 9, _ =>
      intro o a' w' Dn hg ho hdst hk hDi hcl hdep hB hV
      have u0 : a'.eval (.tmp 18) = .nilIface := hV 8 (hdep 8 (by decide))
      exact op_val (v := .nilIface) (by simp [execOp, show o.op = Op.assign (.tmp 18) from ho, u0]) hdst ⟨BVw_upd hB _ (by decide) (Below.refl _ _), rfl, fun _ _ _ q => q⟩
    | n + 10, hn => exact absurd hn (by show ¬ n + 10 < 10; omega)
  · rintro a' w' hk' ⟨Dn, hD, hB⟩ hV
    have e : arVw A d b r Dn = (A.setBlk d b r.blk).setBad d b false := by unfold arVw; rw [if_pos (hD 8 (by decide))]
    have hA := hB.1
    rw [e] at hA
    have hvv : ∀ i : Nat, i < 10 → a'.eval (.tmp (9 + i)) = [.nilIface, .pointer (some ⟨v, 0, none⟩), .pointer (some ⟨v, 0, none⟩), .pointer (some ⟨v, 0, none⟩), .pointer (some ⟨p, 0, none⟩), .int .i64 d, .int .i64 b, recV r, .agg (blkA r.blk), .nilIface].getD i undef := by
      intro i hi
      match i, hi with
      | 0, _ => exact hV 9 (by decide)
      | 1, _ => exact hV 0 (by decide)
      | 2, _ => exact hV 1 (by decide)
      | 3, _ => exact hV 2 (by decide)
      | 4, _ => exact hV 3 (by decide)
      | 5, _ => exact hV 4 (by decide)
      | 6, _ => exact hV 5 (by decide)
      | 7, _ => exact hV 6 (by decide)
      | 8, _ => exact hV 7 (by decide)
      | 9, _ => exact hV 8 (by decide)
      | n + 10, hn => exact absurd hn (by show ¬ n + 10 < 10; omega)
    rw [hk'.out [.nilIface, .pointer (some ⟨v, 0, none⟩), .pointer (some ⟨v, 0, none⟩), .pointer (some ⟨v, 0, none⟩), .pointer (some ⟨p, 0, none⟩), .int .i64 d, .int .i64 b, recV r, .agg (blkA r.blk), .nilIface] rfl (by omega) hvv]
    exact hQ w' hA hB.2.2
set_option maxRecDepth 100000 in
set_option maxHeartbeats 2000000 in
theorem volWrite_ok {w : World} {v p D L G ps ho : Nat} {A : Arr} {F : Foot} (hV : VolAt w v p D L G ps ho) (h : ArrAt w p A F) (hf : A.fit) (d b : Nat) (hd : d < A.n) (hb : b < A.nb) (hw : A.wait < 0) (hl : A.lost d = false)
    (r : Rec) (hr : r.ok) (hm : Makes r) (hv : hvLaid w) (hg : ¬ F.has p A.n 2) (hnv : ¬ F.has p A.n v) :
    Calls Tryz.prog 62 #[.pointer (some ⟨v, 0, none⟩), .int .i64 d, .int .i64 b, recV r] w fun e w' => e = .returned .nilIface ∧ ArrAt w' p ((A.setBlk d b r.blk).setBad d b false) F ∧ Outside (F.has p A.n) w w' := by
  obtain ⟨rv, hrv⟩ : ∃ rv, recV r = rv := ⟨_, rfl⟩
  simp only [hrv]
  have HR := hide hrv
  clear hrv
  go_enter Tryz.func62, Tryz.ntmps62
  go_wp2_with fail
  refine volWrite_region (by kernel_rfl) hV h hf d b hd hb hw hl r hr hm hv hg hnv rfl rfl rfl rfl HR.out.symm ?_
  intro w1 hA1 hO1
  rw [HR.out]
  have H1 := hide (And.intro hA1 hO1)
  clear hA1 hO1
  rename_i hK
  refine hK _ _ ?_
  clear hK
  simp only [Act.putFrom, Act.put, List.setIfInBounds_toArray, List.set_cons_succ, List.set_cons_zero]
  generalize blkA r.blk = ba
  go_wp2_with fail
  refine (stop_nil w1).mono ?_
  rintro e w' ⟨rfl, rfl⟩
  go_wp2
  go_ret
  exact ⟨rfl, H1.out.1, H1.out.2⟩
end Go.Proofs.YtogdeaaphdlchaaGreatDoor
/-
  How many rows are independent does not hang on which of them are taken first. Plain reckoning over the field.
-/
namespace Go.Proofs.YtogdeaaphdlchaaGreatDoor.Gf

def byteV (v : Nat → Nat) : Prop := ∀ j, v j < 256
/-- u plus a times r -/
def addV (u : Nat → Nat) (a : Nat) (r : Nat → Nat) : Nat → Nat := fun j => u j ^^^ gm a (r j)
/-- what rows span: the least that holds nought and takes multiples of the rows -/
def Span (R : (Nat → Nat) → Prop) (v : Nat → Nat) : Prop := ∀ S : (Nat → Nat) → Prop, S (fun _ => 0) → (∀ a r u, a < 256 → R r → S u → S (addV u a r)) → S v
theorem Span.zero (R : (Nat → Nat) → Prop) : Span R (fun _ => 0) := fun _ h0 _ => h0
theorem Span.step {R : (Nat → Nat) → Prop} {u r : Nat → Nat} {a : Nat} (hu : Span R u) (ha : a < 256) (hr : R r) : Span R (addV u a r) := fun S h0 hs => hs a r u ha hr (hu S h0 hs)
theorem Span.byte {R : (Nat → Nat) → Prop} {v : Nat → Nat} (h : Span R v) : byteV v :=
  h byteV (fun _ => by show 0 < 256; decide) (fun _ _ _ ha _ hu j => xlt (hu j) (gm_lt _ ha))
theorem addV_zero (u : Nat → Nat) (r : Nat → Nat) : addV u 0 r = u := by funext j; simp [addV, zero_gm]
theorem Span.mem {R : (Nat → Nat) → Prop} {r : Nat → Nat} (hb : byteV r) (hr : R r) : Span R r := by
  have := Span.step (Span.zero R) (a := 1) (by decide) hr
  have e : addV (fun _ => 0) 1 r = r := by
    funext j
    show 0 ^^^ gm 1 (r j) = r j
    rw [gm_comm (by decide) (hb j), gm_one _ (hb j), Nat.zero_xor]
  rw [e] at this; exact this
/-- sums of what is spanned are spanned, and multiples -/
theorem Span.add {R : (Nat → Nat) → Prop} (hR : ∀ r, R r → byteV r) {u v : Nat → Nat} (hu : Span R u) {b : Nat} (hb : b < 256) (hv : Span R v) : Span R (addV u b v) := by
  refine hv (fun x => Span R (addV u b x)) ?_ ?_
  · have e : addV u b (fun _ => 0) = u := by funext j; simp [addV, gm_zero]
    show Span R (addV u b (fun _ => 0))
    rw [e]; exact hu
  · intro a r x ha hr hx
    have e : addV u b (addV x a r) = addV (addV u b x) (gm b a) r := by
      funext j
      show u j ^^^ gm b (x j ^^^ gm a (r j)) = (u j ^^^ gm b (x j)) ^^^ gm (gm b a) (r j)
      rw [gm_add, gm_assoc hb ha (hR r hr j), Nat.xor_assoc]
    show Span R (addV u b (addV x a r))
    rw [e]
    exact hx.step (gm_lt _ hb) hr
theorem Span.sub {R R' : (Nat → Nat) → Prop} (hR : ∀ r, R r → byteV r) (h : ∀ r, R' r → Span R r) {v : Nat → Nat} (hv : Span R' v) : Span R v :=
  hv (Span R) (Span.zero R) (fun _ r _ ha hr hu => Span.add hR hu ha (h r hr))
/-- a place at which all rows are nought -/
theorem Span.nought {R : (Nat → Nat) → Prop} {c : Nat} (h : ∀ r, R r → r c = 0) {v : Nat → Nat} (hv : Span R v) : v c = 0 :=
  hv (fun x => x c = 0) rfl (fun a r u _ hr (hu : u c = 0) => by show u c ^^^ gm a (r c) = 0; rw [hu, h r hr, gm_zero]; exact Nat.xor_self 0)
/-- one row is worked off the others: what they span then is what they spanned, as far as it is nought at that place -/
theorem Span.worked {R R1 : (Nat → Nat) → Prop} {p : Nat → Nat} {c : Nat} (hR : ∀ r, R r → byteV r) (hp : R p) (hpc : p c ≠ 0)
    (h1 : ∀ r, R1 r → ∃ q f, R q ∧ f < 256 ∧ r = addV q f p ∧ r c = 0)
    (h2 : ∀ q, R q → q = p ∨ ∃ f r, f < 256 ∧ R1 r ∧ q = addV r f p) (v : Nat → Nat) : Span R1 v ↔ Span R v ∧ v c = 0 := by
  have hR1 : ∀ r, R1 r → byteV r := by
    intro r hr
    obtain ⟨q, f, hq, hf, rfl, _⟩ := h1 r hr
    exact fun j => xlt (hR q hq j) (gm_lt _ hf)
  constructor
  · intro hv
    refine ⟨Span.sub hR (fun r hr => ?_) hv, Span.nought (fun r hr => ?_) hv⟩
    · obtain ⟨q, f, hq, hf, rfl, _⟩ := h1 r hr
      exact (Span.mem (hR q hq) hq).step hf hp
    · obtain ⟨q, f, _, _, _, h⟩ := h1 r hr
      exact h
  · rintro ⟨hv, hc⟩
    have key : ∃ b, b < 256 ∧ Span R1 (addV v b p) := by
      refine hv (fun x => ∃ b, b < 256 ∧ Span R1 (addV x b p)) ⟨0, by decide, by rw [addV_zero]; exact Span.zero R1⟩ ?_
      rintro a q u ha hq ⟨b, hb, hu⟩
      rcases h2 q hq with rfl | ⟨f, r, hf, hr, rfl⟩
      · refine ⟨b ^^^ a, xlt hb ha, ?_⟩
        have e : addV (addV u a q) (b ^^^ a) q = addV u b q := by
          funext j
          show (u j ^^^ gm a (q j)) ^^^ gm (b ^^^ a) (q j) = u j ^^^ gm b (q j)
          rw [add_gm _ hb ha, Nat.xor_assoc, Nat.xor_comm (gm b (q j)), ← Nat.xor_assoc (gm a (q j)), Nat.xor_self, Nat.zero_xor]
        rw [e]; exact hu
      · refine ⟨b ^^^ gm a f, xlt hb (gm_lt _ ha), ?_⟩
        have e : addV (addV u a (addV r f p)) (b ^^^ gm a f) p = addV (addV u b p) a r := by
          funext j
          show (u j ^^^ gm a (r j ^^^ gm f (p j))) ^^^ gm (b ^^^ gm a f) (p j) = (u j ^^^ gm b (p j)) ^^^ gm a (r j)
          rw [gm_add, add_gm _ hb (gm_lt _ ha), gm_assoc ha hf (hR p hp j)]
          generalize gm a (gm f (p j)) = t
          generalize gm b (p j) = s
          generalize gm a (r j) = y
          generalize u j = z
          apply Nat.eq_of_testBit_eq
          intro i
          simp only [Nat.testBit_xor]
          cases z.testBit i <;> cases y.testBit i <;> cases t.testBit i <;> cases s.testBit i <;> rfl
        rw [e]; exact hu.step ha hr
    obtain ⟨b, hb, hs⟩ := key
    have h0 := Span.nought (fun r hr => by obtain ⟨q, f, _, _, _, h⟩ := h1 r hr; exact h) hs
    have hb0 : gm b (p c) = 0 := by
      have : v c ^^^ gm b (p c) = 0 := h0
      rwa [hc, Nat.zero_xor] at this
    have hbz : b = 0 := by
      have hpl := hR p hp c
      have hi := gi_lt hpl
      have e := gm_assoc hb hpl hi
      rw [hb0, zero_gm, gm_gi _ hpl hpc, gm_one b hb] at e
      exact e.symm
    rw [hbz, addV_zero] at hs
    exact hs

/-- so many rows are taken, column by column, from c on -/
def Taken : Nat → ((Nat → Nat) → Prop) → Nat → Nat → Prop
  | 0, _, _, k => k = 0
  | n + 1, R, c, k => ((∀ r, R r → r c = 0) ∧ Taken n R (c + 1) k) ∨ (∃ p, R p ∧ p c ≠ 0) ∧ ∃ R1, (∀ r, R1 r → byteV r) ∧ (∀ v, Span R1 v ↔ Span R v ∧ v c = 0) ∧ ∃ k', k = k' + 1 ∧ Taken n R1 (c + 1) k'
/-- how many are taken hangs on what is spanned alone -/
theorem Taken.unique : ∀ n (R R' : (Nat → Nat) → Prop) (c k k' : Nat), (∀ r, R r → byteV r) → (∀ r, R' r → byteV r) → (∀ v, Span R v ↔ Span R' v) → Taken n R c k → Taken n R' c k' → k = k'
  | 0, _, _, _, _, _, _, _, _, h, h' => by rw [h, h']
  | n + 1, R, R', c, k, k', hb, hb', hs, h, h' => by
    rcases h with ⟨hz, h⟩ | ⟨⟨p, hp, hpc⟩, R1, hb1, h1, k1, rfl, h⟩
    · rcases h' with ⟨_, h'⟩ | ⟨⟨p, hp, hpc⟩, _⟩
      · exact Taken.unique n R R' (c + 1) k k' hb hb' hs h h'
      · exact absurd (Span.nought hz ((hs p).2 (Span.mem (hb' p hp) hp))) hpc
    · rcases h' with ⟨hz, _⟩ | ⟨_, R1', hb1', h1', k1', rfl, h'⟩
      · exact absurd (Span.nought hz ((hs p).1 (Span.mem (hb p hp) hp))) hpc
      · have := Taken.unique n R1 R1' (c + 1) k1 k1' hb1 hb1' (fun v => by rw [h1, h1', hs]) h h'
        omega
theorem Taken.none : ∀ n (R : (Nat → Nat) → Prop) (c : Nat), (∀ j, c ≤ j → ∀ r, R r → r j = 0) → Taken n R c 0
  | 0, _, _, _ => rfl
  | n + 1, R, c, h => .inl ⟨h c (Nat.le_refl _), Taken.none n R (c + 1) (fun j hj => h j (by omega))⟩
end Go.Proofs.YtogdeaaphdlchaaGreatDoor.Gf
/-
  Rows that are worked off one another: one step, whichever row is taken.
-/
namespace Go.Proofs.YtogdeaaphdlchaaGreatDoor.Gf

def vec (l : List Nat) : Nat → Nat := fun j => l.getD j 0
/-- the rows from r on -/
def Rem (T : List (List Nat)) (r : Nat) : (Nat → Nat) → Prop := fun v => ∃ i, ∃ h : i < T.length, r ≤ i ∧ v = vec T[i]
theorem vec_byte {l : List Nat} (h : ∀ x ∈ l, x < 256) : byteV (vec l) := by
  intro j
  unfold vec
  by_cases hj : j < l.length
  · have e : l.getD j 0 = l[j] := by simp [hj]
    rw [e]; exact h _ (List.getElem_mem hj)
  · have e : l.getD j 0 = 0 := by simp [List.getElem?_eq_none (Nat.not_lt.1 hj)]
    rw [e]; decide
theorem rem_byte {T : List (List Nat)} (h : ∀ l ∈ T, ∀ x ∈ l, x < 256) (r : Nat) : ∀ v, Rem T r v → byteV v := by
  rintro v ⟨i, hi, _, rfl⟩
  exact vec_byte (h _ (List.getElem_mem hi))
theorem addV_twice (q p : Nat → Nat) (f : Nat) : addV (addV q f p) f p = q := by
  funext j
  show (q j ^^^ gm f (p j)) ^^^ gm f (p j) = q j
  rw [Nat.xor_assoc, Nat.xor_self, Nat.xor_zero]
theorem taken_skip {n c k r : Nat} {T : List (List Nat)} (h : ∀ i (hi : i < T.length), r ≤ i → vec T[i] c = 0) (ht : Taken n (Rem T r) (c + 1) k) : Taken (n + 1) (Rem T r) c k :=
  .inl ⟨by rintro v ⟨i, hi, hr, rfl⟩; exact h i hi hr, ht⟩
theorem taken_pivot {n c k r p : Nat} {T T' : List (List Nat)} (hb : ∀ l ∈ T, ∀ x ∈ l, x < 256) (hb' : ∀ l ∈ T', ∀ x ∈ l, x < 256) (hlen : T'.length = T.length) (hrp : r ≤ p) (hp : p < T.length) (hpc : vec T[p] c ≠ 0)
    (hrest : ∀ i (hi : i < T'.length), r < i → ∃ f, ∃ h : (if i = p then r else i) < T.length, f < 256 ∧ vec T'[i] = addV (vec T[if i = p then r else i]) f (vec T[p]) ∧ vec T'[i] c = 0)
    (ht : Taken n (Rem T' (r + 1)) (c + 1) k) : Taken (n + 1) (Rem T r) c (k + 1) := by
  have hR := rem_byte hb r
  refine .inr ⟨⟨vec T[p], ⟨p, hp, hrp, rfl⟩, hpc⟩, Rem T' (r + 1), rem_byte hb' (r + 1), ?_, k, rfl, ht⟩
  refine Span.worked (p := vec T[p]) hR ⟨p, hp, hrp, rfl⟩ hpc ?_ ?_
  · rintro v ⟨i, hi, hri, rfl⟩
    obtain ⟨f, h, hf, e, hc⟩ := hrest i hi (by omega)
    exact ⟨_, f, ⟨_, h, by split <;> omega, rfl⟩, hf, e, hc⟩
  · rintro q ⟨i, hi, hri, rfl⟩
    by_cases e : i = p
    · subst e; exact .inl rfl
    · right
      by_cases e2 : i = r
      · subst e2
        obtain ⟨f, h, hf, e3, _⟩ := hrest p (by omega) (by omega)
        simp only [if_pos] at e3
        refine ⟨f, vec T'[p], hf, ⟨p, by omega, by omega, rfl⟩, ?_⟩
        rw [e3, addV_twice]
      · obtain ⟨f, h, hf, e3, _⟩ := hrest i (by omega) (by omega)
        simp only [if_neg e] at e3
        refine ⟨f, vec T'[i], hf, ⟨i, by omega, by omega, rfl⟩, ?_⟩
        rw [e3, addV_twice]
theorem taken_done {n c r : Nat} {T : List (List Nat)} (h : ∀ l ∈ T, l.length ≤ c) : Taken n (Rem T r) c 0 :=
  Taken.none n _ c (by
    rintro j hj v ⟨i, hi, _, rfl⟩
    unfold vec
    have := h _ (List.getElem_mem hi)
    simp [List.getElem?_eq_none (show (T[i]).length ≤ j by omega)])
/-- the multiple by which a row is worked off -/
theorem off_zero {x y : Nat} (hx : x < 256) (hy : y < 256) (h : y ≠ 0) : x ^^^ gm (gm x (gi y)) y = 0 := by
  rw [gm_assoc hx (gi_lt hy) hy, gm_comm (gi_lt hy) hy, gm_gi y hy h, gm_one x hx, Nat.xor_self]
/-- the rank of rows: the same, whichever way it is worked out -/
def RankIs (D : List (List Nat)) (k : Nat) : Prop := Taken 64 (Rem D 0) 0 k
theorem RankIs.unique {D : List (List Nat)} (hb : ∀ l ∈ D, ∀ x ∈ l, x < 256) {k k' : Nat} (h : RankIs D k) (h' : RankIs D k') : k = k' :=
  Taken.unique 64 _ _ 0 k k' (rem_byte hb 0) (rem_byte hb 0) (fun _ => Iff.rfl) h h'
theorem rem_congr {T T' : List (List Nat)} (hl : T.length = T'.length) (h : ∀ i (h1 : i < T.length) (h2 : i < T'.length), vec T[i] = vec T'[i]) (r : Nat) : Rem T r = Rem T' r := by
  funext v
  apply propext
  constructor
  · rintro ⟨i, hi, hr, rfl⟩; exact ⟨i, by omega, hr, h i hi (by omega)⟩
  · rintro ⟨i, hi, hr, rfl⟩; exact ⟨i, by omega, hr, (h i (by omega) hi).symm⟩
end Go.Proofs.YtogdeaaphdlchaaGreatDoor.Gf
