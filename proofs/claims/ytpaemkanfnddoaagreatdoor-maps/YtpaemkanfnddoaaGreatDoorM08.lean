import Derived.Test.YtpaemkanfnddoaaGreatDoorM07
set_option maxRecDepth 100000
set_option maxHeartbeats 8000000
namespace Go.Proofs.YtpaemkanfnddoaaGreatDoor
open Go.RowKit Go.Deep
variable {a : Act} {A : Arr} {ops : Array Oper} {Q : Exit → Act → World → Prop} {F : Foot} {p d b v D L G ps ho : Nat} {w w' : World}
theorem find_ok (h : ArrAt w p A F) (hf : A.fit) (d b : Nat) (hd : d < A.n) (hb : b < A.nb) (hw : A.wait ≠ 0) (hl : A.lost d = false) :
 Calls Tryz.prog 164 #[.pointer (some ⟨p, 0, none⟩), .int .i64 d, .int .i64 b] w fun e w' => e = .returned (.tuple #[.pointer (some ⟨F.g, d * 4, none⟩), .nilIface]) ∧ w' = w := by
 obtain ⟨c0, c1, _, _⟩ := h.p_cells
 obtain ⟨d0, d1, d2, d3⟩ := h.drvs d hd
 have hn := hf.n
 have h0 := hf.nb
 have e1 : ¬ (d : Int) < 0 := by omega
 have e2 : ¬ (A.n : Int) ≤ (d : Int) := by omega
 have e2' : (d : Int) < (A.n : Int) := by omega
 have e3 : ¬ (b : Int) < 0 := by omega
 have e4 : ¬ (A.nb : Int) ≤ (b : Int) := by omega
 go_enter Tryz.func164, Tryz.ntmps164
 go_wp2
 go_ret2
 exact ⟨rfl, rfl⟩
theorem read_ok (h : ArrAt w p A F) (hf : A.fit) (d b : Nat) (hd : d < A.n) (hb : b < A.nb) (hw : A.wait ≠ 0) (hl : A.lost d = false) (h8 : A.bad d b = false) :
 Calls Tryz.prog 142 #[.pointer (some ⟨p, 0, none⟩), .int .i64 d, .int .i64 b] w fun e w' => e = .returned (.tuple #[.agg (blkA (A.blk d b)), .nilIface]) ∧
  ArrAt w' p (A.setReads d (wrap64 (A.reads d + 1))) F ∧ Outside (F.has p A.n) w w' := by
 have hz := zeroBlk
 have h0 := hf.len d b
 have hn := hf.n
 have hg := hf.nb
 have h1 := h.alloc (.cells (blkA zb) 240)
 have h4 := BlkAt.new w zb
 have hh := h.p_lt
 have hi := h.g_lt
 have h5 : Outside (F.has p A.n) w (w.alloc (.cells (blkA zb) 240)) := Outside.alloc w _
 obtain ⟨w1, h9⟩ : ∃ w1, w.alloc (.cells (blkA zb) 240) = w1 := ⟨_, rfl⟩
 rw [h9] at h1 h4 h5
 have ha : (blkA zb).size = 64 := by rw [blkA_size, zb_len]
 go_enter Tryz.func142, Tryz.ntmps142
 go_wp2_with fail
 refine (find_ok h1 hf d b hd hb hw hl).mono ?_
 rintro e w' ⟨rfl, rfl⟩
 have h2 := h1.setReads d (wrap64 (A.reads d + 1))
 obtain ⟨d0, d1, d2, d3⟩ := h1.drvs d hd
 have hj := h1.unfrozen (d * 4 + 3)
 obtain ⟨w2, h3⟩ : ∃ w2, w'.setCell ⟨F.g, d * 4 + 3, none⟩ (.int .i64 (wrap64 (A.reads d + 1))) = w2 := ⟨_, rfl⟩
 rw [h3] at h2
 obtain ⟨q0, q1, q2, q3⟩ := h2.drvs d hd
 have qb : w2.cell? ⟨F.bd d, b, none⟩ = some (.bool (A.bad d b)) := h2.badC d b hd hb
 have qr : w2.rangeAt (F.bb d) (b * 64) (bts (A.blk d b)) := h2.range (hf.setReads _ _) d b hd hb
 have h6 : BlkAt w2 w.heap.size zb := h4.keep (by rw [← h3]; exact blk_setCell_other _ _ _ _ (by show w.heap.size ≠ F.g; omega))
 have h7 : Outside (F.has p A.n) w w2 := h5.trans (by rw [← h3]; exact Outside.setCell _ _ _ (.inr (.inl rfl)))
 have e3 : ¬ (b : Int) < 0 := by omega
 have e4 : (b : Int) < (A.nb : Int) := by omega
 go_wp2_with (first | (refine bl_loadMid rfl (.tmp 46) rfl (F.bb d) (b * 64) (A.blk d b) rfl qr h0 ?_) | (refine bl_store rfl (.tmp 6) (.tmp 47) rfl w.heap.size (A.blk d b) zb rfl rfl h6 zb_len h0 ?_))
 have hc := h6.setRow (A.blk d b)
 have he := blk_loadVar hc h0
 refine bodyPost_ret (v := .tuple #[.agg (blkA (A.blk d b)), .nilIface]) (results_cell_slot Tryz.results142 _ _ _ _ _ rfl rfl he) rfl ?_
 refine ⟨rfl, h2.keep fun k hk => ?_, h7.later (T := fun k => k = w.heap.size) (Outside.setRow _ _ _ rfl) fun k hk e => absurd e (by omega)⟩
 · have := h.has_lt (k := k) hk
   exact (grown_setRow' w2 w.heap.size (blkA (A.blk d b))).block k (Nat.lt_of_lt_of_le this h7.size) (fun e => by cases e; omega)
noncomputable def RWr : Array Oper := ((Tryz.f139.body.bind (rgf · 9))).getD #[]
def shWr : List (Op × Option Nat × List Nat) := [(Op.move (.tmp 9), some 49, []),
 (Op.nilCheck (.tmp 49), some 50, [0]),
 (Op.fieldAddr 76 (.tmp 50) 1, some 51, [1]),
 (Op.load 73 (.tmp 51), some 52, [2]),
 (Op.move (.tmp 2), some 53, []),
 (Op.move (.tmp 9), some 54, []),
 (Op.nilCheck (.tmp 54), some 55, [5]),
 (Op.fieldAddr 76 (.tmp 55) 2, some 56, [6]),
 (Op.load 74 (.tmp 56), some 57, [7]),
 (Op.move (.tmp 2), some 58, []),
 (Op.load 240 (.tmp 7), some 59, []),
 (Op.indexAddr 73 (.tmp 52) (.tmp 53), some 60, [3, 4, 0, 1, 2, 3, 4, 8, 10]),
 (Op.store 240 (.tmp 60) (.tmp 59), none, [11, 10, 0, 1, 2, 3, 4, 8, 10]),
 (Op.indexAddr 74 (.tmp 57) (.tmp 58), some 61, [8, 9, 0, 1, 2, 3, 4, 5, 6, 7, 8, 9, 10, 11, 12]),
 (Op.store 4 (.tmp 61) (Operand.const (Value.bool false)), none, [13, 12, 0, 1, 2, 3, 4, 5, 6, 7, 8, 9, 10, 11, 12])]
theorem RWr_shape : RegShape RWr 49 62 shWr := regShape (by kernel_rfl) (by kernel_rfl)
def vsWr (F : Foot) (nb d b : Nat) (l : List Nat) : List Value := [.pointer (some ⟨F.g, d * 4, none⟩), .pointer (some ⟨F.g, d * 4, none⟩), .pointer (some ⟨F.g, d * 4 + 1, none⟩), .slice (some ⟨F.bb d, 0, none⟩) nb nb, .int .i64 b,
 .pointer (some ⟨F.g, d * 4, none⟩), .pointer (some ⟨F.g, d * 4, none⟩), .pointer (some ⟨F.g, d * 4 + 2, none⟩), .slice (some ⟨F.bd d, 0, none⟩) nb nb, .int .i64 b, .agg (blkA l), .pointer (some ⟨F.bb d, b * 64, none⟩), undef, .pointer (some ⟨F.bd d, b, none⟩), undef]
def wsWr (F : Foot) (nb d b : Nat) (l : List Nat) : List Value := [.pointer (some ⟨F.g, d * 4, none⟩), .pointer (some ⟨F.g, d * 4, none⟩), .pointer (some ⟨F.g, d * 4 + 1, none⟩), .slice (some ⟨F.bb d, 0, none⟩) nb nb, .int .i64 b, .pointer (some ⟨F.g, d * 4, none⟩), .pointer (some ⟨F.g, d * 4, none⟩), .pointer (some ⟨F.g, d * 4 + 2, none⟩), .slice (some ⟨F.bd d, 0, none⟩) nb nb, .int .i64 b, .agg (blkA l), .pointer (some ⟨F.bb d, b * 64, none⟩), .pointer (some ⟨F.bd d, b, none⟩)]
def arWr (A : Arr) (d b : Nat) (l : List Nat) (D : Nat → Bool) : Arr := if D 14 = true then (A.setBlk d b l).setBad d b false else if D 12 = true then A.setBlk d b l else A
theorem arWr_upd (A : Arr) (d b : Nat) (l : List Nat) (D : Nat → Bool) (i : Nat) (h1 : i ≠ 12) (h2 : i ≠ 14) : arWr A d b l (upd D i) = arWr A d b l D := by
 unfold arWr upd
 rw [if_neg (fun e : 14 = i => h2 e.symm), if_neg (fun e : 12 = i => h1 e.symm)]
theorem arWr_n (A : Arr) (d b : Nat) (l : List Nat) (D : Nat → Bool) : (arWr A d b l D).n = A.n ∧ (arWr A d b l D).nb = A.nb := by
 unfold arWr
 split
 · exact ⟨rfl, rfl⟩
 · split <;> exact ⟨rfl, rfl⟩
theorem write_region {box : Nat} {l : List Nat} (h9 : RWr = ops) (h : ArrAt w p A F) (hf : A.fit) (hd : d < A.n) (hb : b < A.nb) (hl : l.length = 64)
 (ha : BlkAt w box l) (he : ¬ F.has p A.n box) (hh : a.tmps.size = 62) (e9 : a.eval (.tmp 9) = .pointer (some ⟨F.g, d * 4, none⟩)) (e2 : a.eval (.tmp 2) = .int .i64 b) (e7 : a.eval (.tmp 7) = .pointer (some ⟨box, 0, none⟩))
 (hQ : ∀ w', ArrAt w' p ((A.setBlk d b l).setBad d b false) F → Outside (F.has p A.n) w w' →
  Q .normal (Act.putFrom a 49 (wsWr F A.nb d b l)) w') :
 (Code.region 9 ops true).wp Tryz.prog Q a w := by
 subst h9
 have hj := hf.nb
 have e3 : ¬ (b : Int) < 0 := by omega
 have e4 : (b : Int) < (A.nb : Int) := by omega
 refine region_facts (by kernel_rfl) RWr_shape a w (by omega) (fun i v _ => v = (vsWr F A.nb d b l).getD i undef) (fun D w' => ArrAt w' p (arWr A d b l D) F ∧ BlkAt w' box l ∧ Outside (F.has p A.n) w w') ⟨(h.keep fun _ _ => rfl : ArrAt w.drew p A F), ha, Outside.drew w⟩ ?_ ?_
 · intro i hi
   have h4 : ∀ (i : Nat), i ≠ 12 → i ≠ 14 → ∀ (D : Nat → Bool) (w' : World), (ArrAt w' p (arWr A d b l D) F ∧ BlkAt w' box l ∧ Outside (F.has p A.n) w w') → (ArrAt w' p (arWr A d b l (upd D i)) F ∧ BlkAt w' box l ∧ Outside (F.has p A.n) w w') := fun i h1 h2 D w' q => by rw [arWr_upd A d b l D i h1 h2]; exact q
   match i, hi with
   | 0, _ => exact fun o a' w' D hg ho h3 hk h5 h6 h0 hB hV => op_val (run_op_move ho ((hk.slot 9 (by omega)).trans e9) w') h3 ⟨h4 0 (by decide) (by decide) D w' hB, rfl, kq⟩
   | 1, _ =>
    intro o a' w' D hg ho h3 hk h5 h6 h0 hB hV
    have v0 : a'.eval (.tmp 49) = .pointer (some ⟨F.g, d * 4, none⟩) := hV 0 (h0 0 (by decide))
    exact op_val (v := .pointer (some ⟨F.g, d * 4, none⟩)) (by simp only [execOp, show o.op = Op.nilCheck (.tmp 49) from ho, v0]; go_simp) h3 ⟨h4 1 (by decide) (by decide) D w' hB, rfl, kq⟩
   | 2, _ =>
    intro o a' w' D hg ho h3 hk h5 h6 h0 hB hV
    have v0 : a'.eval (.tmp 50) = .pointer (some ⟨F.g, d * 4, none⟩) := hV 1 (h0 1 (by decide))
    exact op_val (v := .pointer (some ⟨F.g, d * 4 + 1, none⟩)) (by simp only [execOp, show o.op = Op.fieldAddr 76 (.tmp 50) 1 from ho, v0]; go_simp) h3 ⟨h4 2 (by decide) (by decide) D w' hB, rfl, kq⟩
   | 3, _ =>
    intro o a' w' D hg ho h3 hk h5 h6 h0 hB hV
    have v0 : a'.eval (.tmp 51) = .pointer (some ⟨F.g, d * 4 + 1, none⟩) := hV 2 (h0 2 (by decide))
    have c := (hB.1.drvs d (by rw [(arWr_n A d b l D).1]; exact hd)).2.1
    rw [(arWr_n A d b l D).2] at c
    exact op_val (v := .slice (some ⟨F.bb d, 0, none⟩) A.nb A.nb) (by simp only [execOp, show o.op = Op.load 73 (.tmp 51) from ho, v0]; go_simp) h3 ⟨h4 3 (by decide) (by decide) D w' hB, rfl, kq⟩
   | 4, _ => exact fun o a' w' D hg ho h3 hk h5 h6 h0 hB hV => op_val (run_op_move ho ((hk.slot 2 (by omega)).trans e2) w') h3 ⟨h4 4 (by decide) (by decide) D w' hB, rfl, kq⟩
   | 5, _ => exact fun o a' w' D hg ho h3 hk h5 h6 h0 hB hV => op_val (run_op_move ho ((hk.slot 9 (by omega)).trans e9) w') h3 ⟨h4 5 (by decide) (by decide) D w' hB, rfl, kq⟩
   | 6, _ =>
    intro o a' w' D hg ho h3 hk h5 h6 h0 hB hV
    have v0 : a'.eval (.tmp 54) = .pointer (some ⟨F.g, d * 4, none⟩) := hV 5 (h0 5 (by decide))
    exact op_val (v := .pointer (some ⟨F.g, d * 4, none⟩)) (by simp only [execOp, show o.op = Op.nilCheck (.tmp 54) from ho, v0]; go_simp) h3 ⟨h4 6 (by decide) (by decide) D w' hB, rfl, kq⟩
   | 7, _ =>
    intro o a' w' D hg ho h3 hk h5 h6 h0 hB hV
    have v0 : a'.eval (.tmp 55) = .pointer (some ⟨F.g, d * 4, none⟩) := hV 6 (h0 6 (by decide))
    exact op_val (v := .pointer (some ⟨F.g, d * 4 + 2, none⟩)) (by simp only [execOp, show o.op = Op.fieldAddr 76 (.tmp 55) 2 from ho, v0]; go_simp) h3 ⟨h4 7 (by decide) (by decide) D w' hB, rfl, kq⟩
   | 8, _ =>
    intro o a' w' D hg ho h3 hk h5 h6 h0 hB hV
    have v0 : a'.eval (.tmp 56) = .pointer (some ⟨F.g, d * 4 + 2, none⟩) := hV 7 (h0 7 (by decide))
    have c := (hB.1.drvs d (by rw [(arWr_n A d b l D).1]; exact hd)).2.2.1
    rw [(arWr_n A d b l D).2] at c
    exact op_val (v := .slice (some ⟨F.bd d, 0, none⟩) A.nb A.nb) (by simp only [execOp, show o.op = Op.load 74 (.tmp 56) from ho, v0]; go_simp) h3 ⟨h4 8 (by decide) (by decide) D w' hB, rfl, kq⟩
   | 9, _ => exact fun o a' w' D hg ho h3 hk h5 h6 h0 hB hV => op_val (run_op_move ho ((hk.slot 2 (by omega)).trans e2) w') h3 ⟨h4 9 (by decide) (by decide) D w' hB, rfl, kq⟩
   | 10, _ =>
    intro o a' w' D hg ho h3 hk h5 h6 h0 hB hV
    have v0 : a'.eval (.tmp 7) = .pointer (some ⟨box, 0, none⟩) := (hk.slot 7 (by omega)).trans e7
    exact op_val (v := .agg (blkA l)) (by simp [execOp, show o.op = Op.load 240 (.tmp 7) from ho, v0, blk_loadAt hB.2.1 hl]) h3 ⟨h4 10 (by decide) (by decide) D w' hB, rfl, kq⟩
   | 11, _ =>
    intro o a' w' D hg ho h3 hk h5 h6 h0 hB hV
    have v0 : a'.eval (.tmp 52) = .slice (some ⟨F.bb d, 0, none⟩) A.nb A.nb := hV 3 (h0 3 (by decide))
    have v1 : a'.eval (.tmp 53) = .int .i64 b := hV 4 (h0 4 (by decide))
    exact op_val (v := .pointer (some ⟨F.bb d, b * 64, none⟩)) (by simp only [execOp, show o.op = Op.indexAddr 73 (.tmp 52) (.tmp 53) from ho, v0, v1]; go_simp) h3 ⟨h4 11 (by decide) (by decide) D w' hB, rfl, kq⟩
   | 12, _ =>
    intro o a' w' D hg ho h3 hk h5 h6 h0 hB hV
    have v0 : a'.eval (.tmp 60) = .pointer (some ⟨F.bb d, b * 64, none⟩) := hV 11 (h0 11 (by decide))
    have v1 : a'.eval (.tmp 59) = .agg (blkA l) := hV 10 (h0 10 (by decide))
    have h7 : D 14 = false := by
     cases q : D 14 with
     | false => rfl
     | true => have := (h6 14 q).2 12 (by decide); rw [h5] at this; cases this
    have hA : arWr A d b l D = A := by unfold arWr; rw [if_neg (by rw [h7]; decide), if_neg (by rw [h5]; decide)]
    have h8 : arWr A d b l (upd D 12) = A.setBlk d b l := by unfold arWr upd; rw [if_neg (by rw [if_neg (by decide), h7]; decide), if_pos (by rw [if_pos rfl])]
    rw [hA] at hB
    refine op_skip (w' := w'.setCells (F.bb d) (b * 64) (bts l)) ?_ ⟨?_, rfl, kq⟩
    · have := run_storeAt_mid (P := Tryz.prog) w' (F.bb d) (b * 64) 240 (blkA l) (by rw [blkA_size, hl]; exact hB.1.there d b hd hb) (blkA_info hl) (blkA_one l)
      rw [blkA_list] at this
      simp [execOp, show o.op = Op.store 240 (.tmp 60) (.tmp 59) from ho, v0, v1, this]
    · show ArrAt _ p (arWr A d b l (upd D 12)) F ∧ _ ∧ _
      rw [h8]
      refine ⟨hB.1.setBlk d b hd l hl, hB.2.1.keep (heap_setCells_other _ _ _ _ _ (fun e => he (.inr (.inr ⟨d, hd, .inl e⟩)))), hB.2.2.trans (Outside.setCells _ _ _ _ (.inr (.inr ⟨d, hd, .inl rfl⟩)))⟩
   | 13, _ =>
    intro o a' w' D hg ho h3 hk h5 h6 h0 hB hV
    have v0 : a'.eval (.tmp 57) = .slice (some ⟨F.bd d, 0, none⟩) A.nb A.nb := hV 8 (h0 8 (by decide))
    have v1 : a'.eval (.tmp 58) = .int .i64 b := hV 9 (h0 9 (by decide))
    exact op_val (v := .pointer (some ⟨F.bd d, b, none⟩)) (by simp only [execOp, show o.op = Op.indexAddr 74 (.tmp 57) (.tmp 58) from ho, v0, v1]; go_simp) h3 ⟨h4 13 (by decide) (by decide) D w' hB, rfl, kq⟩
   | 14, _ =>
    intro o a' w' D hg ho h3 hk h5 h6 h0 hB hV
    have v0 : a'.eval (.tmp 61) = .pointer (some ⟨F.bd d, b, none⟩) := hV 13 (h0 13 (by decide))
    have hc : D 12 = true := h0 12 (by decide)
    have hA : arWr A d b l D = A.setBlk d b l := by unfold arWr; rw [if_neg (by rw [h5]; decide), if_pos hc]
    have h8 : arWr A d b l (upd D 14) = (A.setBlk d b l).setBad d b false := by unfold arWr upd; rw [if_pos (by rw [if_pos rfl])]
    rw [hA] at hB
    have c := hB.1.badC d b hd hb
    have fz := (hB.1.bad d hd).frozen b
    refine op_skip (w' := w'.setCell ⟨F.bd d, b, none⟩ (.bool false)) ?_ ⟨?_, rfl, kq⟩
    · simp only [execOp, show o.op = Op.store 4 (.tmp 61) (.const (.bool false)) from ho, v0]; go_simp
    · show ArrAt _ p (arWr A d b l (upd D 14)) F ∧ _ ∧ _
      rw [h8]
      exact ⟨hB.1.setBad d b hd false, hB.2.1.keep (blk_setCell_other _ _ _ _ (fun e => he (.inr (.inr ⟨d, hd, .inr e⟩)))), hB.2.2.trans (Outside.setCell _ _ _ (.inr (.inr ⟨d, hd, .inr rfl⟩)))⟩
   | n + 15, hn => exact absurd hn (by show ¬ n + 15 < 15; omega)
 · rintro a' w' hk ⟨D, hD, hA, _, hO⟩ hV
   have h8 : arWr A d b l D = (A.setBlk d b l).setBad d b false := by unfold arWr; rw [if_pos (hD 14 (by decide))]
   rw [h8] at hA
   have hv : ∀ i : Nat, i < 13 → a'.eval (.tmp (49 + i)) = (wsWr F A.nb d b l).getD i undef := by
    intro i hi
    match i, hi with
    | 0, _ => exact hV 0 (by decide)
    | 1, _ => exact hV 1 (by decide)
    | 2, _ => exact hV 2 (by decide)
    | 3, _ => exact hV 3 (by decide)
    | 4, _ => exact hV 4 (by decide)
    | 5, _ => exact hV 5 (by decide)
    | 6, _ => exact hV 6 (by decide)
    | 7, _ => exact hV 7 (by decide)
    | 8, _ => exact hV 8 (by decide)
    | 9, _ => exact hV 9 (by decide)
    | 10, _ => exact hV 10 (by decide)
    | 11, _ => exact hV 11 (by decide)
    | 12, _ => exact hV 13 (by decide)
    | n + 13, hn => exact absurd hn (by show ¬ n + 13 < 13; omega)
   rw [hk.out (wsWr F A.nb d b l) rfl (by omega) hv]
   exact hQ w' hA hO
theorem write_ok (h : ArrAt w p A F) (hf : A.fit) (d b : Nat) (hd : d < A.n) (hb : b < A.nb) (hw : A.wait < 0) (hl : A.lost d = false) (l : List Nat) (h0 : l.length = 64) :
 Calls Tryz.prog 139 #[.pointer (some ⟨p, 0, none⟩), .int .i64 d, .int .i64 b, .agg (blkA l)] w fun e w' => e = .returned .nilIface ∧
  ArrAt w' p ((A.setBlk d b l).setBad d b false) F ∧ Outside (F.has p A.n) w w' := by
 have h1 := h.alloc (.cells (blkA l) 240)
 have h2 := BlkAt.new w l
 have h3 : Outside (F.has p A.n) w (w.alloc (.cells (blkA l) 240)) := Outside.alloc w _
 have h4 : ¬ F.has p A.n w.heap.size := fun q => by have := h.has_lt q; omega
 obtain ⟨w1, h5⟩ : ∃ w1, w.alloc (.cells (blkA l) 240) = w1 := ⟨_, rfl⟩
 rw [h5] at h1 h2 h3
 have h6 : (blkA l).size = 64 := by rw [blkA_size, h0]
 obtain ⟨c0, c1, _, _⟩ := h1.p_cells
 have h7 : ¬ 0 < A.wait := by omega
 go_enter Tryz.func139, Tryz.ntmps139
 go_wp2_with fail
 refine (find_ok h1 hf d b hd hb (by omega) hl).mono ?_
 rintro e w' ⟨rfl, rfl⟩
 go_wp2_with fail
 refine write_region (by kernel_rfl) h1 hf hd hb h0 h2 h4 rfl rfl rfl rfl ?_
 intro w3 hA hO
 rename_i hK
 refine hK _ _ ?_
 simp only [Act.putFrom, wsWr]
 go_wp2
 go_ret
 exact ⟨rfl, hA, h3.trans hO⟩
def VolAt (w : World) (v p D L G ps ho : Nat) : Prop := w.heap[v]? = some (.cells #[.pointer (some ⟨p, 0, none⟩), .int .i64 D, .int .i64 L, .int .i64 G, .pointer (some ⟨ps, 0, none⟩), .int .u64 ho] 121 (0, 0))
theorem VolAt.keep (h : VolAt w v p D L G ps ho) (e : w'.heap[v]? = w.heap[v]?) : VolAt w' v p D L G ps ho := e.trans h
theorem VolAt.lt (h : VolAt w v p D L G ps ho) : v < w.heap.size := (Array.getElem?_eq_some_iff.1 h).1
theorem VolAt.cells (h : VolAt w v p D L G ps ho) : w.cell? ⟨v, 0, none⟩ = some (.pointer (some ⟨p, 0, none⟩)) ∧ w.cell? ⟨v, 1, none⟩ = some (.int .i64 D) ∧ w.cell? ⟨v, 2, none⟩ = some (.int .i64 L) ∧ w.cell? ⟨v, 3, none⟩ = some (.int .i64 G) ∧ w.cell? ⟨v, 4, none⟩ = some (.pointer (some ⟨ps, 0, none⟩)) ∧ w.cell? ⟨v, 5, none⟩ = some (.int .u64 ho) := by
 have h' : w.heap[v]? = some (.cells #[.pointer (some ⟨p, 0, none⟩), .int .i64 D, .int .i64 L, .int .i64 G, .pointer (some ⟨ps, 0, none⟩), .int .u64 ho] 121 (0, 0)) := h
 simp [World.cell?, h']
theorem hvLaid.outside {S : Nat → Prop} (h : hvLaid w) (hO : Outside S w w') (hS : ¬ S 2) : hvLaid w' := fun j hj => by
 have := h j hj
 rw [← this]
 exact World.cell?_of_block (hO.block _ (block_lt_of_cell this) hS)
theorem is_nil (n : Int) (w : World) : Calls Tryz.prog 58 #[.nilIface, .iface 52 (.int .i64 n)] w fun e w' => e = .returned (.bool false) ∧ w' = w := by
 have h0 : ∀ d w, (Op.equalIn (d + 1) 49 .nilIface (.iface 52 (.int .i64 n))).run Tryz.prog w = .ok false w := fun d w => by
  simp only [Op.equalIn, Sem.run_bind, run_underlying Tryz.underlying49, Result.andThen_ok]
  rfl
 have he : ∀ w, (Op.equalIn 10000 49 .nilIface (.iface 52 (.int .i64 n))).run Tryz.prog w = .ok false w := fun w => h0 9999 w
 have hn : ∀ w, (binOp .eql 49 .nilIface (.iface 52 (.int .i64 n))).run Tryz.prog w = .ok (.bool false) w := fun w => by
  simp only [binOp]
  simp [Op.equal, Op.maxDepth, he]
 clear h0 he
 go_enter Tryz.func58, Tryz.ntmps58
 go_wp2
 go_ret
 exact ⟨rfl, rfl⟩
theorem stop_nil (w : World) : Calls Tryz.prog 141 #[.nilIface] w fun e w' => e = .returned (.tuple #[]) ∧ w' = w := by
 go_enter Tryz.func141, Tryz.ntmps141
 go_wp2_with fail
 refine (is_nil 13 w).mono ?_
 rintro e w' ⟨rfl, rfl⟩
 go_wp2
 first | go_end0 | skip
 exact ⟨rfl, rfl⟩
theorem volRead_ok (hV : VolAt w v p D L G ps ho) (h : ArrAt w p A F) (hf : A.fit) (d b : Nat) (hd : d < A.n) (hb : b < A.nb) (hw : A.wait ≠ 0) (hl : A.lost d = false) (h2 : A.bad d b = false)
 (r : Rec) (hr : r.ok) (hm : Makes r) (he : A.blk d b = r.blk) (hv : hvLaid w) (hg : ¬ F.has p A.n 2) :
 Calls Tryz.prog 118 #[.pointer (some ⟨v, 0, none⟩), .int .i64 d, .int .i64 b] w fun e w' => e = .returned (.tuple #[recV r, .nilIface]) ∧ ArrAt w' p (A.setReads d (wrap64 (A.reads d + 1))) F ∧ Outside (F.has p A.n) w w' := by
 obtain ⟨c0, _⟩ := hV.cells
 have hz := zeroBlk
 have hq : (blkA zb).size = 64 := by rw [blkA_size, zb_len]
 have hc := read_ok h hf d b hd hb hw hl h2
 rw [he] at hc
 obtain ⟨l, h3⟩ : ∃ l, r.blk = l := ⟨_, rfl⟩
 have h0 := blk_len hr
 rw [h3] at hc h0
 have HL := hide h3
 clear h3 he
 go_enter Tryz.func118, Tryz.ntmps118
 go_wp2_with fail
 refine hc.mono ?_
 rintro e w1 ⟨rfl, h4, h5⟩
 have h9 := BlkAt.new w1 zb
 have hs : (blkA l).size = 64 := by rw [blkA_size, h0]
 have ha := h4.alloc (.cells (blkA zb) 240)
 have hh : Outside (F.has p A.n) w (w1.alloc (.cells (blkA zb) 240)) := h5.trans (Outside.alloc _ _)
 have hi : ∀ k, F.has p A.n k → k ≠ w1.heap.size := fun k hk e => by have := h4.has_lt (k := k) hk; omega
 have H1 := hide4 h9 ha hh hi
 have hy := h5.size
 clear hc h4 h5 h9 ha hh hi c0
 go_wp2_with (first | (refine bl_store rfl (.tmp 8) (.tmp 20) rfl w1.heap.size l zb rfl rfl H1.out.1 zb_len h0 ?_) | (refine bl_load rfl (.tmp 8) rfl w1.heap.size l rfl (H1.out.1.setRow l) h0 ?_))
 have hx := H1.out.1.setRow l
 have h6 : ArrAt ((w1.alloc (.cells (blkA zb) 240)).setRow w1.heap.size (blkA l)) p (A.setReads d (wrap64 (A.reads d + 1))) F := H1.out.2.1.keep fun k hk => (grown_setRow' _ _ _).block k (H1.out.2.1.has_lt hk) (fun e => H1.out.2.2.2 k hk (by cases e; rfl))
 have h1 : Outside (F.has p A.n) w ((w1.alloc (.cells (blkA zb) 240)).setRow w1.heap.size (blkA l)) := H1.out.2.2.1.later (T := fun k => k = w1.heap.size) (Outside.setRow _ _ _ rfl) (fun k hk e => absurd e (by omega))
 obtain ⟨w3, hj⟩ : ∃ w3, (w1.alloc (.cells (blkA zb) 240)).setRow w1.heap.size (blkA l) = w3 := ⟨_, rfl⟩
 rw [hj] at h6 h1 ⊢
 have ho := of_ok r w3 hm hr (hv.outside h1 hg)
 rw [HL.out] at ho
 refine ho.mono ?_
 rintro e w4 ⟨rfl, h7⟩
 have hn := h6.below h7 (Nat.le_refl _)
 have hp : Outside (F.has p A.n) w w4 := h1.trans (Outside.of_all h7 _)
 have H4 := hide2 hn hp
 clear ho h7 hn hp h6 h1 hx hj H1
 obtain ⟨rv, h8⟩ : ∃ rv, recV r = rv := ⟨_, rfl⟩
 have HR := hide h8
 simp only [h8]
 clear h8
 go_wp2
 go_ret2
 exact ⟨by rw [HR.out]; rfl, H4.out.1, H4.out.2⟩
noncomputable def RVw : Array Oper := ((Tryz.f114.body.bind (rgf · 1))).getD #[]
def shVw : List (Op × Option Nat × List Nat) := [(Op.move (.tmp 0), some 10, []),
 (Op.nilCheck (.tmp 10), some 11, [0]),
 (Op.fieldAddr 121 (.tmp 11) 0, some 12, [1]),
 (Op.load 36 (.tmp 12), some 13, [2]),
 (Op.move (.tmp 1), some 14, []),
 (Op.move (.tmp 2), some 15, []),
 (Op.move (.tmp 3), some 16, []),
 (Op.call { callee := Callee.value (Operand.func 140), args := #[.tmp 16], argTypes := #[202] }, some 17, [6]),
 (Op.call { callee := Callee.value (Operand.func 139), args := #[.tmp 13, .tmp 14, .tmp 15, .tmp 17], argTypes := #[36, 3, 3, 240] }, some 18, [3, 4, 5, 7, 7]),
 (Op.assign (.tmp 18), some 9, [8, 8, 0, 1, 2, 3, 4, 5, 6, 7, 8])]
theorem RVw_shape : RegShape RVw 9 19 shVw := regShape (by kernel_rfl) (by kernel_rfl)
def vsVw (v p d b : Nat) (r : Rec) : List Value := [.pointer (some ⟨v, 0, none⟩), .pointer (some ⟨v, 0, none⟩), .pointer (some ⟨v, 0, none⟩), .pointer (some ⟨p, 0, none⟩), .int .i64 d, .int .i64 b, recV r, .agg (blkA r.blk), .nilIface, .nilIface]
def arVw (A : Arr) (d b : Nat) (r : Rec) (D : Nat → Bool) : Arr := if D 8 = true then (A.setBlk d b r.blk).setBad d b false else A
def BVw (w0 : World) (v p D L G ps ho : Nat) (A : Arr) (F : Foot) (d b : Nat) (r : Rec) (Dn : Nat → Bool) (w : World) : Prop := ArrAt w p (arVw A d b r Dn) F ∧ VolAt w v p D L G ps ho ∧ Outside (F.has p A.n) w0 w
theorem BVw_upd {w0 : World} {r : Rec} {Dn : Nat → Bool} (h : BVw w0 v p D L G ps ho A F d b r Dn w) (i : Nat) (hi : i ≠ 8) (hb : Below w.heap.size w w') : BVw w0 v p D L G ps ho A F d b r (upd Dn i) w' := by
 refine ⟨?_, h.2.1.keep (hb.block _ h.2.1.lt), h.2.2.trans (Outside.of_all hb _)⟩
 have e : arVw A d b r (upd Dn i) = arVw A d b r Dn := by unfold arVw upd; rw [if_neg (fun e : 8 = i => hi e.symm)]
 rw [e]; exact h.1.below hb (Nat.le_refl _)
theorem volWrite_region (h4 : RVw = ops) (hV : VolAt w v p D L G ps ho) (h : ArrAt w p A F) (hf : A.fit) (d b : Nat) (hd : d < A.n) (hb : b < A.nb) (hw : A.wait < 0) (hl : A.lost d = false)
 (r : Rec) (hr : r.ok) (hm : Makes r) (hv : hvLaid w) (hg : ¬ F.has p A.n 2) (h6 : ¬ F.has p A.n v) (hc : a.tmps.size = 22) (e0 : a.eval (.tmp 0) = .pointer (some ⟨v, 0, none⟩)) (e1 : a.eval (.tmp 1) = .int .i64 d) (e2 : a.eval (.tmp 2) = .int .i64 b) (e3 : a.eval (.tmp 3) = recV r)
 (hQ : ∀ w', ArrAt w' p ((A.setBlk d b r.blk).setBad d b false) F → Outside (F.has p A.n) w w' → Q .normal (Act.putFrom a 9 [.nilIface, .pointer (some ⟨v, 0, none⟩), .pointer (some ⟨v, 0, none⟩), .pointer (some ⟨v, 0, none⟩), .pointer (some ⟨p, 0, none⟩), .int .i64 d, .int .i64 b, recV r, .agg (blkA r.blk), .nilIface]) w') :
 (Code.region 1 ops true).wp Tryz.prog Q a w := by
 subst h4
 refine region_facts (by kernel_rfl) RVw_shape a w (by omega) (fun i u _ => u = (vsVw v p d b r).getD i undef) (BVw w v p D L G ps ho A F d b r) ⟨h.keep fun _ _ => rfl, hV, Outside.drew w⟩ ?_ ?_
 · intro i hi
   match i, hi with
   | 0, _ => exact fun o a' w' Dn hg ho h0 hk h2 h3 h1 hB hV => op_val (run_op_move ho ((hk.slot 0 (by omega)).trans e0) w') h0 ⟨BVw_upd hB _ (by decide) (Below.refl _ _), rfl, kq⟩
   | 1, _ =>
    intro o a' w' Dn hg ho h0 hk h2 h3 h1 hB hV
    have u0 : a'.eval (.tmp 10) = .pointer (some ⟨v, 0, none⟩) := hV 0 (h1 0 (by decide))
    exact op_val (run_op_nil ho u0 w') h0 ⟨BVw_upd hB _ (by decide) (Below.refl _ _), rfl, kq⟩
   | 2, _ =>
    intro o a' w' Dn hg ho h0 hk h2 h3 h1 hB hV
    have u0 : a'.eval (.tmp 11) = .pointer (some ⟨v, 0, none⟩) := hV 1 (h1 1 (by decide))
    exact op_val (v := .pointer (some ⟨v, 0, none⟩)) (by simp only [execOp, show o.op = Op.fieldAddr 121 (.tmp 11) 0 from ho, u0]; go_simp) h0 ⟨BVw_upd hB _ (by decide) (Below.refl _ _), rfl, kq⟩
   | 3, _ =>
    intro o a' w' Dn hg ho h0 hk h2 h3 h1 hB hV
    have u0 : a'.eval (.tmp 12) = .pointer (some ⟨v, 0, none⟩) := hV 2 (h1 2 (by decide))
    have c := hB.2.1.cells.1
    exact op_val (v := .pointer (some ⟨p, 0, none⟩)) (by simp only [execOp, show o.op = Op.load 36 (.tmp 12) from ho, u0]; go_simp) h0 ⟨BVw_upd hB _ (by decide) (Below.refl _ _), rfl, kq⟩
   | 4, _ => exact fun o a' w' Dn hg ho h0 hk h2 h3 h1 hB hV => op_val (run_op_move ho ((hk.slot 1 (by omega)).trans e1) w') h0 ⟨BVw_upd hB _ (by decide) (Below.refl _ _), rfl, kq⟩
   | 5, _ => exact fun o a' w' Dn hg ho h0 hk h2 h3 h1 hB hV => op_val (run_op_move ho ((hk.slot 2 (by omega)).trans e2) w') h0 ⟨BVw_upd hB _ (by decide) (Below.refl _ _), rfl, kq⟩
   | 6, _ => exact fun o a' w' Dn hg ho h0 hk h2 h3 h1 hB hV => op_val (run_op_move ho ((hk.slot 3 (by omega)).trans e3) w') h0 ⟨BVw_upd hB _ (by decide) (Below.refl _ _), rfl, kq⟩
   | 7, _ =>
    intro o a' w' Dn h7 ho h0 hk h2 h3 h1 hB hV
    have u0 : a'.eval (.tmp 16) = recV r := hV 6 (h1 6 (by decide))
    refine op_call (f := 140) (args := #[recV r]) (w1 := w') (by simp only [execOp, show o.op = Op.call { callee := Callee.value (Operand.func 140), args := #[.tmp 16], argTypes := #[202] } from ho]; go_simp; simpa [Act.eval] using u0) h0 (hm w' (hv.outside hB.2.2 hg)) ?_
    rintro e w'' ⟨rfl, hb⟩
    exact ⟨_, rfl, BVw_upd hB 7 (by decide) hb, rfl, kq⟩
   | 8, _ =>
    intro o a' w' Dn h7 ho h0 hk h2 h3 h1 hB hV
    have u0 : a'.eval (.tmp 13) = .pointer (some ⟨p, 0, none⟩) := hV 3 (h1 3 (by decide))
    have u1 : a'.eval (.tmp 14) = .int .i64 d := hV 4 (h1 4 (by decide))
    have u2 : a'.eval (.tmp 15) = .int .i64 b := hV 5 (h1 5 (by decide))
    have u3 : a'.eval (.tmp 17) = .agg (blkA r.blk) := hV 7 (h1 7 (by decide))
    have hA : ArrAt w' p A F := by have := hB.1; unfold arVw at this; rw [if_neg (by rw [h2]; decide)] at this; exact this
    refine op_call (f := 139) (args := #[.pointer (some ⟨p, 0, none⟩), .int .i64 d, .int .i64 b, .agg (blkA r.blk)]) (w1 := w') (by simp only [execOp, show o.op = Op.call { callee := Callee.value (Operand.func 139), args := #[.tmp 13, .tmp 14, .tmp 15, .tmp 17], argTypes := #[36, 3, 3, 240] } from ho]; go_simp; exact ⟨by simpa [Act.eval] using u0, by simpa [Act.eval] using u1, by simpa [Act.eval] using u2, by simpa [Act.eval] using u3⟩) h0 (write_ok hA hf d b hd hb hw hl r.blk (blk_len hr)) ?_
    rintro e w'' ⟨rfl, h8, h5⟩
    refine ⟨_, rfl, ⟨?_, hB.2.1.keep (h5.block _ hB.2.1.lt h6), hB.2.2.trans h5⟩, rfl, kq⟩
    have e : arVw A d b r (upd Dn 8) = (A.setBlk d b r.blk).setBad d b false := by unfold arVw upd; rw [if_pos (by rw [if_pos rfl])]
    rw [e]; exact h8
   | 9, _ =>
    intro o a' w' Dn hg ho h0 hk h2 h3 h1 hB hV
    have u0 : a'.eval (.tmp 18) = .nilIface := hV 8 (h1 8 (by decide))
    exact op_val (v := .nilIface) (by simp [execOp, show o.op = Op.assign (.tmp 18) from ho, u0]) h0 ⟨BVw_upd hB _ (by decide) (Below.refl _ _), rfl, kq⟩
   | n + 10, hn => exact absurd hn (by show ¬ n + 10 < 10; omega)
 · rintro a' w' h9 ⟨Dn, hD, hB⟩ hV
   have e : arVw A d b r Dn = (A.setBlk d b r.blk).setBad d b false := by unfold arVw; rw [if_pos (hD 8 (by decide))]
   have hA := hB.1
   rw [e] at hA
   have ha : ∀ i : Nat, i < 10 → a'.eval (.tmp (9 + i)) = [.nilIface, .pointer (some ⟨v, 0, none⟩), .pointer (some ⟨v, 0, none⟩), .pointer (some ⟨v, 0, none⟩), .pointer (some ⟨p, 0, none⟩), .int .i64 d, .int .i64 b, recV r, .agg (blkA r.blk), .nilIface].getD i undef := by
    intro i hi
    match i, hi with
    | 0, _ => exact hV 9 (by decide)
    | 1, _ => exact hV 0 (by decide)
    | 2, _ => exact hV 1 (by decide)
    | 3, _ => exact hV 2 (by decide)
    | 4, _ => exact hV 3 (by decide)
    | 5, _ => exact hV 4 (by decide)
    | 6, _ => exact hV 5 (by decide)
    | 7, _ => exact hV 6 (by decide)
    | 8, _ => exact hV 7 (by decide)
    | 9, _ => exact hV 8 (by decide)
    | n + 10, hn => exact absurd hn (by show ¬ n + 10 < 10; omega)
   rw [h9.out [.nilIface, .pointer (some ⟨v, 0, none⟩), .pointer (some ⟨v, 0, none⟩), .pointer (some ⟨v, 0, none⟩), .pointer (some ⟨p, 0, none⟩), .int .i64 d, .int .i64 b, recV r, .agg (blkA r.blk), .nilIface] rfl (by omega) ha]
   exact hQ w' hA hB.2.2
theorem volWrite_ok (hV : VolAt w v p D L G ps ho) (h : ArrAt w p A F) (hf : A.fit) (d b : Nat) (hd : d < A.n) (hb : b < A.nb) (hw : A.wait < 0) (hl : A.lost d = false)
 (r : Rec) (hr : r.ok) (hm : Makes r) (hv : hvLaid w) (hg : ¬ F.has p A.n 2) (h3 : ¬ F.has p A.n v) :
 Calls Tryz.prog 114 #[.pointer (some ⟨v, 0, none⟩), .int .i64 d, .int .i64 b, recV r] w fun e w' => e = .returned .nilIface ∧ ArrAt w' p ((A.setBlk d b r.blk).setBad d b false) F ∧ Outside (F.has p A.n) w w' := by
 obtain ⟨rv, h0⟩ : ∃ rv, recV r = rv := ⟨_, rfl⟩
 simp only [h0]
 have HR := hide h0
 clear h0
 go_enter Tryz.func114, Tryz.ntmps114
 go_wp2_with fail
 refine volWrite_region (by kernel_rfl) hV h hf d b hd hb hw hl r hr hm hv hg h3 rfl rfl rfl rfl HR.out.symm ?_
 intro w1 h1 h2
 rw [HR.out]
 have H1 := hide2 h1 h2
 clear h1 h2
 rename_i hK
 refine hK _ _ ?_
 clear hK
 simp only [Act.putFrom, Act.put, List.setIfInBounds_toArray, List.set_cons_succ, List.set_cons_zero]
 generalize blkA r.blk = ba
 go_wp2_with fail
 refine (stop_nil w1).mono ?_
 rintro e w' ⟨rfl, rfl⟩
 go_wp2
 go_ret
 exact ⟨rfl, H1.out.1, H1.out.2⟩
end Go.Proofs.YtpaemkanfnddoaaGreatDoor
