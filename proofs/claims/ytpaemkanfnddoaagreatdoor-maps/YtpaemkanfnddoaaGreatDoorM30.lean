import Derived.Test.YtpaemkanfnddoaaGreatDoorM29
set_option maxRecDepth 100000
set_option maxHeartbeats 8000000
namespace Go.Proofs.YtpaemkanfnddoaaGreatDoor
open Go.RowKit Go.Deep Gf
variable {a : Act} {A : Arr} {ops : Array Oper} {cs : Array Value} {Q : Exit → Act → World → Prop} {F : Foot} {vs : List Value} {N i v p D L G ps ar g D1 L1 G1 t1 t : Nat} {u : Value} {w w' w1 w2 : World}
def VR1 (w : World) (N : Nat) (vs : List Value) (i : Nat) (u : Value) (w' : World) : Prop := if i = 8 then ∃ g, u = .slice (some ⟨g, 0, none⟩) N N ∧ w.heap.size ≤ g ∧ w'.rowIs g 202 N (fun _ => recV .filled) else u = vs.getD i undef
theorem VR1_at (h : i ≠ 8) (q : VR1 w N vs i u w') : u = vs.getD i undef := by unfold VR1 at q; rwa [if_neg h] at q
theorem VR1_mk (h : i ≠ 8) (q : u = vs.getD i undef) : VR1 w N vs i u w' := by unfold VR1; rwa [if_neg h]
theorem VR1_to (h : i ≠ 8) (q : VR1 w N vs i u w1) : VR1 w N vs i u w2 := VR1_mk h (VR1_at h q)
theorem VR1_keep (hk : ∀ k, w.heap.size ≤ k → k < w1.heap.size → w2.heap[k]? = w1.heap[k]?) (q : VR1 w N vs i u w1) : VR1 w N vs i u w2 := by
 by_cases h : i = 8
 · subst h
   unfold VR1 at q ⊢
   rw [if_pos rfl] at q ⊢
   obtain ⟨g, q1, q2, q3⟩ := q
   exact ⟨g, q1, q2, q3.of_block (hk g q2 q3.lt)⟩
 · exact VR1_to h q
def arR1 (A : Arr) (D : Nat → Bool) : Arr := if D 8 = true then A.readTo A.n else A
def BR1 (w0 : World) (v p D L G ps : Nat) (A : Arr) (F : Foot) (Dn : Nat → Bool) (w : World) : Prop := ArrAt w p (arR1 A Dn) F ∧ Outside (fun k => k = v ∨ F.has p A.n k) w0 w ∧ VolAt w v p D L G ps 0
theorem BR1_upd {w0 : World} {Dn : Nat → Bool} (h : BR1 w0 v p D L G ps A F Dn w) (i : Nat) (hi : 8 ≠ i) : BR1 w0 v p D L G ps A F (upd Dn i) w := by
 refine ⟨?_, h.2⟩
 have e : arR1 A (upd Dn i) = arR1 A Dn := by unfold arR1; rw [upd_ne hi]
 rw [e]; exact h.1
noncomputable def RM1 : Array Oper := ((Tryz.f80.body.bind (rgf · 1))).getD #[]
def shM1 : List (Op × Option Nat × List Nat) := [(Op.move (.tmp 0), some 8, []),
 (Op.nilCheck (.tmp 8), some 9, [0]),
 (Op.fieldAddr 112 (.tmp 9) 0, some 10, [1]),
 (Op.load 104 (.tmp 10), some 11, [2]),
 (Op.move (.tmp 0), some 12, []),
 (Op.nilCheck (.tmp 12), some 13, [4]),
 (Op.fieldAddr 112 (.tmp 13) 0, some 14, [5]),
 (Op.load 104 (.tmp 14), some 15, [6]),
 (Op.call { callee := Callee.value (Operand.func 77), args := #[.tmp 15, Operand.const (Value.int IntKind.i64 1)], argTypes := #[104, 3] }, some 16, [7]),
 (Op.call { callee := Callee.value (Operand.func 82), args := #[.tmp 16], argTypes := #[161] }, some 17, [8, 8]),
 (Op.nilCheck (.tmp 11), some 18, [3, 0, 1, 2, 3, 4, 5, 6, 7, 8, 9]),
 (Op.fieldAddr 121 (.tmp 18) 3, some 19, [10, 0, 1, 2, 3, 4, 5, 6, 7, 8, 9]),
 (Op.store 115 (.tmp 19) (.tmp 17), none, [11, 9, 9, 0, 1, 2, 3, 4, 5, 6, 7, 8, 9])]
theorem RM1_shape : RegShape RM1 8 20 shM1 := regShape (by kernel_rfl) (by kernel_rfl)
def vsM1 (ar v : Nat) : List Value := [.pointer (some ⟨ar, 0, none⟩), .pointer (some ⟨ar, 0, none⟩), .pointer (some ⟨ar, 0, none⟩), .pointer (some ⟨v, 0, none⟩), .pointer (some ⟨ar, 0, none⟩), .pointer (some ⟨ar, 0, none⟩), .pointer (some ⟨ar, 0, none⟩), .pointer (some ⟨v, 0, none⟩), undef, .int .u64 0, .pointer (some ⟨v, 0, none⟩), .pointer (some ⟨v, 5, none⟩), undef]
theorem resume_region1 (hV : Vol w v p D L G ps 0 A F) (hF : Free F p A.n v) (h8 : ¬ F.has p A.n ar) (ha : v ≠ ar) (hx : w.heap[ar]? = some (.cells cs 112 (0, 0))) (h0 : cs[0]? = some (.pointer (some ⟨v, 0, none⟩))) (hf : A.fit) (hn : A.n = D + L + G) (hD : D ≤ 12) (hL : L ≤ 4) (hG : G ≤ 4) (k5 : 1 < A.nb) (hw : A.wait ≠ 0) (h6 : ∀ i, A.lost i = false) (hc : ∀ d, A.bad d 1 = false) (he : ∀ i, i < A.n → A.blk i 1 = Rec.filled.blk) (kd : 3 ≤ v) (hh : RM1 = ops) (ke : a.tmps.size = 37)
 (e0 : a.eval (.tmp 0) = .pointer (some ⟨ar, 0, none⟩))
 (hQ : ∀ (w' : World), ∀ (vs : List Value), vs.length = 12 → ArrAt w' p (A.readTo A.n) F → Outside (fun k => k = v ∨ F.has p A.n k) w w' → VolAt w' v p D L G ps 0 → Q .normal (Act.putFrom a 8 vs) w') : (Code.region 1 ops true).wp Tryz.prog Q a w := by
 subst hh
 have hm : ar < w.heap.size := (Array.getElem?_eq_some_iff.1 hx).1
 have kf := hV.vol.lt
 have kg : ∀ k, F.has p A.n k → k < w.heap.size := fun k hk => hV.arr.has_lt hk
 have h7 : ∀ w', Outside (fun k => k = v ∨ F.has p A.n k) w w' → w'.cell? ⟨ar, 0, none⟩ = some (.pointer (some ⟨v, 0, none⟩)) := fun w' hO => by
  have := (hO.block ar hm (fun q => q.elim (fun e => ha e.symm) h8)).trans hx
  simp [World.cell?, this, h0]
 refine region_factsS (by kernel_rfl) RM1_shape a w (by omega) (VR1 w A.n (vsM1 ar v)) (BR1 w v p D L G ps A F) ⟨hV.arr.keep fun _ _ => rfl, Outside.drew w, hV.vol⟩ ?_ ?_
 · intro i hi
   match i, hi with
   | 0, _ =>
    intro o a' w' Dn hg ho h1 hk h4 h5 h2 hB h3
    have u0 : a'.eval (.tmp 0) = .pointer (some ⟨ar, 0, none⟩) := (hk.slot 0 (by omega)).trans e0
    exact op_val (run_op_move ho u0 w') h1 ⟨BR1_upd hB 0 (by decide), VR1_mk (by decide) rfl, kq⟩
   | 1, _ =>
    intro o a' w' Dn hg ho h1 hk h4 h5 h2 hB h3
    have u0 : a'.eval (.tmp 8) = .pointer (some ⟨ar, 0, none⟩) := VR1_at (by decide) (h3 0 (h2 0 (by decide)))
    exact op_val (run_op_nil ho u0 w') h1 ⟨BR1_upd hB 1 (by decide), VR1_mk (by decide) rfl, kq⟩
   | 2, _ =>
    intro o a' w' Dn hg ho h1 hk h4 h5 h2 hB h3
    have u0 : a'.eval (.tmp 9) = .pointer (some ⟨ar, 0, none⟩) := VR1_at (by decide) (h3 1 (h2 1 (by decide)))
    exact op_val (v := .pointer (some ⟨ar, 0, none⟩)) (by simp only [execOp, show o.op = Op.fieldAddr 112 (.tmp 9) 0 from ho, u0]; go_simp) h1 ⟨BR1_upd hB 2 (by decide), VR1_mk (by decide) rfl, kq⟩
   | 3, _ =>
    intro o a' w' Dn hg ho h1 hk h4 h5 h2 hB h3
    have u0 : a'.eval (.tmp 10) = .pointer (some ⟨ar, 0, none⟩) := VR1_at (by decide) (h3 2 (h2 2 (by decide)))
    have c := h7 w' hB.2.1
    exact op_val (v := .pointer (some ⟨v, 0, none⟩)) (by simp only [execOp, show o.op = Op.load 104 (.tmp 10) from ho, u0]; go_simp) h1 ⟨BR1_upd hB 3 (by decide), VR1_mk (by decide) rfl, kq⟩
   | 4, _ =>
    intro o a' w' Dn hg ho h1 hk h4 h5 h2 hB h3
    have u0 : a'.eval (.tmp 0) = .pointer (some ⟨ar, 0, none⟩) := (hk.slot 0 (by omega)).trans e0
    exact op_val (run_op_move ho u0 w') h1 ⟨BR1_upd hB 4 (by decide), VR1_mk (by decide) rfl, kq⟩
   | 5, _ =>
    intro o a' w' Dn hg ho h1 hk h4 h5 h2 hB h3
    have u0 : a'.eval (.tmp 12) = .pointer (some ⟨ar, 0, none⟩) := VR1_at (by decide) (h3 4 (h2 4 (by decide)))
    exact op_val (run_op_nil ho u0 w') h1 ⟨BR1_upd hB 5 (by decide), VR1_mk (by decide) rfl, kq⟩
   | 6, _ =>
    intro o a' w' Dn hg ho h1 hk h4 h5 h2 hB h3
    have u0 : a'.eval (.tmp 13) = .pointer (some ⟨ar, 0, none⟩) := VR1_at (by decide) (h3 5 (h2 5 (by decide)))
    exact op_val (v := .pointer (some ⟨ar, 0, none⟩)) (by simp only [execOp, show o.op = Op.fieldAddr 112 (.tmp 13) 0 from ho, u0]; go_simp) h1 ⟨BR1_upd hB 6 (by decide), VR1_mk (by decide) rfl, kq⟩
   | 7, _ =>
    intro o a' w' Dn hg ho h1 hk h4 h5 h2 hB h3
    have u0 : a'.eval (.tmp 14) = .pointer (some ⟨ar, 0, none⟩) := VR1_at (by decide) (h3 6 (h2 6 (by decide)))
    have c := h7 w' hB.2.1
    exact op_val (v := .pointer (some ⟨v, 0, none⟩)) (by simp only [execOp, show o.op = Op.load 104 (.tmp 14) from ho, u0]; go_simp) h1 ⟨BR1_upd hB 7 (by decide), VR1_mk (by decide) rfl, kq⟩
   | 8, _ =>
    intro o a' w' Dn hg ho h1 hk h4 h5 h2 hB h3
    have u0 : a'.eval (.tmp 15) = .pointer (some ⟨v, 0, none⟩) := VR1_at (by decide) (h3 7 (h2 7 (by decide)))
    have hA : ArrAt w' p A F := by have := hB.1; unfold arR1 at this; rw [if_neg (by rw [h4]; decide)] at this; exact this
    have k6 : Vol w' v p D L G ps 0 A F := ⟨hB.2.2, hA, hV.laid.keep (hB.2.1.block _ hV.laid.lt (fun q => q.elim (fun e => by have h9 : 2 < 3 := (by decide); omega) hF.g)), hV.tab.keep (hB.2.1.block _ hV.tab.lt (fun q => q.elim (fun e => by have h9 : 1 < 3 := (by decide); omega) hF.t)), Nat.le_trans hV.room hB.2.1.size⟩
    have k7 := readCopies_ok k6 hF hf 1 hn hD hL hG k5 hw h6 hc (fun _ => .filled) (fun _ => trivial) (fun _ => makes_filled) he
    refine op_call (f := 77) (args := #[.pointer (some ⟨v, 0, none⟩), .int .i64 (1 : Nat)]) (w1 := w') (by simp only [execOp, show o.op = Op.call { callee := Callee.value (Operand.func 77), args := #[.tmp 15, Operand.const (Value.int IntKind.i64 1)], argTypes := #[104, 3] } from ho]; go_simp; simpa [Act.eval] using u0) h1 k7 ?_
    rintro e w'' ⟨g, rfl, hp, hq, k8, hy⟩
    refine ⟨_, rfl, ⟨?_, hB.2.1.trans (hy.mono fun _ _ q => .inr q), hB.2.2.keep (hy.block _ hB.2.2.lt hF.v)⟩, ?_, fun j u hj q => VR1_to (fun e => by rw [e, h4] at hj; cases hj) q⟩
    · have e : arR1 A (upd Dn 8) = A.readTo A.n := by unfold arR1; rw [if_pos upd_eq]
      rw [e]; exact k8
    · unfold VR1
      rw [if_pos rfl]
      exact ⟨g, rfl, Nat.le_trans hB.2.1.size hp, hq⟩
   | 9, _ =>
    intro o a' w' Dn hg ho h1 hk h4 h5 h2 hB h3
    have hr : A.n ≤ 60 := by omega
    clear hn
    obtain ⟨g, hp, kh, k9⟩ : ∃ g, a'.eval (.tmp 16) = .slice (some ⟨g, 0, none⟩) A.n A.n ∧ w.heap.size ≤ g ∧ w'.rowIs g 202 A.n (fun _ => recV .filled) := by have := h3 8 (h2 8 (by decide)); unfold VR1 at this; rw [if_pos rfl] at this; exact this
    have hz := blanks_any (N := A.n) (fun _ => some .filled) hr (w := w') k9
    rw [svBlank_none _ (fun _ _ => rfl)] at hz
    refine op_call (f := 82) (args := #[.slice (some ⟨g, 0, none⟩) A.n A.n]) (w1 := w') (by simp only [execOp, show o.op = Op.call { callee := Callee.value (Operand.func 82), args := #[.tmp 16], argTypes := #[161] } from ho]; go_simp; simpa [Act.eval] using hp) h1 hz ?_
    rintro e w'' ⟨rfl, hb⟩
    refine ⟨_, rfl, ⟨?_, hB.2.1.trans (Outside.of_all hb _), hB.2.2.keep (hb.block _ hB.2.2.lt)⟩, VR1_mk (by decide) rfl, fun j u hj q => VR1_keep (fun k _ hk => hb.block k hk) q⟩
    have e : arR1 A (upd Dn 9) = arR1 A Dn := by unfold arR1; rw [upd_ne (by decide)]
    rw [e]; exact hB.1.below hb (Nat.le_refl _)
   | 10, _ =>
    intro o a' w' Dn hg ho h1 hk h4 h5 h2 hB h3
    have u0 : a'.eval (.tmp 11) = .pointer (some ⟨v, 0, none⟩) := VR1_at (by decide) (h3 3 (h2 3 (by decide)))
    exact op_val (run_op_nil ho u0 w') h1 ⟨BR1_upd hB 10 (by decide), VR1_mk (by decide) rfl, kq⟩
   | 11, _ =>
    intro o a' w' Dn hg ho h1 hk h4 h5 h2 hB h3
    have u0 : a'.eval (.tmp 18) = .pointer (some ⟨v, 0, none⟩) := VR1_at (by decide) (h3 10 (h2 10 (by decide)))
    exact op_val (v := .pointer (some ⟨v, 5, none⟩)) (by simp only [execOp, show o.op = Op.fieldAddr 121 (.tmp 18) 3 from ho, u0]; go_simp) h1 ⟨BR1_upd hB 11 (by decide), VR1_mk (by decide) rfl, kq⟩
   | 12, _ =>
    intro o a' w' Dn hg ho h1 hk h4 h5 h2 hB h3
    have u0 : a'.eval (.tmp 19) = .pointer (some ⟨v, 5, none⟩) := VR1_at (by decide) (h3 11 (h2 11 (by decide)))
    have u1 : a'.eval (.tmp 17) = .int .u64 0 := VR1_at (by decide) (h3 9 (h2 9 (by decide)))
    have hs : w'.heap[v]? = some (.cells #[.pointer (some ⟨p, 0, none⟩), .int .i64 D, .int .i64 L, .int .i64 G, .pointer (some ⟨ps, 0, none⟩), .int .u64 (0 : Nat)] 121 (0, 0)) := hB.2.2
    have cc : w'.cell? ⟨v, 5, none⟩ = some (.int .u64 (0 : Nat)) := by simp [World.cell?, hs]
    have ff : w'.frozen? ⟨v, 5, none⟩ = false := by simp [World.frozen?, hs]
    refine op_skip (w' := w'.setCell ⟨v, 5, none⟩ (.int .u64 0)) (by simp only [execOp, show o.op = Op.store 115 (.tmp 19) (.tmp 17) from ho, u0, u1]; go_simp) ⟨⟨?_, hB.2.1.trans (Outside.setCell _ _ _ (.inl rfl)), ?_⟩, VR1_mk (by decide) rfl, fun j u hj q => VR1_keep (fun k ki _ => blk_setCell_other _ _ _ _ (by show k ≠ v; omega)) q⟩
    · have e : arR1 A (upd Dn 12) = arR1 A Dn := by unfold arR1; rw [upd_ne (by decide)]
      rw [e]; exact hB.1.keep fun k hk => blk_setCell_other _ _ _ _ (fun e => hF.v (by have e' : k = v := e; have ka : (arR1 A Dn).n = A.n := (by unfold arR1; split <;> rfl); rw [ka, e'] at hk; exact hk))
    · exact heap_setCell_same w' v 5 _ _ (.int .u64 0) hs
   | n + 13, hn => exact absurd hn (by show ¬ n + 13 < 13; omega)
 · rintro a' w' kb k0 ⟨Dn, kc, hB⟩ h3
   have e : a' = Act.putFrom a 8 ((List.range 12).map fun i => a'.eval (.tmp (8 + i))) := kb.out _ (by rw [List.length_map, List.length_range]) (by omega) (fun i hi => by
    rw [List.length_map, List.length_range] at hi
    rw [List.getD_eq_getElem?_getD, List.getElem?_map, List.getElem?_range hi]; rfl)
   rw [e]
   exact hQ w' _ (by rw [List.length_map, List.length_range]) (by have := hB.1; unfold arR1 at this; rw [if_pos (kc 8 (by decide))] at this; exact this) hB.2.1 hB.2.2
noncomputable def RM5 : Array Oper := ((Tryz.f80.body.bind (rgf · 5))).getD #[]
def shM5 : List (Op × Option Nat × List Nat) := [(Op.move (.tmp 0), some 26, []),
 (Op.nilCheck (.tmp 26), some 27, [0]),
 (Op.fieldAddr 112 (.tmp 27) 0, some 28, [1]),
 (Op.load 104 (.tmp 28), some 29, [2]),
 (Op.load 107 (.tmp 4), some 30, []),
 (Op.makeInterface 107 (.tmp 30), some 31, [4]),
 (Op.move (.tmp 2), some 32, []),
 (Op.load 107 (.tmp 4), some 33, []),
 (Op.makeInterface 107 (.tmp 33), some 34, [7]),
 (Op.call { callee := Callee.value (Operand.func 116), args := #[.tmp 32, .tmp 34], argTypes := #[161, 202] }, some 35, [6, 8]),
 (Op.call { callee := Callee.value (Operand.func 106), args := #[.tmp 29, Operand.const (Value.int IntKind.i64 0), .tmp 31, .tmp 35], argTypes := #[104, 3, 202, 115] }, some 36, [3, 5, 9, 9])]
theorem RM5_shape : RegShape RM5 26 37 shM5 := regShape (by kernel_rfl) (by kernel_rfl)
def vsM5 (ar v g : Nat) (A : Arr) (D1 L1 G1 t1 f1 n1 : Nat) : List Value := [.pointer (some ⟨ar, 0, none⟩), .pointer (some ⟨ar, 0, none⟩), .pointer (some ⟨ar, 0, none⟩), .pointer (some ⟨v, 0, none⟩), .agg (rootA D1 L1 G1 t1 f1 n1), recV (.root D1 L1 G1 t1 f1 n1), .slice (some ⟨g, 0, none⟩) A.n A.n, .agg (rootA D1 L1 G1 t1 f1 n1), recV (.root D1 L1 G1 t1 f1 n1), .int .u64 0, .int .u64 0]
theorem resume_region5 {q f1 n1 : Nat} (hV : Vol w v p D L G ps 0 A F) (hF : Free F p A.n v) (h7 : ¬ F.has p A.n ar) (hh : w.heap[ar]? = some (.cells cs 112 (0, 0))) (h0 : cs[0]? = some (.pointer (some ⟨v, 0, none⟩))) (hf : A.fit) (hn : A.n ≤ 20) (hx : 0 < A.nb) (hw : A.wait < 0) (hj : (Rec.root D1 L1 G1 t1 f1 n1).ok) (hq : w.heap[q]? = some (.cells (rootA D1 L1 G1 t1 f1 n1) 107 (0, 0))) (hm : ¬ F.has p A.n q) (h6 : w.rowIs g 202 A.n (fun _ => recV (.root D1 L1 G1 t1 f1 n1))) (hy : ¬ F.has p A.n g) (h8 : RM5 = ops) (k7 : a.tmps.size = 37)
 (e0 : a.eval (.tmp 0) = .pointer (some ⟨ar, 0, none⟩)) (e2 : a.eval (.tmp 2) = .slice (some ⟨g, 0, none⟩) A.n A.n) (e4 : a.eval (.tmp 4) = .pointer (some ⟨q, 0, none⟩))
 (hQ : ∀ (w' : World), ArrAt w' p A F → Outside (F.has p A.n) w w' → Q .normal (Act.putFrom a 26 [.pointer (some ⟨ar, 0, none⟩), .pointer (some ⟨ar, 0, none⟩), .pointer (some ⟨ar, 0, none⟩), .pointer (some ⟨v, 0, none⟩), .agg (rootA D1 L1 G1 t1 f1 n1), recV (.root D1 L1 G1 t1 f1 n1), .slice (some ⟨g, 0, none⟩) A.n A.n, .agg (rootA D1 L1 G1 t1 f1 n1), recV (.root D1 L1 G1 t1 f1 n1), .int .u64 0, .int .u64 0]) w') : (Code.region 5 ops true).wp Tryz.prog Q a w := by
 subst h8
 have h9 : ar < w.heap.size := (Array.getElem?_eq_some_iff.1 hh).1
 have hp : q < w.heap.size := (Array.getElem?_eq_some_iff.1 hq).1
 have ha : ∀ w', Outside (F.has p A.n) w w' → w'.cell? ⟨ar, 0, none⟩ = some (.pointer (some ⟨v, 0, none⟩)) := fun w' hO => by
  have := (hO.block ar h9 h7).trans hh
  simp [World.cell?, this, h0]
 refine region_factsS (by kernel_rfl) RM5_shape a w (by omega) (fun i u _ => u = (vsM5 ar v g A D1 L1 G1 t1 f1 n1).getD i undef) (fun _ w' => ArrAt w' p A F ∧ Outside (F.has p A.n) w w') ⟨hV.arr.keep fun _ _ => rfl, Outside.drew w⟩ ?_ ?_
 · intro i hi
   match i, hi with
   | 0, _ =>
    intro o a' w' Dn hg ho h1 hk h4 h5 h2 hB h3
    have u0 : a'.eval (.tmp 0) = .pointer (some ⟨ar, 0, none⟩) := (hk.slot 0 (by omega)).trans e0
    exact op_val (run_op_move ho u0 w') h1 ⟨hB, rfl, kq⟩
   | 1, _ =>
    intro o a' w' Dn hg ho h1 hk h4 h5 h2 hB h3
    have u0 : a'.eval (.tmp 26) = .pointer (some ⟨ar, 0, none⟩) := h3 0 (h2 0 (by decide))
    exact op_val (run_op_nil ho u0 w') h1 ⟨hB, rfl, kq⟩
   | 2, _ =>
    intro o a' w' Dn hg ho h1 hk h4 h5 h2 hB h3
    have u0 : a'.eval (.tmp 27) = .pointer (some ⟨ar, 0, none⟩) := h3 1 (h2 1 (by decide))
    exact op_val (v := .pointer (some ⟨ar, 0, none⟩)) (by simp only [execOp, show o.op = Op.fieldAddr 112 (.tmp 27) 0 from ho, u0]; go_simp) h1 ⟨hB, rfl, kq⟩
   | 3, _ =>
    intro o a' w' Dn hg ho h1 hk h4 h5 h2 hB h3
    have u0 : a'.eval (.tmp 28) = .pointer (some ⟨ar, 0, none⟩) := h3 2 (h2 2 (by decide))
    have c := ha w' hB.2
    exact op_val (v := .pointer (some ⟨v, 0, none⟩)) (by simp only [execOp, show o.op = Op.load 104 (.tmp 28) from ho, u0]; go_simp) h1 ⟨hB, rfl, kq⟩
   | 4, _ =>
    intro o a' w' Dn hg ho h1 hk h4 h5 h2 hB h3
    have u0 : a'.eval (.tmp 4) = .pointer (some ⟨q, 0, none⟩) := (hk.slot 4 (by omega)).trans e4
    have hc := root_loadM ((hB.2.block q hp hm).trans hq)
    exact op_val (v := .agg (rootA D1 L1 G1 t1 f1 n1)) (by simp [execOp, show o.op = Op.load 107 (.tmp 4) from ho, u0, hc]) h1 ⟨hB, rfl, kq⟩
   | 5, _ =>
    intro o a' w' Dn hg ho h1 hk h4 h5 h2 hB h3
    have u0 : a'.eval (.tmp 30) = .agg (rootA D1 L1 G1 t1 f1 n1) := h3 4 (h2 4 (by decide))
    exact op_val (v := recV (.root D1 L1 G1 t1 f1 n1)) (by simp only [execOp, show o.op = Op.makeInterface 107 (.tmp 30) from ho, u0]; simp only [recV]; go_simp) h1 ⟨hB, rfl, kq⟩
   | 6, _ =>
    intro o a' w' Dn hg ho h1 hk h4 h5 h2 hB h3
    have u0 : a'.eval (.tmp 2) = .slice (some ⟨g, 0, none⟩) A.n A.n := (hk.slot 2 (by omega)).trans e2
    exact op_val (run_op_move ho u0 w') h1 ⟨hB, rfl, kq⟩
   | 7, _ =>
    intro o a' w' Dn hg ho h1 hk h4 h5 h2 hB h3
    have u0 : a'.eval (.tmp 4) = .pointer (some ⟨q, 0, none⟩) := (hk.slot 4 (by omega)).trans e4
    have hc := root_loadM ((hB.2.block q hp hm).trans hq)
    exact op_val (v := .agg (rootA D1 L1 G1 t1 f1 n1)) (by simp [execOp, show o.op = Op.load 107 (.tmp 4) from ho, u0, hc]) h1 ⟨hB, rfl, kq⟩
   | 8, _ =>
    intro o a' w' Dn hg ho h1 hk h4 h5 h2 hB h3
    have u0 : a'.eval (.tmp 33) = .agg (rootA D1 L1 G1 t1 f1 n1) := h3 7 (h2 7 (by decide))
    exact op_val (v := recV (.root D1 L1 G1 t1 f1 n1)) (by simp only [execOp, show o.op = Op.makeInterface 107 (.tmp 33) from ho, u0]; simp only [recV]; go_simp) h1 ⟨hB, rfl, kq⟩
   | 9, _ =>
    intro o a' w' Dn hg ho h1 hk h4 h5 h2 hB h3
    have u0 : a'.eval (.tmp 32) = .slice (some ⟨g, 0, none⟩) A.n A.n := h3 6 (h2 6 (by decide))
    have u1 : a'.eval (.tmp 34) = recV (.root D1 L1 G1 t1 f1 n1) := h3 8 (h2 8 (by decide))
    refine op_call (f := 116) (args := #[.slice (some ⟨g, 0, none⟩) A.n A.n, recV (.root D1 L1 G1 t1 f1 n1)]) (w1 := w') (by simp only [execOp, show o.op = Op.call { callee := Callee.value (Operand.func 116), args := #[.tmp 32, .tmp 34], argTypes := #[161, 202] } from ho]; go_simp; exact ⟨by simpa [Act.eval] using u0, by simpa [Act.eval] using u1⟩) h1 (unlike_same (by omega) (h6.of_block (hB.2.block g h6.lt hy))) ?_
    rintro e w'' ⟨rfl, he⟩
    exact ⟨_, rfl, by rw [he]; exact hB, rfl, kq⟩
   | 10, _ =>
    intro o a' w' Dn hg ho h1 hk h4 h5 h2 hB h3
    have u0 : a'.eval (.tmp 29) = .pointer (some ⟨v, 0, none⟩) := h3 3 (h2 3 (by decide))
    have u1 : a'.eval (.tmp 31) = recV (.root D1 L1 G1 t1 f1 n1) := h3 5 (h2 5 (by decide))
    have u2 : a'.eval (.tmp 35) = .int .u64 0 := h3 9 (h2 9 (by decide))
    have hz := hV.turn hF hB.2 hB.1
    have hr := writeCopies_ok hz hF hf 0 0 hx (by decide) (fun i hi => by rw [mems_zero] at hi; cases hi) hw (fun i hi => by rw [mems_zero] at hi; cases hi) (.root D1 L1 G1 t1 f1 n1) hj (makes_root hj)
    rw [mems_zero, putAt_nil] at hr
    refine op_call (f := 106) (args := #[.pointer (some ⟨v, 0, none⟩), Value.int IntKind.i64 0, recV (.root D1 L1 G1 t1 f1 n1), .int .u64 0]) (w1 := w') (by simp only [execOp, show o.op = Op.call { callee := Callee.value (Operand.func 106), args := #[.tmp 29, Operand.const (Value.int IntKind.i64 0), .tmp 31, .tmp 35], argTypes := #[104, 3, 202, 115] } from ho]; go_simp; exact ⟨by simpa [Act.eval] using u0, by simpa [Act.eval] using u1, by simpa [Act.eval] using u2⟩) h1 (hr) ?_
    rintro e w'' ⟨rfl, k0, k5⟩
    exact ⟨_, rfl, ⟨k0, hB.2.trans k5⟩, rfl, kq⟩
   | n + 11, hn => exact absurd hn (by show ¬ n + 11 < 11; omega)
 · rintro a' w' k6 hs ⟨Dn, k8, hB⟩ h3
   have e : a' = Act.putFrom a 26 [.pointer (some ⟨ar, 0, none⟩), .pointer (some ⟨ar, 0, none⟩), .pointer (some ⟨ar, 0, none⟩), .pointer (some ⟨v, 0, none⟩), .agg (rootA D1 L1 G1 t1 f1 n1), recV (.root D1 L1 G1 t1 f1 n1), .slice (some ⟨g, 0, none⟩) A.n A.n, .agg (rootA D1 L1 G1 t1 f1 n1), recV (.root D1 L1 G1 t1 f1 n1), .int .u64 0, .int .u64 0] := k6.out _ rfl (by omega) (fun i hi => ?_)
   · rw [e]; exact hQ w' hB.1 hB.2
   · match i, hi with
     | 0, _ => exact h3 0 (by decide)
     | 1, _ => exact h3 1 (by decide)
     | 2, _ => exact h3 2 (by decide)
     | 3, _ => exact h3 3 (by decide)
     | 4, _ => exact h3 4 (by decide)
     | 5, _ => exact h3 5 (by decide)
     | 6, _ => exact h3 6 (by decide)
     | 7, _ => exact h3 7 (by decide)
     | 8, _ => exact h3 8 (by decide)
     | 9, _ => exact h3 9 (by decide)
     | 10, _ => exact h3 10 (by decide)
     | n + 11, hn => exact absurd hn (by simp)
structure RsPost (w : World) (ar v p D L G ps D1 L1 G1 t1 : Nat) (off : Bool) (A : Arr) (F : Foot) (P l : List Nat) (os : List Ob) (w' : World) : Prop where
 arc : ∃ u o, ArcAt w' ar v D1 L1 G1 t1 (P.getD 0 0) l.length u o off ∧ Ints (fun k => w.heap.size ≤ k) w' u P ∧ Cat (fun k => w.heap.size ≤ k) w' o os
 arr : ∃ rs, ArrAt w' p (A.rd rs) F
 vol : VolAt w' v p D L G ps 0
 out : Outside (fun k => k = ar ∨ k = v ∨ F.has p A.n k) w w'
theorem resume_ok {D' L' G' f nn : Nat} {pg ob : Value} {off : Bool} (hA : ArcAt w ar v D' L' G' t f nn pg ob off) (hV : Vol w v p D L G ps 0 A F) (hF : Free F p A.n v) (k6 : ¬ F.has p A.n ar) (hf : A.fit) (hn : A.n = D + L + G) (ks : 1 ≤ D) (hD : D ≤ 12) (kk : L ≤ 4) (hG : G ≤ 4) (kv : D + L + G ≤ 16)
 (hw : A.wait < 0) (hm : ∀ i, A.lost i = false) (kx : 1 < A.nb) (k7 : ∀ d, A.bad d 1 = false) (ky : ∀ i, i < A.n → A.blk i 1 = Rec.filled.blk) (P l : List Nat) (kz : ∀ x ∈ l, x < 256) (q0 : l.length ≤ 1000000) (k8 : P.length = pgs D l.length) (q1 : ∀ x ∈ P, x < A.nb) (q2 : P.length ≤ A.nb) (q3 : P.length ≤ 1000000) (ke : ∀ x ∈ P, ∀ i, A.bad i x = false)
 (kf : ∀ k, k < P.length → ∀ i, i < A.n → A.blk i (P.getD k 0) = (Rec.shard ((stripeL D L G (pageB D P l k)).getD i [])).blk) (os : List Ob) (hU : UnpackOk D l os) (q4 : (tk A.nb (P ++ allSt os)).2 = true) (hg : v ≠ ar) (q5 : 3 ≤ v) (q6 : 3 ≤ ar) (km : (Rec.root D1 L1 G1 t1 (P.getD 0 0) l.length).ok)
 (hh : w.rowIs g 202 A.n (fun _ => recV (.root D1 L1 G1 t1 (P.getD 0 0) l.length))) (kg : ¬ F.has p A.n g) (q7 : g ≠ v) (q8 : g ≠ ar) :
 Calls Tryz.prog 80 #[.pointer (some ⟨ar, 0, none⟩), .agg (rootA D1 L1 G1 t1 (P.getD 0 0) l.length), .slice (some ⟨g, 0, none⟩) A.n A.n] w fun e w' => e = .returned .nilIface ∧ RsPost w ar v p D L G ps D1 L1 G1 t1 off A F P l os w' := by
 have k9 : ∀ k, F.has p A.n k → k < w.heap.size := fun k hk => hV.arr.has_lt hk
 have q9 := hA.lt
 have qg := hV.vol.lt
 have qa := hh.lt
 obtain ⟨n1, hy⟩ : ∃ n1, l.length = n1 := ⟨_, rfl⟩
 obtain ⟨f1, hz⟩ : ∃ f1, P.getD 0 0 = f1 := ⟨_, rfl⟩
 rw [hy, hz] at km hh ⊢
 have k0 : (w.alloc (.cells (rootA D1 L1 G1 t1 f1 n1) 107)).heap[w.heap.size]? = some (.cells (rootA D1 L1 G1 t1 f1 n1) 107 (0, 0)) := blk_alloc_new _ _
 have hi : Below w.heap.size w (w.alloc (.cells (rootA D1 L1 G1 t1 f1 n1) 107)) := (Below.refl _ w).alloc (Nat.le_refl _) _
 have kc : (w.alloc (.cells (rootA D1 L1 G1 t1 f1 n1) 107)).heap.size = w.heap.size + 1 := by simp
 obtain ⟨w1, kh⟩ : ∃ w1, w.alloc (.cells (rootA D1 L1 G1 t1 f1 n1) 107) = w1 := ⟨_, rfl⟩
 rw [kh] at k0 hi kc
 have hs := hA.keep (hi.block _ hA.lt)
 have he := hV.below hi (Nat.le_refl _)
 have h4 := hh.of_block (hi.block _ qa)
 have H1 := hide6 hs he k0 hi kc h4
 have qb : w.alloc (.cells #[.int .i64 D1, .int .i64 L1, .int .i64 G1, .int .u64 t1, .int .i64 f1, .int .i64 n1] 107) = w1 := kh
 have HN := hide4 hy k8 hz hn
 obtain ⟨NN, ki⟩ : ∃ NN, A.n = NN := ⟨_, rfl⟩
 have qc := hide ki
 rw [ki]
 clear hA hV k0 hi hs he kc kh hy hz hh h4 hn ki k8
 show Calls Tryz.prog 80 #[.pointer (some ⟨ar, 0, none⟩), .agg #[.int .i64 D1, .int .i64 L1, .int .i64 G1, .int .u64 t1, .int .i64 f1, .int .i64 n1], .slice (some ⟨g, 0, none⟩) NN NN] w _
 go_enter Tryz.func80, Tryz.ntmps80
 go_wp2_with fail
 obtain ⟨hs, he, k0, hi, kc, h4⟩ := H1.out
 obtain ⟨hy, k8, hz, hn⟩ := HN.out
 refine resume_region1 he hF k6 hg hs rfl hf hn hD kk hG kx (by omega) hm k7 ky q5 (by kernel_rfl) rfl rfl ?_
 intro w2 vs kn ko hp kp
 obtain ⟨x0, x1, x2, x3, x4, x5, x6, x7, x8, x9, xa, xb, rfl⟩ := list12 kn
 have qd := hp.size
 have ka := hs.keep (hp.block _ hs.lt (fun q => q.elim (fun e => hg e.symm) k6))
 have ha := (hp.block _ (by omega) (fun q => q.elim (fun e => by omega) (fun q => by have := k9 _ q; omega))).trans k0
 have h5 := h4.of_block (hp.block _ (by omega) (fun q => q.elim q7 kg))
 have h0 : Vol w2 v p D L G ps 0 (A.readTo A.n) F := ⟨kp, ko, he.laid.keep (hp.block _ he.laid.lt (fun q => q.elim (fun e => by have h9 : 2 < 3 := (by decide); omega) hF.g)), he.tab.keep (hp.block _ he.tab.lt (fun q => q.elim (fun e => by have h9 : 1 < 3 := (by decide); omega) hF.t)), Nat.le_trans he.room qd⟩
 have kj := loadCatalog_ok (D1 := D1) (L1 := L1) (G1 := G1) (t1 := t1) ka h0 hF k6 (hf.readTo _) hn ks hD kk hG kv (by show A.wait ≠ 0; omega) hm P l kz q0 k8 q1 q2 q3 ke kf os hU q4 hg
 rw [hy, hz] at kj
 have hc : Outside (fun k => k = ar ∨ k = v ∨ F.has p A.n k) w w2 := (Outside.of_all hi _).trans (hp.mono fun _ _ q => .inr q)
 have H2 := hide5 kj ha h5 h0 hc
 clear hs he k0 hi h4 hy k8 hz hn ko hp kp ka ha h5 h0 kj hc kn
 rename_i kb
 refine kb _ _ ?_
 clear kb
 simp only [Act.putFrom, Act.put, List.setIfInBounds_toArray, List.set_cons_succ, List.set_cons_zero]
 go_wp2_with (show wpList _ _ _ ({ dst := some 21, op := _, type := _, pos := _, after := _, guard := _ } :: _) _ _; refine rt_load (D := D1) (L := L1) (G := G1) (t := t1) (f := f1) (n := n1) (b := w.heap.size) rfl (.tmp 4) rfl rfl (by rfl) (by exact H2.out.2.1) ?_)
 refine H2.out.1.mono ?_
 rintro e w3 ⟨rfl, u, o, h6⟩
 obtain ⟨hx, ha, h5, h0, hc⟩ := H2.out
 clear hx
 obtain ⟨rs, hq⟩ := h6.arr
 have qe := h6.out.size
 have k5 : ∀ k, k < w2.heap.size → k ≠ ar → ¬ F.has p A.n k → w3.heap[k]? = w2.heap[k]? := fun k hk h1 h2 => h6.out.block k hk (fun q => q.elim h1 h2)
 have h7 := (k5 _ (by omega) (by omega) (fun q => by have := k9 _ q; omega)).trans ha
 have h3 := h5.of_block (k5 g (by omega) q8 kg)
 have hr : Vol w3 v p D L G ps 0 ((A.readTo A.n).rd rs) F := ⟨h0.vol.keep (k5 _ (by omega) hg hF.v), hq, h0.laid.keep (k5 _ h0.laid.lt (fun e => by have h9 : 2 < 3 := (by decide); omega) hF.g), h0.tab.keep (k5 _ h0.tab.lt (fun e => by have h9 : 1 < 3 := (by decide); omega) hF.t), Nat.le_trans h0.room qe⟩
 have h8 : Outside (fun k => k = ar ∨ k = v ∨ F.has p A.n k) w w3 := hc.trans (h6.out.mono fun _ _ q => q.elim .inl (fun q => .inr (.inr q)))
 have H3 := hide5 h6 h7 h3 hr h8
 clear ha h5 h0 hc hq k5 h7 h3 hr h8 h6
 go_wp2_with fail
 obtain ⟨h6, h7, h3, hr, h8⟩ := H3.out
 refine resume_region5 (A := (A.readTo A.n).rd rs) hr hF k6 h6.arc rfl ⟨hf.n, hf.nb, hf.len, hf.byt⟩ (by show A.n ≤ 20; have := HN.out.2.2.2; omega) (by show 0 < A.nb; omega) hw km h7 (fun q => by have := k9 _ q; omega) h3 kg (by kernel_rfl) rfl rfl (by rw [← qc.out]; rfl) rfl ?_
 intro w4 kd hj
 have kr := hj.size
 have H4 := hide2 kd hj
 clear h6 h7 h3 hr h8 kd hj
 rename_i kb
 refine kb _ _ ?_
 clear kb
 simp only [Act.putFrom, Act.put, List.setIfInBounds_toArray, List.set_cons_succ, List.set_cons_zero]
 go_wp2
 go_ret
 obtain ⟨h6, h7, h3, hr, h8⟩ := H3.out
 obtain ⟨kd, hj⟩ := H4.out
 refine ⟨rfl, ⟨u, o, ?_, ?_, ?_⟩, ⟨_, kd⟩, hr.vol.keep (hj.block _ hr.vol.lt hF.v), h8.trans (hj.mono fun _ _ q => .inr (.inr q))⟩
 · exact h6.arc.keep (hj.block _ h6.arc.lt k6)
 · exact (h6.pg.weaken fun k hk => by omega).keep ⟨kr, fun k hk qf => hj.block k hk (fun q => by have := k9 k q; omega)⟩
 · exact (h6.cat.weaken fun k hk => by omega).keep ⟨kr, fun k hk qf => hj.block k hk (fun q => by have := k9 k q; omega)⟩
theorem load_same (ha : ArcAt w ar v 0 0 0 0 0 0 (.slice none 0 0) (.slice none 0 0) false) (hV : Vol w v p D L G ps 0 A F) (hF : Free F p A.n v) (ke : ¬ F.has p A.n ar) (hf : A.fit) (hn : A.n = D + L + G) (km : 1 ≤ D) (hD : D ≤ 12) (kf : L ≤ 4) (hG : G ≤ 4) (kn : D + L + G ≤ 16)
 (q8 : 3 ≤ A.nb) (hw : A.wait < 0) (h2 : ∀ i, A.lost i = false) (hi : ∀ d, A.bad d 0 = false) (hj : ∀ d, A.bad d 1 = false) (ko : ∀ i, i < A.n → A.blk i 1 = Rec.filled.blk) (P l : List Nat) (kp : ∀ x ∈ l, x < 256) (kr : l.length ≤ 1000000) (hp : P.length = pgs D l.length) (ks : ∀ x ∈ P, x < A.nb) (kv : P.length ≤ A.nb) (kx : P.length ≤ 1000000) (k7 : ∀ x ∈ P, ∀ i, A.bad i x = false)
 (k8 : ∀ k, k < P.length → ∀ i, i < A.n → A.blk i (P.getD k 0) = (Rec.shard ((stripeL D L G (pageB D P l k)).getD i [])).blk) (os : List Ob) (hU : UnpackOk D l os) (ky : (tk A.nb (P ++ allSt os)).2 = true) (k9 : v ≠ ar) (kz : 3 ≤ v) (ka : 3 ≤ ar) (k5 : (Rec.root D L G t (P.getD 0 0) l.length).ok) (ht : 0 < t) (hz : ∀ i, i < A.n → A.blk i 0 = (Rec.root D L G t (P.getD 0 0) l.length).blk) :
 Calls Tryz.prog 54 #[.pointer (some ⟨ar, 0, none⟩)] w fun e w' => e = .returned .nilIface ∧ RsPost w ar v p D L G ps D L G t false A F P l os w' := by
 obtain ⟨c0, _⟩ := ha.cells
 have q0 : ∀ k, F.has p A.n k → k < w.heap.size := fun k hk => hV.arr.has_lt hk
 have q4 := ha.lt
 have q9 := hV.vol.lt
 obtain ⟨m, hm⟩ : ∃ m, l.length = m := ⟨_, rfl⟩
 obtain ⟨f, h6⟩ : ∃ f, P.getD 0 0 = f := ⟨_, rfl⟩
 have q5 := hide k5
 rw [hm, h6] at k5 hz
 have kg := readCopies_ok hV hF hf 0 hn hD kf hG (by omega) (by omega) h2 hi (fun _ => .root D L G t f m) (fun _ => k5) (fun _ => makes_root k5) hz
 have HM := hide3 hm h6 hp
 clear hm h6 hp
 go_enter Tryz.func54, Tryz.ntmps54
 go_wp2_with fail
 refine kg.mono ?_
 rintro e w1 ⟨g, rfl, hg, h1, kh, h7⟩
 have hc := ha.keep (h7.block _ ha.lt ke)
 have hq := hV.turn hF h7 kh
 have kb : A.n ≤ 20 := by omega
 obtain ⟨N, hN⟩ : ∃ N, A.n = N := ⟨_, rfl⟩
 have kc := lastRoot_any (N := A.n) (fun _ => some (.root D L G t f m)) (by omega) (w := w1) h1
 rw [show A.n = (A.n - 1) + 1 by omega, svLast_root ht (A.n - 1) (fun _ _ => rfl), show A.n - 1 + 1 = A.n by omega, show rtA ⟨D, L, G, t, f, m⟩ = rootA D L G t f m from rfl, hN] at kc
 have H1 := hide7 hc hq h7 h1 kc hN hn
 rw [hN] at kb
 clear hc hq h7 h1 kc kh kg hn
 rw [hN]
 clear hN
 go_wp2_with fail
 refine H1.out.2.2.2.2.1.mono ?_
 rintro e w2 ⟨rfl, kd⟩
 have qa := root_zero
 obtain ⟨hc, hq, h7, h1, q6, hN, hn⟩ := H1.out
 clear q6
 have he : Below w1.heap.size w1 (rootVar w2 D L G t f m) := kd.trans ((rootVar_below w2 D L G t f m).mono kd.size)
 have h3 := hc.keep (he.block _ hc.lt)
 have h8 := hq.below he (Nat.le_refl _)
 have h4 := rootVar_at w2 D L G t f m
 have h0 := h1.of_block (he.block g h1.lt)
 obtain ⟨w3, hr⟩ : ∃ w3, rootVar w2 D L G t f m = w3 := ⟨_, rfl⟩
 rw [hr] at he h3 h8 h4 h0
 have hs : Outside (F.has p A.n) w w3 := h7.trans (Outside.of_all he _)
 have H3 := hide6 h3 h8 h4 hs h0 hr
 clear hc hq h7 h1 kd he h3 h8 h4 hs hr c0 h0 hN hn
 go_wp2_with (show wpList _ _ _ ({ dst := none, op := Op.store 107 (.tmp 4) (.tmp 11), type := _, pos := _, after := _, guard := _ } :: _) _ _; refine rt_new (w := w2) (D := D) (L := L) (G := G) (t := t) (f := f) (n := m) rfl (.tmp 4) (.tmp 11) rfl (by rfl) (by rfl) ?_; rw [H3.out.2.2.2.2.2])
 obtain ⟨h3, h8, h4, hs, h0, hr⟩ := H3.out
 clear hr
 refine load_region h8.vol h3 rfl h4 ht (by kernel_rfl) rfl rfl rfl ?_
 intro w4 hh
 rw [decide_eq_true (⟨rfl, rfl, rfl⟩ : (D : Int) = D ∧ (L : Int) = L ∧ (G : Int) = G)]
 have ki := h3.keep (hh.block _ h3.lt)
 have kj := h8.below hh (Nat.le_refl _)
 have k6 := (hh.block _ (Array.getElem?_eq_some_iff.1 h4).1).trans h4
 have h5 := h0.of_block (hh.block _ h0.lt)
 have hy : Outside (F.has p A.n) w w4 := hs.trans (Outside.of_all hh _)
 have c4 : w4.cell? ⟨w2.heap.size, 3, none⟩ = some (.int .u64 t) := by simp [World.cell?, k6, rootA]
 have qb : decide ((t : Int) > 0) = true := decide_eq_true (by omega)
 have q7 : ¬ F.has p A.n g := fun q => by have := q0 _ q; omega
 obtain ⟨hm, h6, hp⟩ := HM.out
 have k0 := resume_ok (t1 := t) (D1 := D) (L1 := L) (G1 := G) (A := A.readTo A.n) (g := g) ki kj hF ke (hf.readTo _) H1.out.2.2.2.2.2.2 km hD kf hG kn hw h2 (by show 1 < A.nb; omega) hj ko P l kp kr hp ks kv kx k7 k8 os hU ky k9 kz ka q5.out (by rw [hm, h6]; exact h5) q7 (by omega) (by omega)
 rw [hm, h6, show (A.readTo A.n).n = A.n from rfl, H1.out.2.2.2.2.2.1] at k0
 have H4 := hide3 k0 k6 hy
 clear h3 h8 h4 hs h0 hh ki kj k6 h5 hy k0 hm h6 hp
 rename_i kk
 refine kk _ _ ?_
 clear kk
 simp only [Act.putFrom, Act.put, List.setIfInBounds_toArray, List.set_cons_succ, List.set_cons_zero, Bool.not_true]
 go_wp2_with (show wpList _ _ _ ({ dst := some 32, op := _, type := _, pos := _, after := _, guard := _ } :: _) _ _; refine rt_load (D := D) (L := L) (G := G) (t := t) (f := f) (n := m) (b := w2.heap.size) rfl (.tmp 4) rfl rfl (by rfl) (by exact H4.out.2.1) ?_)
 refine H4.out.1.mono ?_
 rintro e w5 ⟨rfl, h9⟩
 have H5 := hide h9
 clear h9
 go_wp2
 go_ret
 obtain ⟨hx, k6, hy⟩ := H4.out
 have h9 := H5.out
 have qc := hy.size
 obtain ⟨u, o, q1, q2, q3⟩ := h9.arc
 refine ⟨rfl, ⟨u, o, q1, q2.weaken fun k hk => by omega, q3.weaken fun k hk => by omega⟩, ?_, h9.vol, (hy.mono fun _ _ q => .inr (.inr q)).trans h9.out⟩
 obtain ⟨rs, k0⟩ := h9.arr
 exact ⟨rs, k0⟩
end Go.Proofs.YtpaemkanfnddoaaGreatDoor
