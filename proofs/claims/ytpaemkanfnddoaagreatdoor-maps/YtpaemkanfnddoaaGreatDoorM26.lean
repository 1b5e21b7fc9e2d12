import Derived.Test.YtpaemkanfnddoaaGreatDoorM25
set_option maxRecDepth 100000
set_option maxHeartbeats 8000000
namespace Go.Proofs.YtpaemkanfnddoaaGreatDoor
open Go.RowKit Go.Deep
variable {a : Act} {ops : Array Oper} {cs : Array Value} {Q : Exit → Act → World → Prop} {v N t ar p D L G ps hl0 q D1 L1 G1 t1 f1 n1 f pc : Nat} {Dn : Nat → Bool} {o : Oper} {s : Operand} {P : Program} {w : World}
section
open Gf
def BP4 (w : World) (v N : Nat) (Dn : Nat → Bool) (w' : World) : Prop := Below w.heap.size w w' ∧ (Dn 6 = false → w'.heap.size = w.heap.size) ∧ (Dn 6 = true → RdAt w' (w.heap.size + 2) v 0 (w.heap.size + 1) N 0 0 ∧ w'.rowIs (w.heap.size + 1) 31 N (fun _ => .slice none 0 0))
theorem BP4_upd {w' : World} (h : BP4 w v N Dn w') (i : Nat) (hi : 6 ≠ i) : BP4 w v N (upd Dn i) w' := by unfold BP4; rw [upd_ne hi]; exact h
theorem run_op_min {t : Operand} {ats : Array TypeId} (ho : o.op = .call { callee := .builtin .min, args := #[s, t], argTypes := ats }) {x y : Int} (hx : a.eval s = .int .i64 x) (hy : a.eval t = .int .i64 y) {w : World} :
 (execOp a.eval o).run P w = .ok (.value (.int .i64 (if y < x then y else x))) w := by
 unfold execOp
 simp only [ho, resolve, invoke, builtin, Sem.run_bind, Sem.run_pure, Result.andThen_ok, List.map_toArray, List.map_cons, List.map_nil, hx, hy, run_min_int]
theorem run_op_len {t : TypeId} (ho : o.op = .call { callee := .builtin .len, args := #[s], argTypes := #[t] }) {e : TypeId} (ht : P.underlying t = some (.slice e)) {pa : Option Addr} {n c : Nat} (hx : a.eval s = .slice pa n c) (w : World) : (execOp a.eval o).run P w = .ok (.value (.int .i64 n)) w := by
 unfold execOp
 simp only [ho, resolve, invoke, builtin, Sem.run_bind, Sem.run_pure, Result.andThen_ok, List.map_toArray, List.map_cons, List.map_nil, hx]
 simp [Builtin.len_, run_underlying ht, goInt]
noncomputable def RP4 : Array Oper := ((Tryz.f144.body.bind (rgf · 4))).getD #[]
def shP4 : List (Op × Option Nat × List Nat) := [(Op.fieldAddr 107 (.tmp 3) 2, some 25, []),
 (Op.load 3 (.tmp 25), some 26, [0]),
 (Op.move (.tmp 0), some 27, []),
 (Op.nilCheck (.tmp 27), some 28, [2]),
 (Op.fieldAddr 112 (.tmp 28) 0, some 29, [3]),
 (Op.load 104 (.tmp 29), some 30, [4]),
 (Op.call { callee := Callee.value (Operand.func 61), args := #[.tmp 30], argTypes := #[104] }, some 31, [5]),
 (Op.assign (.tmp 26), some 8, [1, 6, 0, 1]),
 (Op.assign (.tmp 31), some 9, [6, 7, 0, 1, 2, 3, 4, 5, 6, 7])]
theorem RP4_shape : RegShape RP4 8 32 shP4 := regShape (by kernel_rfl) (by kernel_rfl)
def vsP4 (w : World) (ar v q f1 : Nat) : List Value := [.pointer (some ⟨q, 4, none⟩), .int .i64 f1, .pointer (some ⟨ar, 0, none⟩), .pointer (some ⟨ar, 0, none⟩), .pointer (some ⟨ar, 0, none⟩), .pointer (some ⟨v, 0, none⟩), .pointer (some ⟨w.heap.size + 2, 0, none⟩), .int .i64 f1, .pointer (some ⟨w.heap.size + 2, 0, none⟩)]
theorem readPages_region4 {hj : Nat} (hV : VolAt w v p D L G ps hj) (hD : D ≤ 12) (hL : L ≤ 4) (hG : G ≤ 4) (hN : N = D + L + G) (ha : w.heap[ar]? = some (.cells cs 112 (0, 0))) (h0 : cs[0]? = some (.pointer (some ⟨v, 0, none⟩))) (hq : w.heap[q]? = some (.cells (rootA D1 L1 G1 t1 f1 n1) 107 (0, 0))) (h7 : RP4 = ops) (hr : a.tmps.size = 69)
 (e0 : a.eval (.tmp 0) = .pointer (some ⟨ar, 0, none⟩)) (e3 : a.eval (.tmp 3) = .pointer (some ⟨q, 0, none⟩))
 (hQ : ∀ (w' : World), Below w.heap.size w w' → RdAt w' (w.heap.size + 2) v 0 (w.heap.size + 1) N 0 0 → w'.rowIs (w.heap.size + 1) 31 N (fun _ => .slice none 0 0) → Q .normal (Act.putFrom (Act.putFrom a 8 [.int .i64 f1, .pointer (some ⟨w.heap.size + 2, 0, none⟩)]) 25 [.pointer (some ⟨q, 4, none⟩), .int .i64 f1, .pointer (some ⟨ar, 0, none⟩), .pointer (some ⟨ar, 0, none⟩), .pointer (some ⟨ar, 0, none⟩), .pointer (some ⟨v, 0, none⟩), .pointer (some ⟨w.heap.size + 2, 0, none⟩)]) w') : (Code.region 4 ops true).wp Tryz.prog Q a w := by
 subst h7
 have h8 : ar < w.heap.size := (Array.getElem?_eq_some_iff.1 ha).1
 have hm : q < w.heap.size := (Array.getElem?_eq_some_iff.1 hq).1
 have h9 : ∀ w', Below w.heap.size w w' → w'.cell? ⟨ar, 0, none⟩ = some (.pointer (some ⟨v, 0, none⟩)) := fun w' hO => by
  have := (hO.block ar h8).trans ha
  simp [World.cell?, this, h0]
 have hp : ∀ w', Below w.heap.size w w' → w'.cell? ⟨q, 4, none⟩ = some (.int .i64 f1) := fun w' hO => by
  have := (hO.block q hm).trans hq
  simp [World.cell?, this, rootA]
 refine region_factsS (by kernel_rfl) RP4_shape a w (by omega) (fun i u _ => u = (vsP4 w ar v q f1).getD i undef) (BP4 w v N) ⟨(Below.refl _ w).drew, fun _ => rfl, fun h => (by cases h)⟩ ?_ ?_
 · intro i hi
   match i, hi with
   | 0, _ =>
    intro o a' w' Dn hg ho h1 hk h4 h5 h2 hB h3
    have u0 : a'.eval (.tmp 3) = .pointer (some ⟨q, 0, none⟩) := (hk.slot 3 (by omega)).trans e3
    exact op_val (v := .pointer (some ⟨q, 4, none⟩)) (by simp only [execOp, show o.op = Op.fieldAddr 107 (.tmp 3) 2 from ho, u0]; go_simp) h1 ⟨BP4_upd hB 0 (by decide), rfl, kq⟩
   | 1, _ =>
    intro o a' w' Dn hg ho h1 hk h4 h5 h2 hB h3
    have u0 : a'.eval (.tmp 25) = .pointer (some ⟨q, 4, none⟩) := h3 0 (h2 0 (by decide))
    have c := hp w' hB.1
    exact op_val (v := .int .i64 f1) (by simp only [execOp, show o.op = Op.load 3 (.tmp 25) from ho, u0]; go_simp) h1 ⟨BP4_upd hB 1 (by decide), rfl, kq⟩
   | 2, _ =>
    intro o a' w' Dn hg ho h1 hk h4 h5 h2 hB h3
    have u0 : a'.eval (.tmp 0) = .pointer (some ⟨ar, 0, none⟩) := (hk.slot 0 (by omega)).trans e0
    exact op_val (run_op_move ho u0 w') h1 ⟨BP4_upd hB 2 (by decide), rfl, kq⟩
   | 3, _ =>
    intro o a' w' Dn hg ho h1 hk h4 h5 h2 hB h3
    have u0 : a'.eval (.tmp 27) = .pointer (some ⟨ar, 0, none⟩) := h3 2 (h2 2 (by decide))
    exact op_val (run_op_nil ho u0 w') h1 ⟨BP4_upd hB 3 (by decide), rfl, kq⟩
   | 4, _ =>
    intro o a' w' Dn hg ho h1 hk h4 h5 h2 hB h3
    have u0 : a'.eval (.tmp 28) = .pointer (some ⟨ar, 0, none⟩) := h3 3 (h2 3 (by decide))
    exact op_val (v := .pointer (some ⟨ar, 0, none⟩)) (by simp only [execOp, show o.op = Op.fieldAddr 112 (.tmp 28) 0 from ho, u0]; go_simp) h1 ⟨BP4_upd hB 4 (by decide), rfl, kq⟩
   | 5, _ =>
    intro o a' w' Dn hg ho h1 hk h4 h5 h2 hB h3
    have u0 : a'.eval (.tmp 29) = .pointer (some ⟨ar, 0, none⟩) := h3 4 (h2 4 (by decide))
    have c := h9 w' hB.1
    exact op_val (v := .pointer (some ⟨v, 0, none⟩)) (by simp only [execOp, show o.op = Op.load 104 (.tmp 29) from ho, u0]; go_simp) h1 ⟨BP4_upd hB 5 (by decide), rfl, kq⟩
   | 6, _ =>
    intro o a' w' Dn hg ho h1 hk h4 h5 h2 hB h3
    have u0 : a'.eval (.tmp 30) = .pointer (some ⟨v, 0, none⟩) := h3 5 (h2 5 (by decide))
    refine op_call (f := 61) (args := #[.pointer (some ⟨v, 0, none⟩)]) (w1 := w') (by simp only [execOp, show o.op = Op.call { callee := Callee.value (Operand.func 61), args := #[.tmp 30], argTypes := #[104] } from ho]; go_simp; simpa [Act.eval] using u0) h1 (reader_at (hV.keep (hB.1.block _ hV.lt)) hD hL hG hN) ?_
    rintro e w'' ⟨rfl, hc, he, hb⟩
    have hz := hB.2.1 h4
    rw [hz] at hc he ⊢
    exact ⟨_, rfl, ⟨hB.1.trans (hb.mono hB.1.size), fun h => (by rw [upd_eq] at h; cases h), fun _ => ⟨hc, he⟩⟩, rfl, kq⟩
   | 7, _ =>
    intro o a' w' Dn hg ho h1 hk h4 h5 h2 hB h3
    have u0 : a'.eval (.tmp 26) = .int .i64 f1 := h3 1 (h2 1 (by decide))
    exact op_val (v := .int .i64 f1) (by simp only [execOp, show o.op = Op.assign (.tmp 26) from ho, u0]; go_simp) h1 ⟨BP4_upd hB 7 (by decide), rfl, kq⟩
   | 8, _ =>
    intro o a' w' Dn hg ho h1 hk h4 h5 h2 hB h3
    have u0 : a'.eval (.tmp 31) = .pointer (some ⟨w.heap.size + 2, 0, none⟩) := h3 6 (h2 6 (by decide))
    exact op_val (v := .pointer (some ⟨w.heap.size + 2, 0, none⟩)) (by simp only [execOp, show o.op = Op.assign (.tmp 31) from ho, u0]; go_simp) h1 ⟨BP4_upd hB 8 (by decide), rfl, kq⟩
   | n + 9, hn => exact absurd hn (by show ¬ n + 9 < 9; omega)
 · rintro a' w' hf h6 ⟨Dn, hh, hB⟩ h3
   have e : a' = Act.putFrom (Act.putFrom a 8 [.int .i64 f1, .pointer (some ⟨w.heap.size + 2, 0, none⟩)]) 25 [.pointer (some ⟨q, 4, none⟩), .int .i64 f1, .pointer (some ⟨ar, 0, none⟩), .pointer (some ⟨ar, 0, none⟩), .pointer (some ⟨ar, 0, none⟩), .pointer (some ⟨v, 0, none⟩), .pointer (some ⟨w.heap.size + 2, 0, none⟩)] := out2 hf.size hf.defers (same_ds h6) (by rfl) (by show 8 + 2 ≤ 25; omega) (by show 32 ≤ _; omega) (fun i hi => ?_) (fun i hi => ?_)
   · rw [e]; exact hQ w' hB.1 (hB.2.2 (hh 6 (by decide))).1 (hB.2.2 (hh 6 (by decide))).2
   · match i, hi with
     | 0, _ => exact h3 7 (by decide)
     | 1, _ => exact h3 8 (by decide)
     | n + 2, hn => exact absurd hn (by simp)
   · match i, hi with
     | 0, _ => exact h3 0 (by decide)
     | 1, _ => exact h3 1 (by decide)
     | 2, _ => exact h3 2 (by decide)
     | 3, _ => exact h3 3 (by decide)
     | 4, _ => exact h3 4 (by decide)
     | 5, _ => exact h3 5 (by decide)
     | 6, _ => exact h3 6 (by decide)
     | n + 7, hn => exact absurd hn (by simp)
noncomputable def RP7 : Array Oper := ((Tryz.f144.body.bind (rgf · 7))).getD #[]
def shP7 : List (Op × Option Nat × List Nat) := [(Op.fieldAddr 107 (.tmp 3) 3, some 35, []),
 (Op.load 3 (.tmp 35), some 36, [0]),
 (Op.move (.tmp 4), some 37, []),
 (Op.call { callee := Callee.builtin Builtin.len, args := #[.tmp 37], argTypes := #[31] }, some 38, [2]),
 (Op.binOp BinOp.sub 3 (.tmp 36) (.tmp 38) 3, some 39, [1, 3]),
 (Op.move (.tmp 0), some 40, []),
 (Op.call { callee := Callee.value (Operand.func 103), args := #[.tmp 40], argTypes := #[84] }, some 41, [5]),
 (Op.call { callee := Callee.builtin Builtin.min, args := #[.tmp 39, .tmp 41], argTypes := #[3, 3] }, some 42, [4, 6]),
 (Op.assign (.tmp 42), some 10, [7, 6, 0, 1, 2, 3, 4, 5, 6, 7])]
theorem RP7_shape : RegShape RP7 10 43 shP7 := regShape (by kernel_rfl) (by kernel_rfl)
def vsP7 (ar D n1 pl pc q : Nat) (pa : Option Addr) : List Value := [.pointer (some ⟨q, 5, none⟩), .int .i64 n1, .slice pa pl pc, .int .i64 pl, .int .i64 ((n1 - pl : Nat) : Int), .pointer (some ⟨ar, 0, none⟩), .int .i64 ((D * 44 - 4 : Nat) : Int), .int .i64 ((min (n1 - pl) (D * 44 - 4) : Nat) : Int), .int .i64 ((min (n1 - pl) (D * 44 - 4) : Nat) : Int)]
theorem readPages_region7 {h7 D' L' G' nn pl : Nat} {pa : Option Addr} {pg ob : Value} {off : Bool} (hA : ArcAt w ar v D' L' G' t f nn pg ob off) (hV : VolAt w v p D L G ps h7) (h9 : 1 ≤ D) (hD : D ≤ 12) (hq : w.heap[q]? = some (.cells (rootA D1 L1 G1 t1 f1 n1) 107 (0, 0))) (he : n1 ≤ 1000000) (hf : pl ≤ n1) (h6 : RP7 = ops) (hh : a.tmps.size = 69)
 (e0 : a.eval (.tmp 0) = .pointer (some ⟨ar, 0, none⟩)) (e3 : a.eval (.tmp 3) = .pointer (some ⟨q, 0, none⟩)) (e4 : a.eval (.tmp 4) = .slice pa pl pc)
 (hQ : ∀ (w' : World), w' = w.drew → Q .normal (Act.putFrom (Act.putFrom a 10 [.int .i64 ((min (n1 - pl) (D * 44 - 4) : Nat) : Int)]) 35 [.pointer (some ⟨q, 5, none⟩), .int .i64 n1, .slice pa pl pc, .int .i64 pl, .int .i64 ((n1 - pl : Nat) : Int), .pointer (some ⟨ar, 0, none⟩), .int .i64 ((D * 44 - 4 : Nat) : Int), .int .i64 ((min (n1 - pl) (D * 44 - 4) : Nat) : Int)]) w') : (Code.region 7 ops true).wp Tryz.prog Q a w := by
 subst h6
 have ha : w.cell? ⟨q, 5, none⟩ = some (.int .i64 n1) := by simp [World.cell?, hq, rootA]
 have hj : ((n1 : Nat) : Int) - (pl : Int) = ((n1 - pl : Nat) : Int) := by omega
 have hc : (if (((D * 44 - 4 : Nat) : Int)) < ((n1 - pl : Nat) : Int) then ((D * 44 - 4 : Nat) : Int) else ((n1 - pl : Nat) : Int)) = ((min (n1 - pl) (D * 44 - 4) : Nat) : Int) := by split <;> omega
 refine region_factsS (by kernel_rfl) RP7_shape a w (by omega) (fun i u _ => u = (vsP7 ar D n1 pl pc q pa).getD i undef) (fun _ w' => w' = w.drew) rfl ?_ ?_
 · intro i hi
   match i, hi with
   | 0, _ =>
    intro o a' w' Dn hg ho h0 hk h3 h4 h1 hB h2
    have u0 : a'.eval (.tmp 3) = .pointer (some ⟨q, 0, none⟩) := (hk.slot 3 (by omega)).trans e3
    exact op_val (v := .pointer (some ⟨q, 5, none⟩)) (by simp only [execOp, show o.op = Op.fieldAddr 107 (.tmp 3) 3 from ho, u0]; go_simp) h0 ⟨hB, rfl, kq⟩
   | 1, _ =>
    intro o a' w' Dn hg ho h0 hk h3 h4 h1 hB h2
    have u0 : a'.eval (.tmp 35) = .pointer (some ⟨q, 5, none⟩) := h2 0 (h1 0 (by decide))
    have c : w'.cell? ⟨q, 5, none⟩ = some (.int .i64 n1) := by rw [hB]; exact ha
    exact op_val (v := .int .i64 n1) (by simp only [execOp, show o.op = Op.load 3 (.tmp 35) from ho, u0]; go_simp) h0 ⟨hB, rfl, kq⟩
   | 2, _ =>
    intro o a' w' Dn hg ho h0 hk h3 h4 h1 hB h2
    have u0 : a'.eval (.tmp 4) = .slice pa pl pc := (hk.slot 4 (by omega)).trans e4
    exact op_val (run_op_move ho u0 w') h0 ⟨hB, rfl, kq⟩
   | 3, _ =>
    intro o a' w' Dn hg ho h0 hk h3 h4 h1 hB h2
    have u0 : a'.eval (.tmp 37) = .slice pa pl pc := h2 2 (h1 2 (by decide))
    exact op_val (run_op_len ho Tryz.underlying31 u0 w') h0 ⟨hB, rfl, kq⟩
   | 4, _ =>
    intro o a' w' Dn hg ho h0 hk h3 h4 h1 hB h2
    have u0 : a'.eval (.tmp 36) = .int .i64 n1 := h2 1 (h1 1 (by decide))
    have u1 : a'.eval (.tmp 38) = .int .i64 pl := h2 3 (h1 3 (by decide))
    have hm : IntKind.i64.wrap ((n1 - pl : Nat) : Int) = ((n1 - pl : Nat) : Int) := by rw [IntKind.wrap_i64]; omega
    exact op_val (v := .int .i64 ((n1 - pl : Nat) : Int)) (by simp only [execOp, show o.op = Op.binOp BinOp.sub 3 (.tmp 36) (.tmp 38) 3 from ho, u0, u1]; go_simp) h0 ⟨hB, rfl, kq⟩
   | 5, _ =>
    intro o a' w' Dn hg ho h0 hk h3 h4 h1 hB h2
    have u0 : a'.eval (.tmp 0) = .pointer (some ⟨ar, 0, none⟩) := (hk.slot 0 (by omega)).trans e0
    exact op_val (run_op_move ho u0 w') h0 ⟨hB, rfl, kq⟩
   | 6, _ =>
    intro o a' w' Dn hg ho h0 hk h3 h4 h1 hB h2
    have u0 : a'.eval (.tmp 40) = .pointer (some ⟨ar, 0, none⟩) := h2 5 (h1 5 (by decide))
    refine op_call (f := 103) (args := #[.pointer (some ⟨ar, 0, none⟩)]) (w1 := w') (by simp only [execOp, show o.op = Op.call { callee := Callee.value (Operand.func 103), args := #[.tmp 40], argTypes := #[84] } from ho]; go_simp; simpa [Act.eval] using u0) h0 (pageSize_any (show ArcAt w' ar v D' L' G' t f nn pg ob off by rw [hB]; exact hA) (show VolAt w' v p D L G ps h7 by rw [hB]; exact hV) h9 (by omega)) ?_
    rintro e w'' ⟨rfl, hw⟩
    exact ⟨_, rfl, by rw [hw]; exact hB, rfl, kq⟩
   | 7, _ =>
    intro o a' w' Dn hg ho h0 hk h3 h4 h1 hB h2
    have u0 : a'.eval (.tmp 39) = .int .i64 ((n1 - pl : Nat) : Int) := h2 4 (h1 4 (by decide))
    have u1 : a'.eval (.tmp 41) = .int .i64 ((D * 44 - 4 : Nat) : Int) := h2 6 (h1 6 (by decide))
    exact op_val (v := .int .i64 ((min (n1 - pl) (D * 44 - 4) : Nat) : Int)) (by rw [run_op_min ho u0 u1, hc]) h0 ⟨hB, rfl, kq⟩
   | 8, _ =>
    intro o a' w' Dn hg ho h0 hk h3 h4 h1 hB h2
    have u0 : a'.eval (.tmp 42) = .int .i64 ((min (n1 - pl) (D * 44 - 4) : Nat) : Int) := h2 7 (h1 7 (by decide))
    exact op_val (v := .int .i64 ((min (n1 - pl) (D * 44 - 4) : Nat) : Int)) (by simp only [execOp, show o.op = Op.assign (.tmp 42) from ho, u0]; go_simp) h0 ⟨hB, rfl, kq⟩
   | n + 9, hn => exact absurd hn (by show ¬ n + 9 < 9; omega)
 · rintro a' w' h8 h5 ⟨Dn, hp, hB⟩ h2
   have e : a' = Act.putFrom (Act.putFrom a 10 [.int .i64 ((min (n1 - pl) (D * 44 - 4) : Nat) : Int)]) 35 [.pointer (some ⟨q, 5, none⟩), .int .i64 n1, .slice pa pl pc, .int .i64 pl, .int .i64 ((n1 - pl : Nat) : Int), .pointer (some ⟨ar, 0, none⟩), .int .i64 ((D * 44 - 4 : Nat) : Int), .int .i64 ((min (n1 - pl) (D * 44 - 4) : Nat) : Int)] := out2 h8.size h8.defers (same_ds h5) (by rfl) (by show 10 + 1 ≤ 35; omega) (by show 43 ≤ _; omega) (fun i hi => ?_) (fun i hi => ?_)
   · rw [e]; exact hQ w' hB
   · match i, hi with
     | 0, _ => exact h2 8 (by decide)
     | n + 1, hn => exact absurd hn (by simp)
   · match i, hi with
     | 0, _ => exact h2 0 (by decide)
     | 1, _ => exact h2 1 (by decide)
     | 2, _ => exact h2 2 (by decide)
     | 3, _ => exact h2 3 (by decide)
     | 4, _ => exact h2 4 (by decide)
     | 5, _ => exact h2 5 (by decide)
     | 6, _ => exact h2 6 (by decide)
     | 7, _ => exact h2 7 (by decide)
     | n + 8, hn => exact absurd hn (by simp)
end
theorem framed_two {a' : Act} {d lo : Nat} {v : Value} {vs : List Value} (h0 : a'.tmps.size = a.tmps.size) (h2 : a'.defers = a.defers) (h1 : lo + vs.length ≤ a.tmps.size) (hd : d < lo) (hv : a'.eval (.tmp d) = v) (h3 : ∀ i, i < vs.length → a'.eval (.tmp (lo + i)) = vs.getD i undef) (hs : ∀ s, s ≠ d → s < lo ∨ lo + vs.length ≤ s → a'.eval (.tmp s) = a.eval (.tmp s)) : a' = Act.putFrom (a.put (some d) v) lo vs := by
 obtain ⟨p1, p2⟩ := putFrom_size vs (a.put (some d) v) lo
 refine act_ext (h0.trans ((p1.trans (rf_size _ _ _)).symm)) (h2.trans p2.symm) fun s _ => ?_
 rw [putFrom_eval vs _ lo s (by rw [rf_size]; omega)]
 by_cases e : lo ≤ s ∧ s < lo + vs.length
 · rw [if_pos e]
   have := h3 (s - lo) (by omega)
   rwa [show lo + (s - lo) = s by omega] at this
 · rw [if_neg e]
   by_cases e2 : s = d
   · subst e2
     rw [rf_same _ _ _ (by omega), hv]
   · rw [rf_other _ _ _ _ (fun q => e2 q.symm)]
     exact hs s e2 (by omega)
noncomputable def RCm : Array Oper := ((Tryz.f71.body.bind (rgf · 5))).getD #[]
def shCm : List (Op × Option Nat × List Nat) := [(Op.move (.tmp 0), some 19, []),
 (Op.nilCheck (.tmp 19), some 20, [0]),
 (Op.fieldAddr 112 (.tmp 20) 0, some 21, [1]),
 (Op.load 104 (.tmp 21), some 22, [2]),
 (Op.call { callee := Callee.value (Operand.func 79), args := #[.tmp 22], argTypes := #[104] }, some 23, [3]),
 (Op.move (.tmp 0), some 24, []),
 (Op.nilCheck (.tmp 24), some 25, [5]),
 (Op.fieldAddr 112 (.tmp 25) 1, some 26, [6]),
 (Op.fieldAddr 107 (.tmp 26) 1, some 27, [7]),
 (Op.load 105 (.tmp 27), some 28, [8]),
 (Op.binOp BinOp.add 105 (.tmp 28) (Operand.const (Value.int IntKind.u64 1)) 105, some 29, [9]),
 (Op.move (.tmp 2), some 30, []),
 (Op.indexAddr 108 (.tmp 30) (Operand.const (Value.int IntKind.i64 0)), some 31, [11]),
 (Op.load 3 (.tmp 31), some 32, [12]),
 (Op.move (.tmp 7), some 33, []),
 (Op.call { callee := Callee.builtin Builtin.len, args := #[.tmp 33], argTypes := #[31] }, some 34, [14]),
 (Op.build 107 #[(0, .tmp 23), (1, .tmp 29), (2, .tmp 32), (3, .tmp 34)], some 35, [4, 10, 13, 15]),
 (Op.alloc 107, some 9, []),
 (Op.store 107 (.tmp 9) (.tmp 35), none, [17, 16, 4, 0, 1, 2, 3, 4, 5, 6, 7, 8, 9, 10, 11, 12, 13, 14, 15, 16, 17])]
theorem RCm_shape : RegShape RCm 9 36 shCm := regShape (by kernel_rfl) (by kernel_rfl)
theorem op_len_bytes (ho : o.op = .call { callee := .builtin .len, args := #[s], argTypes := #[31] }) {so : Option Addr} {n c : Nat} (hx : a.eval s = .slice so n c) (w : World) : (execOp a.eval o).run Tryz.prog w = .ok (.value (.int .i64 n)) w := by
 unfold execOp
 simp only [ho, resolve, invoke, builtin, Sem.run_bind, Sem.run_pure, Result.andThen_ok, List.map_toArray, List.map_cons, List.map_nil, hx]
 simp [Builtin.len_, run_underlying Tryz.underlying31, goInt]
def isRoot (w : World) (b : Nat) : Prop := ∃ cs : Array Value, cs.size = 6 ∧ w.heap[b]? = some (.cells cs 107 (0, 0))
def VCm (s ar v D L G t m pb po pn pc f : Nat) (so : Option Addr) (cap : Nat) (i : Nat) (u : Value) (w : World) : Prop := match i with
 | 0 | 1 | 2 | 5 | 6 => u = .pointer (some ⟨ar, 0, none⟩)
 | 3 => u = .pointer (some ⟨v, 0, none⟩)
 | 4 => u = .agg #[.int .i64 D, .int .i64 L, .int .i64 G]
 | 7 => u = .pointer (some ⟨ar, 1, none⟩)
 | 8 => u = .pointer (some ⟨ar, 4, none⟩)
 | 9 => u = .int .u64 t
 | 10 => u = .int .u64 ((t + 1 : Nat) : Int)
 | 11 => u = .slice (some ⟨pb, po, none⟩) pn pc
 | 12 => u = .pointer (some ⟨pb, po, none⟩)
 | 13 => u = .int .i64 f
 | 14 => u = .slice so m cap
 | 15 => u = .int .i64 m
 | 16 => u = .agg (rootA D L G (t + 1) f m)
 | 17 => ∃ b, u = .pointer (some ⟨b, 0, none⟩) ∧ s ≤ b ∧ isRoot w b
 | 18 => ∃ b, s ≤ b ∧ w.heap[b]? = some (.cells (rootA D L G (t + 1) f m) 107 (0, 0))
 | _ => True
def BCm (w0 : World) (Dn : Nat → Bool) (w : World) : Prop := Below w0.heap.size w0 w ∧ (∀ b b', w0.heap.size ≤ b → w0.heap.size ≤ b' → isRoot w b → isRoot w b' → b = b') ∧ (Dn 17 = false → ∀ b, w0.heap.size ≤ b → ¬ isRoot w b)
theorem BCm_pure {w0 : World} (h : BCm w0 Dn w) (i : Nat) (hi : i ≠ 17) : BCm w0 (upd Dn i) w := ⟨h.1, h.2.1, fun q => h.2.2 (by unfold upd at q; rwa [if_neg (fun e => hi e.symm)] at q)⟩
theorem root_zero (w : World) : (zeroValue 107).run Tryz.prog w = .ok (.agg (rootA 0 0 0 0 0 0)) w := by
 obtain ⟨i0, h0, h1⟩ : ∃ i0, Tryz.prog.info? 107 = some i0 ∧ i0.zero = some (.agg (rootA 0 0 0 0 0 0)) := by
  have : (Tryz.prog.info? 107).map (fun i => i.zero) = some (some (.agg (rootA 0 0 0 0 0 0))) := by kernel_rfl
  rw [Option.map_eq_some_iff] at this
  exact this
 simp [zeroValue, typeInfo, Sem.run_bind, h0, h1]
theorem rootA_info (D L G t f n : Nat) : (Tryz.prog.info? 107).map (fun i => i.size) = some (rootA D L G t f n).size := by kernel_rfl
theorem rootA_one (D L G t f n : Nat) : (rootA D L G t f n).all (fun v => v.oneCell') = true := by simp [rootA, Value.oneCell']
theorem root_store {b n : Nat} (h : w.heap[b]? = some (.cells cs 107 (0, 0))) (hc : cs.size = 6) : (Instr.storeAt 107 (.pointer (some ⟨b, 0, none⟩)) (.agg (rootA D L G t f n))).run Tryz.prog w = .ok () (w.setRow b (rootA D L G t f n)) := by
 simp only [Instr.storeAt, Instr.sureAddr, Sem.run_bind, Sem.run_pure, Result.andThen_ok, run_storeVar_row w b 107 107 cs (rootA D L G t f n) h (rootA_info D L G t f n) (by rw [hc]; rfl) (rootA_one D L G t f n)]
theorem commit_region {ho m cap pb po pn : Nat} {so : Option Addr} (hm : RCm = ops) (hV : VolAt w v p D L G ps ho) (hp : w.heap[ar]? = some (.cells cs 112 (0, 0))) (h0 : cs[0]? = some (.pointer (some ⟨v, 0, none⟩))) (h4 : cs[4]? = some (.int .u64 t)) (ht : t ≤ 1000000000) (k9 : 1 ≤ pn) (hx : w.cell? ⟨pb, po, none⟩ = some (.int .i64 f))
 (ka : a.tmps.size = 60) (e0 : a.eval (.tmp 0) = .pointer (some ⟨ar, 0, none⟩)) (e2 : a.eval (.tmp 2) = .slice (some ⟨pb, po, none⟩) pn pc) (e7 : a.eval (.tmp 7) = .slice so m cap)
 (hQ : ∀ (w' : World) (vs : List Value) (b : Nat), vs.length = 17 → w.heap.size ≤ b → w'.heap[b]? = some (.cells (rootA D L G (t + 1) f m) 107 (0, 0)) → Below w.heap.size w w' → Q .normal (Act.putFrom (a.put (some 9) (.pointer (some ⟨b, 0, none⟩))) 19 vs) w') : (Code.region 5 ops true).wp Tryz.prog Q a w := by
 subst hm
 have hf : ar < w.heap.size := (Array.getElem?_eq_some_iff.1 hp).1
 have n1 : IntKind.u64.wrap ((t : Int) + 1) = ((t + 1 : Nat) : Int) := by rw [IntKind.wrap_u64]; omega
 refine region_factsS (by kernel_rfl) RCm_shape a w (by omega) (VCm w.heap.size ar v D L G t m pb po pn pc f so cap) (BCm w) ⟨(Below.refl _ w).drew, fun b b' hb _ hr _ => ?_, fun _ b hb hr => ?_⟩ ?_ ?_
 · obtain ⟨c, _, hr⟩ := hr
   have := (Array.getElem?_eq_some_iff.1 hr).1
   have k5 : w.drew.heap.size = w.heap.size := rfl
   omega
 · obtain ⟨c, _, hr⟩ := hr
   have := (Array.getElem?_eq_some_iff.1 hr).1
   have k5 : w.drew.heap.size = w.heap.size := rfl
   omega
 · intro i hi
   match i, hi with
   | 0, _ => exact fun o a' w' Dn hg ho h6 hk h8 h9 h7 hB hV => op_val (run_op_move ho ((hk.slot 0 (by omega)).trans e0) w') h6 ⟨BCm_pure hB _ (by decide), rfl, kq⟩
   | 1, _ =>
    intro o a' w' Dn hg ho h6 hk h8 h9 h7 hB hV
    have u0 : a'.eval (.tmp 19) = .pointer (some ⟨ar, 0, none⟩) := hV 0 (h7 0 (by decide))
    exact op_val (run_op_nil ho u0 w') h6 ⟨BCm_pure hB _ (by decide), rfl, kq⟩
   | 2, _ =>
    intro o a' w' Dn hg ho h6 hk h8 h9 h7 hB hV
    have u0 : a'.eval (.tmp 20) = .pointer (some ⟨ar, 0, none⟩) := hV 1 (h7 1 (by decide))
    exact op_val (v := .pointer (some ⟨ar, 0, none⟩)) (by simp only [execOp, show o.op = Op.fieldAddr 112 (.tmp 20) 0 from ho, u0]; go_simp) h6 ⟨BCm_pure hB _ (by decide), rfl, kq⟩
   | 3, _ =>
    intro o a' w' Dn hg ho h6 hk h8 h9 h7 hB hV
    have u0 : a'.eval (.tmp 21) = .pointer (some ⟨ar, 0, none⟩) := hV 2 (h7 2 (by decide))
    have hc := (hB.1.block ar hf).trans hp
    have c : w'.cell? ⟨ar, 0, none⟩ = some (.pointer (some ⟨v, 0, none⟩)) := by simp [World.cell?, hc, h0]
    exact op_val (v := .pointer (some ⟨v, 0, none⟩)) (by simp only [execOp, show o.op = Op.load 104 (.tmp 21) from ho, u0]; go_simp) h6 ⟨BCm_pure hB _ (by decide), rfl, kq⟩
   | 4, _ =>
    intro o a' w' Dn hg ho h6 hk h8 h9 h7 hB k6
    have u0 : a'.eval (.tmp 22) = .pointer (some ⟨v, 0, none⟩) := k6 3 (h7 3 (by decide))
    have he : Dn 18 = false := by
     cases q : Dn 18 with
     | false => rfl
     | true => have := (h9 18 q).2 4 (by decide); rw [h8] at this; cases this
    refine op_call (f := 79) (args := #[.pointer (some ⟨v, 0, none⟩)]) (w1 := w') (by simp only [execOp, show o.op = Op.call { callee := Callee.value (Operand.func 79), args := #[.tmp 22], argTypes := #[104] } from ho]; go_simp; simpa [Act.eval] using u0) h6 (volParams_at (hV.keep (hB.1.block _ hV.lt))) ?_
    rintro e w'' ⟨rfl, hb, hz, hn⟩
    have ha : ∀ b, isRoot w'' b → isRoot w' b := fun b ⟨c, q1, q2⟩ => by
     have := (Array.getElem?_eq_some_iff.1 q2).1
     by_cases e : b = w'.heap.size
     · subst e; rw [hn] at q2; simp at q2
     · exact ⟨c, q1, (hb.block b (by omega)).symm.trans q2⟩
    refine ⟨_, rfl, ⟨hB.1.trans (hb.mono hB.1.size), fun b b' h1 h2 q1 q2 => hB.2.1 b b' h1 h2 (ha b q1) (ha b' q2), fun q b h1 h2 => hB.2.2 (by unfold upd at q; rwa [if_neg (by decide)] at q) b h1 (ha b h2)⟩, rfl, fun j u hj q => ?_⟩
    match j, hj, q with
    | 0, _, q | 1, _, q | 2, _, q | 3, _, q | 4, _, q | 5, _, q | 6, _, q | 7, _, q | 8, _, q | 9, _, q | 10, _, q | 11, _, q | 12, _, q | 13, _, q | 14, _, q | 15, _, q | 16, _, q => exact q
    | 17, _, ⟨b, q1, q2, c, q3, q4⟩ => exact ⟨b, q1, q2, c, q3, (hb.block b (Array.getElem?_eq_some_iff.1 q4).1).trans q4⟩
    | 18, hj, _ => rw [he] at hj; cases hj
    | n + 19, _, _ => trivial
   | 5, _ => exact fun o a' w' Dn hg ho h6 hk h8 h9 h7 hB hV => op_val (run_op_move ho ((hk.slot 0 (by omega)).trans e0) w') h6 ⟨BCm_pure hB _ (by decide), rfl, kq⟩
   | 6, _ =>
    intro o a' w' Dn hg ho h6 hk h8 h9 h7 hB hV
    have u0 : a'.eval (.tmp 24) = .pointer (some ⟨ar, 0, none⟩) := hV 5 (h7 5 (by decide))
    exact op_val (run_op_nil ho u0 w') h6 ⟨BCm_pure hB _ (by decide), rfl, kq⟩
   | 7, _ =>
    intro o a' w' Dn hg ho h6 hk h8 h9 h7 hB hV
    have u0 : a'.eval (.tmp 25) = .pointer (some ⟨ar, 0, none⟩) := hV 6 (h7 6 (by decide))
    exact op_val (v := .pointer (some ⟨ar, 1, none⟩)) (by simp only [execOp, show o.op = Op.fieldAddr 112 (.tmp 25) 1 from ho, u0]; go_simp) h6 ⟨BCm_pure hB _ (by decide), rfl, kq⟩
   | 8, _ =>
    intro o a' w' Dn hg ho h6 hk h8 h9 h7 hB hV
    have u0 : a'.eval (.tmp 26) = .pointer (some ⟨ar, 1, none⟩) := hV 7 (h7 7 (by decide))
    exact op_val (v := .pointer (some ⟨ar, 4, none⟩)) (by simp only [execOp, show o.op = Op.fieldAddr 107 (.tmp 26) 1 from ho, u0]; go_simp) h6 ⟨BCm_pure hB _ (by decide), rfl, kq⟩
   | 9, _ =>
    intro o a' w' Dn hg ho h6 hk h8 h9 h7 hB hV
    have u0 : a'.eval (.tmp 27) = .pointer (some ⟨ar, 4, none⟩) := hV 8 (h7 8 (by decide))
    have hc := (hB.1.block ar hf).trans hp
    have c : w'.cell? ⟨ar, 4, none⟩ = some (.int .u64 t) := by simp [World.cell?, hc, h4]
    exact op_val (v := .int .u64 t) (by simp only [execOp, show o.op = Op.load 105 (.tmp 27) from ho, u0]; go_simp) h6 ⟨BCm_pure hB _ (by decide), rfl, kq⟩
   | 10, _ =>
    intro o a' w' Dn hg ho h6 hk h8 h9 h7 hB hV
    have u0 : a'.eval (.tmp 28) = .int .u64 t := hV 9 (h7 9 (by decide))
    exact op_val (v := .int .u64 ((t + 1 : Nat) : Int)) (by simp only [execOp, show o.op = Op.binOp BinOp.add 105 (.tmp 28) (Operand.const (Value.int IntKind.u64 1)) 105 from ho, u0, show a'.eval (Operand.const (Value.int IntKind.u64 1)) = Value.int IntKind.u64 1 from rfl]; go_simp) h6 ⟨BCm_pure hB _ (by decide), rfl, kq⟩
   | 11, _ => exact fun o a' w' Dn hg ho h6 hk h8 h9 h7 hB hV => op_val (run_op_move ho ((hk.slot 2 (by omega)).trans e2) w') h6 ⟨BCm_pure hB _ (by decide), rfl, kq⟩
   | 12, _ =>
    intro o a' w' Dn hg ho h6 hk h8 h9 h7 hB hV
    have u0 : a'.eval (.tmp 30) = .slice (some ⟨pb, po, none⟩) pn pc := hV 11 (h7 11 (by decide))
    exact op_val (v := .pointer (some ⟨pb, po, none⟩)) (by simp only [execOp, show o.op = Op.indexAddr 108 (.tmp 30) (Operand.const (Value.int IntKind.i64 0)) from ho, u0, show a'.eval (Operand.const (Value.int IntKind.i64 0)) = Value.int IntKind.i64 0 from rfl]; go_simp; intro h; omega) h6 ⟨BCm_pure hB _ (by decide), rfl, kq⟩
   | 13, _ =>
    intro o a' w' Dn hg ho h6 hk h8 h9 h7 hB hV
    have u0 : a'.eval (.tmp 31) = .pointer (some ⟨pb, po, none⟩) := hV 12 (h7 12 (by decide))
    have c : w'.cell? ⟨pb, po, none⟩ = some (.int .i64 f) := (hB.1.cell (p := ⟨pb, po, none⟩) (block_lt_of_cell hx)).trans hx
    exact op_val (v := .int .i64 f) (by simp only [execOp, show o.op = Op.load 3 (.tmp 31) from ho, u0]; go_simp) h6 ⟨BCm_pure hB _ (by decide), rfl, kq⟩
   | 14, _ => exact fun o a' w' Dn hg ho h6 hk h8 h9 h7 hB hV => op_val (run_op_move ho ((hk.slot 7 (by omega)).trans e7) w') h6 ⟨BCm_pure hB _ (by decide), rfl, kq⟩
   | 15, _ =>
    intro o a' w' Dn hg ho h6 hk h8 h9 h7 hB hV
    have u0 : a'.eval (.tmp 33) = .slice so m cap := hV 14 (h7 14 (by decide))
    exact op_val (v := .int .i64 m) (op_len_bytes ho u0 w') h6 ⟨BCm_pure hB _ (by decide), rfl, kq⟩
   | 16, _ =>
    intro o a' w' Dn hg ho h6 hk h8 h9 h7 hB hV
    have u0 : a'.eval (.tmp 23) = .agg #[.int .i64 D, .int .i64 L, .int .i64 G] := hV 4 (h7 4 (by decide))
    have u1 : a'.eval (.tmp 29) = .int .u64 ((t + 1 : Nat) : Int) := hV 10 (h7 10 (by decide))
    have u2 : a'.eval (.tmp 34) = .int .i64 m := hV 15 (h7 15 (by decide))
    have u3 : a'.eval (.tmp 32) = .int .i64 f := hV 13 (h7 13 (by decide))
    exact op_val (v := .agg (rootA D L G (t + 1) f m)) (by simp only [execOp, show o.op = Op.build 107 #[(0, .tmp 23), (1, .tmp 29), (2, .tmp 32), (3, .tmp 34)] from ho, List.map_toArray, List.map_cons, List.map_nil, u0, u1, u2, u3]; go_simp; rfl) h6 ⟨BCm_pure hB _ (by decide), rfl, kq⟩
   | 17, _ =>
    intro o a' w' Dn hg ho h6 hk h8 h9 h7 hB hV
    have he : Dn 18 = false := by
     cases q : Dn 18 with
     | false => rfl
     | true => have := (h9 18 q).2 17 (by decide); rw [h8] at this; cases this
    have ha : ∀ b, w.heap.size ≤ b → isRoot (w'.alloc (.cells (rootA 0 0 0 0 0 0) 107)) b → b = w'.heap.size := fun b hb ⟨c, q1, q2⟩ => by
     have := (Array.getElem?_eq_some_iff.1 q2).1
     simp at this
     by_cases e : b = w'.heap.size
     · exact e
     · exact absurd ⟨c, q1, (blk_alloc_lt _ _ _ (by omega)).symm.trans q2⟩ (hB.2.2 h8 b hb)
    refine op_val (v := .pointer (some ⟨w'.heap.size, 0, none⟩)) (w' := w'.alloc (.cells (rootA 0 0 0 0 0 0) 107)) (by simp only [execOp, show o.op = Op.alloc 107 from ho]; go_simp; rfl) h6 ⟨⟨hB.1.alloc hB.1.size _, fun b b' h1 h2 q1 q2 => (ha b h1 q1).trans (ha b' h2 q2).symm, fun q => (by unfold upd at q; rw [if_pos rfl] at q; cases q)⟩, ⟨_, rfl, hB.1.size, _, rfl, blk_alloc_new _ _⟩, fun j u hj q => ?_⟩
    match j, hj, q with
    | 0, _, q | 1, _, q | 2, _, q | 3, _, q | 4, _, q | 5, _, q | 6, _, q | 7, _, q | 8, _, q | 9, _, q | 10, _, q | 11, _, q | 12, _, q | 13, _, q | 14, _, q | 15, _, q | 16, _, q => exact q
    | 17, hj, _ => rw [h8] at hj; cases hj
    | 18, hj, _ => rw [he] at hj; cases hj
    | n + 19, _, _ => trivial
   | 18, _ =>
    intro o a' w' Dn hg ho h6 hk h8 h9 h7 hB hV
    obtain ⟨b, u0, hb, c, q3, q4⟩ : VCm w.heap.size ar v D L G t m pb po pn pc f so cap 17 (a'.eval (.tmp 9)) w' := hV 17 (h7 17 (by decide))
    have u1 : a'.eval (.tmp 35) = .agg (rootA D L G (t + 1) f m) := hV 16 (h7 16 (by decide))
    have hq : ∀ b', isRoot (w'.setRow b (rootA D L G (t + 1) f m)) b' → isRoot w' b' := fun b' ⟨c', q1, q2⟩ => by
     by_cases e : b' = b
     · subst e; exact ⟨c, q3, q4⟩
     · exact ⟨c', q1, ((grown_setRow' w' b _).block b' (by have := (Array.getElem?_eq_some_iff.1 q2).1; rwa [size_setRow] at this) (fun q => e (by cases q; rfl))).symm.trans q2⟩
    have hO : Below w.heap.size w' (w'.setRow b (rootA D L G (t + 1) f m)) := ⟨rfl, rfl, rfl, by rw [size_setRow]; exact Nat.le_refl _, fun k hk => (grown_setRow' w' b _).block k (by have := hB.1.size; omega) (fun q => by cases q; omega)⟩
    refine op_skip (w' := w'.setRow b (rootA D L G (t + 1) f m)) (by simp [execOp, show o.op = Op.store 107 (.tmp 9) (.tmp 35) from ho, u0, u1, root_store q4 q3]) ⟨⟨hB.1.trans hO, fun b1 b2 h1 h2 q1 q2 => hB.2.1 b1 b2 h1 h2 (hq b1 q1) (hq b2 q2), fun q b1 h1 h2 => hB.2.2 (by unfold upd at q; rwa [if_neg (by decide)] at q) b1 h1 (hq b1 h2)⟩, ⟨b, hb, setRow_heap w' b c _ _ _ q4⟩, fun j u hj q => ?_⟩
    match j, hj, q with
    | 0, _, q | 1, _, q | 2, _, q | 3, _, q | 4, _, q | 5, _, q | 6, _, q | 7, _, q | 8, _, q | 9, _, q | 10, _, q | 11, _, q | 12, _, q | 13, _, q | 14, _, q | 15, _, q | 16, _, q => exact q
    | 17, _, ⟨b1, q1, q2, c1, q5, q6⟩ =>
     refine ⟨b1, q1, q2, ?_⟩
     have e : b1 = b := hB.2.1 b1 b q2 hb ⟨c1, q5, q6⟩ ⟨c, q3, q4⟩
     subst e
     exact ⟨_, rfl, setRow_heap w' b1 c1 _ _ _ q6⟩
    | 18, hj, _ => rw [h8] at hj; cases hj
    | n + 19, _, _ => trivial
   | n + 19, hn => exact absurd hn (by show ¬ n + 19 < 19; omega)
 · rintro a' w' hy hh ⟨Dn, hD, hB⟩ hV
   obtain ⟨b, u0, hb, hr⟩ : VCm w.heap.size ar v D L G t m pb po pn pc f so cap 17 (a'.eval (.tmp 9)) w' := hV 17 (by decide)
   obtain ⟨b2, k7, k0⟩ : VCm w.heap.size ar v D L G t m pb po pn pc f so cap 18 undef w' := hV 18 (by decide)
   have e : b2 = b := hB.2.1 b2 b k7 hb ⟨_, rfl, k0⟩ hr
   subst e
   have e : a' = Act.putFrom (a.put (some 9) (.pointer (some ⟨b2, 0, none⟩))) 19 ((List.range 17).map fun i => a'.eval (.tmp (19 + i))) := framed_two hy.size hy.defers (by rw [List.length_map, List.length_range]; omega) (by decide) u0 (fun i hi => by
    rw [List.length_map, List.length_range] at hi
    rw [List.getD_eq_getElem?_getD, List.getElem?_map, List.getElem?_range hi]; rfl) (fun s hs k8 => by
    rw [List.length_map, List.length_range] at k8
    refine hh s fun i hi => ?_
    have kb : i < 19 := hi
    rcases Nat.lt_or_ge i 17 with h | h
    · intro q
      have h3 : (shAt shCm i).2.1 = some (19 + i) := by
       have : ∀ i, i < 17 → (shAt shCm i).2.1 = some (19 + i) := by decide
       exact this i h
      rw [h3] at q
      have := Option.some.inj q
      omega
    · rcases Nat.lt_or_ge i 18 with h5 | h5
      · have : i = 17 := by omega
        subst this
        intro q
        have := Option.some.inj q
        omega
      · have : i = 18 := by omega
        subst this
        intro q
        cases q)
   rw [e]
   exact hQ w' _ b2 (by rw [List.length_map, List.length_range]) hb k0 hB.1
end Go.Proofs.YtpaemkanfnddoaaGreatDoor
