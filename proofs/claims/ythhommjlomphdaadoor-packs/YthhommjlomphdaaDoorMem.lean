/-
  Memory that a call makes: rows of bytes, and lists of such rows.
-/
import Derived.Test.YthhommjlomphdaaDoorRows
import Derived.WalkKit
import Derived.ProofKit
import Derived.OpenShut
import Derived.WalkSpells
import Derived.Deep.OwnRows
import Derived.Deep.Slices
import Derived.Deep.Matrix
namespace Go.Proofs.YthhommjlomphdaaDoor
open Go.RowKit Go.Deep

theorem wrap64_nat {n : Nat} (h : n ≤ 1000000000000) : wrap64 (n : Int) = (n : Int) := by unfold wrap64; omega
/-- a byte -/
def vb (l : List Nat) (i : Nat) : Value := .int .u8 ((l.getD i 0 : Nat) : Int)
/-- block b is a row of just these bytes -/
def Brow (w : World) (b : Nat) (l : List Nat) : Prop := w.rowIs b 5 l.length (vb l)
/-- a slice's value: its block, how long it is, and all the bytes of the block -/
def hdr (p : Nat × Nat × List Nat) : Value := .slice (some ⟨p.1, 0, none⟩) p.2.1 p.2.2.length
/-- a list of rows that the call has made -/
structure Tab (w : World) (base : Nat) (v : Value) (L : List (Nat × Nat × List Nat)) : Prop where
  own : w.ownsRow base 44 1 v L.length (L.map hdr)
  row : ∀ p ∈ L, base ≤ p.1 ∧ Brow w p.1 p.2.2 ∧ p.2.1 ≤ p.2.2.length ∧ (p.2.1 ≤ 140737488355328 ∧ p.2.2.length ≤ 9223372036854775807) ∧ ∀ x ∈ p.2.2, x < 256
  nodup : (L.map (fun p => p.1)).Nodup

theorem getD_lt {l : List Nat} (h : ∀ x ∈ l, x < 256) (i : Nat) : l.getD i 0 < 256 := by
  by_cases hi : i < l.length
  · have e : l.getD i 0 = l[i] := by simp [hi]
    rw [e]; exact h _ (List.getElem_mem hi)
  · have e : l.getD i 0 = 0 := by simp [List.getElem?_eq_none (show l.length ≤ i by omega)]
    rw [e]; decide

theorem Brow.below {w w' : World} {b : Nat} {l : List Nat} (h : Brow w b l) (hb : Below w.heap.size w w') : Brow w' b l :=
  World.rowIs.of_block h (hb.block b h.lt)
theorem Brow.cell {w : World} {b : Nat} {l : List Nat} (h : Brow w b l) (i : Nat) (hi : i < l.length) : w.cell? ⟨b, i, none⟩ = some (.int .u8 ((l.getD i 0 : Nat) : Int)) :=
  World.rowIs.cell h hi
theorem Brow.frozen {w : World} {b : Nat} {l : List Nat} (h : Brow w b l) (i : Nat) : w.frozen? ⟨b, i, none⟩ = false := World.rowIs.frozen h i
theorem Brow.set {w : World} {b : Nat} {l : List Nat} (h : Brow w b l) (i x : Nat) : Brow (w.setCell ⟨b, i, none⟩ (.int .u8 (x : Int))) b (l.set i x) := by
  have h1 := World.rowIs.set h i (.int .u8 (x : Int))
  unfold Brow
  rw [List.length_set]
  refine h1.congr fun j hj => ?_
  unfold vb
  by_cases e : j = i
  · subst e
    simp [hj]
  · simp only [if_neg e]
    rw [List.getD_eq_getElem?_getD, List.getD_eq_getElem?_getD, List.getElem?_set_ne (fun h => e h.symm)]
theorem Brow.other {w : World} {b : Nat} {l : List Nat} (h : Brow w b l) {a : Addr} (ha : b ≠ a.block) (v : Value) : Brow (w.setCell a v) b l := World.rowIs.setOther h ha v
theorem Brow.alloc {w : World} {b : Nat} {l : List Nat} (h : Brow w b l) (o : Obj) : Brow (w.alloc o) b l := World.rowIs.alloc h o
theorem Brow.lt {w : World} {b : Nat} {l : List Nat} (h : Brow w b l) : b < w.heap.size := World.rowIs.lt h
theorem Brow.grown {w w' : World} {b : Nat} {l : List Nat} {row : Option Nat} (h : Brow w b l) (hg : w.grownBy w' row) (hne : some b ≠ row) : Brow w' b l :=
  World.rowIs.of_block h (hg.block b h.lt hne)
/-- a made row: all 0 -/
theorem Brow.made (w : World) (n : Nat) : Brow (w.alloc (.cells (madeCells #[.int .u8 0] n) 5)) w.heap.size (List.replicate n 0) := by
  have h := World.rowIs_made w (.int .u8 0) n 5
  unfold Brow
  rw [List.length_replicate]
  refine h.congr fun i hi => ?_
  simp [vb, hi]

theorem ownsRow_below {w w' : World} {base : Nat} {e : TypeId} {size : Nat} {v : Value} {n : Nat} {xs : List Value} (h : w.ownsRow base e size v n xs) (hb : Below w.heap.size w w') : w'.ownsRow base e size v n xs := by
  refine ⟨h.1, ?_⟩
  rcases h.2 with h0 | ⟨g, cap, cur, e1, e2, e3, e4⟩
  · exact .inl h0
  · refine .inr ⟨g, cap, cur, e1, e2, ?_, e4⟩
    obtain ⟨hlt, _⟩ := Array.getElem?_eq_some_iff.1 e3
    rw [hb.block g hlt]; exact e3
theorem ownsRow_weaken {w : World} {base base' : Nat} {e : TypeId} {size : Nat} {v : Value} {n : Nat} {xs : List Value} (h : w.ownsRow base e size v n xs) (hb : base' ≤ base) : w.ownsRow base' e size v n xs := by
  refine ⟨h.1, ?_⟩
  rcases h.2 with h0 | ⟨g, cap, cur, e1, e2, e3⟩
  · exact .inl h0
  · exact .inr ⟨g, cap, cur, e1, by omega, e3⟩
/-- a list's own block is none of bytes -/
theorem own_ne {w : World} {base : Nat} {v : Value} {n : Nat} {xs : List Value} (h : w.ownsRow base 44 1 v n xs) {b : Nat} {l : List Nat} (hb : Brow w b l) : v.ownBlock ≠ some b := by
  intro e
  rcases h.2 with ⟨h0, _⟩ | ⟨g, cap, cur, e1, e2, e3, e4⟩
  · rw [h0] at e; simp [Value.ownBlock] at e
  · rw [e1] at e
    simp [Value.ownBlock] at e
    subst e
    obtain ⟨c, hc, _⟩ := hb
    rw [hc] at e3
    simp at e3

theorem Tab.weaken {w : World} {base base' : Nat} {v : Value} {L : List (Nat × Nat × List Nat)} (h : Tab w base v L) (hb : base' ≤ base) : Tab w base' v L :=
  ⟨ownsRow_weaken h.own hb, fun p hp => by obtain ⟨a, b⟩ := h.row p hp; exact ⟨by omega, b⟩, h.nodup⟩
theorem Tab.nil (w : World) (base : Nat) : Tab w base (.slice none 0 0) [] :=
  ⟨World.ownsRow_nil _ _ _ _, fun p hp => by simp at hp, by simp⟩
theorem Tab.below {w w' : World} {base : Nat} {v : Value} {L : List (Nat × Nat × List Nat)} (h : Tab w base v L) (hb : Below w.heap.size w w') : Tab w' base v L :=
  ⟨ownsRow_below h.own hb, fun p hp => by obtain ⟨a, b, c⟩ := h.row p hp; exact ⟨a, b.below hb, c⟩, h.nodup⟩
theorem Tab.alloc {w : World} {base : Nat} {v : Value} {L : List (Nat × Nat × List Nat)} (h : Tab w base v L) (o : Obj) : Tab (w.alloc o) base v L :=
  h.below ((Below.refl _ _).alloc (Nat.le_refl _) _)
/-- behind an append of one row -/
theorem Tab.push {w w' : World} {base : Nat} {v v' : Value} {L : List (Nat × Nat × List Nat)} {p : Nat × Nat × List Nat} (h : Tab w base v L) (hg : w.grownBy w' v.ownBlock) (hown : w'.ownsRow base 44 1 v' (L.length + 1) (L.map hdr ++ [hdr p]))
    (hp : base ≤ p.1 ∧ Brow w p.1 p.2.2 ∧ p.2.1 ≤ p.2.2.length ∧ (p.2.1 ≤ 140737488355328 ∧ p.2.2.length ≤ 9223372036854775807) ∧ ∀ x ∈ p.2.2, x < 256) (hne : ∀ q ∈ L, q.1 ≠ p.1) : Tab w' base v' (L ++ [p]) := by
  refine ⟨by simpa using hown, fun q hq => ?_, ?_⟩
  · rcases List.mem_append.1 hq with hq | hq
    · obtain ⟨a, b, c⟩ := h.row q hq
      exact ⟨a, b.grown hg (fun e => own_ne h.own b e.symm), c⟩
    · simp at hq; subst hq
      exact ⟨hp.1, hp.2.1.grown hg (fun e => own_ne h.own hp.2.1 e.symm), hp.2.2⟩
  · rw [List.map_append, List.nodup_append]
    refine ⟨h.nodup, by simp, ?_⟩
    intro a ha b hb
    obtain ⟨q, hq, rfl⟩ := List.mem_map.1 ha
    simp at hb
    subst hb
    exact hne q hq
theorem add0 (g i : Nat) : (⟨g, 0, none⟩ : Addr).add i = ⟨g, i, none⟩ := by
  unfold Addr.add
  split
  · rename_i h; simp_all
  · simp
theorem Tab.shape {w : World} {base : Nat} {v : Value} {L : List (Nat × Nat × List Nat)} (h : Tab w base v L) : (v = .slice none 0 0 ∧ L = []) ∨ ∃ g cap, v = .slice (some ⟨g, 0, none⟩) L.length cap ∧ base ≤ g ∧ L.length ≤ cap ∧ cap ≤ maxLen ∧ g < w.heap.size ∧ (∀ i (hi : i < L.length), w.cell? ⟨g, i, none⟩ = some (hdr L[i])) ∧ (∀ i, w.frozen? ⟨g, i, none⟩ = false) ∧ ∀ p ∈ L, p.1 ≠ g := by
  rcases h.own.2 with ⟨h0, h1⟩ | ⟨g, cap, cur, e1, e2, e3, e4, e5, e6, e7⟩
  · exact .inl ⟨h0, List.eq_nil_of_length_eq_zero h1⟩
  · obtain ⟨hlt, _⟩ := Array.getElem?_eq_some_iff.1 e3
    refine .inr ⟨g, cap, e1, e2, e4, e5, hlt, fun i hi => ?_, fun i => ?_, fun p hp e => ?_⟩
    · have := h.own.cells (g := g) (by rw [e1]; rfl) i (hdr L[i]) (by simp [hi])
      rw [add0] at this
      exact this
    · simp [World.frozen?, e3]
    · have := own_ne h.own (h.row p hp).2.1
      rw [e1] at this
      exact this (by rw [e]; rfl)

theorem Tryd.infoByte : (Tryd.prog.info? 5).map (fun i => (i.zero, i.size, i.bytes)) = some (some (.int .u8 0), 1, 1) := by kernel_rfl
theorem Tryd.infoBytes : (Tryd.prog.info? 44).map (fun i => (i.zero, i.size, i.bytes)) = some (some (.slice none 0 0), 1, 24) := by kernel_rfl
/-- make([]byte, n) -/
theorem wpList_mk (w : World) {ops : Array Oper} {rest : List Oper} {o : Oper} {a : Act} {Q : Exit → Act → World → Prop}
    (hg : o.guard = none) (l c : Operand) (hop : o.op = Op.makeSlice 44 l c) (C : Int) (n : Nat) (hl : a.eval l = .int .i64 C) (hc : a.eval c = .int .i64 C) (hC : C = (n : Int)) (hn : n ≤ 140737488355328)
    (hK : ∀ w', Brow w' w.heap.size (List.replicate n 0) → Below w.heap.size w w' → w'.heap.size = w.heap.size + 1 → wpList Tryd.prog ops Q rest (a.put o.dst (.slice (some ⟨w.heap.size, 0, none⟩) n n)) w') :
    wpList Tryd.prog ops Q (o :: rest) a w := by
  refine wpList_plain hg fun K hK' => ?_
  have hrun := run_make_row' (P := Tryd.prog) 44 5 (.int .u8 0) 1 Tryd.underlying44 Tryd.infoByte rfl .i64 .i64 n (by omega) (by omega) w
  subst hC
  unfold Oper.wp
  simp [execOp, hop, hl, hc, hrun, Result.andThen]
  exact hK' _ _ (hK _ (Brow.made w n) ((Below.refl _ _).alloc (Nat.le_refl _) _) (nblk_alloc _ _))
end Go.Proofs.YthhommjlomphdaaDoor
