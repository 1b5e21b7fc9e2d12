/-
  The law's word for a program: as the document's answer has it.
-/
import Derived.Test.YtbgiechfhfeaeabDoorCheck
import Derived.Deep.WholeRow
namespace Go.Proofs.YtbgiechfhfeaeabDoor
open Go.RowKit Go.Deep

/-- the cells of steps, one behind the other -/
def stcs (kk : IntKind) : List St → List Value
  | [] => []
  | s :: P => stc kk s ++ stcs kk P
theorem stcs_len (kk : IntKind) : ∀ P, (stcs kk P).length = P.length * 4
  | [] => rfl
  | s :: P => by simp [stcs, stc, stcs_len kk P]; omega
theorem stcs_append (kk : IntKind) : ∀ P Q, stcs kk (P ++ Q) = stcs kk P ++ stcs kk Q
  | [], _ => rfl
  | s :: P, Q => by simp [stcs, stcs_append kk P Q]
theorem stcs_at (kk : IntKind) : ∀ (P : List St) (i : Nat) (hi : i < P.length) (j : Nat), j < 4 → (stcs kk P)[i * 4 + j]? = (stc kk P[i])[j]?
  | s :: P, 0, _, j, hj => by
    simp only [stcs, Nat.zero_mul, Nat.zero_add, List.getElem_cons_zero]
    rw [List.getElem?_append_left (by simpa [stc] using hj)]
  | s :: P, i + 1, hi, j, hj => by
    have e : (i + 1) * 4 + j = (stc kk s).length + (i * 4 + j) := by simp [stc]; omega
    simp only [stcs, List.getElem_cons_succ]
    rw [e, List.getElem?_append_right (Nat.le_add_right _ _), Nat.add_sub_cancel_left]
    exact stcs_at kk P i (by simpa using hi) j hj
theorem four_new (w : World) (n : Nat) (hn : n = w.heap.size) (x y z u : Value) (t : TypeId) : ∀ j v, [x, y, z, u][j]? = some v → (w.alloc (.cells #[x, y, z, u] t)).cell? ((⟨n, 0, none⟩ : Addr).add j) = some v := by
  subst hn
  intro j v hv
  rw [add0]
  rcases j with _ | _ | _ | _ | j
  all_goals simp at hv
  all_goals subst hv; simp
/-- steps that a call made -/
theorem owns_ps {kk : IntKind} {w : World} {base : Nat} {e : TypeId} {v : Value} {P : List St} (h : w.ownsRow base e 4 v P.length (stcs kk P)) (hl : P.length ≤ 4398046511104) : Ps kk w v P := by
  rcases h.2 with ⟨h0, h1⟩ | ⟨g, cap, cur, e1, e2, e3, e4, e5, e6, e7⟩
  · have : P = [] := List.eq_nil_of_length_eq_zero h1
    subst this
    exact ⟨none, 0, h0, by simp, fun h => absurd rfl h⟩
  · subst e1
    refine ⟨some ⟨g, 0, none⟩, cap, rfl, hl, fun _ => ⟨g, 0, rfl, fun i hi => ?_⟩⟩
    have at' : ∀ j, j < 4 → w.cell? ⟨g, 0 + i * 4 + j, none⟩ = (stc kk P[i])[j]? := fun j hj => by
      rw [Nat.zero_add, h.cellAt (i * 4 + j) (by omega), stcs_at kk P i hi j hj]
    exact ⟨at' 0 (by decide), at' 1 (by decide), at' 2 (by decide), at' 3 (by decide)⟩
theorem grown_own {w0 w w2 : World} {v : Value} {ob : Nat} (h : w0.grownBy w (some ob)) (hg : w.grownBy w2 v.ownBlock) (hown : ∀ k, v.ownBlock = some k → w0.heap.size ≤ k) : w0.grownBy w2 (some ob) :=
  ⟨hg.os.trans h.os, hg.tape.trans h.tape, hg.output.trans h.output, Nat.le_trans h.size hg.size, fun k hk hne => by
    rw [hg.block k (Nat.lt_of_lt_of_le hk h.size) (fun e => by have := hown k e.symm; omega)]; exact h.block k hk hne⟩
theorem grown_alloc {w0 w : World} {ob : Option Nat} (h : w0.grownBy w ob) (o : Obj) : w0.grownBy (w.alloc o) ob :=
  ⟨h.os, h.tape, h.output, by rw [nblk_alloc]; have := h.size; omega, fun k hk hne => by rw [← h.block k hk hne]; exact ((Below.refl w.heap.size w).alloc (Nat.le_refl _) o).block k (Nat.lt_of_lt_of_le hk h.size)⟩
theorem grown_set' (w : World) (b i : Nat) (v : Value) : w.grownBy (w.setCell ⟨b, i, none⟩ v) (some b) :=
  ⟨rfl, rfl, rfl, by simp, fun k _ hne => by
    have : b ≠ k := fun e => hne (by rw [e])
    simp [World.setCell, Array.getElem?_modify, this]⟩
theorem heap_old (w : World) (o : Obj) (k : Nat) (h : k < w.heap.size) : (w.alloc o).heap[k]? = w.heap[k]? := ((Below.refl w.heap.size w).alloc (Nat.le_refl _) o).block k h
theorem alloc3 (w : World) (a b c : Obj) : (((w.alloc a).alloc b).alloc c).heap.size = w.heap.size + 3 ∧ (((w.alloc a).alloc b).alloc c).heap[w.heap.size]? = some a ∧ (((w.alloc a).alloc b).alloc c).heap[w.heap.size + 1]? = some b ∧ (((w.alloc a).alloc b).alloc c).heap[w.heap.size + 1 + 1]? = some c := by
  have n1 := nblk_alloc w a
  have n2 := nblk_alloc (w.alloc a) b
  have n3 := nblk_alloc ((w.alloc a).alloc b) c
  refine ⟨by omega, ?_, ?_, ?_⟩
  · rw [heap_old _ _ _ (by omega), heap_old _ _ _ (by omega)]; exact heap_alloc_last w a
  · rw [heap_old _ _ _ (by omega), ← n1]; exact heap_alloc_last _ b
  · rw [← n1, ← n2]; exact heap_alloc_last _ c
theorem obj_cells {w : World} {ob : Nat} {x y : Value} {t : TypeId} (h : w.heap[ob]? = some (.cells #[x, y] t (0, 0))) : w.cell? ⟨ob, 0, none⟩ = some x ∧ w.cell? ⟨ob, 1, none⟩ = some y ∧ w.frozen? ⟨ob, 1, none⟩ = false ∧ w.frozen? ⟨ob, 0, none⟩ = false := by
  simp [World.cell?, World.frozen?, h]
def PgPost (regs : Int) (P : List St) (w : World) (r : Ending) (w' : World) : Prop := ∃ v, r = .returned (.agg #[.int .i64 regs, v]) ∧ Ps .i64 w' v P ∧ Below w.heap.size w w'
end Go.Proofs.YtbgiechfhfeaeabDoor
