/-
  Lists of rows of which one is written into.
-/
import Derived.Test.YthhommjlomphdaaDoorSame
namespace Go.Proofs.YthhommjlomphdaaDoor
open Go.RowKit Go.Deep

theorem grown_set {w w' : World} {b : Nat} (h : w.grownBy w' (some b)) (i : Nat) (v : Value) : w.grownBy (w'.setCell ⟨b, i, none⟩ v) (some b) :=
  ⟨h.os, h.tape, h.output, by rw [nblk_setCell]; exact h.size, fun k hk hne => by
    rw [blk_setCell_other _ _ _ _ (by intro e; exact hne (by rw [e]))]; exact h.block k hk hne⟩
theorem grown_drew {w w' : World} {r : Option Nat} (h : w.grownBy w' r) (n : Nat) : w.grownBy (w'.drewN n) r :=
  ⟨h.os, h.tape, h.output, h.size, h.block⟩
theorem grown_trans {w w' w'' : World} {r : Option Nat} (h : w.grownBy w' r) (k : w'.grownBy w'' r) : w.grownBy w'' r :=
  ⟨k.os.trans h.os, k.tape.trans h.tape, k.output.trans h.output, Nat.le_trans h.size k.size, fun j hj hne => (k.block j (Nat.lt_of_lt_of_le hj h.size) hne).trans (h.block j hj hne)⟩
theorem grown_below {B : Nat} {w0 w w' : World} {b : Nat} (h : Below B w0 w) (hg : w.grownBy w' (some b)) (hB : B ≤ w.heap.size) (hb : B ≤ b) : Below B w0 w' :=
  h.grown hg hB (fun k hk => by simp at hk; omega)
theorem owns_grown {w w' : World} {base : Nat} {v : Value} {n : Nat} {xs : List Value} {b : Nat} (h : w.ownsRow base 44 1 v n xs) (hg : w.grownBy w' (some b)) (hne : v.ownBlock ≠ some b) : w'.ownsRow base 44 1 v n xs :=
  h.kept hg (.inr hne)
theorem Tab.aside {w w' : World} {base : Nat} {v : Value} {L : List (Nat × Nat × List Nat)} {b : Nat} {l : List Nat} (h : Tab w base v L) (hb : Brow w b l) (hg : w.grownBy w' (some b)) (hne : ∀ p ∈ L, p.1 ≠ b) : Tab w' base v L :=
  ⟨owns_grown h.own hg (own_ne h.own hb), fun p hp => by
    obtain ⟨a, c, d⟩ := h.row p hp
    exact ⟨a, c.grown hg (by intro e; simp at e; exact hne p hp e), d⟩, h.nodup⟩
theorem Tab.wrote {w w' : World} {base : Nat} {v : Value} {L : List (Nat × Nat × List Nat)} (h : Tab w base v L) {i : Nat} (hi : i < L.length) {l' : List Nat} (hg : w.grownBy w' (some L[i].1)) (hB : Brow w' L[i].1 l') (hlen : l'.length = L[i].2.2.length) (hx : ∀ x ∈ l', x < 256) :
    Tab w' base v (L.set i (L[i].1, L[i].2.1, l')) := by
  have hmem := List.getElem_mem hi
  obtain ⟨a1, a2, a3, a4, a5⟩ := h.row _ hmem
  have hhdr : (L.set i (L[i].1, L[i].2.1, l')).map hdr = L.map hdr := by
    apply List.ext_getElem
    · simp
    · intro j h1 h2
      simp [List.getElem_set]
      by_cases e : i = j
      · subst e; simp [hdr, hlen]
      · simp [e]
  have hfst : (L.set i (L[i].1, L[i].2.1, l')).map (fun p => p.1) = L.map (fun p => p.1) := by
    apply List.ext_getElem
    · simp
    · intro j h1 h2
      simp [List.getElem_set]
      by_cases e : i = j
      · subst e; simp
      · simp [e]
  refine ⟨?_, fun p hp => ?_, by rw [hfst]; exact h.nodup⟩
  · rw [hhdr, List.length_set]; exact owns_grown h.own hg (own_ne h.own a2)
  · obtain ⟨j, hj, rfl⟩ := List.mem_iff_getElem.1 hp
    rw [List.length_set] at hj
    rw [List.getElem_set]
    by_cases e : i = j
    · rw [if_pos e]; exact ⟨a1, hB, by show L[i].2.1 ≤ l'.length; omega, ⟨by show L[i].2.1 ≤ 140737488355328; omega, by show l'.length ≤ 9223372036854775807; omega⟩, hx⟩
    · rw [if_neg e]
      obtain ⟨b1, b2, b3⟩ := h.row _ (List.getElem_mem hj)
      refine ⟨b1, b2.grown hg ?_, b3⟩
      intro q
      simp at q
      have hp := List.pairwise_iff_getElem.1 h.nodup
      rcases Nat.lt_or_gt_of_ne e with h' | h'
      · exact hp i j (by simpa using hi) (by simpa using hj) h' (by simp [q])
      · exact hp j i (by simpa using hj) (by simpa using hi) h' (by simp [q])
/-- two lists of rows that have no row in common -/
def Apart (K L : List (Nat × Nat × List Nat)) : Prop := ∀ p ∈ K, ∀ q ∈ L, p.1 ≠ q.1
theorem Tab.row_at {w : World} {base : Nat} {v : Value} {L : List (Nat × Nat × List Nat)} (h : Tab w base v L) {i : Nat} (hi : i < L.length) : Bs w (hdr L[i]) (L[i].2.2.take L[i].2.1) := by
  obtain ⟨a1, a2, a3, a4, a5⟩ := h.row _ (List.getElem_mem hi)
  exact Bs.of_row a2 a3 a4.1 a5
theorem one_new (w : World) (n : Nat) (hn : n = w.heap.size) (x : Value) (t : TypeId) : ∀ j u, [x][j]? = some u → (w.alloc (.cells #[x] t)).cell? ((⟨n, 0, none⟩ : Addr).add j) = some u := by
  subst hn; exact cell_one_new _ _ _
theorem Tab.append2 {w w1 w2 : World} {base : Nat} {v v' : Value} {T : List (Nat × Nat × List Nat)} {b n m : Nat} {l : List Nat} {o : Obj} (h : Tab w base v T) (hb : Below w.heap.size w w1) (hbase : base ≤ w.heap.size) (hb1 : w.heap.size ≤ b) (hB : Brow w1 b l) (hm : m = l.length) (hn : n ≤ l.length) (hl : l.length ≤ 140737488355328) (hx : ∀ x ∈ l, x < 256)
    (hg : (w1.alloc o).grownBy w2 v.ownBlock) (hown : w2.ownsRow base 44 1 v' (T.length + 1) (T.map hdr ++ [.slice (some ⟨b, 0, none⟩) n m])) : Tab w2 base v' (T ++ [(b, n, l)]) := by
  subst hm
  have h1 := (h.below hb).alloc o
  refine h1.push hg (p := (b, n, l)) hown ⟨by show base ≤ b; omega, hB.alloc o, hn, ⟨by show n ≤ 140737488355328; omega, by show l.length ≤ 9223372036854775807; omega⟩, hx⟩ ?_
  intro q hq
  have := (h.row q hq).2.1.lt
  show q.1 ≠ b
  omega
theorem below_append {B : Nat} {w0 w w1 w2 : World} {v : Value} {T : List (Nat × Nat × List Nat)} {o : Obj} (h : Tab w B v T) (hb0 : Below B w0 w) (hb : Below w.heap.size w w1) (hB : B ≤ w.heap.size) (hg : (w1.alloc o).grownBy w2 v.ownBlock) : Below B w0 w2 := by
  have h1 := hb0.trans (hb.mono hB)
  have hs := hb.size
  refine (h1.alloc (by omega) o).grown hg (by rw [nblk_alloc]; omega) ?_
  intro k hk
  exact (h.own.lt k hk).1
end Go.Proofs.YthhommjlomphdaaDoor
