/-
  The rows of the shards that are not lost: the program's kept.
-/
import Derived.Test.YtbgiechfhfeaeabDoorKeepMath
import Derived.Test.YtbgiechfhfeaeabDoorRooms
import Derived.Laws.BitsAllLaws
namespace Go.Proofs.YtbgiechfhfeaeabDoor
open Go.RowKit Go.Deep Gf

theorem bit_u64 (lost k : Nat) (hl : lost < 18446744073709551616) : bits .and .u64 ((lost : Int) / 2 ^ k) 1 = ((lost / 2 ^ k % 2 : Nat) : Int) := by
  have c : (lost : Int) / 2 ^ k = ((lost / 2 ^ k : Nat) : Int) := by simp
  have h : lost / 2 ^ k < 18446744073709551616 := Nat.lt_of_le_of_lt (Nat.div_le_self _ _) hl
  have e := u64_and_nat (lost / 2 ^ k) 1 h (by decide)
  rw [and1] at e
  rw [c]; exact e
/-- a list that the call made, of rows that were there before it -/
def Rl (w0 w : World) (v : Value) (K : List (List Nat)) : Prop :=
  ∃ xs : List Value, xs.length = K.length ∧ (∀ i (h : i < xs.length) (h' : i < K.length), Bs w0 xs[i] K[i]) ∧ w.ownsRow w0.heap.size 59 1 v xs.length xs ∧ Below w0.heap.size w0 w
theorem Rl.nil (w : World) : Rl w w (.slice none 0 0) [] := ⟨[], rfl, fun i h => absurd h (by simp), World.ownsRow_nil _ _ _ _, Below.refl _ _⟩
theorem Rl.rd {w0 w : World} {v : Value} {K : List (List Nat)} (h : Rl w0 w v K) (hl : K.length ≤ 100000) : Rd w v K := by
  obtain ⟨xs, hlen, hB, hown, hb⟩ := h
  rcases hown.2 with ⟨h0, h1⟩ | ⟨g, cap, cur, e1, e2, e3, e4, e5, e6, e7⟩
  · have : K = [] := List.eq_nil_of_length_eq_zero (by omega)
    subst this
    exact ⟨none, 0, h0, by simp, fun h => absurd rfl h⟩
  · refine ⟨some ⟨g, 0, none⟩, cap, by rw [e1, hlen], by omega, fun _ => ⟨g, 0, rfl, fun i hi => ?_⟩⟩
    have hix : i < xs.length := by omega
    have := hown.cells (g := g) (by rw [e1]; rfl) i xs[i] (by simp [hix])
    rw [add0] at this
    exact ⟨xs[i], by rw [Nat.zero_add]; exact this, (hB i hix hi).mono hb⟩
theorem Rl.push {w0 w w1 w2 : World} {v v' u : Value} {K : List (List Nat)} {l : List Nat} {o : Obj} {xs : List Value} (hlen : xs.length = K.length) (hB : ∀ i (h : i < xs.length) (h' : i < K.length), Bs w0 xs[i] K[i])
    (hown : w.ownsRow w0.heap.size 59 1 v xs.length xs) (hb : Below w0.heap.size w0 w) (hw : w1 = w.alloc o) (hu : Bs w0 u l)
    (hg : w1.grownBy w2 v.ownBlock) (hown' : w2.ownsRow w0.heap.size 59 1 v' (xs.length + 1) (xs ++ [u])) : Rl w0 w2 v' (K ++ [l]) := by
  subst hw
  refine ⟨xs ++ [u], by simp [hlen], fun i h h' => ?_, by simpa using hown', (hb.alloc hb.size o).grown hg (by rw [nblk_alloc]; have := hb.size; omega) fun k hk => (hown.lt k hk).1⟩
  by_cases hi : i < xs.length
  · rw [List.getElem_append_left hi, List.getElem_append_left (by omega)]
    exact hB i hi (by omega)
  · have e : i = xs.length := by simp at h; omega
    subst e
    rw [List.getElem_append_right (Nat.le_refl _), List.getElem_append_right (by omega)]
    simpa [hlen] using hu
theorem Bs.one {w : World} {u : Value} {l : List Nat} (h : Bs w u l) : u.oneCell' = true := by
  obtain ⟨ao, c, rfl, _⟩ := h
  rfl
def KpR (w : World) (M : List (List Nat)) (lost : Nat) (v i : Value) (wr : World) : Prop := ∃ k : Nat, k ≤ M.length ∧ i = .int .i64 k ∧ Rl w wr v (keepTo M lost k)
end Go.Proofs.YtbgiechfhfeaeabDoor
