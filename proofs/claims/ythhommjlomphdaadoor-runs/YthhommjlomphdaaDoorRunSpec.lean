/-
  What a program does, in plain lists.
-/
import Derived.Test.YthhommjlomphdaaDoorSteps
import Derived.Test.YthhommjlomphdaaDoorSame
namespace Go.Proofs.YthhommjlomphdaaDoor
open Go.RowKit Go.Deep Gf

def stAt (P : List St) (k : Nat) : St := P.getD k ⟨3, 0, 0, 0⟩
theorem stAt_get (P : List St) (k : Nat) (h : k < P.length) : stAt P k = P[k] := by simp [stAt, h]
/-- how many bytes the first shard has that is loaded among the first k steps -/
def fl (P : List St) (D : List (List Nat)) : Nat → Option Nat
  | 0 => none
  | k + 1 => match fl P D k with
    | some n => some n
    | none => if (stAt P k).k = 0 then some (D.getD (stAt P k).b.toNat []).length else none
def goneB (gone i : Nat) : Prop := gone / 2 ^ i % 2 = 1
/-- a step that loads, loads a shard that is there and has the length of all -/
def ldOk (P : List St) (D : List (List Nat)) (gone i : Nat) : Prop := (stAt P i).k = 0 → ¬ goneB gone (stAt P i).b.toNat ∧ fl P D (i + 1) = some (D.getD (stAt P i).b.toNat []).length ∧ (D.getD (stAt P i).b.toNat []).length ≤ 4096
def ldsOk (P : List St) (D : List (List Nat)) (gone : Nat) : Prop := ∀ i, i < P.length → ldOk P D gone i
def runLen (P : List St) (D : List (List Nat)) : Nat := (fl P D P.length).getD 0
theorem fl_some (P : List St) (D : List (List Nat)) (k n : Nat) (h : fl P D k = some n) : fl P D (k + 1) = some n := by simp [fl, h]
theorem fl_load (P : List St) (D : List (List Nat)) (k : Nat) (h : fl P D k = none) (hk : (stAt P k).k = 0) : fl P D (k + 1) = some (D.getD (stAt P k).b.toNat []).length := by simp [fl, h, hk]
theorem fl_other (P : List St) (D : List (List Nat)) (k : Nat) (hk : (stAt P k).k ≠ 0) : fl P D (k + 1) = fl P D k := by
  cases h : fl P D k <;> simp [fl, h, hk]
theorem fl_mono (P : List St) (D : List (List Nat)) (k n : Nat) (h : fl P D k = some n) : ∀ m, k ≤ m → fl P D m = some n := by
  intro m hm
  induction m with
  | zero => have : k = 0 := by omega
            subst this; exact h
  | succ m ih =>
    by_cases e : k = m + 1
    · subst e; exact h
    · exact fl_some P D m n (ih (by omega))
theorem ld_len {P : List St} {D : List (List Nat)} {gone : Nat} (h : ldsOk P D gone) (i : Nat) (hi : i < P.length) (hk : (stAt P i).k = 0) : (D.getD (stAt P i).b.toNat []).length = runLen P D := by
  have := (h i hi hk).2.1
  have := fl_mono P D (i + 1) _ this P.length (by omega)
  simp [runLen, this]
theorem fl_le {P : List St} {D : List (List Nat)} {gone : Nat} (h : ldsOk P D gone) : ∀ k, k ≤ P.length → ∀ n, fl P D k = some n → n ≤ 4096
  | 0, _, n, e => by simp [fl] at e
  | k + 1, hk, n, e => by
    cases hf : fl P D k with
    | some m =>
      have := fl_le h k (by omega) m hf
      rw [fl_some P D k m hf] at e
      simp at e; omega
    | none =>
      by_cases h0 : (stAt P k).k = 0
      · have q := (h k (by omega) h0)
        rw [q.2.1] at e
        have := Option.some.inj e
        omega
      · rw [fl_other P D k h0, hf] at e
        simp at e
theorem runLen_le {P : List St} {D : List (List Nat)} {gone : Nat} (h : ldsOk P D gone) : runLen P D ≤ 4096 := by
  unfold runLen
  cases hf : fl P D P.length with
  | none => simp
  | some n => exact fl_le h P.length (Nat.le_refl _) n hf
/-- registers -/
def addRow (x y : List Nat) (c : Nat) : List Nat := (List.range x.length).map fun j => x.getD j 0 ^^^ gm c (y.getD j 0)
def regStep (D : List (List Nat)) (s : St) (R : List (List Nat)) : List (List Nat) :=
  if s.k = 0 then R.set s.a.toNat (D.getD s.b.toNat []) else if s.k = 1 then R.set s.a.toNat (addRow (R.getD s.a.toNat []) (R.getD s.b.toNat []) s.c) else R
def outStep (s : St) (R : List (List Nat)) (O : List (Int × List Nat)) : List (Int × List Nat) := if s.k = 2 then O ++ [(s.b, R.getD s.a.toNat [])] else O
def regTo (P : List St) (D : List (List Nat)) (R0 : List (List Nat)) : Nat → List (List Nat)
  | 0 => R0
  | k + 1 => regStep D (stAt P k) (regTo P D R0 k)
def outTo (P : List St) (D : List (List Nat)) (R0 : List (List Nat)) : Nat → List (Int × List Nat)
  | 0 => []
  | k + 1 => outStep (stAt P k) (regTo P D R0 k) (outTo P D R0 k)
def regs0 (r n : Nat) : List (List Nat) := List.replicate r (List.replicate n 0)
/-- shards, some of which are nil -/
def In (w : World) (b : Nat) (D : List (List Nat)) (gone : Nat) : Prop := ∀ i (hi : i < D.length), (goneB gone i → w.cell? ⟨b, i, none⟩ = some (.slice none 0 0)) ∧ (¬ goneB gone i → ∃ a c, w.cell? ⟨b, i, none⟩ = some (.slice (some a) (D[i]).length c) ∧ Bs w (.slice (some a) (D[i]).length c) D[i])
theorem In.mono {w w' : World} {b : Nat} {D : List (List Nat)} {gone : Nat} (h : In w b D gone) (hb : Below w.heap.size w w') : In w' b D gone := fun i hi => by
  obtain ⟨h1, h2⟩ := h i hi
  refine ⟨fun hg => by have := h1 hg; rw [hb.cell (block_lt_of_cell this)]; exact this, fun hg => ?_⟩
  obtain ⟨a, c, e, hB⟩ := h2 hg
  exact ⟨a, c, by rw [hb.cell (block_lt_of_cell e)]; exact e, hB.mono hb⟩
end Go.Proofs.YthhommjlomphdaaDoor
