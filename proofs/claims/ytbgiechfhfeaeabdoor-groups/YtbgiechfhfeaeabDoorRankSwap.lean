/-
  The exchange of two rows of the grid: a region that draws its order, with two loads of a whole row.
-/
import Derived.Test.YtbgiechfhfeaeabDoorTable
import Derived.WalkMore
import Derived.Deep.MidRow
namespace Go.Proofs.YtbgiechfhfeaeabDoor
open Go.RowKit Go.Deep Gf

theorem put_same (a : Act) (i : Nat) (v : Value) (h : i < a.tmps.size) : (a.put (some i) v).eval (.tmp i) = v := by simp [Act.put, Act.eval, h]
theorem put_other (a : Act) (i j : Nat) (v : Value) (h : i ≠ j) : (a.put (some i) v).eval (.tmp j) = a.eval (.tmp j) := by
  simp [Act.put, Act.eval, Array.getD_eq_getD_getElem?, h]
theorem put_size (a : Act) (d : Option Nat) (v : Value) : (a.put d v).tmps.size = a.tmps.size := by
  cases d <;> simp [Act.put]
theorem put_comm (a : Act) (i j : Nat) (v u : Value) (h : i ≠ j) : (a.put (some i) v).put (some j) u = (a.put (some j) u).put (some i) v := by
  simp only [Act.put]
  rw [Array.setIfInBounds_comm _ _ h]
theorem wanted_of {ops : Array Oper} {o : Oper} {a : Act} (hg : o.guard = none) : Region.wanted o (yielded ops a.tmps) = true := by simp [Region.wanted, hg]
theorem yields_move {P : Program} {ops : Array Oper} {o : Oper} {a : Act} {x : Operand} {v : Value} (hg : o.guard = none) (ho : o.op = .move x) (hx : a.eval x = v) : Yields P ops o v a :=
  .inl ⟨wanted_of hg, fun w => by simp [execOp, ho, hx]⟩

def rg : Code → Nat → Option (Array Oper)
  | .region i ops _, n => if i = n then some ops else none
  | .seq a b, n => (rg a n).orElse fun _ => rg b n
  | .cond _ a b, n => (rg a n).orElse fun _ => rg b n
  | .block _ a, n => rg a n
  | .loop a, n => rg a n
  | .scope a, n => rg a n
  | _, _ => none
def mk12 (l : List Nat) : Array Bool := l.foldl (fun a i => a.setIfInBounds i true) (Array.replicate 12 false)
theorem Tryd.sizeRow : (Tryd.prog.info? 116).map (fun i => i.size) = some 64 := by kernel_rfl
/-- the frame behind it -/
def act12 (a : Act) (gb p r : Nat) (cp cr : List Value) : Act :=
  ((((((((((a.put (some 28) (.int .i64 (r : Nat))).put (some 29) (.int .i64 (p : Nat))).put (some 30) (.int .i64 (p : Nat))).put (some 33) (.int .i64 (r : Nat))).put (some 31) (.pointer (some ⟨gb, p * 64, none⟩))).put (some 34) (.pointer (some ⟨gb, r * 64, none⟩))).put (some 32) (.agg cp.toArray)).put (some 35) (.agg cr.toArray)).put (some 36) (.pointer (some ⟨gb, r * 64, none⟩))).put none undef).put (some 37) (.pointer (some ⟨gb, p * 64, none⟩)) |>.put none undef
end Go.Proofs.YtbgiechfhfeaeabDoor
