/-
  Laws for the walk of Run: a copy into a register; registers and what was put out stay apart.
-/
import Derived.Test.YthhommjlomphdaaDoorSameOut
import Derived.Test.YthhommjlomphdaaDoorClone
import Derived.Test.YthhommjlomphdaaDoorMakeRegs
import Derived.Test.YthhommjlomphdaaDoorLoadedLength
import Derived.Deep.RegionHeld3
namespace Go.Proofs.YthhommjlomphdaaDoor
open Go.RowKit Go.Deep Gf

theorem copy_run (w : World) (ty : TypeId) (g n cap : Nat) (old src : List Nat) (ao : Option Addr) (c : Nat) (hB : Brow w g old) (hS : Bs w (.slice ao src.length c) src) (hn : src.length = n) (ho : old.length = n) :
    ∃ w', (Builtin.copy_ #[44, 44] ty #[.slice (some ⟨g, 0, none⟩) n cap, .slice ao src.length c]).run Tryd.prog w = .ok (.int .i64 (n : Nat)) w' ∧ Brow w' g src ∧ w.grownBy w' (some g) := by
  subst hn
  have hsz : (Tryd.prog.info? 5).map (fun i => i.size) = some 1 := by kernel_rfl
  by_cases h0 : src.length = 0
  · have hs0 : src = [] := List.eq_nil_of_length_eq_zero h0
    have ho0 : old = [] := List.eq_nil_of_length_eq_zero (by omega)
    subst hs0 ho0
    exact ⟨w, run_copy_none (P := Tryd.prog) w 44 44 ty 5 (some ⟨g, 0, none⟩) ao 0 cap 0 c Tryd.underlying44 hsz (by simp), hB, World.grownBy.refl _ _⟩
  · obtain ⟨ao', c', e, _, _, hx, h4⟩ := hS
    simp at e
    obtain ⟨b, off, e2, hc⟩ := h4 (by intro e; rw [e] at h0; simp at h0)
    rw [← e.1] at e2
    subst e2
    have hrun := run_copy_row (P := Tryd.prog) w 44 44 ty 5 g 0 src.length cap ⟨b, off, none⟩ src.length c _ 5 (bv src) Tryd.underlying44 hsz hB.heap (by simp [bv]) (fun j v hj => by
      have hjl : j < src.length := by
        obtain ⟨q, _⟩ := List.getElem?_eq_some_iff.1 hj
        simpa [bv] using q
      rw [Addr.add_mid, hc j hjl, ← hj]
      simp [bv, hjl]) (by simp [bv]; omega) (by intro v hv; simp [bv] at hv; obtain ⟨x, _, rfl⟩ := hv; rfl)
    have e3 : (List.take 0 (List.map (fun x => Value.int .u8 ((x : Nat) : Int)) old).toArray.toList ++ bv src ++ List.drop (0 + (bv src).length) (List.map (fun x => Value.int .u8 ((x : Nat) : Int)) old).toArray.toList) = src.map (fun x => Value.int .u8 ((x : Nat) : Int)) := by
      simp [bv]
      omega
    rw [e3] at hrun
    refine ⟨w.setRow g (src.map (fun x => Value.int .u8 ((x : Nat) : Int))).toArray, by rw [hrun]; simp [bv, goInt], ?_, ?_⟩
    · exact Brow.of_heap (setRow_heap w g (old.map (fun x => Value.int .u8 ((x : Nat) : Int))).toArray (src.map (fun x => Value.int .u8 ((x : Nat) : Int))).toArray 5 _ hB.heap)
    · refine ⟨rfl, rfl, rfl, by simp [World.setRow], fun k hk hne => setRow_other w g k _ (fun e => hne (by rw [e]))⟩
theorem step_copy {ops : Array Oper} {o : Oper} {a : Act} {w w' : World} {K : Act → World → Prop} {Q : Exit → Act → World → Prop} {E : Prop} (hgd : o.guard = none) (d s : Operand) (ho : o.op = .call { callee := .builtin .copy, args := #[d, s], argTypes := #[44, 44] })
    (vd vs v' : Value) (hd : a.eval d = vd) (hs : a.eval s = vs) (hrun : (Builtin.copy_ #[44, 44] o.type #[vd, vs]).run Tryd.prog w = .ok v' w') (h : K (a.put o.dst v') w') : if Region.wanted o (yielded ops a.tmps) = true then Oper.wp Tryd.prog o a w K Q else E := by
  rw [if_pos (by simp [Region.wanted, hgd])]
  unfold Oper.wp
  simp [execOp, ho, resolve, invoke, builtin, hd, hs, hrun, Result.andThen]
  exact h
theorem out_ne {w : World} {base : Nat} {v : Value} {n : Nat} {xs : List Value} (h : w.ownsRow base 95 2 v n xs) {b : Nat} {l : List Nat} (hb : Brow w b l) : v.ownBlock ≠ some b := by
  intro e
  rcases h.2 with ⟨h0, _⟩ | ⟨g, cap, cur, e1, e2, e3, _⟩
  · rw [h0] at e; simp [Value.ownBlock] at e
  · rw [e1] at e
    simp [Value.ownBlock] at e
    subst e
    obtain ⟨c, hc, _⟩ := hb
    rw [hc] at e3
    simp at e3
theorem Outs.aside {w w' : World} {base : Nat} {v : Value} {O : List (Int × Nat × Nat × List Nat)} {b : Nat} {l : List Nat} (h : Outs 95 w base v O) (hb : Brow w b l) (hg : w.grownBy w' (some b)) (hne : ∀ q ∈ O, q.2.1 ≠ b) : Outs 95 w' base v O :=
  ⟨h.own.kept hg (.inr (out_ne h.own hb)), fun q hq => by
    obtain ⟨a, c, d⟩ := h.row q hq
    exact ⟨a, c.grown hg (by intro e; simp at e; exact hne q hq e), d⟩, h.nodup⟩
theorem holds_set {T : List (Nat × Nat × List Nat)} {n : Nat} {R : List (List Nat)} (h : Holds T n R) (i : Nat) (hi : i < T.length) (l : List Nat) : Holds (T.set i (T[i].1, T[i].2.1, l)) n (R.set i l) := by
  have hlen := holds_len h
  have hat := h.at hi (by omega)
  unfold Holds at *
  rw [List.map_set, List.map_set, h, hat]
end Go.Proofs.YthhommjlomphdaaDoor
