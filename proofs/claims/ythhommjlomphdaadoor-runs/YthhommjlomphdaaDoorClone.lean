/-
  bytes.Clone.
-/
import Derived.Test.YthhommjlomphdaaDoorPack
import Derived.Test.YthhommjlomphdaaDoorTabLaws
import Derived.Lib.SliceRun
namespace Go.Proofs.YthhommjlomphdaaDoor
open Go.RowKit Go.Deep

/-- a row of bytes that begins with these; what lies behind them is bytes too -/
theorem brow_lit {w : World} {g m : Nat} {l : List Nat} (h : w.heap[g]? = some (.cells (((bv l).toArray) ++ Builtin.zeroCells #[.int .u8 0] m) 5 (0, 0))) : Brow w g (l ++ List.replicate m 0) := by
  have e : ((bv l).toArray ++ Builtin.zeroCells #[.int .u8 0] m) = ((l ++ List.replicate m 0).map (fun x => Value.int .u8 ((x : Nat) : Int))).toArray := by
    apply Array.ext'
    simp [bv, Builtin.zeroCells, Nat.mod_one, List.map_const']
  rw [e] at h
  refine ⟨_, h, by simp, fun i hi => ?_⟩
  rw [List.getElem?_toArray, List.getElem?_map, List.getElem?_eq_getElem hi]
  simp [vb, List.getElem?_eq_getElem hi]
theorem wpList_app {w w' : World} {ops : Array Oper} {rest : List Oper} {o : Oper} {a : Act} {Q : Exit → Act → World → Prop} (hgd : o.guard = none) (s x : Operand) (t : TypeId) (ho : o.op = .call { callee := .builtin .append, args := #[s, x], argTypes := #[t, t] })
    (vs vx v' : Value) (hs : a.eval s = vs) (hx : a.eval x = vx) (hrun : (Builtin.append_ #[t, t] o.type #[vs, vx]).run Tryd.prog w = .ok v' w') (h : wpList Tryd.prog ops Q rest (a.put o.dst v') w') : wpList Tryd.prog ops Q (o :: rest) a w := by
  refine wpList_plain hgd fun K hK => ?_
  unfold Oper.wp
  simp [execOp, ho, resolve, invoke, builtin, hs, hx, hrun, Result.andThen]
  exact hK _ _ h
set_option maxRecDepth 100000 in
set_option maxHeartbeats 1000000 in
theorem clone_some (ad : Addr) (c : Nat) (l : List Nat) (w : World) (h : Bs w (.slice (some ad) l.length c) l) (hl : l.length ≤ 100000) :
    Calls Tryd.prog 68 #[.slice (some ad) l.length c] w fun e w' => ∃ b m, e = .returned (.slice (some ⟨b, 0, none⟩) l.length (l.length + m)) ∧ w.heap.size ≤ b ∧ Brow w' b (l ++ List.replicate m 0) ∧ l.length + m ≤ 9223372036854775807 ∧ Below w.heap.size w w' := by
  obtain ⟨i0, hi0, hz0, hz1, hz2⟩ := info_parts Tryd.infoByte
  have heq := fun wx => Lib.run_eql_slice_nil (P := Tryd.prog) wx 44 5 (some ad) l.length c 0 0 Tryd.underlying44
  have hnews : ∀ j u, (bv l)[j]? = some u → (w.alloc (.cells #[] 5)).cell? (ad.add j) = some u := by
    intro j u hu
    obtain ⟨ao', c', e, _, _, _, h4⟩ := h.mono ((Below.refl _ _).alloc (Nat.le_refl _) (.cells #[] 5))
    have hj : j < l.length := by
      obtain ⟨q, _⟩ := List.getElem?_eq_some_iff.1 hu
      simpa [bv] using q
    obtain ⟨b', off', e2, hc⟩ := h4 (by intro e; rw [e] at hj; simp at hj)
    simp at e
    rw [← e.1] at e2
    simp at e2
    subst e2
    have e3 : (⟨b', off', none⟩ : Addr).add j = ⟨b', off' + j, none⟩ := by unfold Addr.add; split <;> simp_all
    rw [e3, hc j hj, ← hu]
    simp [bv, hj]
  have al : Below w.heap.size w (w.alloc (.cells #[] 5)) := (Below.refl _ _).alloc (Nat.le_refl _) _
  by_cases h0 : l.length = 0
  · have hl0 : l = [] := List.eq_nil_of_length_eq_zero h0
    subst hl0
    clear h hnews
    go_enter Tryd.func68, Tryd.ntmps68
    simp only [List.length_nil] at heq
    go_wp2
    go_ret
    exact ⟨w.heap.size, 0, rfl, Nat.le_refl _, ⟨#[], heap_alloc_last w _, rfl, fun i hi => by simp at hi⟩, by omega, al⟩
  · have hgrow := run_append_grow (P := Tryd.prog) (w := w.alloc (.cells #[] 5)) 44 44 5 i0 (.int .u8 0) Tryd.underlying44 hi0 hz0 ⟨w.heap.size, 0, none⟩ 0 0 [] (by simp) (fun j v hv => by simp at hv) ad l.length c (bv l) (by rw [hz1]; simp [bv]) hnews (by omega) (by omega) (by rw [hz2]; have := growslice_fits (need := 0 + l.length) (old := 0) (bytes := 1) (by omega) (by omega); omega)
    obtain ⟨cp, hcp, hcm, hrun⟩ : ∃ cp, l.length ≤ cp ∧ cp ≤ 9223372036854775807 ∧ (Builtin.append_ #[44, 44] 44 #[.slice (some ⟨w.heap.size, 0, none⟩) 0 0, .slice (some ad) l.length c]).run Tryd.prog (w.alloc (.cells #[] 5)) = .ok (.slice (some ⟨w.heap.size + 1, 0, none⟩) l.length cp) ((w.alloc (.cells #[] 5)).drew.alloc (.cells ((bv l).toArray ++ Builtin.zeroCells #[.int .u8 0] (cp - l.length)) 5)) := by
      refine ⟨grownCap (w.alloc (.cells #[] 5)) (0 + l.length) 0 5, by have := grownCap_ge (w.alloc (.cells #[] 5)) (0 + l.length) 0 5; omega, by have := grownCap_le_maxLen (w.alloc (.cells #[] 5)) (0 + l.length) 0 5 (by unfold maxLen; omega); unfold maxLen at this; omega, ?_⟩
      rw [hgrow, nblk_alloc]
      simp [Value.cells]
    obtain ⟨m, rfl⟩ : ∃ m, cp = l.length + m := ⟨cp - l.length, by omega⟩
    rw [Nat.add_sub_cancel_left] at hrun
    have HRUN := hide hrun
    clear hrun hgrow hnews h
    go_enter Tryd.func68, Tryd.ntmps68
    go_wp2_with (at_builtin; refine wpList_app rfl (.tmp 5) (.tmp 6) 44 rfl _ _ _ rfl rfl HRUN.out ?_)
    go_ret
    have hbl : Brow ((w.alloc (.cells #[] 5)).drew.alloc (.cells ((bv l).toArray ++ Builtin.zeroCells #[.int .u8 0] m) 5)) (w.heap.size + 1) (l ++ List.replicate m 0) := by
      refine brow_lit ?_
      have := heap_alloc_last (w.alloc (.cells #[] 5)).drew (.cells ((bv l).toArray ++ Builtin.zeroCells #[.int .u8 0] m) 5)
      rwa [show (w.alloc (.cells #[] 5)).drew.heap.size = w.heap.size + 1 from nblk_alloc _ _] at this
    exact ⟨w.heap.size + 1, m, rfl, by omega, hbl, hcm, ((show Below w.heap.size w (w.alloc (.cells #[] 5)).drew from ⟨al.os, al.tape, al.output, al.size, al.block⟩).alloc (show w.heap.size ≤ (w.alloc _).heap.size by rw [nblk_alloc]; omega) _)⟩
end Go.Proofs.YthhommjlomphdaaDoor
