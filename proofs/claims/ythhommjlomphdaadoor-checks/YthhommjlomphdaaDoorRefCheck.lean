/-
  Check: the document's.
-/
import Derived.Test.YthhommjlomphdaaDoorLawProg
namespace Go.Proofs.YthhommjlomphdaaDoor
open Go.RowKit Go.Deep

def RcPost (regs : Int) (P : List St) (shards : Int) (w : World) (r : Ending) (w' : World) : Prop := (okProg regs P shards → r = .returned (.int .i64 0)) ∧ (¬ okProg regs P shards → r = .returned (.int .i64 4)) ∧ Below w.heap.size w w'
set_option maxRecDepth 100000 in
set_option maxHeartbeats 4000000 in
theorem rcheck_any (regs shards : Int) (v : Value) (P : List St) (w : World) (h : Ps .i64 w v P) :
    Calls Tryd.prog 25 #[.agg #[.int .i64 regs, v], .int .i64 shards] w fun r w' => RcPost regs P shards w r w' := by
  have hb0 : Below w.heap.size w (w.alloc (.cells #[.int .i64 regs, v] 53)) := (Below.refl _ _).alloc (Nat.le_refl _) _
  obtain ⟨ao, c, rfl⟩ := h.slice
  by_cases hh : okHead regs P
  · have HH := hide hh
    obtain ⟨g0, g1, g2⟩ := hh
    obtain ⟨w1, hw1, hx⟩ : ∃ w1, w.alloc (.cells #[.int .i64 regs, .slice ao P.length c] 53) = w1 ∧ w1.heap[w.heap.size]? = some (.cells #[.int .i64 regs, .slice ao P.length c] 53 (0, 0)) := ⟨_, rfl, heap_alloc_last w _⟩
    have h1 := h.mono hb0
    have hs1 : w1.heap.size = w.heap.size + 1 := by rw [← hw1, nblk_alloc]
    go_enter Tryd.func25, Tryd.ntmps25
    rw [hw1] at hb0 h1
    obtain ⟨p0, p1, _, _⟩ := obj_cells hx
    go_wp2
    clear hw1 h
    go_loopw [5] (fun i wr => ChR w1 regs shards P i wr) (fun i _ => P.length - (intOf i).toNat)
    case atStart => exact ⟨0, Nat.zero_le _, rfl, fun j _ hj => absurd hj (by omega), Below.refl _ _⟩
    case round =>
      rename World => wo
      obtain ⟨k, hk, rfl, hok, hbo⟩ := hrel
      have q0 := (hbo.cell (block_lt_of_cell p0)).trans p0
      have q1 := (hbo.cell (block_lt_of_cell p1)).trans p1
      have hso := hbo.size
      by_cases hlt : k < P.length
      · rcases (h1.mono hbo).cases with ⟨rfl, _⟩ | ⟨b, off, c', e, _, hc⟩
        · simp at hlt
        simp at e
        obtain ⟨rfl, rfl⟩ := e
        obtain ⟨c0, c1, c2, c3⟩ := hc k hlt
        obtain ⟨w2, hw2, hx2, hbo2, z0⟩ : ∃ w2, wo.alloc (.cells #[.int .i64 P[k].k, .int .i64 P[k].a, .int .i64 P[k].b, .int .u8 P[k].c] 94) = w2 ∧ w2.heap[wo.heap.size]? = some (.cells #[.int .i64 P[k].k, .int .i64 P[k].a, .int .i64 P[k].b, .int .u8 P[k].c] 94 (0, 0)) ∧ Below w1.heap.size w1 w2 ∧ w2.cell? ⟨w.heap.size, 0, none⟩ = some (.int .i64 regs) :=
          ⟨_, rfl, heap_alloc_last wo _, hbo.alloc hbo.size _, (((Below.refl wo.heap.size wo).alloc (Nat.le_refl _) _).cell (block_lt_of_cell q0)).trans q0⟩
        have z1 : w2.cell? ⟨wo.heap.size, 0, none⟩ = some (.int .i64 P[k].k) := by simp [World.cell?, hx2]
        have z2 : w2.cell? ⟨wo.heap.size, 1, none⟩ = some (.int .i64 P[k].a) := by simp [World.cell?, hx2]
        have z3 : w2.cell? ⟨wo.heap.size, 2, none⟩ = some (.int .i64 P[k].b) := by simp [World.cell?, hx2]
        have HC := hide hc
        have HOK := hide hok
        have HST : Hid (okStep P[k] regs shards ↔ (P[k].k = 0 ∨ P[k].k = 2) ∧ 0 ≤ P[k].a ∧ P[k].a < regs ∧ 0 ≤ P[k].b ∧ P[k].b < shards ∨ P[k].k = 1 ∧ 0 ≤ P[k].a ∧ P[k].a < regs ∧ 0 ≤ P[k].b ∧ P[k].b < regs ∧ P[k].a ≠ P[k].b) := Iff.rfl
        clear hc hok h1 hbo hx2
        generalize P[k].k = sk at *
        generalize P[k].a = sa at *
        generalize P[k].b = sb at *
        have e0 : ¬ ((sk : Int) < 0) := by omega
        go_wp2
        all_goals first
          | (go_ret
             refine ⟨fun hp => ?_, fun _ => rfl, hb0.trans (hbo2.mono (by omega))⟩
             exfalso
             have h1 := HST.out.1 (hp.2 k hlt)
             simp at *
             omega)
          | skip
        all_goals
          have hst : okStep P[k] regs shards := HST.out.2 (by
            clear HST HC HOK
            simp at *
            omega)
          refine ⟨⟨k + 1, by omega, by go_num, fun j hj hjk => ?_, hbo2⟩, by simp [intOf]; omega⟩
          by_cases e : j = k
          · subst e; exact hst
          · exact HOK.out j hj (by omega)
      · have hkk : k = P.length := by omega
        subst hkk
        have HOK := hide hok
        clear hok h1
        go_wp2
        go_ret
        exact ⟨fun _ => rfl, fun hp => absurd ⟨HH.out, fun i hi => HOK.out i hi hi⟩ hp, hb0.trans (hbo.mono (by omega))⟩
  · have HN := hide (show ¬ okProg regs P shards from fun hp => hh hp.1)
    have HH := hide hh
    clear hh
    go_enter Tryd.func25, Tryd.ntmps25
    go_wp2
    all_goals first
      | (go_ret; exact ⟨fun hp => absurd hp HN.out, fun _ => rfl, hb0⟩)
      | (exfalso; have := HH.out; unfold okHead at this; omega)
end Go.Proofs.YthhommjlomphdaaDoor
