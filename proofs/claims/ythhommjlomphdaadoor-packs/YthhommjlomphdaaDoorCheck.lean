/-
  Check: the program's.
-/
import Derived.Test.YthhommjlomphdaaDoorSteps
namespace Go.Proofs.YthhommjlomphdaaDoor
open Go.RowKit Go.Deep

/-- an error or none -/
def errv (x : Int) : Value := if x = 0 then .nilIface else .iface 29 (.int .i64 x)
def ChPost (regs : Int) (P : List St) (shards : Int) (w : World) (r : Ending) (w' : World) : Prop := (okProg regs P shards → r = .returned .nilIface) ∧ (¬ okProg regs P shards → r = .returned (.iface 29 (.int .i64 4))) ∧ Below w.heap.size w w'
def ChR (w : World) (regs shards : Int) (P : List St) (i : Value) (wr : World) : Prop := ∃ k : Nat, k ≤ P.length ∧ i = .int .i64 k ∧ (∀ j (hj : j < P.length), j < k → okStep P[j] regs shards) ∧ Below w.heap.size w wr
theorem box2 {w w' : World} {n : Nat} {x y : Value} {t : TypeId} (h : Below (n + 1) (w.alloc (.cells #[x, y] t)) w') (hn : n = w.heap.size) : w'.cell? ⟨n, 0, none⟩ = some x ∧ w'.cell? ⟨n, 1, none⟩ = some y := by
  subst hn
  constructor
  · rw [h.cell (by simp)]; simp
  · rw [h.cell (by simp)]; simp
set_option maxRecDepth 100000 in
set_option maxHeartbeats 2000000 in
theorem check_any (regs shards : Int) (v : Value) (P : List St) (w : World) (h : Ps .u8 w v P) :
    Calls Tryd.prog 45 #[.agg #[.int .i64 regs, v], .int .i64 shards] w fun r w' => ChPost regs P shards w r w' := by
  have hb0 : Below w.heap.size w (w.alloc (.cells #[.int .i64 regs, v] 49)) := (Below.refl _ _).alloc (Nat.le_refl _) _
  have h0 := h.mono hb0
  obtain ⟨ao, c, rfl⟩ := h.slice
  go_enter Tryd.func45, Tryd.ntmps45
  go_wp2_with fail
  refine (bounded_any regs _ P _ h0).mono ?_
  rintro r w1 ⟨b, rfl, hb, hb1⟩
  rw [nblk_alloc] at hb1
  obtain ⟨p0, p1⟩ := box2 hb1 rfl
  have hs1 := hb1.size
  rw [nblk_alloc] at hs1
  have hbw1 := hb0.trans (hb1.mono (by omega))
  cases b
  · have HN := hide (show ¬ okProg regs P shards from fun hp => by have := hb.2 hp.1; simp at this)
    clear hb hb1 h0 h hb0
    go_wp2
    go_ret
    exact ⟨fun hp => absurd hp HN.out, fun _ => rfl, hbw1⟩
  · have HH := hide (hb.1 rfl)
    have h1 := h.mono hbw1
    clear hb hb1 h0 hb0 h
    rcases h1.cases with ⟨rfl, ao', c', e⟩ | ⟨b, off, c', e, _, hc⟩
    · simp at e
      obtain ⟨rfl, rfl⟩ := e
      clear h1
      go_wp2
      refine wp_loop_rounds 1 ?_
      rw [rounds_succ]
      go_wp2
      go_ret
      exact ⟨fun _ => rfl, fun hp => absurd ⟨HH.out, fun i hi => by simp at hi⟩ hp, hbw1⟩
    · simp at e
      obtain ⟨rfl, rfl⟩ := e
      clear h1
      go_wp2
      go_loopw [14] (fun i wr => ChR w1 regs shards P i wr) (fun i _ => P.length - (intOf i).toNat)
      case atStart => exact ⟨0, Nat.zero_le _, rfl, fun j _ hj => absurd hj (by omega), Below.refl _ _⟩
      case round =>
        rename World => wo
        obtain ⟨k, hk, rfl, hok, hbo⟩ := hrel
        have q0 := (hbo.cell (block_lt_of_cell p0)).trans p0
        have q1 := (hbo.cell (block_lt_of_cell p1)).trans p1
        by_cases hlt : k < P.length
        · obtain ⟨c0, c1, c2, c3⟩ := hc k hlt
          have d0 := (hbo.cell (block_lt_of_cell c0)).trans c0
          have d1 := (hbo.cell (block_lt_of_cell c1)).trans c1
          have d2 := (hbo.cell (block_lt_of_cell c2)).trans c2
          have d3 := (hbo.cell (block_lt_of_cell c3)).trans c3
          have HC := hide hc
          have HOK := hide hok
          clear hc hok c0 c1 c2 c3
          have q0' := (((Below.refl wo.heap.size wo).alloc (Nat.le_refl _) (.cells #[.int .u8 P[k].k, .int .i64 P[k].a, .int .i64 P[k].b, .int .u8 P[k].c] 92)).cell (block_lt_of_cell q0)).trans q0
          have hbo2 := hbo.alloc hbo.size (.cells #[.int .u8 P[k].k, .int .i64 P[k].a, .int .i64 P[k].b, .int .u8 P[k].c] 92)
          have hso := hbo.size
          go_wp2_with fail
          refine (pfits_any P[k] regs shards _).mono ?_
          rintro r w2 ⟨b2, rfl, hb2, hbe⟩
          rw [nblk_alloc] at hbe
          have hbo3 := hbo2.trans (hbe.mono (by omega))
          have HB2 := hide hb2
          clear hbe hb2 d0 d1 d2 d3 q0 q1 q0' hbo hbo2
          cases b2
          · go_wp2
            go_ret
            exact ⟨fun hp => absurd (HB2.out.2 (hp.2 k hlt)) (by simp), fun _ => rfl, hbw1.trans (hbo3.mono (by omega))⟩
          · go_wp2
            go_roundw
            case rel =>
              refine ⟨k + 1, by omega, by go_num, fun j hj hjk => ?_, hbo3⟩
              by_cases e : j = k
              · subst e; first | exact HB2.out.1 rfl | exact HB2.out.1 trivial
              · exact HOK.out j hj (by omega)
            case measure => simp [intOf]; omega
        · have hkk : k = P.length := by omega
          subst hkk
          have HOK := hide hok
          clear hc hok
          go_wp2
          go_ret
          exact ⟨fun _ => rfl, fun hp => absurd ⟨HH.out, fun i hi => HOK.out i hi hi⟩ hp, hbw1.trans (hbo.mono (by omega))⟩
end Go.Proofs.YthhommjlomphdaaDoor
