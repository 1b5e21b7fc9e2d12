/-
  Whether a program can be packed: the program's word.
-/
import Derived.Test.YthhommjlomphdaaDoorCheck
namespace Go.Proofs.YthhommjlomphdaaDoor
open Go.RowKit Go.Deep

def okPk (s : St) : Prop := s.k ≤ 2 ∧ 0 ≤ s.a ∧ s.a ≤ 255 ∧ 0 ≤ s.b ∧ s.b ≤ 255 ∧ (s.k = 1 ∨ s.c = 0)
def okPack (regs : Int) (P : List St) : Prop := okHead regs P ∧ ∀ i (hi : i < P.length), okPk P[i]
set_option maxRecDepth 100000 in
set_option maxHeartbeats 2000000 in
theorem packableStep_any (s : St) (w : World) :
    Calls Tryd.prog 83 #[.agg #[.int .u8 s.k, .int .i64 s.a, .int .i64 s.b, .int .u8 s.c]] w fun r w' => BIs (okPk s) w r w' := by
  obtain ⟨k, a, b, c⟩ := s
  have hbw : Below w.heap.size w (w.alloc (.cells #[.int .u8 k, .int .i64 a, .int .i64 b, .int .u8 c] 92)) := (Below.refl _ _).alloc (Nat.le_refl _) _
  by_cases k1 : k = 1
  · subst k1
    by_cases ha : inB a 256
    · by_cases hb : inB b 256
      · have HA := hide ha
        have HB := hide hb
        clear ha hb
        go_enter Tryd.func83, Tryd.ntmps83
        go_wp2_with fail
        refine (within_yes _ _ HA.out _).mono ?_
        rintro e w' ⟨rfl, rfl⟩
        go_wp2_with fail
        refine (within_yes _ _ HB.out _).mono ?_
        rintro e w' ⟨rfl, rfl⟩
        go_wp2
        go_ret
        refine ⟨_, rfl, ?_, hbw⟩
        have qa := HA.out
        have qb := HB.out
        unfold okPk
        unfold inB at qa qb
        simp
        omega
      · have HA := hide ha
        have HB := hide hb
        clear ha hb
        go_enter Tryd.func83, Tryd.ntmps83
        go_wp2_with fail
        refine (within_yes _ _ HA.out _).mono ?_
        rintro e w' ⟨rfl, rfl⟩
        go_wp2_with fail
        refine (within_no _ _ HB.out _).mono ?_
        rintro e w' ⟨rfl, rfl⟩
        go_wp2
        go_ret
        refine ⟨_, rfl, ?_, hbw⟩
        have qa := HA.out
        have qb := HB.out
        unfold okPk
        unfold inB at qa qb
        simp
        omega
    · have HA := hide ha
      clear ha
      go_enter Tryd.func83, Tryd.ntmps83
      go_wp2_with fail
      refine (within_no _ _ HA.out _).mono ?_
      rintro e w' ⟨rfl, rfl⟩
      go_wp2
      go_ret
      refine ⟨_, rfl, ?_, hbw⟩
      have qa := HA.out
      unfold okPk
      unfold inB at qa
      simp
      omega
  · by_cases k0 : k = 0 ∨ k = 2
    · by_cases hc : c = 0
      · subst hc
        by_cases ha : inB a 256
        · by_cases hb : inB b 256
          · rcases k0 with rfl | rfl
            all_goals
              have HA := hide ha
              have HB := hide hb
              clear ha hb
              go_enter Tryd.func83, Tryd.ntmps83
              go_wp2_with fail
              refine (within_yes _ _ HA.out _).mono ?_
              rintro e w' ⟨rfl, rfl⟩
              go_wp2_with fail
              refine (within_yes _ _ HB.out _).mono ?_
              rintro e w' ⟨rfl, rfl⟩
              go_wp2
              go_ret
              refine ⟨_, rfl, ?_, hbw⟩
              have qa := HA.out
              have qb := HB.out
              unfold okPk
              unfold inB at qa qb
              simp
              omega
          · rcases k0 with rfl | rfl
            all_goals
              have HA := hide ha
              have HB := hide hb
              clear ha hb
              go_enter Tryd.func83, Tryd.ntmps83
              go_wp2_with fail
              refine (within_yes _ _ HA.out _).mono ?_
              rintro e w' ⟨rfl, rfl⟩
              go_wp2_with fail
              refine (within_no _ _ HB.out _).mono ?_
              rintro e w' ⟨rfl, rfl⟩
              go_wp2
              go_ret
              refine ⟨_, rfl, ?_, hbw⟩
              have qa := HA.out
              have qb := HB.out
              unfold okPk
              unfold inB at qa qb
              simp
              omega
        · rcases k0 with rfl | rfl
          all_goals
            have HA := hide ha
            clear ha
            go_enter Tryd.func83, Tryd.ntmps83
            go_wp2_with fail
            refine (within_no _ _ HA.out _).mono ?_
            rintro e w' ⟨rfl, rfl⟩
            go_wp2
            go_ret
            refine ⟨_, rfl, ?_, hbw⟩
            have qa := HA.out
            unfold okPk
            unfold inB at qa
            simp
            omega
      · have e0 : ((c : Int) == 0) = false := by rw [beq_eq_false_iff_ne]; omega
        have HC := hide hc
        clear hc
        rcases k0 with rfl | rfl
        all_goals
          go_enter Tryd.func83, Tryd.ntmps83
          go_wp2
          go_ret
          refine ⟨_, rfl, ?_, hbw⟩
          have := HC.out
          unfold okPk
          simp
          omega
    · have e0 : ((k : Int) == 0) = false := by rw [beq_eq_false_iff_ne]; omega
      have e1 : ((k : Int) == 1) = false := by rw [beq_eq_false_iff_ne]; omega
      have e2 : ((k : Int) == 2) = false := by rw [beq_eq_false_iff_ne]; omega
      have K0 := hide k0
      have K1 := hide k1
      clear k0 k1
      go_enter Tryd.func83, Tryd.ntmps83
      go_wp2
      go_ret
      refine ⟨_, rfl, ?_, hbw⟩
      have := K0.out
      have := K1.out
      unfold okPk
      simp
      omega
def PkR (w : World) (P : List St) (i : Value) (wr : World) : Prop := ∃ k : Nat, k ≤ P.length ∧ i = .int .i64 k ∧ (∀ j (hj : j < P.length), j < k → okPk P[j]) ∧ Below w.heap.size w wr
set_option maxRecDepth 100000 in
set_option maxHeartbeats 2000000 in
theorem packable_any (regs : Int) (v : Value) (P : List St) (w : World) (h : Ps .u8 w v P) :
    Calls Tryd.prog 69 #[.agg #[.int .i64 regs, v]] w fun r w' => BIs (okPack regs P) w r w' := by
  have hb0 : Below w.heap.size w (w.alloc (.cells #[.int .i64 regs, v] 49)) := (Below.refl _ _).alloc (Nat.le_refl _) _
  have h0 := h.mono hb0
  obtain ⟨ao, c, rfl⟩ := h.slice
  go_enter Tryd.func69, Tryd.ntmps69
  go_wp2_with fail
  refine (bounded_any regs _ P _ h0).mono ?_
  rintro r w1 ⟨b, rfl, hb, hb1⟩
  rw [nblk_alloc] at hb1
  obtain ⟨p0, p1⟩ := box2 hb1 rfl
  have hs1 := hb1.size
  rw [nblk_alloc] at hs1
  have hbw1 := hb0.trans (hb1.mono (by omega))
  cases b
  · have HN := hide (show ¬ okPack regs P from fun hp => by have := hb.2 hp.1; simp at this)
    clear hb hb1 h0 h hb0
    go_wp2
    go_ret
    exact ⟨false, rfl, by simp; exact HN.out, hbw1⟩
  · have HH := hide (hb.1 rfl)
    have h1 := h.mono hbw1
    clear hb hb1 h0 hb0 h
    rcases h1.cases with ⟨rfl, ao', c', e⟩ | ⟨b, off, c', e, _, hc⟩
    · simp at e
      obtain ⟨rfl, rfl⟩ := e
      clear h1
      go_wp2
      refine wp_loop_rounds 1 ?_
      rw [rounds_succ]
      go_wp2
      go_ret
      exact ⟨true, rfl, by simp; exact ⟨HH.out, fun i hi => by simp at hi⟩, hbw1⟩
    · simp at e
      obtain ⟨rfl, rfl⟩ := e
      clear h1
      go_wp2
      go_loopw [11] (fun i wr => PkR w1 P i wr) (fun i _ => P.length - (intOf i).toNat)
      case atStart => exact ⟨0, Nat.zero_le _, rfl, fun j _ hj => absurd hj (by omega), Below.refl _ _⟩
      case round =>
        rename World => wo
        obtain ⟨k, hk, rfl, hok, hbo⟩ := hrel
        have q0 := (hbo.cell (block_lt_of_cell p0)).trans p0
        have q1 := (hbo.cell (block_lt_of_cell p1)).trans p1
        by_cases hlt : k < P.length
        · obtain ⟨c0, c1, c2, c3⟩ := hc k hlt
          have d0 := (hbo.cell (block_lt_of_cell c0)).trans c0
          have d1 := (hbo.cell (block_lt_of_cell c1)).trans c1
          have d2 := (hbo.cell (block_lt_of_cell c2)).trans c2
          have d3 := (hbo.cell (block_lt_of_cell c3)).trans c3
          have HC := hide hc
          have HOK := hide hok
          clear hc hok c0 c1 c2 c3
          have q0' := (((Below.refl wo.heap.size wo).alloc (Nat.le_refl _) (.cells #[.int .u8 P[k].k, .int .i64 P[k].a, .int .i64 P[k].b, .int .u8 P[k].c] 92)).cell (block_lt_of_cell q0)).trans q0
          have hbo2 := hbo.alloc hbo.size (.cells #[.int .u8 P[k].k, .int .i64 P[k].a, .int .i64 P[k].b, .int .u8 P[k].c] 92)
          have hso := hbo.size
          go_wp2_with fail
          refine (packableStep_any P[k] _).mono ?_
          rintro r w2 ⟨b2, rfl, hb2, hbe⟩
          rw [nblk_alloc] at hbe
          have hbo3 := hbo2.trans (hbe.mono (by omega))
          have HB2 := hide hb2
          clear hbe hb2 d0 d1 d2 d3 q0 q1 q0' hbo hbo2
          cases b2
          · go_wp2
            go_ret
            exact ⟨false, rfl, by simp; exact fun hp => absurd (HB2.out.2 (hp.2 k hlt)) (by simp), hbw1.trans (hbo3.mono (by omega))⟩
          · go_wp2
            go_roundw
            case rel =>
              refine ⟨k + 1, by omega, by go_num, fun j hj hjk => ?_, hbo3⟩
              by_cases e : j = k
              · subst e; first | exact HB2.out.1 rfl | exact HB2.out.1 trivial
              · exact HOK.out j hj (by omega)
            case measure => simp [intOf]; omega
        · have hkk : k = P.length := by omega
          subst hkk
          have HOK := hide hok
          clear hc hok
          go_wp2
          go_ret
          exact ⟨true, rfl, by simp; exact ⟨HH.out, fun i hi => HOK.out i hi hi⟩, hbw1.trans (hbo.mono (by omega))⟩
end Go.Proofs.YthhommjlomphdaaDoor
