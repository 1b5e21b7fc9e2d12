/-
  Programs: steps wherever they lie; whether they can be run: the program's word.
-/
import Derived.Test.YthhommjlomphdaaDoorMem
import Derived.Test.YthhommjlomphdaaDoorFieldWalks
import Derived.Deep.QuietTactic
import Derived.BigQuiet
namespace Go.Proofs.YthhommjlomphdaaDoor
open Go.RowKit Go.Deep

theorem ret_b {a b : Bool} (h : a = b) : Ending.returned (.bool a) = .returned (.bool b) := by rw [h]
structure St where
  k : Nat
  a : Int
  b : Int
  c : Nat
/-- a step's cells; its kind is of one kind of number or another -/
def stc (kk : IntKind) (s : St) : List Value := [.int kk s.k, .int .i64 s.a, .int .i64 s.b, .int .u8 s.c]
def okInts (s : St) : Prop := s.k < 256 ∧ -9223372036854775808 ≤ s.a ∧ s.a ≤ 9223372036854775807 ∧ -9223372036854775808 ≤ s.b ∧ s.b ≤ 9223372036854775807 ∧ s.c < 256
/-- the steps, wherever they lie -/
def Ps (kk : IntKind) (w : World) (v : Value) (P : List St) : Prop :=
  ∃ ao c, v = .slice ao P.length c ∧ P.length ≤ 4398046511104 ∧ (P ≠ [] → ∃ b off, ao = some ⟨b, off, none⟩ ∧ ∀ i (hi : i < P.length),
    w.cell? ⟨b, off + i * 4, none⟩ = some (.int kk P[i].k) ∧ w.cell? ⟨b, off + i * 4 + 1, none⟩ = some (.int .i64 P[i].a) ∧ w.cell? ⟨b, off + i * 4 + 2, none⟩ = some (.int .i64 P[i].b) ∧ w.cell? ⟨b, off + i * 4 + 3, none⟩ = some (.int .u8 P[i].c))
theorem Ps.mono {kk : IntKind} {w w' : World} {v : Value} {P : List St} (h : Ps kk w v P) (hb : Below w.heap.size w w') : Ps kk w' v P := by
  obtain ⟨ao, c, h1, h2, h3⟩ := h
  refine ⟨ao, c, h1, h2, fun hP => ?_⟩
  obtain ⟨b, off, e, hc⟩ := h3 hP
  refine ⟨b, off, e, fun i hi => ?_⟩
  obtain ⟨c0, c1, c2, c3⟩ := hc i hi
  exact ⟨by rw [hb.cell (block_lt_of_cell c0)]; exact c0, by rw [hb.cell (block_lt_of_cell c1)]; exact c1, by rw [hb.cell (block_lt_of_cell c2)]; exact c2, by rw [hb.cell (block_lt_of_cell c3)]; exact c3⟩
theorem Ps.cases {kk : IntKind} {w : World} {v : Value} {P : List St} (h : Ps kk w v P) : (P = [] ∧ ∃ ao c, v = .slice ao 0 c) ∨ ∃ b off c, v = .slice (some ⟨b, off, none⟩) P.length c ∧ P.length ≤ 4398046511104 ∧ ∀ i (hi : i < P.length),
    w.cell? ⟨b, off + i * 4, none⟩ = some (.int kk P[i].k) ∧ w.cell? ⟨b, off + i * 4 + 1, none⟩ = some (.int .i64 P[i].a) ∧ w.cell? ⟨b, off + i * 4 + 2, none⟩ = some (.int .i64 P[i].b) ∧ w.cell? ⟨b, off + i * 4 + 3, none⟩ = some (.int .u8 P[i].c) := by
  obtain ⟨ao, c, h1, h2, h3⟩ := h
  by_cases hP : P = []
  · subst hP; exact .inl ⟨rfl, ao, c, h1⟩
  · obtain ⟨b, off, rfl, hc⟩ := h3 hP
    exact .inr ⟨b, off, c, h1, h2, hc⟩
theorem Ps.slice {kk : IntKind} {w : World} {v : Value} {P : List St} (h : Ps kk w v P) : ∃ ao c, v = .slice ao P.length c := by
  obtain ⟨ao, c, h1, _⟩ := h
  exact ⟨ao, c, h1⟩
def okStep (s : St) (regs shards : Int) : Prop := (s.k = 0 ∨ s.k = 2) ∧ 0 ≤ s.a ∧ s.a < regs ∧ 0 ≤ s.b ∧ s.b < shards ∨ s.k = 1 ∧ 0 ≤ s.a ∧ s.a < regs ∧ 0 ≤ s.b ∧ s.b < regs ∧ s.a ≠ s.b
def okHead (regs : Int) (P : List St) : Prop := 0 ≤ regs ∧ regs ≤ 32 ∧ P.length ≤ 2000
def okProg (regs : Int) (P : List St) (shards : Int) : Prop := okHead regs P ∧ ∀ i (hi : i < P.length), okStep P[i] regs shards
/-- a word: yes if and only if -/
def BIs (p : Prop) (w : World) (r : Ending) (w' : World) : Prop := ∃ b : Bool, r = .returned (.bool b) ∧ (b = true ↔ p) ∧ Below w.heap.size w w'
def BIs0 (p : Prop) (w : World) (r : Ending) (w' : World) : Prop := ∃ b : Bool, r = .returned (.bool b) ∧ (b = true ↔ p) ∧ w' = w
def inB (n e : Int) : Prop := 0 ≤ n ∧ n < e

set_option maxRecDepth 100000 in
theorem within_any (n e : Int) (w : World) :
    Calls Tryd.prog 80 #[.int .i64 n, .int .i64 e] w fun r w' => BIs0 (inB n e) w r w' := by
  by_cases h1 : 0 ≤ n
  · go_enter Tryd.func80, Tryd.ntmps80
    go_wp2
    go_ret
    exact ⟨_, rfl, by unfold inB; simp [h1], rfl⟩
  · go_enter Tryd.func80, Tryd.ntmps80
    go_wp2
    go_ret
    exact ⟨_, rfl, by unfold inB; simp; omega, rfl⟩
theorem within_yes (n e : Int) (h : inB n e) (w : World) :
    Calls Tryd.prog 80 #[.int .i64 n, .int .i64 e] w fun r w' => r = .returned (.bool true) ∧ w' = w := by
  refine (within_any n e w).mono ?_
  rintro r w' ⟨b, rfl, hb, rfl⟩
  exact ⟨by rw [hb.2 h], rfl⟩
theorem within_no (n e : Int) (h : ¬ inB n e) (w : World) :
    Calls Tryd.prog 80 #[.int .i64 n, .int .i64 e] w fun r w' => r = .returned (.bool false) ∧ w' = w := by
  refine (within_any n e w).mono ?_
  rintro r w' ⟨b, rfl, hb, rfl⟩
  cases b
  · exact ⟨rfl, rfl⟩
  · exact absurd (hb.1 rfl) h
set_option maxRecDepth 100000 in
set_option maxHeartbeats 1000000 in
theorem bounded_any (regs : Int) (v : Value) (P : List St) (w : World) (h : Ps .u8 w v P) :
    Calls Tryd.prog 63 #[.agg #[.int .i64 regs, v]] w fun r w' => BIs (okHead regs P) w r w' := by
  obtain ⟨ao, c, rfl⟩ := h.slice
  clear h
  have hb : Below w.heap.size w (w.alloc (.cells #[.int .i64 regs, .slice ao P.length c] 49)) := (Below.refl _ _).alloc (Nat.le_refl _) _
  by_cases h1 : inB regs 33
  · have HW := hide h1
    clear h1
    go_enter Tryd.func63, Tryd.ntmps63
    go_wp2_with (go_at_call 80; refine (within_yes _ _ HW.out _).mono ?_; rintro e w' ⟨rfl, rfl⟩)
    go_ret
    refine ⟨_, rfl, ?_, hb⟩
    have := HW.out
    unfold inB at this
    unfold okHead
    simp
    omega
  · have HW := hide h1
    clear h1
    go_enter Tryd.func63, Tryd.ntmps63
    go_wp2_with (go_at_call 80; refine (within_no _ _ HW.out _).mono ?_; rintro e w' ⟨rfl, rfl⟩)
    go_ret
    refine ⟨_, rfl, ?_, hb⟩
    have := HW.out
    unfold inB at this
    unfold okHead
    simp
    omega
set_option maxRecDepth 100000 in
set_option maxHeartbeats 2000000 in
theorem pfits_any (s : St) (regs shards : Int) (w : World) :
    Calls Tryd.prog 64 #[.agg #[.int .u8 s.k, .int .i64 s.a, .int .i64 s.b, .int .u8 s.c], .int .i64 regs, .int .i64 shards] w fun r w' => BIs (okStep s regs shards) w r w' := by
  obtain ⟨k, a, b, c⟩ := s
  have hb : Below w.heap.size w (w.alloc (.cells #[.int .u8 k, .int .i64 a, .int .i64 b, .int .u8 c] 92)) := (Below.refl _ _).alloc (Nat.le_refl _) _
  by_cases k0 : k = 0 ∨ k = 2
  · by_cases ha : inB a regs
    · by_cases hB : inB b shards
      · have HA := hide ha
        have HB := hide hB
        clear ha hB
        rcases k0 with rfl | rfl
        all_goals
          go_enter Tryd.func64, Tryd.ntmps64
          go_wp2_with fail
          refine (within_yes _ _ HA.out _).mono ?_
          rintro e w' ⟨rfl, rfl⟩
          go_wp2_with fail
          refine (within_yes _ _ HB.out _).mono ?_
          rintro e w' ⟨rfl, rfl⟩
          go_wp2
          go_ret
          refine ⟨_, rfl, ?_, hb⟩
          have := HA.out
          have := HB.out
          unfold inB at *
          unfold okStep
          simp
          omega
      · have HA := hide ha
        have HB := hide hB
        clear ha hB
        rcases k0 with rfl | rfl
        all_goals
          go_enter Tryd.func64, Tryd.ntmps64
          go_wp2_with fail
          refine (within_yes _ _ HA.out _).mono ?_
          rintro e w' ⟨rfl, rfl⟩
          go_wp2_with fail
          refine (within_no _ _ HB.out _).mono ?_
          rintro e w' ⟨rfl, rfl⟩
          go_wp2
          go_ret
          refine ⟨_, rfl, ?_, hb⟩
          have := HA.out
          have := HB.out
          unfold inB at *
          unfold okStep
          simp
          omega
    · have HA := hide ha
      clear ha
      rcases k0 with rfl | rfl
      all_goals
        go_enter Tryd.func64, Tryd.ntmps64
        go_wp2_with (go_at_call 80; refine (within_no _ _ HA.out _).mono ?_; rintro e w' ⟨rfl, rfl⟩)
        go_ret
        refine ⟨_, rfl, ?_, hb⟩
        have := HA.out
        unfold inB at *
        unfold okStep
        simp
        omega
  · by_cases k1 : k = 1
    · subst k1
      clear k0
      by_cases ha : inB a regs
      · by_cases hB : inB b regs
        · have HA := hide ha
          have HB := hide hB
          clear ha hB
          go_enter Tryd.func64, Tryd.ntmps64
          go_wp2_with fail
          refine (within_yes _ _ HA.out _).mono ?_
          rintro e w' ⟨rfl, rfl⟩
          go_wp2_with fail
          refine (within_yes _ _ HB.out _).mono ?_
          rintro e w' ⟨rfl, rfl⟩
          go_wp2
          go_ret
          refine ⟨_, rfl, ?_, hb⟩
          have := HA.out
          have := HB.out
          unfold inB at *
          unfold okStep
          simp
          omega
        · have HA := hide ha
          have HB := hide hB
          clear ha hB
          go_enter Tryd.func64, Tryd.ntmps64
          go_wp2_with fail
          refine (within_yes _ _ HA.out _).mono ?_
          rintro e w' ⟨rfl, rfl⟩
          go_wp2_with fail
          refine (within_no _ _ HB.out _).mono ?_
          rintro e w' ⟨rfl, rfl⟩
          go_wp2
          go_ret
          refine ⟨_, rfl, ?_, hb⟩
          have := HA.out
          have := HB.out
          unfold inB at *
          unfold okStep
          simp
          omega
      · have HA := hide ha
        clear ha
        go_enter Tryd.func64, Tryd.ntmps64
        go_wp2_with (go_at_call 80; refine (within_no _ _ HA.out _).mono ?_; rintro e w' ⟨rfl, rfl⟩)
        go_ret
        refine ⟨_, rfl, ?_, hb⟩
        have := HA.out
        unfold inB at *
        unfold okStep
        simp
        omega
    · have e0 : ((k : Int) == 0) = false := by rw [beq_eq_false_iff_ne]; omega
      have e1 : ((k : Int) == 1) = false := by rw [beq_eq_false_iff_ne]; omega
      have e2 : ((k : Int) == 2) = false := by rw [beq_eq_false_iff_ne]; omega
      have K0 := hide k0
      have K1 := hide k1
      clear k0 k1
      go_enter Tryd.func64, Tryd.ntmps64
      go_wp2
      go_ret
      refine ⟨_, rfl, ?_, hb⟩
      have := K0.out
      have := K1.out
      unfold okStep
      simp
      omega
end Go.Proofs.YthhommjlomphdaaDoor
