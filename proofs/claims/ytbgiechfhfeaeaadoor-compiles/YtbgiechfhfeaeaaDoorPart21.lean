import Derived.Test.YtbgiechfhfeaeaaDoorPart16
import Derived.Test.YtbgiechfhfeaeaaDoorPart17
/-
  Whether a program can be packed: the program's word.
-/
namespace Go.Proofs.YtbgiechfhfeaeaaDoor
open Go.RowKit Go.Deep

def okPk (s : St) : Prop := s.k ≤ 2 ∧ 0 ≤ s.a ∧ s.a ≤ 255 ∧ 0 ≤ s.b ∧ s.b ≤ 255 ∧ (s.k = 1 ∨ s.c = 0)
def okPack (regs : Int) (P : List St) : Prop := okHead regs P ∧ ∀ i (hi : i < P.length), okPk P[i]
set_option maxRecDepth 100000 in
set_option maxHeartbeats 2000000 in
theorem packableStep_any (s : St) (w : World) :
    Calls Tryd.prog 85 #[.agg #[.int .u8 s.k, .int .i64 s.a, .int .i64 s.b, .int .u8 s.c]] w fun r w' => BIs (okPk s) w r w' := by
  obtain ⟨k, a, b, c⟩ := s
  have hbw : Below w.heap.size w (w.alloc (.cells #[.int .u8 k, .int .i64 a, .int .i64 b, .int .u8 c] 92)) := (Below.refl _ _).alloc (Nat.le_refl _) _
  by_cases k1 : k = 1
  · subst k1
    by_cases ha : inB a 256
    · by_cases hb : inB b 256
      · have HA := hide ha
        have HB := hide hb
        clear ha hb
        go_enter Tryd.func85, Tryd.ntmps85
        go_wp2_with fail
        refine (within_yes _ _ HA.out _).mono ?_
        rintro e w' ⟨rfl, rfl⟩
        go_wp2_with fail
        refine (within_yes _ _ HB.out _).mono ?_
        rintro e w' ⟨rfl, rfl⟩
        go_wp2
        go_ret
        refine ⟨_, rfl, ?_, hbw⟩
        have qa := HA.out
        have qb := HB.out
        unfold okPk
        unfold inB at qa qb
        simp
        omega
      · have HA := hide ha
        have HB := hide hb
        clear ha hb
        go_enter Tryd.func85, Tryd.ntmps85
        go_wp2_with fail
        refine (within_yes _ _ HA.out _).mono ?_
        rintro e w' ⟨rfl, rfl⟩
        go_wp2_with fail
        refine (within_no _ _ HB.out _).mono ?_
        rintro e w' ⟨rfl, rfl⟩
        go_wp2
        go_ret
        refine ⟨_, rfl, ?_, hbw⟩
        have qa := HA.out
        have qb := HB.out
        unfold okPk
        unfold inB at qa qb
        simp
        omega
    · have HA := hide ha
      clear ha
      go_enter Tryd.func85, Tryd.ntmps85
      go_wp2_with fail
      refine (within_no _ _ HA.out _).mono ?_
      rintro e w' ⟨rfl, rfl⟩
      go_wp2
      go_ret
      refine ⟨_, rfl, ?_, hbw⟩
      have qa := HA.out
      unfold okPk
      unfold inB at qa
      simp
      omega
  · by_cases k0 : k = 0 ∨ k = 2
    · by_cases hc : c = 0
      · subst hc
        by_cases ha : inB a 256
        · by_cases hb : inB b 256
          · rcases k0 with rfl | rfl
            all_goals
              have HA := hide ha
              have HB := hide hb
              clear ha hb
              go_enter Tryd.func85, Tryd.ntmps85
              go_wp2_with fail
              refine (within_yes _ _ HA.out _).mono ?_
              rintro e w' ⟨rfl, rfl⟩
              go_wp2_with fail
              refine (within_yes _ _ HB.out _).mono ?_
              rintro e w' ⟨rfl, rfl⟩
              go_wp2
              go_ret
              refine ⟨_, rfl, ?_, hbw⟩
              have qa := HA.out
              have qb := HB.out
              unfold okPk
              unfold inB at qa qb
              simp
              omega
          · rcases k0 with rfl | rfl
            all_goals
              have HA := hide ha
              have HB := hide hb
              clear ha hb
              go_enter Tryd.func85, Tryd.ntmps85
              go_wp2_with fail
              refine (within_yes _ _ HA.out _).mono ?_
              rintro e w' ⟨rfl, rfl⟩
              go_wp2_with fail
              refine (within_no _ _ HB.out _).mono ?_
              rintro e w' ⟨rfl, rfl⟩
              go_wp2
              go_ret
              refine ⟨_, rfl, ?_, hbw⟩
              have qa := HA.out
              have qb := HB.out
              unfold okPk
              unfold inB at qa qb
              simp
              omega
        · rcases k0 with rfl | rfl
          all_goals
            have HA := hide ha
            clear ha
            go_enter Tryd.func85, Tryd.ntmps85
            go_wp2_with fail
            refine (within_no _ _ HA.out _).mono ?_
            rintro e w' ⟨rfl, rfl⟩
            go_wp2
            go_ret
            refine ⟨_, rfl, ?_, hbw⟩
            have qa := HA.out
            unfold okPk
            unfold inB at qa
            simp
            omega
      · have e0 : ((c : Int) == 0) = false := by rw [beq_eq_false_iff_ne]; omega
        have HC := hide hc
        clear hc
        rcases k0 with rfl | rfl
        all_goals
          go_enter Tryd.func85, Tryd.ntmps85
          go_wp2
          go_ret
          refine ⟨_, rfl, ?_, hbw⟩
          have := HC.out
          unfold okPk
          simp
          omega
    · have e0 : ((k : Int) == 0) = false := by rw [beq_eq_false_iff_ne]; omega
      have e1 : ((k : Int) == 1) = false := by rw [beq_eq_false_iff_ne]; omega
      have e2 : ((k : Int) == 2) = false := by rw [beq_eq_false_iff_ne]; omega
      have K0 := hide k0
      have K1 := hide k1
      clear k0 k1
      go_enter Tryd.func85, Tryd.ntmps85
      go_wp2
      go_ret
      refine ⟨_, rfl, ?_, hbw⟩
      have := K0.out
      have := K1.out
      unfold okPk
      simp
      omega
def PkR (w : World) (P : List St) (i : Value) (wr : World) : Prop := ∃ k : Nat, k ≤ P.length ∧ i = .int .i64 k ∧ (∀ j (hj : j < P.length), j < k → okPk P[j]) ∧ Below w.heap.size w wr
set_option maxRecDepth 100000 in
set_option maxHeartbeats 2000000 in
theorem packable_any (regs : Int) (v : Value) (P : List St) (w : World) (h : Ps .u8 w v P) :
    Calls Tryd.prog 69 #[.agg #[.int .i64 regs, v]] w fun r w' => BIs (okPack regs P) w r w' := by
  have hb0 : Below w.heap.size w (w.alloc (.cells #[.int .i64 regs, v] 49)) := (Below.refl _ _).alloc (Nat.le_refl _) _
  have h0 := h.mono hb0
  obtain ⟨ao, c, rfl⟩ := h.slice
  go_enter Tryd.func69, Tryd.ntmps69
  go_wp2_with fail
  refine (bounded_any regs _ P _ h0).mono ?_
  rintro r w1 ⟨b, rfl, hb, hb1⟩
  rw [nblk_alloc] at hb1
  obtain ⟨p0, p1⟩ := box2 hb1 rfl
  have hs1 := hb1.size
  rw [nblk_alloc] at hs1
  have hbw1 := hb0.trans (hb1.mono (by omega))
  cases b
  · have HN := hide (show ¬ okPack regs P from fun hp => by have := hb.2 hp.1; simp at this)
    clear hb hb1 h0 h hb0
    go_wp2
    go_ret
    exact ⟨false, rfl, by simp; exact HN.out, hbw1⟩
  · have HH := hide (hb.1 rfl)
    have h1 := h.mono hbw1
    clear hb hb1 h0 hb0 h
    rcases h1.cases with ⟨rfl, ao', c', e⟩ | ⟨b, off, c', e, _, hc⟩
    · simp at e
      obtain ⟨rfl, rfl⟩ := e
      clear h1
      go_wp2
      refine wp_loop_rounds 1 ?_
      rw [rounds_succ]
      go_wp2
      go_ret
      exact ⟨true, rfl, by simp; exact ⟨HH.out, fun i hi => by simp at hi⟩, hbw1⟩
    · simp at e
      obtain ⟨rfl, rfl⟩ := e
      clear h1
      go_wp2
      go_loopw [11] (fun i wr => PkR w1 P i wr) (fun i _ => P.length - (intOf i).toNat)
      case atStart => exact ⟨0, Nat.zero_le _, rfl, fun j _ hj => absurd hj (by omega), Below.refl _ _⟩
      case round =>
        rename World => wo
        obtain ⟨k, hk, rfl, hok, hbo⟩ := hrel
        have q0 := (hbo.cell (block_lt_of_cell p0)).trans p0
        have q1 := (hbo.cell (block_lt_of_cell p1)).trans p1
        by_cases hlt : k < P.length
        · obtain ⟨c0, c1, c2, c3⟩ := hc k hlt
          have d0 := (hbo.cell (block_lt_of_cell c0)).trans c0
          have d1 := (hbo.cell (block_lt_of_cell c1)).trans c1
          have d2 := (hbo.cell (block_lt_of_cell c2)).trans c2
          have d3 := (hbo.cell (block_lt_of_cell c3)).trans c3
          have HC := hide hc
          have HOK := hide hok
          clear hc hok c0 c1 c2 c3
          have q0' := (((Below.refl wo.heap.size wo).alloc (Nat.le_refl _) (.cells #[.int .u8 P[k].k, .int .i64 P[k].a, .int .i64 P[k].b, .int .u8 P[k].c] 92)).cell (block_lt_of_cell q0)).trans q0
          have hbo2 := hbo.alloc hbo.size (.cells #[.int .u8 P[k].k, .int .i64 P[k].a, .int .i64 P[k].b, .int .u8 P[k].c] 92)
          have hso := hbo.size
          go_wp2_with fail
          refine (packableStep_any P[k] _).mono ?_
          rintro r w2 ⟨b2, rfl, hb2, hbe⟩
          rw [nblk_alloc] at hbe
          have hbo3 := hbo2.trans (hbe.mono (by omega))
          have HB2 := hide hb2
          clear hbe hb2 d0 d1 d2 d3 q0 q1 q0' hbo hbo2
          cases b2
          · go_wp2
            go_ret
            exact ⟨false, rfl, by simp; exact fun hp => absurd (HB2.out.2 (hp.2 k hlt)) (by simp), hbw1.trans (hbo3.mono (by omega))⟩
          · go_wp2
            go_roundw
            case rel =>
              refine ⟨k + 1, by omega, by go_num, fun j hj hjk => ?_, hbo3⟩
              by_cases e : j = k
              · subst e; first | exact HB2.out.1 rfl | exact HB2.out.1 trivial
              · exact HOK.out j hj (by omega)
            case measure => simp [intOf]; omega
        · have hkk : k = P.length := by omega
          subst hkk
          have HOK := hide hok
          clear hc hok
          go_wp2
          go_ret
          exact ⟨true, rfl, by simp; exact ⟨HH.out, fun i hi => HOK.out i hi hi⟩, hbw1.trans (hbo.mono (by omega))⟩
end Go.Proofs.YtbgiechfhfeaeaaDoor
/-
  Pack: the program's.
-/
namespace Go.Proofs.YtbgiechfhfeaeaaDoor
open Go.RowKit Go.Deep

def packS (s : St) : List Nat := [s.k, s.a.toNat, s.b.toNat, s.c]
def packTo (regs : Int) (P : List St) (k : Nat) : List Nat := [regs.toNat, P.length / 256, P.length % 256] ++ (P.take k).flatMap packS
def bv (l : List Nat) : List Value := l.map fun x => Value.int .u8 ((x : Nat) : Int)
theorem bv_append (a b : List Nat) : bv (a ++ b) = bv a ++ bv b := by simp [bv]
theorem packTo_succ (regs : Int) (P : List St) (k : Nat) (hk : k < P.length) : packTo regs P (k + 1) = packTo regs P k ++ packS P[k] := by
  simp only [packTo, List.take_succ_eq_append_getElem hk, List.flatMap_append, List.flatMap_cons, List.flatMap_nil, List.append_nil, List.append_assoc]
theorem three_new (w : World) (n : Nat) (hn : n = w.heap.size) (x y z : Value) (t : TypeId) : ∀ j v, [x, y, z][j]? = some v → (w.alloc (.cells #[x, y, z] t)).cell? ((⟨n, 0, none⟩ : Addr).add j) = some v := by
  subst hn
  intro j v hv
  rw [add0]
  rcases j with _ | _ | _ | j
  all_goals simp at hv
  all_goals subst hv; simp
def PaR (w : World) (regs : Int) (P : List St) (v i : Value) (wr : World) : Prop := ∃ k : Nat, k ≤ P.length ∧ i = .int .i64 k ∧ wr.ownsRow w.heap.size 5 1 v (3 + k * 4) (bv (packTo regs P k)) ∧ Below w.heap.size w wr ∧ w.heap.size ≤ wr.heap.size
def PaPost (regs : Int) (P : List St) (w : World) (r : Ending) (w' : World) : Prop :=
  (okPack regs P → ∃ v, r = .returned (.tuple #[v, .nilIface]) ∧ w'.ownsRow w.heap.size 5 1 v (3 + P.length * 4) (bv (packTo regs P P.length))) ∧
  (¬ okPack regs P → r = .returned (.tuple #[.slice none 0 0, .iface 29 (.int .i64 4)])) ∧ Below w.heap.size w w'
set_option maxRecDepth 100000 in
set_option maxHeartbeats 2000000 in
theorem pack_any (regs : Int) (v : Value) (P : List St) (w : World) (h : Ps .u8 w v P) (hP : ∀ s ∈ P, okInts s) :
    Calls Tryd.prog 47 #[.agg #[.int .i64 regs, v]] w fun r w' => PaPost regs P w r w' := by
  obtain ⟨i0, hi0, hz0, hz1, hz2⟩ := info_parts Tryd.infoByte
  have hb0 : Below w.heap.size w (w.alloc (.cells #[.int .i64 regs, v] 49)) := (Below.refl _ _).alloc (Nat.le_refl _) _
  have h0 := h.mono hb0
  obtain ⟨ao, c, rfl⟩ := h.slice
  go_enter Tryd.func47, Tryd.ntmps47
  go_wp2_with fail
  refine (packable_any regs _ P _ h0).mono ?_
  rintro r w1 ⟨b, rfl, hb, hb1⟩
  rw [nblk_alloc] at hb1
  obtain ⟨p0, p1⟩ := box2 hb1 rfl
  have hs1 := hb1.size
  rw [nblk_alloc] at hs1
  have hbw1 := hb0.trans (hb1.mono (by omega))
  cases b
  · have HN := hide (show ¬ okPack regs P from fun hp => by have := hb.2 hp; simp at this)
    clear hb hb1 h0 h hb0
    go_wp2
    go_ret2
    exact ⟨fun hp => absurd hp HN.out, fun _ => rfl, hbw1⟩
  · have hok := hb.1 rfl
    obtain ⟨⟨g0, g1, g2⟩, hst⟩ := id hok
    have HOK := hide hok
    have HST := hide hst
    obtain ⟨r, rfl⟩ : ∃ r : Nat, regs = (r : Int) := ⟨regs.toNat, by omega⟩
    have hr32 : r ≤ 32 := by omega
    clear hb hok hst h0 hb0 hb1 g0 g1
    go_wp2_with (first
      | (at_make; refine wpList_make_own _ rfl (.const (.int .i64 0)) (.tmp 17) 44 rfl w1.heap.size 5 i0 (.int .u8 0) 1 Tryd.underlying44 hi0 hz0 hz1 .i64 .i64 _ (3 + P.length * 4) rfl rfl (by omega) (by rw [hz2]; omega) (by unfold maxLen; omega) (Nat.le_refl _) ?_; intro w2 hown hgr
         have hb2 : Below w1.heap.size w1 w2 := ⟨hgr.os, hgr.tape, hgr.output, hgr.size, fun k hk => hgr.block k hk (by simp)⟩
         have q0 := (hb2.cell (block_lt_of_cell p0)).trans p0
         have q1 := (hb2.cell (block_lt_of_cell p1)).trans p1
         have hs2 := hb2.size
         clear hgr)
      | (at_builtin; refine wpList_append_own _ rfl (.tmp 19) (.tmp 28) 44 rfl w1.heap.size 5 i0 (.int .u8 0) 1 1 Tryd.underlying44 hi0 hz0 hz1 hz2 rfl (by decide) _ 0 [] rfl (ownsRow_below hown ((Below.refl _ _).alloc (Nat.le_refl _) _)) ⟨w2.heap.size, 0, none⟩ 3 3 [.int .u8 (r : Int), .int .u8 ((P.length : Int) / 256), .int .u8 ((P.length : Int) % 256)] rfl rfl (three_new _ _ rfl _ _ _ _) (by intro q hq; simp at hq; rcases hq with rfl | rfl | rfl <;> rfl) (by unfold maxLen; omega) (by omega) (by rw [nblk_alloc]; omega) ?_; intro v3 w3 hown3 hgr3 hnn3
         have hb3 : Below w1.heap.size w1 w3 := (hb2.alloc hs2 _).grown hgr3 (by rw [nblk_alloc]; omega) (fun k hk => (hown.lt k hk).1)
         have r0 := (hb3.cell (block_lt_of_cell p0)).trans p0
         have r1 := (hb3.cell (block_lt_of_cell p1)).trans p1
         clear q0 q1 hnn3 hgr3))
    have ho3 : w3.ownsRow w1.heap.size 5 1 v3 (3 + 0 * 4) (bv (packTo (r : Int) P 0)) := by
      have e : bv (packTo (r : Int) P 0) = [] ++ [.int .u8 (r : Int), .int .u8 ((P.length : Int) / 256), .int .u8 ((P.length : Int) % 256)] := by simp [bv, packTo]
      rw [e]; exact hown3
    clear hown3 hown hb2 hs2
    rcases h.cases with ⟨rfl, ao', c', e⟩ | ⟨b, off, c', e, _, hc⟩
    · simp at e
      obtain ⟨rfl, rfl⟩ := e
      refine wp_loop_rounds 1 ?_
      rw [rounds_succ]
      go_wp2
      go_ret2
      exact ⟨fun _ => ⟨_, rfl, ownsRow_weaken ho3 (by omega)⟩, fun hp => absurd HOK.out hp, hbw1.trans (hb3.mono (by omega))⟩
    · simp at e
      obtain ⟨rfl, rfl⟩ := e
      go_loopw [5, 33] (fun v i wr => PaR w1 (r : Int) P v i wr) (fun _ i _ => P.length - (intOf i).toNat)
      case atStart => exact ⟨0, Nat.zero_le _, rfl, ho3, hb3, hb3.size⟩
      case round =>
        clear ho3 hb3 r0 r1
        rename World => wo
        obtain ⟨k, hk, rfl, hown, hbo, hso⟩ := hrel
        have q0 := (hbo.cell (block_lt_of_cell p0)).trans p0
        have q1 := (hbo.cell (block_lt_of_cell p1)).trans p1
        have hbwo := hbw1.trans (hbo.mono (by omega))
        by_cases hlt : k < P.length
        · obtain ⟨c0, c1, c2, c3⟩ := hc k hlt
          have d0 := (hbwo.cell (block_lt_of_cell c0)).trans c0
          have d1 := (hbwo.cell (block_lt_of_cell c1)).trans c1
          have d2 := (hbwo.cell (block_lt_of_cell c2)).trans c2
          have d3 := (hbwo.cell (block_lt_of_cell c3)).trans c3
          obtain ⟨z0, z1, z2, z3, z4, z5⟩ := HST.out k hlt
          have z6 := (hP _ (List.getElem_mem hlt)).2.2.2.2.2
          have HPS := hide (packTo_succ (r : Int) P k hlt)
          have HPK : Hid (packS P[k] = [P[k].k, P[k].a.toNat, P[k].b.toNat, P[k].c]) := rfl
          have HC := hide hc
          have HW := hide hown
          have HLT := hide hown.lt
          clear hc hown c0 c1 c2 c3 HST HOK z5 hP h
          generalize P[k].k = sk at *
          generalize P[k].c = sc at *
          generalize P[k].a = sa at *
          generalize P[k].b = sb at *
          obtain ⟨x, rfl⟩ : ∃ x : Nat, sa = (x : Int) := ⟨sa.toNat, by omega⟩
          obtain ⟨y, rfl⟩ : ∃ y : Nat, sb = (y : Int) := ⟨sb.toNat, by omega⟩
          have hx : x < 256 := by omega
          have hy : y < 256 := by omega
          clear z1 z2 z3 z4
          go_wp2_with (at_builtin; refine wpList_append_own _ rfl (.tmp 37) (.tmp 48) 44 rfl w1.heap.size 5 i0 (.int .u8 0) 1 1 Tryd.underlying44 hi0 hz0 hz1 hz2 rfl (by decide) _ (3 + k * 4) (bv (packTo (r : Int) P k)) rfl (ownsRow_below (ownsRow_below HW.out ((Below.refl _ _).alloc (Nat.le_refl _) _)) ((Below.refl _ _).alloc (Nat.le_refl _) _)) ⟨wo.heap.size + 1, 0, none⟩ 4 4 [.int .u8 (sk : Int), .int .u8 (x : Int), .int .u8 (y : Int), .int .u8 (sc : Int)] rfl rfl (four_new _ _ (by simp) _ _ _ _ _) (by intro q hq; simp at hq; rcases hq with rfl | rfl | rfl | rfl <;> rfl) (by unfold maxLen; omega) (by omega) (by simp only [nblk_alloc]; omega) ?_; intro v4 w4 hown4 hgr4 hnn4)
          have hb4 : Below w1.heap.size w1 w4 := ((hbo.alloc hso _).alloc (by rw [nblk_alloc]; omega) _).grown hgr4 (by simp only [nblk_alloc]; omega) (fun q hq => (HLT.out q hq).1)
          have ho4 : w4.ownsRow w1.heap.size 5 1 v4 (3 + (k + 1) * 4) (bv (packTo (r : Int) P (k + 1))) := by
            rw [HPS.out, bv_append, HPK.out]
            have e : 3 + (k + 1) * 4 = 3 + k * 4 + 4 := by omega
            rw [e]
            simpa [bv] using hown4
          clear hown4 hgr4 hnn4 HW HLT HPS HPK d0 d1 d2 d3 q0 q1
          go_wp2
          go_roundw
          case rel => exact ⟨k + 1, by omega, by go_num, ho4, hb4, hb4.size⟩
          case measure => simp [intOf]; omega
        · have hkk : k = P.length := by omega
          subst hkk
          have HW := hide hown
          clear hc hown
          go_wp2
          go_ret2
          exact ⟨fun _ => ⟨_, rfl, ownsRow_weaken HW.out (by omega)⟩, fun hp => absurd HOK.out hp, hbwo⟩
end Go.Proofs.YtbgiechfhfeaeaaDoor
