import Derived.Test.YthhommjlomphdaaDoorPart19
import Derived.Test.YthhommjlomphdaaDoorPart15
import Derived.Test.YthhommjlomphdaaDoorPart04
import Derived.Lib.SliceRun
import Derived.Test.YthhommjlomphdaaDoorPart16
import Derived.Test.YthhommjlomphdaaDoorPart18
import Derived.Deep.RegionHeld3
/-
  Pack: the program's.
-/
namespace Go.Proofs.YthhommjlomphdaaDoor
open Go.RowKit Go.Deep

def packS (s : St) : List Nat := [s.k, s.a.toNat, s.b.toNat, s.c]
def packTo (regs : Int) (P : List St) (k : Nat) : List Nat := [regs.toNat, P.length / 256, P.length % 256] ++ (P.take k).flatMap packS
def bv (l : List Nat) : List Value := l.map fun x => Value.int .u8 ((x : Nat) : Int)
theorem bv_append (a b : List Nat) : bv (a ++ b) = bv a ++ bv b := by simp [bv]
theorem packTo_succ (regs : Int) (P : List St) (k : Nat) (hk : k < P.length) : packTo regs P (k + 1) = packTo regs P k ++ packS P[k] := by
  simp only [packTo, List.take_succ_eq_append_getElem hk, List.flatMap_append, List.flatMap_cons, List.flatMap_nil, List.append_nil, List.append_assoc]
theorem three_new (w : World) (n : Nat) (hn : n = w.heap.size) (x y z : Value) (t : TypeId) : ∀ j v, [x, y, z][j]? = some v → (w.alloc (.cells #[x, y, z] t)).cell? ((⟨n, 0, none⟩ : Addr).add j) = some v := by
  subst hn
  intro j v hv
  rw [add0]
  rcases j with _ | _ | _ | j
  all_goals simp at hv
  all_goals subst hv; simp
def PaR (w : World) (regs : Int) (P : List St) (v i : Value) (wr : World) : Prop := ∃ k : Nat, k ≤ P.length ∧ i = .int .i64 k ∧ wr.ownsRow w.heap.size 5 1 v (3 + k * 4) (bv (packTo regs P k)) ∧ Below w.heap.size w wr ∧ w.heap.size ≤ wr.heap.size
def PaPost (regs : Int) (P : List St) (w : World) (r : Ending) (w' : World) : Prop :=
  (okPack regs P → ∃ v, r = .returned (.tuple #[v, .nilIface]) ∧ w'.ownsRow w.heap.size 5 1 v (3 + P.length * 4) (bv (packTo regs P P.length))) ∧
  (¬ okPack regs P → r = .returned (.tuple #[.slice none 0 0, .iface 29 (.int .i64 4)])) ∧ Below w.heap.size w w'
set_option maxRecDepth 100000 in
set_option maxHeartbeats 2000000 in
theorem pack_any (regs : Int) (v : Value) (P : List St) (w : World) (h : Ps .u8 w v P) (hP : ∀ s ∈ P, okInts s) :
    Calls Tryd.prog 47 #[.agg #[.int .i64 regs, v]] w fun r w' => PaPost regs P w r w' := by
  obtain ⟨i0, hi0, hz0, hz1, hz2⟩ := info_parts Tryd.infoByte
  have hb0 : Below w.heap.size w (w.alloc (.cells #[.int .i64 regs, v] 49)) := (Below.refl _ _).alloc (Nat.le_refl _) _
  have h0 := h.mono hb0
  obtain ⟨ao, c, rfl⟩ := h.slice
  go_enter Tryd.func47, Tryd.ntmps47
  go_wp2_with fail
  refine (packable_any regs _ P _ h0).mono ?_
  rintro r w1 ⟨b, rfl, hb, hb1⟩
  rw [nblk_alloc] at hb1
  obtain ⟨p0, p1⟩ := box2 hb1 rfl
  have hs1 := hb1.size
  rw [nblk_alloc] at hs1
  have hbw1 := hb0.trans (hb1.mono (by omega))
  cases b
  · have HN := hide (show ¬ okPack regs P from fun hp => by have := hb.2 hp; simp at this)
    clear hb hb1 h0 h hb0
    go_wp2
    go_ret2
    exact ⟨fun hp => absurd hp HN.out, fun _ => rfl, hbw1⟩
  · have hok := hb.1 rfl
    obtain ⟨⟨g0, g1, g2⟩, hst⟩ := id hok
    have HOK := hide hok
    have HST := hide hst
    obtain ⟨r, rfl⟩ : ∃ r : Nat, regs = (r : Int) := ⟨regs.toNat, by omega⟩
    have hr32 : r ≤ 32 := by omega
    clear hb hok hst h0 hb0 hb1 g0 g1
    go_wp2_with (first
      | (at_make; refine wpList_make_own _ rfl (.const (.int .i64 0)) (.tmp 17) 44 rfl w1.heap.size 5 i0 (.int .u8 0) 1 Tryd.underlying44 hi0 hz0 hz1 .i64 .i64 _ (3 + P.length * 4) rfl rfl (by omega) (by rw [hz2]; omega) (by unfold maxLen; omega) (Nat.le_refl _) ?_; intro w2 hown hgr
         have hb2 : Below w1.heap.size w1 w2 := ⟨hgr.os, hgr.tape, hgr.output, hgr.size, fun k hk => hgr.block k hk (by simp)⟩
         have q0 := (hb2.cell (block_lt_of_cell p0)).trans p0
         have q1 := (hb2.cell (block_lt_of_cell p1)).trans p1
         have hs2 := hb2.size
         clear hgr)
      | (at_builtin; refine wpList_append_own _ rfl (.tmp 19) (.tmp 28) 44 rfl w1.heap.size 5 i0 (.int .u8 0) 1 1 Tryd.underlying44 hi0 hz0 hz1 hz2 rfl (by decide) _ 0 [] rfl (ownsRow_below hown ((Below.refl _ _).alloc (Nat.le_refl _) _)) ⟨w2.heap.size, 0, none⟩ 3 3 [.int .u8 (r : Int), .int .u8 ((P.length : Int) / 256), .int .u8 ((P.length : Int) % 256)] rfl rfl (three_new _ _ rfl _ _ _ _) (by intro q hq; simp at hq; rcases hq with rfl | rfl | rfl <;> rfl) (by unfold maxLen; omega) (by omega) (by rw [nblk_alloc]; omega) ?_; intro v3 w3 hown3 hgr3 hnn3
         have hb3 : Below w1.heap.size w1 w3 := (hb2.alloc hs2 _).grown hgr3 (by rw [nblk_alloc]; omega) (fun k hk => (hown.lt k hk).1)
         have r0 := (hb3.cell (block_lt_of_cell p0)).trans p0
         have r1 := (hb3.cell (block_lt_of_cell p1)).trans p1
         clear q0 q1 hnn3 hgr3))
    have ho3 : w3.ownsRow w1.heap.size 5 1 v3 (3 + 0 * 4) (bv (packTo (r : Int) P 0)) := by
      have e : bv (packTo (r : Int) P 0) = [] ++ [.int .u8 (r : Int), .int .u8 ((P.length : Int) / 256), .int .u8 ((P.length : Int) % 256)] := by simp [bv, packTo]
      rw [e]; exact hown3
    clear hown3 hown hb2 hs2
    rcases h.cases with ⟨rfl, ao', c', e⟩ | ⟨b, off, c', e, _, hc⟩
    · simp at e
      obtain ⟨rfl, rfl⟩ := e
      refine wp_loop_rounds 1 ?_
      rw [rounds_succ]
      go_wp2
      go_ret2
      exact ⟨fun _ => ⟨_, rfl, ownsRow_weaken ho3 (by omega)⟩, fun hp => absurd HOK.out hp, hbw1.trans (hb3.mono (by omega))⟩
    · simp at e
      obtain ⟨rfl, rfl⟩ := e
      go_loopw [5, 33] (fun v i wr => PaR w1 (r : Int) P v i wr) (fun _ i _ => P.length - (intOf i).toNat)
      case atStart => exact ⟨0, Nat.zero_le _, rfl, ho3, hb3, hb3.size⟩
      case round =>
        clear ho3 hb3 r0 r1
        rename World => wo
        obtain ⟨k, hk, rfl, hown, hbo, hso⟩ := hrel
        have q0 := (hbo.cell (block_lt_of_cell p0)).trans p0
        have q1 := (hbo.cell (block_lt_of_cell p1)).trans p1
        have hbwo := hbw1.trans (hbo.mono (by omega))
        by_cases hlt : k < P.length
        · obtain ⟨c0, c1, c2, c3⟩ := hc k hlt
          have d0 := (hbwo.cell (block_lt_of_cell c0)).trans c0
          have d1 := (hbwo.cell (block_lt_of_cell c1)).trans c1
          have d2 := (hbwo.cell (block_lt_of_cell c2)).trans c2
          have d3 := (hbwo.cell (block_lt_of_cell c3)).trans c3
          obtain ⟨z0, z1, z2, z3, z4, z5⟩ := HST.out k hlt
          have z6 := (hP _ (List.getElem_mem hlt)).2.2.2.2.2
          have HPS := hide (packTo_succ (r : Int) P k hlt)
          have HPK : Hid (packS P[k] = [P[k].k, P[k].a.toNat, P[k].b.toNat, P[k].c]) := rfl
          have HC := hide hc
          have HW := hide hown
          have HLT := hide hown.lt
          clear hc hown c0 c1 c2 c3 HST HOK z5 hP h
          generalize P[k].k = sk at *
          generalize P[k].c = sc at *
          generalize P[k].a = sa at *
          generalize P[k].b = sb at *
          obtain ⟨x, rfl⟩ : ∃ x : Nat, sa = (x : Int) := ⟨sa.toNat, by omega⟩
          obtain ⟨y, rfl⟩ : ∃ y : Nat, sb = (y : Int) := ⟨sb.toNat, by omega⟩
          have hx : x < 256 := by omega
          have hy : y < 256 := by omega
          clear z1 z2 z3 z4
          go_wp2_with (at_builtin; refine wpList_append_own _ rfl (.tmp 37) (.tmp 48) 44 rfl w1.heap.size 5 i0 (.int .u8 0) 1 1 Tryd.underlying44 hi0 hz0 hz1 hz2 rfl (by decide) _ (3 + k * 4) (bv (packTo (r : Int) P k)) rfl (ownsRow_below (ownsRow_below HW.out ((Below.refl _ _).alloc (Nat.le_refl _) _)) ((Below.refl _ _).alloc (Nat.le_refl _) _)) ⟨wo.heap.size + 1, 0, none⟩ 4 4 [.int .u8 (sk : Int), .int .u8 (x : Int), .int .u8 (y : Int), .int .u8 (sc : Int)] rfl rfl (four_new _ _ (by simp) _ _ _ _ _) (by intro q hq; simp at hq; rcases hq with rfl | rfl | rfl | rfl <;> rfl) (by unfold maxLen; omega) (by omega) (by simp only [nblk_alloc]; omega) ?_; intro v4 w4 hown4 hgr4 hnn4)
          have hb4 : Below w1.heap.size w1 w4 := ((hbo.alloc hso _).alloc (by rw [nblk_alloc]; omega) _).grown hgr4 (by simp only [nblk_alloc]; omega) (fun q hq => (HLT.out q hq).1)
          have ho4 : w4.ownsRow w1.heap.size 5 1 v4 (3 + (k + 1) * 4) (bv (packTo (r : Int) P (k + 1))) := by
            rw [HPS.out, bv_append, HPK.out]
            have e : 3 + (k + 1) * 4 = 3 + k * 4 + 4 := by omega
            rw [e]
            simpa [bv] using hown4
          clear hown4 hgr4 hnn4 HW HLT HPS HPK d0 d1 d2 d3 q0 q1
          go_wp2
          go_roundw
          case rel => exact ⟨k + 1, by omega, by go_num, ho4, hb4, hb4.size⟩
          case measure => simp [intOf]; omega
        · have hkk : k = P.length := by omega
          subst hkk
          have HW := hide hown
          clear hc hown
          go_wp2
          go_ret2
          exact ⟨fun _ => ⟨_, rfl, ownsRow_weaken HW.out (by omega)⟩, fun hp => absurd HOK.out hp, hbwo⟩
end Go.Proofs.YthhommjlomphdaaDoor
/-
  bytes.Clone.
-/
namespace Go.Proofs.YthhommjlomphdaaDoor
open Go.RowKit Go.Deep

/-- a row of bytes that begins with these; what lies behind them is bytes too -/
theorem brow_lit {w : World} {g m : Nat} {l : List Nat} (h : w.heap[g]? = some (.cells (((bv l).toArray) ++ Builtin.zeroCells #[.int .u8 0] m) 5 (0, 0))) : Brow w g (l ++ List.replicate m 0) := by
  have e : ((bv l).toArray ++ Builtin.zeroCells #[.int .u8 0] m) = ((l ++ List.replicate m 0).map (fun x => Value.int .u8 ((x : Nat) : Int))).toArray := by
    apply Array.ext'
    simp [bv, Builtin.zeroCells, Nat.mod_one, List.map_const']
  rw [e] at h
  refine ⟨_, h, by simp, fun i hi => ?_⟩
  rw [List.getElem?_toArray, List.getElem?_map, List.getElem?_eq_getElem hi]
  simp [vb, List.getElem?_eq_getElem hi]
theorem wpList_app {w w' : World} {ops : Array Oper} {rest : List Oper} {o : Oper} {a : Act} {Q : Exit → Act → World → Prop} (hgd : o.guard = none) (s x : Operand) (t : TypeId) (ho : o.op = .call { callee := .builtin .append, args := #[s, x], argTypes := #[t, t] })
    (vs vx v' : Value) (hs : a.eval s = vs) (hx : a.eval x = vx) (hrun : (Builtin.append_ #[t, t] o.type #[vs, vx]).run Tryd.prog w = .ok v' w') (h : wpList Tryd.prog ops Q rest (a.put o.dst v') w') : wpList Tryd.prog ops Q (o :: rest) a w := by
  refine wpList_plain hgd fun K hK => ?_
  unfold Oper.wp
  simp [execOp, ho, resolve, invoke, builtin, hs, hx, hrun, Result.andThen]
  exact hK _ _ h
set_option maxRecDepth 100000 in
set_option maxHeartbeats 1000000 in
theorem clone_some (ad : Addr) (c : Nat) (l : List Nat) (w : World) (h : Bs w (.slice (some ad) l.length c) l) (hl : l.length ≤ 100000) :
    Calls Tryd.prog 68 #[.slice (some ad) l.length c] w fun e w' => ∃ b m, e = .returned (.slice (some ⟨b, 0, none⟩) l.length (l.length + m)) ∧ w.heap.size ≤ b ∧ Brow w' b (l ++ List.replicate m 0) ∧ l.length + m ≤ 9223372036854775807 ∧ Below w.heap.size w w' := by
  obtain ⟨i0, hi0, hz0, hz1, hz2⟩ := info_parts Tryd.infoByte
  have heq := fun wx => Lib.run_eql_slice_nil (P := Tryd.prog) wx 44 5 (some ad) l.length c 0 0 Tryd.underlying44
  have hnews : ∀ j u, (bv l)[j]? = some u → (w.alloc (.cells #[] 5)).cell? (ad.add j) = some u := by
    intro j u hu
    obtain ⟨ao', c', e, _, _, _, h4⟩ := h.mono ((Below.refl _ _).alloc (Nat.le_refl _) (.cells #[] 5))
    have hj : j < l.length := by
      obtain ⟨q, _⟩ := List.getElem?_eq_some_iff.1 hu
      simpa [bv] using q
    obtain ⟨b', off', e2, hc⟩ := h4 (by intro e; rw [e] at hj; simp at hj)
    simp at e
    rw [← e.1] at e2
    simp at e2
    subst e2
    have e3 : (⟨b', off', none⟩ : Addr).add j = ⟨b', off' + j, none⟩ := by unfold Addr.add; split <;> simp_all
    rw [e3, hc j hj, ← hu]
    simp [bv, hj]
  have al : Below w.heap.size w (w.alloc (.cells #[] 5)) := (Below.refl _ _).alloc (Nat.le_refl _) _
  by_cases h0 : l.length = 0
  · have hl0 : l = [] := List.eq_nil_of_length_eq_zero h0
    subst hl0
    clear h hnews
    go_enter Tryd.func68, Tryd.ntmps68
    simp only [List.length_nil] at heq
    go_wp2
    go_ret
    exact ⟨w.heap.size, 0, rfl, Nat.le_refl _, ⟨#[], heap_alloc_last w _, rfl, fun i hi => by simp at hi⟩, by omega, al⟩
  · have hgrow := run_append_grow (P := Tryd.prog) (w := w.alloc (.cells #[] 5)) 44 44 5 i0 (.int .u8 0) Tryd.underlying44 hi0 hz0 ⟨w.heap.size, 0, none⟩ 0 0 [] (by simp) (fun j v hv => by simp at hv) ad l.length c (bv l) (by rw [hz1]; simp [bv]) hnews (by omega) (by omega) (by rw [hz2]; have := growslice_fits (need := 0 + l.length) (old := 0) (bytes := 1) (by omega) (by omega); omega)
    obtain ⟨cp, hcp, hcm, hrun⟩ : ∃ cp, l.length ≤ cp ∧ cp ≤ 9223372036854775807 ∧ (Builtin.append_ #[44, 44] 44 #[.slice (some ⟨w.heap.size, 0, none⟩) 0 0, .slice (some ad) l.length c]).run Tryd.prog (w.alloc (.cells #[] 5)) = .ok (.slice (some ⟨w.heap.size + 1, 0, none⟩) l.length cp) ((w.alloc (.cells #[] 5)).drew.alloc (.cells ((bv l).toArray ++ Builtin.zeroCells #[.int .u8 0] (cp - l.length)) 5)) := by
      refine ⟨grownCap (w.alloc (.cells #[] 5)) (0 + l.length) 0 5, by have := grownCap_ge (w.alloc (.cells #[] 5)) (0 + l.length) 0 5; omega, by have := grownCap_le_maxLen (w.alloc (.cells #[] 5)) (0 + l.length) 0 5 (by unfold maxLen; omega); unfold maxLen at this; omega, ?_⟩
      rw [hgrow, nblk_alloc]
      simp [Value.cells]
    obtain ⟨m, rfl⟩ : ∃ m, cp = l.length + m := ⟨cp - l.length, by omega⟩
    rw [Nat.add_sub_cancel_left] at hrun
    have HRUN := hide hrun
    clear hrun hgrow hnews h
    go_enter Tryd.func68, Tryd.ntmps68
    go_wp2_with (at_builtin; refine wpList_app rfl (.tmp 5) (.tmp 6) 44 rfl _ _ _ rfl rfl HRUN.out ?_)
    go_ret
    have hbl : Brow ((w.alloc (.cells #[] 5)).drew.alloc (.cells ((bv l).toArray ++ Builtin.zeroCells #[.int .u8 0] m) 5)) (w.heap.size + 1) (l ++ List.replicate m 0) := by
      refine brow_lit ?_
      have := heap_alloc_last (w.alloc (.cells #[] 5)).drew (.cells ((bv l).toArray ++ Builtin.zeroCells #[.int .u8 0] m) 5)
      rwa [show (w.alloc (.cells #[] 5)).drew.heap.size = w.heap.size + 1 from nblk_alloc _ _] at this
    exact ⟨w.heap.size + 1, m, rfl, by omega, hbl, hcm, ((show Below w.heap.size w (w.alloc (.cells #[] 5)).drew from ⟨al.os, al.tape, al.output, al.size, al.block⟩).alloc (show w.heap.size ≤ (w.alloc _).heap.size by rw [nblk_alloc]; omega) _)⟩
end Go.Proofs.YthhommjlomphdaaDoor
/-
  Registers are made: the program's.
-/
namespace Go.Proofs.YthhommjlomphdaaDoor
open Go.RowKit Go.Deep Gf

theorem regs0_succ (k n : Nat) : regs0 (k + 1) n = regs0 k n ++ [List.replicate n 0] := by
  unfold regs0
  rw [List.replicate_succ']
def MkR (w : World) (B g r n : Nat) (i : Value) (wr : World) : Prop :=
  ∃ k T, k ≤ r ∧ i = .int .i64 (k : Nat) ∧ Part wr B g r T ∧ Holds T n (regs0 k n) ∧ Below B w wr ∧ B ≤ wr.heap.size
def MkPost (r n : Nat) (w : World) (e : Ending) (w' : World) : Prop := ∃ g T, e = .returned (.slice (some ⟨g, 0, none⟩) r r) ∧ Tab w' w.heap.size (.slice (some ⟨g, 0, none⟩) r r) T ∧ Holds T n (regs0 r n) ∧ Below w.heap.size w w'
theorem holds_len {T : List (Nat × Nat × List Nat)} {D : Nat} {M : List (List Nat)} (h : Holds T D M) : T.length = M.length := by simpa using congrArg List.length h
set_option maxRecDepth 100000 in
set_option maxHeartbeats 2000000 in
theorem makeRegs_any (r n : Nat) (w : World) (hr : r ≤ 32) (hn : n ≤ 4096) :
    Calls Tryd.prog 66 #[.int .i64 r, .int .i64 n] w fun e w' => MkPost r n w e w' := by
  go_enter Tryd.func66, Tryd.ntmps66
  go_wp2_with (at_make; refine wpList_mkRows _ rfl (.tmp 7) (.tmp 7) rfl _ r rfl rfl rfl (by omega) ?_; intro wc hRow hbc hz; clear hz)
  have hP0 : Part wc w.heap.size w.heap.size r [] := ⟨hRow.congr (fun i _ => by simp [shv]), fun p hp => by simp at hp, by simp⟩
  have hsc := hbc.size
  clear hRow
  go_loopw [11] (fun i wr => MkR w w.heap.size w.heap.size r n i wr) (fun i _ => r - (intOf i).toNat)
  case atStart => exact ⟨0, [], Nat.zero_le _, rfl, hP0, rfl, hbc, hsc⟩
  case round =>
    clear hP0 hbc hsc
    rename World => wo
    obtain ⟨k, T, hk, rfl, hP, hH, hbo, hso⟩ := hrel
    have hTl := holds_len hH
    have hTk : T.length = k := by rw [hTl]; simp [regs0]
    by_cases hlt : k < r
    · have HH := hide hH
      have HTL := hide hTl
      clear hH hTl
      go_wp2_with (at_make; refine wpList_mk _ rfl (.tmp 16) (.tmp 16) rfl _ n rfl rfl rfl (by omega) ?_; intro w2 hB hb2 hz2
                   have hP2 := hP.below hb2
                   have hcS := hP2.tab.cell (i := k) hlt
                   have hfS := hP2.tab.frozen k)
      have hP3 := hP2.push (b := wo.heap.size) (n := n) (l := List.replicate n 0) (by omega) hB (by simp) (by simp; omega) (by intro x hx; have := List.eq_of_mem_replicate hx; omega) (fun p hp e => by have := (hP.row p hp).2.1.lt; omega)
      rw [hTk, List.length_replicate] at hP3
      refine ⟨⟨k + 1, _, by omega, by go_num, hP3, ?_, (hbo.trans (hb2.mono hso)).setCell (by simp) _, by simp; omega⟩, by simp [intOf]; omega⟩
      have hh := HH.out
      unfold Holds at hh ⊢
      rw [regs0_succ, List.map_append, List.map_append, hh]
      rfl
    · have hkk : k = r := by omega
      subst hkk
      have hT := hP.done (by omega) (Nat.le_refl _) (by unfold maxLen; omega)
      have HT := hide hT
      have HH := hide hH
      clear hT hH
      go_wp2
      go_ret
      exact ⟨_, T, rfl, HT.out, HH.out, hbo⟩
end Go.Proofs.YthhommjlomphdaaDoor
/-
  How many bytes the loaded shards have: the program's word.
-/
namespace Go.Proofs.YthhommjlomphdaaDoor
open Go.RowKit Go.Deep

def LlR (w : World) (P : List St) (D : List (List Nat)) (gone : Nat) (lv sv iv : Value) (wr : World) : Prop :=
  ∃ k : Nat, k ≤ P.length ∧ iv = .int .i64 k ∧ lv = .int .i64 ((fl P D k).getD 0 : Nat) ∧ sv = .bool (fl P D k).isSome ∧ (∀ i, i < k → ldOk P D gone i) ∧ Below w.heap.size w wr
def LlPost (P : List St) (D : List (List Nat)) (gone : Nat) (w : World) (r : Ending) (w' : World) : Prop :=
  (ldsOk P D gone → r = .returned (.tuple #[.int .i64 (runLen P D : Nat), .nilIface])) ∧ (¬ ldsOk P D gone → r = .returned (.tuple #[.int .i64 0, .iface 29 (.int .i64 2)])) ∧ Below w.heap.size w w'
set_option maxRecDepth 100000 in
set_option maxHeartbeats 4000000 in
theorem loadedLength_any (v : Value) (P : List St) (bi ci : Nat) (D : List (List Nat)) (gone : Nat) (w : World) (h : Ps .u8 w v P) (hI : In w bi D gone) (hlen : ∀ l ∈ D, l.length ≤ 100000)
    (hr : ∀ i, i < P.length → (stAt P i).k = 0 → 0 ≤ (stAt P i).b ∧ (stAt P i).b < (D.length : Int)) (hl : P.length ≤ 5000) :
    Calls Tryd.prog 65 #[v, .slice (some ⟨bi, 0, none⟩) D.length ci] w fun r w' => LlPost P D gone w r w' := by
  obtain ⟨ao, c, rfl⟩ := h.slice
  go_enter Tryd.func65, Tryd.ntmps65
  go_wp2
  go_loopw [6, 7, 13] (fun lv sv iv wr => LlR w P D gone lv sv iv wr) (fun _ _ iv _ => P.length - (intOf iv).toNat)
  case atStart => exact ⟨0, Nat.zero_le _, rfl, rfl, rfl, fun i hi => absurd hi (by omega), Below.refl _ _⟩
  case round =>
    rename World => wo
    obtain ⟨k, hk, rfl, rfl, rfl, hok, hbo⟩ := hrel
    have hso := hbo.size
    by_cases hlt : k < P.length
    · rcases (h.mono hbo).cases with ⟨rfl, _⟩ | ⟨b, off, cc, e, _, hc⟩
      · simp at hlt
      simp at e
      obtain ⟨rfl, rfl⟩ := e
      obtain ⟨d0, d1, d2, d3⟩ := hc k hlt
      have hst := stAt_get P k hlt
      have hrk := hr k hlt
      have HOK := hide hok
      have HFS := hide (fl_some P D k)
      have HFL := hide (fl_load P D k)
      have HFO := hide (fl_other P D k)
      have HLD : Hid (ldOk P D gone k ↔ ((stAt P k).k = 0 → ¬ goneB gone (stAt P k).b.toNat ∧ fl P D (k + 1) = some (D.getD (stAt P k).b.toNat []).length ∧ (D.getD (stAt P k).b.toNat []).length ≤ 4096)) := Iff.rfl
      rw [hst] at hrk HFL HFO HLD
      have hbo2 := hbo.alloc hso (.cells #[.int .u8 P[k].k, .int .i64 P[k].a, .int .i64 P[k].b, .int .u8 P[k].c] 92)
      have hIo := hI.mono hbo2
      have HC := hide hc
      have HI := hide hI
      have HH := hide h
      have HR := hide hr
      clear hc hok hI h hr hst
      generalize P[k].k = sk at *
      generalize P[k].b = sb at *
      by_cases k0 : sk = 0
      · have tk : ((sk : Int) != 0) = false := by simp [k0]
        obtain ⟨q1, q2⟩ := hrk k0
        have K0 := hide k0
        clear k0
        obtain ⟨x, rfl⟩ : ∃ x : Nat, sb = (x : Int) := ⟨sb.toNat, by omega⟩
        have hx : x < D.length := by omega
        obtain ⟨i1, i2⟩ := hIo x hx
        have hgx : D.getD x [] = D[x] := by simp [hx]
        have hbd := hlen _ (List.getElem_mem hx)
        rw [Int.toNat_natCast, hgx] at HFL HLD
        have HI2 := hide i2
        clear hrk q1 q2 hIo hgx HFO
        by_cases hg : goneB gone x
        · have hcell := i1 hg
          have HB : Hid (¬ ldsOk P D gone) := fun hl => ((HLD.out.1 (hl k hlt)) K0.out).1 hg
          have heq := fun wx => Lib.run_eql_slice_nil (P := Tryd.prog) wx 44 5 none 0 0 0 0 Tryd.underlying44
          clear i1 i2 HI2 HLD HFL HFS
          cases hf : fl P D k
          · go_wp2
            go_ret2
            exact ⟨fun hl => absurd hl HB.out, fun _ => rfl, hbo2⟩
          · go_wp2
            go_ret2
            exact ⟨fun hl => absurd hl HB.out, fun _ => rfl, hbo2⟩
        · obtain ⟨ax, cx, hcell, hBx⟩ := i2 hg
          have heq := fun wx => Lib.run_eql_slice_nil (P := Tryd.prog) wx 44 5 (some ax) (D[x]).length cx 0 0 Tryd.underlying44
          clear i1 i2 HI2 hBx
          generalize D[x].length = n at *
          cases hf : fl P D k with
          | none =>
            have hf1 := HFL.out hf K0.out
            by_cases hn : n ≤ 4096
            · have hok1 := HLD.out.2 (fun _ => ⟨hg, hf1, hn⟩)
              have HOK1 := hide hok1
              have HF1 := hide hf1
              clear HLD HFL HFS hf1 hok1
              go_wp2
              go_roundw
              case rel =>
                refine ⟨k + 1, by omega, by go_num, by first | (rw [HF1.out]; rfl) | rw [HF1.out], by first | (rw [HF1.out]; rfl) | rw [HF1.out], fun i hi => ?_, hbo2⟩
                by_cases e : i = k
                · subst e; exact HOK1.out
                · exact HOK.out i (by omega)
              case measure => simp [intOf]; omega
            · have HB : Hid (¬ ldsOk P D gone) := fun hl => hn ((HLD.out.1 (hl k hlt)) K0.out).2.2
              have hnI : (4096 : Int) < (n : Int) := by omega
              clear HLD HFL HFS hf1
              go_wp2
              go_ret2
              exact ⟨fun hl => absurd hl HB.out, fun _ => rfl, hbo2⟩
          | some m =>
            have hf1 := HFS.out m hf
            by_cases hn : n = m ∧ n ≤ 4096
            · obtain ⟨rfl, hn⟩ := hn
              have hok1 := HLD.out.2 (fun _ => ⟨hg, hf1, hn⟩)
              have HOK1 := hide hok1
              have HF1 := hide hf1
              have tt : (((n : Nat) : Int) != (n : Int)) = false := by simp
              clear HLD HFL HFS hf1 hok1
              go_wp2
              go_roundw
              case rel =>
                refine ⟨k + 1, by omega, by go_num, by first | (rw [HF1.out]; rfl) | rw [HF1.out], by first | (rw [HF1.out]; rfl) | rw [HF1.out], fun i hi => ?_, hbo2⟩
                by_cases e : i = k
                · subst e; exact HOK1.out
                · exact HOK.out i (by omega)
              case measure => simp [intOf]; omega
            · have HB : Hid (¬ ldsOk P D gone) := fun hl => by
                have q := (HLD.out.1 (hl k hlt)) K0.out
                rw [hf1] at q
                have := q.2.1
                simp at this
                omega
              clear HLD HFL HFS hf1
              by_cases hne : n = m
              · have hnI : (4096 : Int) < (m : Int) := by omega
                have tt : (((n : Nat) : Int) != (m : Int)) = false := by simp; omega
                clear hn hne
                go_wp2
                go_ret2
                exact ⟨fun hl => absurd hl HB.out, fun _ => rfl, hbo2⟩
              · have tt : (((n : Nat) : Int) != (m : Int)) = true := by simp; omega
                clear hn hne
                go_wp2
                go_ret2
                exact ⟨fun hl => absurd hl HB.out, fun _ => rfl, hbo2⟩
      · have tk : ((sk : Int) != 0) = true := by simp; omega
        have HF := hide (HFO.out k0)
        have HOK1 := hide (HLD.out.2 (fun e => absurd e k0))
        clear HFO HFL HFS HLD hrk hIo k0
        go_wp2
        go_roundw
        case rel =>
          refine ⟨k + 1, by omega, by go_num, by rw [HF.out], by rw [HF.out], fun i hi => ?_, hbo2⟩
          by_cases e : i = k
          · subst e; exact HOK1.out
          · exact HOK.out i (by omega)
        case measure => simp [intOf]; omega
    · have hkk : k = P.length := by omega
      subst hkk
      have HOK := hide hok
      clear h hI hr hok
      go_wp2
      go_ret2
      exact ⟨fun _ => rfl, fun hn => absurd (fun i hi => HOK.out i hi) hn, hbo⟩
end Go.Proofs.YthhommjlomphdaaDoor
/-
  Laws for the walk of Run: a copy into a register; registers and what was put out stay apart.
-/
namespace Go.Proofs.YthhommjlomphdaaDoor
open Go.RowKit Go.Deep Gf

theorem copy_run (w : World) (ty : TypeId) (g n cap : Nat) (old src : List Nat) (ao : Option Addr) (c : Nat) (hB : Brow w g old) (hS : Bs w (.slice ao src.length c) src) (hn : src.length = n) (ho : old.length = n) :
    ∃ w', (Builtin.copy_ #[44, 44] ty #[.slice (some ⟨g, 0, none⟩) n cap, .slice ao src.length c]).run Tryd.prog w = .ok (.int .i64 (n : Nat)) w' ∧ Brow w' g src ∧ w.grownBy w' (some g) := by
  subst hn
  have hsz : (Tryd.prog.info? 5).map (fun i => i.size) = some 1 := by kernel_rfl
  by_cases h0 : src.length = 0
  · have hs0 : src = [] := List.eq_nil_of_length_eq_zero h0
    have ho0 : old = [] := List.eq_nil_of_length_eq_zero (by omega)
    subst hs0 ho0
    exact ⟨w, run_copy_none (P := Tryd.prog) w 44 44 ty 5 (some ⟨g, 0, none⟩) ao 0 cap 0 c Tryd.underlying44 hsz (by simp), hB, World.grownBy.refl _ _⟩
  · obtain ⟨ao', c', e, _, _, hx, h4⟩ := hS
    simp at e
    obtain ⟨b, off, e2, hc⟩ := h4 (by intro e; rw [e] at h0; simp at h0)
    rw [← e.1] at e2
    subst e2
    have hrun := run_copy_row (P := Tryd.prog) w 44 44 ty 5 g 0 src.length cap ⟨b, off, none⟩ src.length c _ 5 (bv src) Tryd.underlying44 hsz hB.heap (by simp [bv]) (fun j v hj => by
      have hjl : j < src.length := by
        obtain ⟨q, _⟩ := List.getElem?_eq_some_iff.1 hj
        simpa [bv] using q
      rw [Addr.add_mid, hc j hjl, ← hj]
      simp [bv, hjl]) (by simp [bv]; omega) (by intro v hv; simp [bv] at hv; obtain ⟨x, _, rfl⟩ := hv; rfl)
    have e3 : (List.take 0 (List.map (fun x => Value.int .u8 ((x : Nat) : Int)) old).toArray.toList ++ bv src ++ List.drop (0 + (bv src).length) (List.map (fun x => Value.int .u8 ((x : Nat) : Int)) old).toArray.toList) = src.map (fun x => Value.int .u8 ((x : Nat) : Int)) := by
      simp [bv]
      omega
    rw [e3] at hrun
    refine ⟨w.setRow g (src.map (fun x => Value.int .u8 ((x : Nat) : Int))).toArray, by rw [hrun]; simp [bv, goInt], ?_, ?_⟩
    · exact Brow.of_heap (setRow_heap w g (old.map (fun x => Value.int .u8 ((x : Nat) : Int))).toArray (src.map (fun x => Value.int .u8 ((x : Nat) : Int))).toArray 5 _ hB.heap)
    · refine ⟨rfl, rfl, rfl, by simp [World.setRow], fun k hk hne => setRow_other w g k _ (fun e => hne (by rw [e]))⟩
theorem step_copy {ops : Array Oper} {o : Oper} {a : Act} {w w' : World} {K : Act → World → Prop} {Q : Exit → Act → World → Prop} {E : Prop} (hgd : o.guard = none) (d s : Operand) (ho : o.op = .call { callee := .builtin .copy, args := #[d, s], argTypes := #[44, 44] })
    (vd vs v' : Value) (hd : a.eval d = vd) (hs : a.eval s = vs) (hrun : (Builtin.copy_ #[44, 44] o.type #[vd, vs]).run Tryd.prog w = .ok v' w') (h : K (a.put o.dst v') w') : if Region.wanted o (yielded ops a.tmps) = true then Oper.wp Tryd.prog o a w K Q else E := by
  rw [if_pos (by simp [Region.wanted, hgd])]
  unfold Oper.wp
  simp [execOp, ho, resolve, invoke, builtin, hd, hs, hrun, Result.andThen]
  exact h
theorem out_ne {w : World} {base : Nat} {v : Value} {n : Nat} {xs : List Value} (h : w.ownsRow base 95 2 v n xs) {b : Nat} {l : List Nat} (hb : Brow w b l) : v.ownBlock ≠ some b := by
  intro e
  rcases h.2 with ⟨h0, _⟩ | ⟨g, cap, cur, e1, e2, e3, _⟩
  · rw [h0] at e; simp [Value.ownBlock] at e
  · rw [e1] at e
    simp [Value.ownBlock] at e
    subst e
    obtain ⟨c, hc, _⟩ := hb
    rw [hc] at e3
    simp at e3
theorem Outs.aside {w w' : World} {base : Nat} {v : Value} {O : List (Int × Nat × Nat × List Nat)} {b : Nat} {l : List Nat} (h : Outs 95 w base v O) (hb : Brow w b l) (hg : w.grownBy w' (some b)) (hne : ∀ q ∈ O, q.2.1 ≠ b) : Outs 95 w' base v O :=
  ⟨h.own.kept hg (.inr (out_ne h.own hb)), fun q hq => by
    obtain ⟨a, c, d⟩ := h.row q hq
    exact ⟨a, c.grown hg (by intro e; simp at e; exact hne q hq e), d⟩, h.nodup⟩
theorem holds_set {T : List (Nat × Nat × List Nat)} {n : Nat} {R : List (List Nat)} (h : Holds T n R) (i : Nat) (hi : i < T.length) (l : List Nat) : Holds (T.set i (T[i].1, T[i].2.1, l)) n (R.set i l) := by
  have hlen := holds_len h
  have hat := h.at hi (by omega)
  unfold Holds at *
  rw [List.map_set, List.map_set, h, hat]
end Go.Proofs.YthhommjlomphdaaDoor
