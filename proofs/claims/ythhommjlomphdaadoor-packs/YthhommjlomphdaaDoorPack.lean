/-
  Pack: the program's.
-/
import Derived.Test.YthhommjlomphdaaDoorPackable
import Derived.Test.YthhommjlomphdaaDoorLawProg
namespace Go.Proofs.YthhommjlomphdaaDoor
open Go.RowKit Go.Deep

def packS (s : St) : List Nat := [s.k, s.a.toNat, s.b.toNat, s.c]
def packTo (regs : Int) (P : List St) (k : Nat) : List Nat := [regs.toNat, P.length / 256, P.length % 256] ++ (P.take k).flatMap packS
def bv (l : List Nat) : List Value := l.map fun x => Value.int .u8 ((x : Nat) : Int)
theorem bv_append (a b : List Nat) : bv (a ++ b) = bv a ++ bv b := by simp [bv]
theorem packTo_succ (regs : Int) (P : List St) (k : Nat) (hk : k < P.length) : packTo regs P (k + 1) = packTo regs P k ++ packS P[k] := by
  simp only [packTo, List.take_succ_eq_append_getElem hk, List.flatMap_append, List.flatMap_cons, List.flatMap_nil, List.append_nil, List.append_assoc]
theorem three_new (w : World) (n : Nat) (hn : n = w.heap.size) (x y z : Value) (t : TypeId) : ∀ j v, [x, y, z][j]? = some v → (w.alloc (.cells #[x, y, z] t)).cell? ((⟨n, 0, none⟩ : Addr).add j) = some v := by
  subst hn
  intro j v hv
  rw [add0]
  rcases j with _ | _ | _ | j
  all_goals simp at hv
  all_goals subst hv; simp
def PaR (w : World) (regs : Int) (P : List St) (v i : Value) (wr : World) : Prop := ∃ k : Nat, k ≤ P.length ∧ i = .int .i64 k ∧ wr.ownsRow w.heap.size 5 1 v (3 + k * 4) (bv (packTo regs P k)) ∧ Below w.heap.size w wr ∧ w.heap.size ≤ wr.heap.size
def PaPost (regs : Int) (P : List St) (w : World) (r : Ending) (w' : World) : Prop :=
  (okPack regs P → ∃ v, r = .returned (.tuple #[v, .nilIface]) ∧ w'.ownsRow w.heap.size 5 1 v (3 + P.length * 4) (bv (packTo regs P P.length))) ∧
  (¬ okPack regs P → r = .returned (.tuple #[.slice none 0 0, .iface 29 (.int .i64 4)])) ∧ Below w.heap.size w w'
set_option maxRecDepth 100000 in
set_option maxHeartbeats 2000000 in
theorem pack_any (regs : Int) (v : Value) (P : List St) (w : World) (h : Ps .u8 w v P) (hP : ∀ s ∈ P, okInts s) :
    Calls Tryd.prog 47 #[.agg #[.int .i64 regs, v]] w fun r w' => PaPost regs P w r w' := by
  obtain ⟨i0, hi0, hz0, hz1, hz2⟩ := info_parts Tryd.infoByte
  have hb0 : Below w.heap.size w (w.alloc (.cells #[.int .i64 regs, v] 49)) := (Below.refl _ _).alloc (Nat.le_refl _) _
  have h0 := h.mono hb0
  obtain ⟨ao, c, rfl⟩ := h.slice
  go_enter Tryd.func47, Tryd.ntmps47
  go_wp2_with fail
  refine (packable_any regs _ P _ h0).mono ?_
  rintro r w1 ⟨b, rfl, hb, hb1⟩
  rw [nblk_alloc] at hb1
  obtain ⟨p0, p1⟩ := box2 hb1 rfl
  have hs1 := hb1.size
  rw [nblk_alloc] at hs1
  have hbw1 := hb0.trans (hb1.mono (by omega))
  cases b
  · have HN := hide (show ¬ okPack regs P from fun hp => by have := hb.2 hp; simp at this)
    clear hb hb1 h0 h hb0
    go_wp2
    go_ret2
    exact ⟨fun hp => absurd hp HN.out, fun _ => rfl, hbw1⟩
  · have hok := hb.1 rfl
    obtain ⟨⟨g0, g1, g2⟩, hst⟩ := id hok
    have HOK := hide hok
    have HST := hide hst
    obtain ⟨r, rfl⟩ : ∃ r : Nat, regs = (r : Int) := ⟨regs.toNat, by omega⟩
    have hr32 : r ≤ 32 := by omega
    clear hb hok hst h0 hb0 hb1 g0 g1
    go_wp2_with (first
      | (at_make; refine wpList_make_own _ rfl (.const (.int .i64 0)) (.tmp 17) 44 rfl w1.heap.size 5 i0 (.int .u8 0) 1 Tryd.underlying44 hi0 hz0 hz1 .i64 .i64 _ (3 + P.length * 4) rfl rfl (by omega) (by rw [hz2]; omega) (by unfold maxLen; omega) (Nat.le_refl _) ?_; intro w2 hown hgr
         have hb2 : Below w1.heap.size w1 w2 := ⟨hgr.os, hgr.tape, hgr.output, hgr.size, fun k hk => hgr.block k hk (by simp)⟩
         have q0 := (hb2.cell (block_lt_of_cell p0)).trans p0
         have q1 := (hb2.cell (block_lt_of_cell p1)).trans p1
         have hs2 := hb2.size
         clear hgr)
      | (at_builtin; refine wpList_append_own _ rfl (.tmp 19) (.tmp 28) 44 rfl w1.heap.size 5 i0 (.int .u8 0) 1 1 Tryd.underlying44 hi0 hz0 hz1 hz2 rfl (by decide) _ 0 [] rfl (ownsRow_below hown ((Below.refl _ _).alloc (Nat.le_refl _) _)) ⟨w2.heap.size, 0, none⟩ 3 3 [.int .u8 (r : Int), .int .u8 ((P.length : Int) / 256), .int .u8 ((P.length : Int) % 256)] rfl rfl (three_new _ _ rfl _ _ _ _) (by intro q hq; simp at hq; rcases hq with rfl | rfl | rfl <;> rfl) (by unfold maxLen; omega) (by omega) (by rw [nblk_alloc]; omega) ?_; intro v3 w3 hown3 hgr3 hnn3
         have hb3 : Below w1.heap.size w1 w3 := (hb2.alloc hs2 _).grown hgr3 (by rw [nblk_alloc]; omega) (fun k hk => (hown.lt k hk).1)
         have r0 := (hb3.cell (block_lt_of_cell p0)).trans p0
         have r1 := (hb3.cell (block_lt_of_cell p1)).trans p1
         clear q0 q1 hnn3 hgr3))
    have ho3 : w3.ownsRow w1.heap.size 5 1 v3 (3 + 0 * 4) (bv (packTo (r : Int) P 0)) := by
      have e : bv (packTo (r : Int) P 0) = [] ++ [.int .u8 (r : Int), .int .u8 ((P.length : Int) / 256), .int .u8 ((P.length : Int) % 256)] := by simp [bv, packTo]
      rw [e]; exact hown3
    clear hown3 hown hb2 hs2
    rcases h.cases with ⟨rfl, ao', c', e⟩ | ⟨b, off, c', e, _, hc⟩
    · simp at e
      obtain ⟨rfl, rfl⟩ := e
      refine wp_loop_rounds 1 ?_
      rw [rounds_succ]
      go_wp2
      go_ret2
      exact ⟨fun _ => ⟨_, rfl, ownsRow_weaken ho3 (by omega)⟩, fun hp => absurd HOK.out hp, hbw1.trans (hb3.mono (by omega))⟩
    · simp at e
      obtain ⟨rfl, rfl⟩ := e
      go_loopw [5, 33] (fun v i wr => PaR w1 (r : Int) P v i wr) (fun _ i _ => P.length - (intOf i).toNat)
      case atStart => exact ⟨0, Nat.zero_le _, rfl, ho3, hb3, hb3.size⟩
      case round =>
        clear ho3 hb3 r0 r1
        rename World => wo
        obtain ⟨k, hk, rfl, hown, hbo, hso⟩ := hrel
        have q0 := (hbo.cell (block_lt_of_cell p0)).trans p0
        have q1 := (hbo.cell (block_lt_of_cell p1)).trans p1
        have hbwo := hbw1.trans (hbo.mono (by omega))
        by_cases hlt : k < P.length
        · obtain ⟨c0, c1, c2, c3⟩ := hc k hlt
          have d0 := (hbwo.cell (block_lt_of_cell c0)).trans c0
          have d1 := (hbwo.cell (block_lt_of_cell c1)).trans c1
          have d2 := (hbwo.cell (block_lt_of_cell c2)).trans c2
          have d3 := (hbwo.cell (block_lt_of_cell c3)).trans c3
          obtain ⟨z0, z1, z2, z3, z4, z5⟩ := HST.out k hlt
          have z6 := (hP _ (List.getElem_mem hlt)).2.2.2.2.2
          have HPS := hide (packTo_succ (r : Int) P k hlt)
          have HPK : Hid (packS P[k] = [P[k].k, P[k].a.toNat, P[k].b.toNat, P[k].c]) := rfl
          have HC := hide hc
          have HW := hide hown
          have HLT := hide hown.lt
          clear hc hown c0 c1 c2 c3 HST HOK z5 hP h
          generalize P[k].k = sk at *
          generalize P[k].c = sc at *
          generalize P[k].a = sa at *
          generalize P[k].b = sb at *
          obtain ⟨x, rfl⟩ : ∃ x : Nat, sa = (x : Int) := ⟨sa.toNat, by omega⟩
          obtain ⟨y, rfl⟩ : ∃ y : Nat, sb = (y : Int) := ⟨sb.toNat, by omega⟩
          have hx : x < 256 := by omega
          have hy : y < 256 := by omega
          clear z1 z2 z3 z4
          go_wp2_with (at_builtin; refine wpList_append_own _ rfl (.tmp 37) (.tmp 48) 44 rfl w1.heap.size 5 i0 (.int .u8 0) 1 1 Tryd.underlying44 hi0 hz0 hz1 hz2 rfl (by decide) _ (3 + k * 4) (bv (packTo (r : Int) P k)) rfl (ownsRow_below (ownsRow_below HW.out ((Below.refl _ _).alloc (Nat.le_refl _) _)) ((Below.refl _ _).alloc (Nat.le_refl _) _)) ⟨wo.heap.size + 1, 0, none⟩ 4 4 [.int .u8 (sk : Int), .int .u8 (x : Int), .int .u8 (y : Int), .int .u8 (sc : Int)] rfl rfl (four_new _ _ (by simp) _ _ _ _ _) (by intro q hq; simp at hq; rcases hq with rfl | rfl | rfl | rfl <;> rfl) (by unfold maxLen; omega) (by omega) (by simp only [nblk_alloc]; omega) ?_; intro v4 w4 hown4 hgr4 hnn4)
          have hb4 : Below w1.heap.size w1 w4 := ((hbo.alloc hso _).alloc (by rw [nblk_alloc]; omega) _).grown hgr4 (by simp only [nblk_alloc]; omega) (fun q hq => (HLT.out q hq).1)
          have ho4 : w4.ownsRow w1.heap.size 5 1 v4 (3 + (k + 1) * 4) (bv (packTo (r : Int) P (k + 1))) := by
            rw [HPS.out, bv_append, HPK.out]
            have e : 3 + (k + 1) * 4 = 3 + k * 4 + 4 := by omega
            rw [e]
            simpa [bv] using hown4
          clear hown4 hgr4 hnn4 HW HLT HPS HPK d0 d1 d2 d3 q0 q1
          go_wp2
          go_roundw
          case rel => exact ⟨k + 1, by omega, by go_num, ho4, hb4, hb4.size⟩
          case measure => simp [intOf]; omega
        · have hkk : k = P.length := by omega
          subst hkk
          have HW := hide hown
          clear hc hown
          go_wp2
          go_ret2
          exact ⟨fun _ => ⟨_, rfl, ownsRow_weaken HW.out (by omega)⟩, fun hp => absurd HOK.out hp, hbwo⟩
end Go.Proofs.YthhommjlomphdaaDoor
