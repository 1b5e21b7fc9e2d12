import Derived.Test.YthhommjlomphdabDoorPart16
import Derived.Test.YthhommjlomphdabDoorPart17
import Derived.Test.YthhommjlomphdabDoorPart18
import Derived.Deep.RegionHeld3
import Derived.Deep.Cut
import Derived.Deep.CutRange
import Derived.Test.YthhommjlomphdabDoorPart12
import Derived.Lib.LaidTab
/-
  The law on one lost shard.
-/
namespace Go.Proofs.YthhommjlomphdabDoor
open Go.RowKit Go.Deep Gf

attribute [local go_sem] Oper.semAt_some
/-- the program for one lost shard -/
def grpP (D L G k : Nat) (C : Ck) : List St := wrAll (fewestS 8 C (keptN (D + L + G) (pw k))).1 (goneN (D + L + G) (pw k)) (keptN (D + L + G) (pw k))
theorem which_at (wh : Int) (n : Nat) (h1 : 1 ≤ n) (h2 : n ≤ 16) : ∃ k : Nat, wrap64 ((IntKind.u64.wrap wh).tmod (n : Int)) = (k : Int) ∧ k < n := by
  have h0 : 0 ≤ IntKind.u64.wrap wh := by rw [IntKind.wrap_u64]; omega
  obtain ⟨m, hm⟩ := Int.eq_ofNat_of_zero_le h0
  rw [hm]
  have hlt := Nat.mod_lt m (show 0 < n by omega)
  refine ⟨m % n, ?_, hlt⟩
  have e : Int.tmod (m : Int) (n : Int) = ((m % n : Nat) : Int) := Int.ofNat_tmod m n |>.symm
  rw [e]
  unfold wrap64
  omega
theorem prog_made {w wc : World} {x y : Value} (h : Below (w.drew.alloc (.cells #[x, y] 27)).heap.size (w.drew.alloc (.cells #[x, y] 27)) wc) : wc.heap[w.heap.size]? = some (.cells #[x, y] 27 (0, 0)) := by
  rw [nblk_alloc] at h
  exact (h.block w.heap.size (Nat.lt_succ_self _)).trans (World.alloc_heap_new w.drew _)
theorem grp_meetA {w3 wc : World} {ao : Option Addr} {m cc : Nat} {P : List St} (hP : P.length ≤ 160) (hbc : Below w3.drew.heap.size w3.drew wc) (how : wc.ownsRow w3.drew.heap.size 50 4 (.slice ao m cc) P.length (stcs .u8 P)) :
    ∃ B v, (Value.pointer (some ⟨wc.heap.size, 0, none⟩)) = .pointer (some ⟨B, 0, none⟩) ∧ Value.nilIface = .nilIface ∧ (wc.alloc (.cells #[.int .i64 2, .slice ao m cc] 27)).cell? ⟨B, 0, none⟩ = some (.int .i64 2) ∧ (wc.alloc (.cells #[.int .i64 2, .slice ao m cc] 27)).cell? ⟨B, 1, none⟩ = some v ∧ Ps .u8 (wc.alloc (.cells #[.int .i64 2, .slice ao m cc] 27)) v P ∧ Below w3.heap.size w3 (wc.alloc (.cells #[.int .i64 2, .slice ao m cc] 27)) := by
  have hb : Below w3.heap.size w3 wc := ((Below.refl _ w3).drew).trans hbc
  exact ⟨wc.heap.size, .slice ao m cc, rfl, rfl, by simp, by simp, owns_ps (how.alloc _) (by omega), hb.alloc hb.size _⟩
theorem grp_meetB {w3 wc : World} {ao : Option Addr} {m cc : Nat} {P : List St} {x y : Value} (hP : P.length ≤ 160) (hz : wc.heap[w3.heap.size]? = some (.cells #[x, y] 27 (0, 0))) (hbc : Below w3.heap.size w3 wc) (how : wc.ownsRow (w3.heap.size + 1) 50 4 (.slice ao m cc) P.length (stcs .u8 P)) :
    ∃ B v, (Value.pointer (some ⟨w3.heap.size, 0, none⟩)) = .pointer (some ⟨B, 0, none⟩) ∧ Value.nilIface = .nilIface ∧ ((wc.setCell ⟨w3.heap.size, 0, none⟩ (.int .i64 2)).setCell ⟨w3.heap.size, 1, none⟩ (.slice ao m cc)).cell? ⟨B, 0, none⟩ = some (.int .i64 2) ∧ ((wc.setCell ⟨w3.heap.size, 0, none⟩ (.int .i64 2)).setCell ⟨w3.heap.size, 1, none⟩ (.slice ao m cc)).cell? ⟨B, 1, none⟩ = some v ∧ Ps .u8 ((wc.setCell ⟨w3.heap.size, 0, none⟩ (.int .i64 2)).setCell ⟨w3.heap.size, 1, none⟩ (.slice ao m cc)) v P ∧ Below w3.heap.size w3 ((wc.setCell ⟨w3.heap.size, 0, none⟩ (.int .i64 2)).setCell ⟨w3.heap.size, 1, none⟩ (.slice ao m cc)) := by
  obtain ⟨c0, c1, _⟩ := obj_cells (set2b (y' := .slice ao m cc) (set2a (x' := .int .i64 2) hz))
  have hne : (Value.slice ao m cc).ownBlock ≠ some w3.heap.size := fun e => by have := own_from how e; omega
  exact ⟨w3.heap.size, .slice ao m cc, rfl, rfl, c0, c1, owns_ps ((how.kept (grown_set' wc w3.heap.size 0 (.int .i64 2)) (.inr hne)).kept (grown_set' _ w3.heap.size 1 (.slice ao m cc)) (.inr hne)) (by omega), (hbc.setCell (p := ⟨w3.heap.size, 0, none⟩) (Nat.le_refl _) _).setCell (p := ⟨w3.heap.size, 1, none⟩) (Nat.le_refl _) _⟩
set_option maxRecDepth 100000 in
set_option maxHeartbeats 4000000 in
theorem groups_wrong (D L G wh : Int) (hr : rightB D L G = false) (w : World) (hg : globalLaid w) :
    Calls Tryd.prog 4 #[.agg #[.int .i64 D, .int .i64 L, .int .i64 G], .int .i64 wh] w fun e w' => e = .returned (.bool true) ∧ Below w.heap.size w w' := by
  go_enter Tryd.func4, Tryd.ntmps4
  go_wp2_with fail
  refine (theirs_any D L G _).mono ?_
  rintro e w1 ⟨rfl, hb1⟩
  rw [nblk_alloc] at hb1
  have hs1 := hb1.size
  rw [nblk_alloc] at hs1
  obtain ⟨p0, p1, p2⟩ := box_cells hb1
  have hbw1 : Below w.heap.size w w1 := ((Below.refl _ _).alloc (Nat.le_refl _) _).trans (hb1.mono (by omega))
  clear hb1
  go_wp2_with fail
  refine (rright_any D L G _).mono ?_
  rintro e w2 ⟨rfl, hb2⟩
  rw [nblk_alloc] at hb2
  obtain ⟨q0, q1, q2⟩ := box_cells hb2
  have hs2 := hb2.size
  rw [nblk_alloc] at hs2
  have hb12 : Below w1.heap.size w1 w2 := ((Below.refl _ _).alloc (Nat.le_refl _) _).trans (hb2.mono (by omega))
  have r0 := (hb12.cell (p := ⟨w.heap.size, 0, none⟩) (by show w.heap.size < _; omega)).trans p0
  have r1 := (hb12.cell (p := ⟨w.heap.size, 1, none⟩) (by show w.heap.size < _; omega)).trans p1
  have r2 := (hb12.cell (p := ⟨w.heap.size, 2, none⟩) (by show w.heap.size < _; omega)).trans p2
  have hbw2 := hbw1.trans (hb12.mono (by omega))
  clear p0 p1 p2 hb2 hb12 hbw1
  rw [hr]
  go_wp2_with fail
  refine (scompile_wrong D L G 1 hr _).mono ?_
  rintro e w3 ⟨rfl, hb3⟩
  have hs3 := hb3.size
  have hbw3 := hbw2.trans (hb3.mono (by omega))
  clear hb3 r0 r1 r2 q0 q1 q2
  go_wp2_with fail
  have hgl : globalLaid (w3.alloc (.cells #[.int .i64 0, .slice none 0 0] 27)) := ((hbw3.alloc (by omega) _).cell (block_lt_of_cell hg)).trans hg
  refine (tell_errno 1 _ hgl).mono ?_
  rintro e w4 ⟨rfl, hb4⟩
  rw [nblk_alloc] at hb4
  go_wp2
  go_ret
  exact ⟨rfl, (hbw3.alloc (by omega) _).trans (hb4.mono (by omega))⟩
set_option maxRecDepth 100000 in
set_option maxHeartbeats 4000000 in
theorem groups_right (D L G : Nat) (wh : Int) (hr : rightB D L G = true) (hD1 : 1 ≤ D) (hD : D ≤ 12) (hL : 1 ≤ L) (hL4 : L ≤ 4) (hG : G ≤ 4) (hdiv : D % L = 0) (h16 : D + L + G ≤ 16) (w : World) (hT : tabLaid w) (h2 : 2 ≤ w.heap.size) :
    Calls Tryd.prog 4 #[.agg #[.int .i64 D, .int .i64 L, .int .i64 G], .int .i64 wh] w fun e w' => e = .returned (.bool true) ∧ Below w.heap.size w w' := by
  go_enter Tryd.func4, Tryd.ntmps4
  go_wp2_with fail
  refine (theirs_any D L G _).mono ?_
  rintro e w1 ⟨rfl, hb1⟩
  rw [nblk_alloc] at hb1
  have hs1 := hb1.size
  rw [nblk_alloc] at hs1
  obtain ⟨p0, p1, p2⟩ := box_cells hb1
  have hbw1 : Below w.heap.size w w1 := ((Below.refl _ _).alloc (Nat.le_refl _) _).trans (hb1.mono (by omega))
  clear hb1
  go_wp2_with fail
  refine (rright_any D L G _).mono ?_
  rintro e w2 ⟨rfl, hb2⟩
  rw [nblk_alloc] at hb2
  obtain ⟨q0, q1, q2⟩ := box_cells hb2
  have hs2 := hb2.size
  rw [nblk_alloc] at hs2
  have hb12 : Below w1.heap.size w1 w2 := ((Below.refl _ _).alloc (Nat.le_refl _) _).trans (hb2.mono (by omega))
  have r0 := (hb12.cell (p := ⟨w.heap.size, 0, none⟩) (by show w.heap.size < _; omega)).trans p0
  have r1 := (hb12.cell (p := ⟨w.heap.size, 1, none⟩) (by show w.heap.size < _; omega)).trans p1
  have r2 := (hb12.cell (p := ⟨w.heap.size, 2, none⟩) (by show w.heap.size < _; omega)).trans p2
  have hbw2 := hbw1.trans (hb12.mono (by omega))
  clear p0 p1 p2 hb2 hb12 hbw1
  rw [hr]
  go_wp2_with fail
  refine (rshards_any D L G _ (by omega) (by omega) (by omega)).mono ?_
  rintro e w3 ⟨rfl, hb3⟩
  have hs3 := hb3.size
  have hbw3 := hbw2.trans (hb3.mono (by omega))
  have p0 := (hb3.cell (p := ⟨w.heap.size, 0, none⟩) (by show w.heap.size < _; omega)).trans r0
  have p1 := (hb3.cell (p := ⟨w.heap.size, 1, none⟩) (by show w.heap.size < _; omega)).trans r1
  have p2 := (hb3.cell (p := ⟨w.heap.size, 2, none⟩) (by show w.heap.size < _; omega)).trans r2
  clear r0 r1 r2 q0 q1 q2 hb3 hbw2
  go_upto_region 8 with fail
  obtain ⟨k, hkk, hkn⟩ := which_at wh (D + L + G) (by omega) (by omega)
  have hkk' : wrap64 ((IntKind.u64.wrap wh).tmod ((D : Int) + (L : Int) + (G : Int))) = (k : Int) := by
    rw [← hkk]; congr 2
  rw [hkk']
  obtain ⟨C, hC⟩ := tell_one (D := D) (L := L) (G := G) hdiv hkn
  have hgone := gone_one hkn h16
  have hcomp : ∀ W, Below w3.heap.size w3 W → Calls Tryd.prog 10 #[.agg #[.int .i64 D, .int .i64 L, .int .i64 G], .int .u64 (pw k : Int)] W fun e W' => ∃ ao m cc, e = .returned (.tuple #[.agg #[.int .i64 2, .slice ao m cc], .nilIface]) ∧ Below W.heap.size W W' ∧ W'.ownsRow W.heap.size 50 4 (.slice ao m cc) (grpP D L G k C).length (stcs .u8 (grpP D L G k C)) := by
    intro W hbW
    have hTW : tabLaid W := hT.mono (by omega) (hbw3.trans (hbW.mono (by omega)))
    have hW2 : 2 ≤ W.heap.size := by have := hbW.size; omega
    refine (scompile_right D L G (pw k) hr hD1 hD hL hL4 hG hdiv h16 (pow_lt64 (by omega)) W hTW hW2).mono ?_
    rintro e W' ⟨hb, ⟨hno, _⟩ | ⟨C', v, hs, rfl, how⟩⟩
    · rw [show goneN (D + L + G) (pw k) = goneN (D + L + G) (2 ^ k) from rfl, hgone, hC] at hno; cases hno
    · rw [show goneN (D + L + G) (pw k) = goneN (D + L + G) (2 ^ k) from rfl, hgone, hC] at hs
      obtain rfl := Option.some.inj hs
      obtain ⟨ao, m, cc, rfl⟩ : ∃ ao m cc, v = .slice ao m cc := by
        rcases how.2 with ⟨rfl, _⟩ | ⟨g, cap, cur, rfl, _⟩
        · exact ⟨_, _, _, rfl⟩
        · exact ⟨_, _, _, rfl⟩
      refine ⟨ao, m, cc, ?_, hb, how⟩
      rw [show goneN (D + L + G) (pw k) = goneN (D + L + G) (2 ^ k) from rfl, hgone]
      rfl
  have hsl : IntKind.u64.wrap ((2 : Int) ^ k) = (pw k : Int) := shl_u64 k (by omega)
  have hk64 : (k : Int) < 64 := by omega
  have HC := hide hC
  have hplan : (fewestS 8 C (keptN (D + L + G) (pw k))).1.told ≤ 8 := by
    have hp := (plan_of (lost := pw k) hD hG (by rw [show goneN (D + L + G) (pw k) = goneN (D + L + G) (2 ^ k) from rfl, hgone]; exact hC)).1
    have h1 := hp.le
    have h2 := hp.most
    omega
  have HP : Hid ((grpP D L G k C).length ≤ 160) := hide (wr_len _ _ hplan)
  clear hC hgone hkk
  have hcA := hcomp w3.drew (Below.refl _ _).drew
  have hcB : Calls Tryd.prog 10 #[.agg #[.int .i64 D, .int .i64 L, .int .i64 G], .int .u64 (pw k : Int)] (w3.drew.alloc (.cells #[.int .i64 0, .slice none 0 0] 27)) fun e W' => ∃ ao m cc, e = .returned (.tuple #[.agg #[.int .i64 2, .slice ao m cc], .nilIface]) ∧ W'.heap[w3.heap.size]? = some (.cells #[.int .i64 0, .slice none 0 0] 27 (0, 0)) ∧ Below w3.heap.size w3 W' ∧ W'.ownsRow (w3.heap.size + 1) 50 4 (.slice ao m cc) (grpP D L G k C).length (stcs .u8 (grpP D L G k C)) := by
    refine (hcomp _ (((Below.refl _ w3).drew).alloc (Nat.le_refl _) _)).mono ?_
    rintro e W' ⟨ao, m, cc, rfl, hb, how⟩
    have hz := prog_made hb
    rw [nblk_alloc] at hb how
    exact ⟨ao, m, cc, rfl, hz, (((Below.refl _ w3).drew).alloc (Nat.le_refl _) _).trans (hb.mono (Nat.le_succ _)), how⟩
  clear hcomp
  have hne1 : w.heap.size ≠ w3.heap.size := by omega
  have hne2 : w3.heap.size ≠ w.heap.size := by omega
  have hne3 : w.heap.size < w3.heap.size := by omega
  go_cut [11, 12] from 42 to 48 (fun v11 v12 wx => ∃ B v, v11 = .pointer (some ⟨B, 0, none⟩) ∧ v12 = .nilIface ∧ wx.cell? ⟨B, 0, none⟩ = some (.int .i64 2) ∧ wx.cell? ⟨B, 1, none⟩ = some v ∧ Ps .u8 wx v (grpP D L G k C) ∧ Below w3.heap.size w3 wx)
  case first =>
    go_region_with (first
      | (go_at_call 10; refine hcA.mono ?_; rintro e wc ⟨ao, m, cc, rfl, hbc, how⟩)
      | (go_at_call 10; refine hcB.mono ?_; rintro e wc ⟨ao, m, cc, rfl, hz, hbc, how⟩; obtain ⟨z0, z1, zf1, zf0⟩ := obj_cells hz))
    all_goals first
      | (go_wp2_with fail; go_meet; case rel => exact grp_meetA HP.out hbc how)
      | (go_wp2_with fail; go_meet; case rel => exact grp_meetB HP.out hz hbc how)
  case rest =>
    obtain ⟨B, v, rfl, rfl, c0, c1, hps, hb4⟩ := hcut
    have hs4 := hb4.size
    obtain ⟨S, hS, hbit, hSlt⟩ := ld_all (fewestS 8 C (keptN (D + L + G) (pw k))).1 (goneN (D + L + G) (pw k)) (keptN (D + L + G) (pw k))
    have hla := loaded_any 2 v (grpP D L G k C) wc hps (by have := HP.out; omega) (fun t ht => wr_kind ht)
    rw [show ldAll (grpP D L G k C) = (S, cntOf D L G (2 ^ k) C, false) from hS] at hla
    simp only at hla
    have hglob : D + L ≤ k → cntOf D L G (2 ^ k) C ≤ D ∧ S / 2 ^ k % 2 = 0 := fun h => ⟨groups_global hD hL4 hG h16 hkn h HC.out, (div_bit S k).2 (by
      rw [hbit k]
      have : k ∉ mems (keptN (D + L + G) (pw k)) := fun hm => by
        have := ((mem_kept h16).1 hm).2
        unfold pw at this
        rw [Nat.testBit_two_pow_self] at this
        cases this
      simp [this])⟩
    have hloc : k < D + L → cntOf D L G (2 ^ k) C = D / L := fun h => by
      have hDL : D / L * L = D := Nat.div_mul_cancel (Nat.dvd_of_mod_eq_zero hdiv)
      have hs0 : 0 < D / L := Nat.pos_of_ne_zero fun e => by rw [e] at hDL; omega
      by_cases hkD : k < D
      · refine groups_local (g := k / (D / L)) hD1 hD hL4 hG hdiv h16 (by rw [Nat.div_lt_iff_lt_mul hs0, Nat.mul_comm]; omega) (.inr ?_) HC.out
        have h1 := Nat.div_add_mod k (D / L)
        have h2 := Nat.mod_lt k hs0
        omega
      · exact groups_local (g := k - D) hD1 hD hL4 hG hdiv h16 (by omega) (.inl (by omega)) HC.out
    have hq16 : cntOf D L G (2 ^ k) C ≤ 16 := Nat.le_trans (List.length_filter_le _ _) (Nat.le_trans (List.length_filter_le _ _) (by simp))
    generalize cntOf D L G (2 ^ k) C = q at hla hglob hloc hq16
    have p0 := (hb4.cell (p := ⟨w.heap.size, 0, none⟩) (by show w.heap.size < _; omega)).trans p0
    have p1 := (hb4.cell (p := ⟨w.heap.size, 1, none⟩) (by show w.heap.size < _; omega)).trans p1
    have hbw4 := hbw3.trans (hb4.mono (by omega))
    have hdv : (D : Int).tdiv (L : Int) = ((D / L : Nat) : Int) := Int.ofNat_tdiv D L |>.symm
    have hLn : (L : Int) ≠ 0 := by omega
    have HG := hide (And.intro hglob hloc)
    clear hps hS hbit hb4 hbw3 hglob hloc p2 hT
    go_wp2_with fail
    refine hla.mono ?_
    clear hla
    rintro e w5 ⟨rfl, hb5⟩
    have hs5 := hb5.size
    have p0 := (hb5.cell (p := ⟨w.heap.size, 0, none⟩) (by show w.heap.size < _; omega)).trans p0
    have p1 := (hb5.cell (p := ⟨w.heap.size, 1, none⟩) (by show w.heap.size < _; omega)).trans p1
    have hbw5 := hbw4.trans (hb5.mono (by omega))
    clear hb5 hbw4 c0 c1
    go_wp2_with fail
    refine (tell_nil _).mono ?_
    rintro e w6 ⟨rfl, hb6⟩
    have hs6 := hb6.size
    have p0 := (hb6.cell (p := ⟨w.heap.size, 0, none⟩) (by show w.heap.size < _; omega)).trans p0
    have p1 := (hb6.cell (p := ⟨w.heap.size, 1, none⟩) (by show w.heap.size < _; omega)).trans p1
    have hbw6 := hbw5.trans (hb6.mono (by omega))
    clear hb6 hbw5
    by_cases hkD : D + L ≤ k
    · have hkD' : (D : Int) + (L : Int) ≤ (k : Int) := by omega
      obtain ⟨hq, hb0⟩ := HG.out.1 hkD
      have hq' : (q : Int) ≤ (D : Int) := by omega
      have hbk := bit_u64 S k (by omega)
      rw [hb0] at hbk
      go_wp2
      go_ret
      exact ⟨rfl, hbw6⟩
    · have hkD' : ¬ (D : Int) + (L : Int) ≤ (k : Int) := by omega
      have hq := HG.out.2 (by omega)
      subst hq
      have hDL : D / L * L = D := Nat.div_mul_cancel (Nat.dvd_of_mod_eq_zero hdiv)
      have hs0 : 0 < D / L := Nat.pos_of_ne_zero fun e => by rw [e] at hDL; omega
      have hs12 : D / L ≤ 12 := Nat.le_trans (Nat.div_le_self _ _) hD
      clear hcA hcB HC HP HG hplan hkk' hsl
      generalize hsd : D / L = s at *
      have hk94 : (k : Int).tdiv (s : Int) = ((k / s : Nat) : Int) := Int.ofNat_tdiv k s |>.symm
      have hsn : (s : Int) ≠ 0 := by omega
      go_upto_if 91 with fail
      go_cut [17] from 88 to 94 (fun v wc => ∃ g : Nat, v = .int .i64 (g : Int) ∧ g < L ∧ wc = w6)
      case first =>
        by_cases hkd : k < D
        · have hkd' : (k : Int) < (D : Int) := by omega
          go_wp2_with fail
          go_meet
          case rel => exact ⟨k / s, by rw [← Int.natCast_ediv]; have := Nat.div_le_self k s; congr 1; unfold wrap64; generalize k / s = q at *; omega, by rw [Nat.div_lt_iff_lt_mul hs0, Nat.mul_comm]; omega, rfl⟩
        · have hkd' : ¬ (k : Int) < (D : Int) := by omega
          go_wp2_with fail
          go_meet
          case rel => exact ⟨k - D, by congr 1; omega, by omega, rfl⟩
      case rest =>
        obtain ⟨g, rfl, hgL, rfl⟩ := hcut
        have hgb := grp_bound (s := s) hgL
        rw [hDL] at hgb
        obtain ⟨a, ha⟩ : ∃ a : Nat, a = s * g := ⟨_, rfl⟩
        have ha1 : (g : Int) * (s : Int) = (a : Int) := by rw [ha, Int.natCast_mul, Int.mul_comm]
        have ha2 : ((g : Int) + 1) * (s : Int) = ((a + s : Nat) : Int) := by rw [Int.add_mul, ha1, Int.one_mul]; rfl
        rw [← ha] at hgb
        obtain ⟨b, hb⟩ : ∃ b : Nat, b = a + s := ⟨_, rfl⟩
        rw [← hb] at ha2 hgb
        have hb12 : b ≤ 12 := by omega
        have hab : a ≤ b := by omega
        clear ha
        go_wp2_with fail
        go_loopw [18, 19] (fun wv jv wr => ∃ (Z : Int) (j : Nat), wv = .int .u64 Z ∧ jv = .int .i64 (j : Int) ∧ j ≤ b ∧ wr = wc) (fun _ jv _ => b - (intOf jv).toNat)
        case atStart => exact ⟨_, a, rfl, rfl, hab, rfl⟩
        case round =>
          obtain ⟨Z, j, rfl, rfl, hj, rfl⟩ := hrel
          by_cases hjb : j < b
          · have hjb' : (j : Int) < (b : Int) := by omega
            have hj64 : (j : Int) < 64 := by omega
            go_wp2
            go_roundw
            case rel => exact ⟨_, j + 1, rfl, by go_num, by omega, by first | rfl | trivial⟩
            case measure => simp [intOf]; omega
          · have hjb' : ¬ (j : Int) < (b : Int) := by omega
            go_wp2
            all_goals (go_ret; exact ⟨by simp, hbw6⟩)
theorem groups_any (D L G wh : Int) (w : World) (hg : globalLaid w) (hT : tabLaid w) (h2 : 2 ≤ w.heap.size) :
    Calls Tryd.prog 4 #[.agg #[.int .i64 D, .int .i64 L, .int .i64 G], .int .i64 wh] w fun e w' => e = .returned (.bool true) ∧ Below w.heap.size w w' := by
  cases hr : rightB D L G with
  | false => exact groups_wrong D L G wh hr w hg
  | true =>
    obtain ⟨d, l, g, rfl, rfl, rfl, h1, h3, h4, h5, h6, h7, h8⟩ := right_nats hr
    exact groups_right d l g wh hr h1 h3 h4 h5 h6 h7 h8 w hT h2
end Go.Proofs.YthhommjlomphdabDoor
/-
  Two package-level variables: the one that errors.As reads, and the table that math/bits reads.
-/
namespace Go.Proofs.YthhommjlomphdabDoor
open Go.ChangeShapes Go.WideShapes Go.RowKit

abbrev laids : List (String × DataW Unit) := [("math/bits.deBruijn64tab", Rows.laid_math_bits_deBruijn64tab), ("errors.errorType", Rows.laid_errors_errorType)]
/-- the table's numbers -/
def tabZ : List Int := (List.range 64).map fun j => ((Lib.deBruijn64tab.getD j 0 : Nat) : Int)
theorem Tryd.bt : Tryd.prog.globalNamed "math/bits.deBruijn64tab" = some 1 := by kernel_rfl
theorem Tryd.btType : (Tryd.prog.globals[1]?).map (·.type) = some 120 := by kernel_rfl
theorem Tryd.btCells : Tryd.prog.cellsOf 120 = 64 := by kernel_rfl
theorem Tryd.byteCells : Tryd.prog.cellsOf 5 = 1 := by kernel_rfl
theorem tab_data : (Rows.laid_math_bits_deBruijn64tab : DataW Unit) = Lib.tabData .u8 tabZ := by rfl
theorem both_of_laid {W : World} (h : laidMetH Tryd.prog laids W) : globalLaid W ∧ tabLaid W ∧ 2 ≤ W.heap.size := by
  have h' : laidMet Tryd.prog [("math/bits.deBruijn64tab", Rows.laid_math_bits_deBruijn64tab)] W ∧ handlesMet Tryd.prog [("errors.errorType", Rows.laid_errors_errorType)] W := h
  have hg : globalLaid W := handle_of_laid (show laidMetH Tryd.prog [("errors.errorType", Rows.laid_errors_errorType)] W from ⟨⟨[], rfl, List.nodup_nil, fun b off hb => by cases hb⟩, h'.2⟩)
  have hd := h'.1
  rw [tab_data] at hd
  have ht := Lib.tabIs_of_head Tryd.bt Tryd.btType Tryd.underlying120 Tryd.underlying5 Tryd.byteCells Tryd.btCells hd
  have htl : tabLaid W := fun j hj => by
    have := ht.cell Tryd.bt j (by simpa [tabZ] using hj)
    rw [this]
    unfold tabZ
    simp [hj]
  refine ⟨hg, htl, ?_⟩
  have := block_lt_of_cell (htl 0 (by decide))
  exact this
/-- a world that meets it -/
noncomputable def laidWorld (os : Os) : World :=
  { World.holding Tryd.prog os ⟨#[], #[], []⟩ with heap := ((World.holding Tryd.prog os ⟨#[], #[], []⟩).heap.modify 0 fun | .cells _ t frozen => .cells #[.iface 99 (.agg #[.pointer (some ⟨2, 38, none⟩)])] t frozen | o => o).modify 1 fun | .cells _ t frozen => .cells (tabZ.map fun z => Value.int .u8 z).toArray t frozen | o => o }
theorem laidWorld2_met (os : Os) (args : Array Value) : laidMetH Tryd.prog laids ((laidWorld os).forCall (fun _ _ => 0) ⟨#[], args, []⟩).memory :=
  laidMetH_of_parts (laidMet_of_run' 8 (by kernel_rfl) (by kernel_rfl)) (by kernel_rfl)
end Go.Proofs.YthhommjlomphdabDoor
