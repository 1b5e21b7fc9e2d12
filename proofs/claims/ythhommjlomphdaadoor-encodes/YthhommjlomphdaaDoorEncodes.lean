/-
  The law on Encode: its walk.
-/
import Derived.Test.YthhommjlomphdaaDoorRefEncode
import Derived.Test.YthhommjlomphdaaDoorRefEncodeErr
namespace Go.Proofs.YthhommjlomphdaaDoor
open Go.RowKit Go.Deep Gf

set_option maxRecDepth 100000 in
set_option maxHeartbeats 4000000 in
theorem encodes_big (D L G : Int) (vd : Value) (Dt : List (List Nat)) (w : World) (hd : Rd w vd Dt) (hbig : ¬ wgt Dt Dt.length ≤ 100000) :
    Calls Tryd.prog 4 #[.agg #[.int .i64 D, .int .i64 L, .int .i64 G], vd] w fun e w' => e = .returned (.bool true) ∧ Below w.heap.size w w' := by
  go_enter Tryd.func4, Tryd.ntmps4
  go_wp2_with fail
  refine (weight_any vd Dt _ (hd.mono ((Below.refl _ _).alloc (Nat.le_refl _) _))).mono ?_
  rintro e wa ⟨r, rfl, hr, rfl⟩
  have hr2 : (100000 : Int) < (r : Int) := by
    have : ¬ r ≤ 100000 := fun h => hbig (hr h)
    omega
  clear hr hbig
  go_wp2
  go_ret
  exact ⟨rfl, (Below.refl _ _).alloc (Nat.le_refl _) _⟩
set_option maxRecDepth 100000 in
set_option maxHeartbeats 4000000 in
theorem encodes_fit (D L G : Nat) (hr : rightB D L G = true) (hD1 : 1 ≤ D) (hD : D ≤ 12) (hL : 1 ≤ L) (hL4 : L ≤ 4) (hG : G ≤ 4) (hdiv : D % L = 0) (vd : Value) (Dt : List (List Nat)) (w : World) (hd : Rd w vd Dt) (hwt : wgt Dt Dt.length ≤ 100000) (hlen : Dt.length = D) (hfit : Fit Dt) :
    Calls Tryd.prog 4 #[.agg #[.int .i64 D, .int .i64 L, .int .i64 G], vd] w fun e w' => e = .returned (.bool true) ∧ Below w.heap.size w w' := by
  have HW := hide hwt
  have HLN := hide hlen
  have HFT := hide hfit
  have hDl : Dt.length ≤ 100000 := Nat.le_trans (wgt_le Dt Dt.length) hwt
  clear hwt hlen hfit
  go_enter Tryd.func4, Tryd.ntmps4
  have hb0 : Below w.heap.size w (w.alloc (.cells #[.int .i64 D, .int .i64 L, .int .i64 G] 23)) := (Below.refl _ _).alloc (Nat.le_refl _) _
  have hd0 := hd.mono hb0
  go_wp2_with fail
  refine (weight_any vd Dt _ hd0).mono ?_
  rintro e wa ⟨r, rfl, hrr, rfl⟩
  by_cases hbig : (100000 : Int) < (r : Int)
  · clear hrr
    go_wp2
    go_ret
    exact ⟨rfl, hb0⟩
  clear hrr
  go_wp2_with fail
  refine (roomies_any vd Dt _ hd0 HW.out).mono ?_
  rintro e w1 ⟨vr, T, rfl, hT, hRoom, hb1⟩
  rw [nblk_alloc] at hT hb1
  have hs1 := hb1.size
  rw [nblk_alloc] at hs1
  obtain ⟨p0, p1, p2⟩ := box_cells hb1
  have hrd := hT.rd hRoom hDl
  have HRM := hide hRoom
  clear hRoom
  go_wp2_with fail
  refine (sencode_fit D L G hr hD1 hD hL hL4 hG hdiv vr Dt _ hrd HLN.out HFT.out).mono ?_
  rintro e w2 ⟨vs, S, rfl, hS, hHS, hb2⟩
  have hs2 := hb2.size
  have hT2 := hT.below hb2
  have hap := apart_of hT hS (Nat.le_refl _)
  have HAP : Hid (Apart S T) := fun p hp q hq e => hap q hq p hp e.symm
  have HHS := hide hHS
  clear hT hap hrd hHS p0 p1 p2
  go_wp2_with fail
  refine (tell_nil _).mono ?_
  rintro e w3 ⟨rfl, hb3⟩
  have hs3 := hb3.size
  have hS3 := hS.below hb3
  have hT3 := hT2.below hb3
  have hb13 := hb1.trans ((hb2.mono hs1).trans (hb3.mono (by omega)))
  have hbw3 : Below w.heap.size w w3 := hb0.trans (hb13.mono (by omega))
  clear hS hT2 hb2 hb3 hb1
  go_wp2_with fail
  refine (allStill_any vr vd T Dt (w.heap.size + 1) w w3 hT3 HRM.out hd (by omega) hbw3 (by omega) HW.out).mono ?_
  rintro e w4 ⟨rfl, hon⟩
  have hs4 := hon.size
  have hS4 := hS3.only hT3 HAP.out hon
  have hb34 := hon.below (fun p hp => (hT3.row p hp).1) (by omega)
  have hb14 := hb13.trans hb34
  have hbw4 : Below w.heap.size w w4 := hb0.trans (hb14.mono (by omega))
  obtain ⟨p0, p1, p2⟩ := box_cells hb14
  clear hS3 hT3 hb13 hb34 hon hbw3
  go_wp2_with fail
  refine (theirs_any D L G _).mono ?_
  rintro e w5 ⟨rfl, hb5⟩
  have hs5 := hb5.size
  have hS5 := hS4.below hb5
  have hbw5 := hbw4.trans (hb5.mono (by omega))
  clear hS4 hb5 p0 p1 p2 hb14 hbw4
  go_wp2_with fail
  have hbw6 : Below w.heap.size w (w5.alloc (.cells #[.int .i64 D, .int .i64 L, .int .i64 G] 31)) := hbw5.alloc (by omega) _
  refine (rencode_fit D L G hr hD1 hD hL hL4 hG hdiv vd Dt _ (hd.mono hbw6) HLN.out HFT.out).mono ?_
  rintro e w6 ⟨vx, X, rfl, hX, hHX, hb6⟩
  rw [nblk_alloc] at hX hb6
  have hs6 := hb6.size
  rw [nblk_alloc] at hs6
  have hS6 := (hS5.alloc (.cells #[.int .i64 D, .int .i64 L, .int .i64 G] 31)).below (by rw [nblk_alloc]; exact hb6)
  have hal := holds_alikes HHS.out hHX
  have hap2 := apart_of hS5 hX (by omega)
  have hbw7 := hbw6.trans (hb6.mono (by omega))
  have HALL := hide (And.intro hal hap2)
  clear hS5 hb6 hHX hal hap2 hbw5 hbw6
  go_wp2_with fail
  refine (sameAll_eq vs vx S X w.heap.size _ _ w6 hS6 hX (by omega) (by omega) HALL.out.1 HALL.out.2).mono ?_
  rintro e w7 ⟨rfl, hb7⟩
  go_wp2_with (go_at_call 15; refine (num_any _ _).mono ?_; rintro e w' ⟨rfl, rfl⟩)
  go_ret
  exact ⟨rfl, hbw7.trans hb7⟩
set_option maxRecDepth 100000 in
set_option maxHeartbeats 4000000 in
theorem encodes_err (D L G x : Int) (vd : Value) (Dt : List (List Nat)) (w : World) (hd : Rd w vd Dt) (hwt : wgt Dt Dt.length ≤ 100000) (he : errOf D L G Dt x) (hg : globalLaid w) :
    Calls Tryd.prog 4 #[.agg #[.int .i64 D, .int .i64 L, .int .i64 G], vd] w fun e w' => e = .returned (.bool true) ∧ Below w.heap.size w w' := by
  have HW := hide hwt
  have HE := hide he
  have hDl : Dt.length ≤ 100000 := Nat.le_trans (wgt_le Dt Dt.length) hwt
  have hlt0 : 0 < w.heap.size := block_lt_of_cell hg
  have hx0 : (x == 0) = false := by
    rw [beq_eq_false_iff_ne]
    rcases he with ⟨_, rfl⟩ | ⟨_, _, rfl⟩ <;> decide
  have hxx : (x == x) = true := by simp
  have heq := fun wx => Lib.run_eql_slice_nil (P := Tryd.prog) wx 24 44 none 0 0 0 0 Tryd.underlying24
  clear hwt he
  go_enter Tryd.func4, Tryd.ntmps4
  have hb0 : Below w.heap.size w (w.alloc (.cells #[.int .i64 D, .int .i64 L, .int .i64 G] 23)) := (Below.refl _ _).alloc (Nat.le_refl _) _
  have hd0 := hd.mono hb0
  go_wp2_with fail
  refine (weight_any vd Dt _ hd0).mono ?_
  rintro e wa ⟨r, rfl, hrr, rfl⟩
  by_cases hbig : (100000 : Int) < (r : Int)
  · clear hrr
    go_wp2
    go_ret
    exact ⟨rfl, hb0⟩
  clear hrr
  go_wp2_with fail
  refine (roomies_any vd Dt _ hd0 HW.out).mono ?_
  rintro e w1 ⟨vr, T, rfl, hT, hRoom, hb1⟩
  rw [nblk_alloc] at hT hb1
  have hs1 := hb1.size
  rw [nblk_alloc] at hs1
  obtain ⟨p0, p1, p2⟩ := box_cells hb1
  have hrd := hT.rd hRoom hDl
  have HRM := hide hRoom
  clear hRoom
  go_wp2_with fail
  refine (sencode_err D L G x vr Dt _ hrd HE.out).mono ?_
  rintro e w2 ⟨rfl, hb2⟩
  have hs2 := hb2.size
  have hT2 := hT.below hb2
  have hb12 := hb1.trans (hb2.mono hs1)
  have hbw2 : Below w.heap.size w w2 := hb0.trans (hb12.mono (by omega))
  have hg2 : globalLaid w2 := by
    unfold globalLaid at *
    rw [hbw2.cell hlt0]; exact hg
  clear hT hrd p0 p1 p2 hb1 hb2
  go_wp2_with fail
  refine (tell_errno x _ hg2).mono ?_
  rintro e w3 ⟨rfl, hb3⟩
  have hs3 := hb3.size
  have hT3 := hT2.below hb3
  have hb13 := hb12.trans (hb3.mono (by omega))
  have hbw3 : Below w.heap.size w w3 := hb0.trans (hb13.mono (by omega))
  clear hT2 hb3 hg2 hb12 hbw2
  go_wp2_with fail
  refine (allStill_any vr vd T Dt (w.heap.size + 1) w w3 hT3 HRM.out hd (by omega) hbw3 (by omega) HW.out).mono ?_
  rintro e w4 ⟨rfl, hon⟩
  have hs4 := hon.size
  have hb34 := hon.below (fun p hp => (hT3.row p hp).1) (by omega)
  have hb14 := hb13.trans hb34
  have hbw4 : Below w.heap.size w w4 := hb0.trans (hb14.mono (by omega))
  obtain ⟨p0, p1, p2⟩ := box_cells hb14
  clear hT3 hb13 hb34 hon hbw3
  go_wp2_with fail
  refine (theirs_any D L G _).mono ?_
  rintro e w5 ⟨rfl, hb5⟩
  have hs5 := hb5.size
  have hbw5 := hbw4.trans (hb5.mono (by omega))
  clear hb5 p0 p1 p2 hb14 hbw4
  go_wp2_with fail
  have hbw6 : Below w.heap.size w (w5.alloc (.cells #[.int .i64 D, .int .i64 L, .int .i64 G] 31)) := hbw5.alloc (by omega) _
  refine (rencode_err D L G x vd Dt _ (hd.mono hbw6) HE.out).mono ?_
  rintro e w6 ⟨rfl, hb6⟩
  rw [nblk_alloc] at hb6
  have hs6 := hb6.size
  rw [nblk_alloc] at hs6
  have hbw7 := hbw6.trans (hb6.mono (by omega))
  clear hb6 hbw5 hbw6
  go_wp2_with fail
  refine (sameAll_eq _ _ [] [] w.heap.size w.heap.size w.heap.size w6 (Tab.nil _ _) (Tab.nil _ _) (by omega) (by omega) rfl (fun p hp => by simp at hp)).mono ?_
  rintro e w7 ⟨rfl, hb7⟩
  go_wp2_with (go_at_call 15; refine (num_any _ _).mono ?_; rintro e w' ⟨rfl, rfl⟩)
  go_ret
  exact ⟨rfl, hbw7.trans hb7⟩
theorem encodes_any (D L G : Int) (vd : Value) (Dt : List (List Nat)) (w : World) (hd : Rd w vd Dt) (hg : globalLaid w) :
    Calls Tryd.prog 4 #[.agg #[.int .i64 D, .int .i64 L, .int .i64 G], vd] w fun e w' => e = .returned (.bool true) ∧ Below w.heap.size w w' := by
  by_cases hwt : wgt Dt Dt.length ≤ 100000
  · cases hr : rightB D L G with
    | false => exact encodes_err D L G 1 vd Dt w hd hwt (.inl ⟨hr, rfl⟩) hg
    | true =>
      by_cases hf : ((Dt.length : Nat) : Int) = D ∧ Fit Dt
      · obtain ⟨d, l, g, rfl, rfl, rfl, q1, q2, q3, q4, q5, q6, q7⟩ := right_nat hr
        exact encodes_fit d l g hr q1 q2 q3 q4 q5 q6 vd Dt w hd hwt (by have := hf.1; omega) hf.2
      · exact encodes_err D L G 2 vd Dt w hd hwt (.inr ⟨hr, hf, rfl⟩) hg
  · exact encodes_big D L G vd Dt w hd hwt
end Go.Proofs.YthhommjlomphdaaDoor
