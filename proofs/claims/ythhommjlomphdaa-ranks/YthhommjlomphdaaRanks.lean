/-
  The law on Rank: its walk.
-/
import Derived.Test.YthhommjlomphdaaRankTop
namespace Go.Proofs.Ythhommjlomphdaa
open Go.RowKit Go.Deep Gf

theorem Rd.lt256 {w : World} {v : Value} {D : List (List Nat)} (h : Rd w v D) : ∀ l ∈ D, ∀ x ∈ l, x < 256 := by
  rcases h.cases with ⟨rfl, _⟩ | ⟨b, off, c, rfl, _, hc⟩
  · intro l hl; simp at hl
  · intro l hl
    obtain ⟨i, hi, rfl⟩ := List.mem_iff_getElem.1 hl
    obtain ⟨u, _, hu⟩ := hc i hi
    exact hu.lt
set_option maxRecDepth 100000 in
set_option maxHeartbeats 1000000 in
theorem srank_any (vd : Value) (D : List (List Nat)) (w : World) (hd : Rd w vd D) :
    Calls Try.prog 14 #[vd] w fun e w' => RkPost D w e w' := by
  have HD := hide hd
  clear hd
  by_cases hf : FitG D
  · have HF := hide hf
    clear hf
    go_enter Try.func14, Try.ntmps14
    go_wp2_with (go_at_call 25; refine (rank_any _ D _ HD.out HD.out.lt256).mono ?_; rintro e w1 ⟨h1, _, h3⟩; obtain ⟨k, hk, rfl, hr⟩ := h1 HF.out; clear h1; have HR := hide hr; clear hr)
    go_ret
    exact ⟨fun _ => ⟨k, hk, rfl, HR.out⟩, fun h => absurd HF.out h, h3⟩
  · have HF := hide hf
    clear hf
    go_enter Try.func14, Try.ntmps14
    go_wp2_with (go_at_call 25; refine (rank_any _ D _ HD.out HD.out.lt256).mono ?_; rintro e w1 ⟨_, h2, h3⟩; obtain rfl := h2 HF.out; clear h2)
    go_ret
    exact ⟨fun h => absurd h HF.out, fun _ => rfl, h3⟩
set_option maxRecDepth 100000 in
set_option maxHeartbeats 4000000 in
theorem ranks_big (vd : Value) (D : List (List Nat)) (w : World) (hd : Rd w vd D) (hbig : ¬ wgt D D.length ≤ 100000) :
    Calls Try.prog 5 #[vd] w fun e w' => e = .returned (.bool true) ∧ Below w.heap.size w w' := by
  go_enter Try.func5, Try.ntmps5
  go_wp2_with fail
  refine (weight_any vd D _ hd).mono ?_
  rintro e wa ⟨r, rfl, hr, rfl⟩
  have hr2 : (100000 : Int) < (r : Int) := by
    have : ¬ r ≤ 100000 := fun h => hbig (hr h)
    omega
  clear hr hbig
  go_wp2
  go_ret
  exact ⟨rfl, Below.refl _ _⟩
/-- two answers that are the same -/
def SameRk (D : List (List Nat)) (x : Int) : Prop := (FitG D → ∃ k : Nat, k ≤ 64 ∧ x = k ∧ RankIs D k) ∧ (¬ FitG D → x = -1)
theorem rk_int {D : List (List Nat)} {w w' : World} {e : Ending} (h : RkPost D w e w') : ∃ x : Int, e = .returned (.int .i64 x) ∧ SameRk D x ∧ Below w.heap.size w w' := by
  obtain ⟨h1, h2, h3⟩ := h
  by_cases hf : FitG D
  · obtain ⟨k, hk, rfl, hr⟩ := h1 hf
    exact ⟨_, rfl, ⟨fun _ => ⟨k, hk, rfl, hr⟩, fun h => absurd hf h⟩, h3⟩
  · exact ⟨_, h2 hf, ⟨fun h => absurd h hf, fun _ => rfl⟩, h3⟩
theorem SameRk.eq {D : List (List Nat)} {x y : Int} (hb : ∀ l ∈ D, ∀ x ∈ l, x < 256) (h : SameRk D x) (h' : SameRk D y) : x = y := by
  by_cases hf : FitG D
  · obtain ⟨k, _, rfl, hr⟩ := h.1 hf
    obtain ⟨k', _, rfl, hr'⟩ := h'.1 hf
    rw [hr.unique hb hr']
  · rw [h.2 hf, h'.2 hf]
set_option maxRecDepth 100000 in
set_option maxHeartbeats 4000000 in
theorem ranks_fit (vd : Value) (D : List (List Nat)) (w : World) (hd : Rd w vd D) (hwt : wgt D D.length ≤ 100000) :
    Calls Try.prog 5 #[vd] w fun e w' => e = .returned (.bool true) ∧ Below w.heap.size w w' := by
  have HW := hide hwt
  have hDl : D.length ≤ 100000 := Nat.le_trans (wgt_le D D.length) hwt
  clear hwt
  go_enter Try.func5, Try.ntmps5
  go_wp2_with fail
  refine (weight_any vd D _ hd).mono ?_
  rintro e wa ⟨r, rfl, hrr, rfl⟩
  by_cases hbig : (100000 : Int) < (r : Int)
  · clear hrr
    go_wp2
    go_ret
    exact ⟨rfl, Below.refl _ _⟩
  clear hrr
  go_wp2_with fail
  refine (roomies_any vd D _ hd HW.out).mono ?_
  rintro e w1 ⟨vr, T, rfl, hT, hRoom, hb1⟩
  have hs1 := hb1.size
  have hrd := hT.rd hRoom hDl
  have HRM := hide hRoom
  clear hRoom
  go_wp2_with fail
  refine (srank_any vr D _ hrd).mono ?_
  intro e w2 hp
  obtain ⟨x, rfl, hx, hb2⟩ := rk_int hp
  have HX := hide hx
  have hs2 := hb2.size
  have hT2 := hT.below hb2
  have hbw2 := hb1.trans (hb2.mono hs1)
  clear hT hrd hb2 hb1 hx hp
  go_wp2_with fail
  refine (allStill_any vr vd T D wa.heap.size wa w2 hT2 HRM.out hd (Nat.le_refl _) hbw2 (by omega) HW.out).mono ?_
  rintro e w3 ⟨rfl, hon⟩
  have hs3 := hon.size
  have hb23 := hon.below (fun p hp => (hT2.row p hp).1) (by omega)
  have hbw3 := hbw2.trans hb23
  clear hT2 hb23 hon hbw2
  go_wp2_with fail
  refine (rrank_any vd D _ (hd.mono hbw3)).mono ?_
  intro e w4 hp
  obtain ⟨y, rfl, hy, hb4⟩ := rk_int hp
  obtain rfl := HX.out.eq hd.lt256 hy
  have hbw4 := hbw3.trans (hb4.mono (by omega))
  have hxx : (x == x) = true := by simp
  clear hp hb4 hy hbw3
  go_wp2
  go_ret
  exact ⟨rfl, hbw4⟩
theorem ranks_any (vd : Value) (D : List (List Nat)) (w : World) (hd : Rd w vd D) :
    Calls Try.prog 5 #[vd] w fun e w' => e = .returned (.bool true) ∧ Below w.heap.size w w' := by
  by_cases hwt : wgt D D.length ≤ 100000
  · exact ranks_fit vd D w hd hwt
  · exact ranks_big vd D w hd hwt
end Go.Proofs.Ythhommjlomphdaa
