/-
  The law on Matrix: its walk.
-/
import Derived.Test.YthhommjlomphdaaDoorRefMatrix
import Derived.Test.YthhommjlomphdaaDoorSameAll
import Derived.Test.YthhommjlomphdaaDoorLaid
import Derived.Lib.SliceRun
namespace Go.Proofs.YthhommjlomphdaaDoor
open Go.RowKit Go.Deep Gf

set_option maxRecDepth 100000 in
set_option maxHeartbeats 4000000 in
theorem smatrix_right (D L G : Nat) (hr : rightB D L G = true) (hD : D ≤ 12) (hL : 1 ≤ L) (hL4 : L ≤ 4) (hG : G ≤ 4) (hdiv : D % L = 0) (w : World) :
    Calls Tryd.prog 10 #[.agg #[.int .i64 D, .int .i64 L, .int .i64 G]] w fun e w' => ∃ v T, e = .returned (.tuple #[v, .nilIface]) ∧ Tab w' (w.heap.size + 1) v T ∧ Holds T D (matL D L G) ∧ Below w.heap.size w w' := by
  go_enter Tryd.func10, Tryd.ntmps10
  go_wp2_with fail
  refine (matrix_right D L G hr hD hL hL4 hG hdiv _).mono ?_
  rintro e wa ⟨v, T, rfl, hT, hH, hb⟩
  rw [nblk_alloc] at hT hb
  go_wp2
  go_ret2
  exact ⟨_, T, rfl, hT.weaken (by omega), hH, ((Below.refl _ _).alloc (Nat.le_refl _) _).trans (hb.mono (by omega))⟩
set_option maxRecDepth 100000 in
set_option maxHeartbeats 4000000 in
theorem smatrix_wrong (D L G : Int) (hr : rightB D L G = false) (w : World) :
    Calls Tryd.prog 10 #[.agg #[.int .i64 D, .int .i64 L, .int .i64 G]] w fun e w' => e = .returned (.tuple #[.slice none 0 0, .iface 29 (.int .i64 1)]) ∧ Below w.heap.size w w' := by
  go_enter Tryd.func10, Tryd.ntmps10
  go_wp2_with fail
  refine (matrix_wrong D L G hr _).mono ?_
  rintro e wa ⟨rfl, hb⟩
  rw [nblk_alloc] at hb
  go_wp2
  go_ret2
  exact ⟨rfl, ((Below.refl _ _).alloc (Nat.le_refl _) _).trans (hb.mono (by omega))⟩

theorem holds_alikes {S T : List (Nat × Nat × List Nat)} {D : Nat} {M : List (List Nat)} (h : Holds S D M) (k : Holds T D M) : Alikes S T := by
  have e := h.trans k.symm
  unfold Alikes
  have := congrArg (List.map (fun q : Nat × List Nat => q.2.take q.1)) e
  simpa [List.map_map, Function.comp_def] using this
theorem apart_of {w w' : World} {b1 b2 : Nat} {v v' : Value} {S T : List (Nat × Nat × List Nat)} (h : Tab w b1 v S) (k : Tab w' b2 v' T) (hb : w.heap.size ≤ b2) : Apart S T := by
  intro p hp q hq e
  have h1 := (h.row p hp).2.1.lt
  have h2 := (k.row q hq).1
  omega
theorem right_nat {D L G : Int} (h : rightB D L G = true) : ∃ d l g : Nat, D = (d : Int) ∧ L = (l : Int) ∧ G = (g : Int) ∧ 1 ≤ d ∧ d ≤ 12 ∧ 1 ≤ l ∧ l ≤ 4 ∧ g ≤ 4 ∧ d % l = 0 ∧ d + l + g ≤ 16 := by
  unfold rightB at h
  have h := of_decide_eq_true h
  obtain ⟨h1, h2, h3, h4, h5, h6, h7, h8⟩ := h
  refine ⟨D.toNat, L.toNat, G.toNat, by omega, by omega, by omega, by omega, by omega, by omega, by omega, by omega, ?_, by omega⟩
  have : ((D.toNat % L.toNat : Nat) : Int) = 0 := by
    rw [Int.natCast_emod, Int.toNat_of_nonneg (by omega), Int.toNat_of_nonneg (by omega)]; exact h7
  omega
set_option maxRecDepth 100000 in
set_option maxHeartbeats 4000000 in
theorem matrices_right (D L G : Nat) (hr : rightB D L G = true) (hD : D ≤ 12) (hL : 1 ≤ L) (hL4 : L ≤ 4) (hG : G ≤ 4) (hdiv : D % L = 0) (w : World) :
    Calls Tryd.prog 3 #[.agg #[.int .i64 D, .int .i64 L, .int .i64 G]] w fun e w' => e = .returned (.bool true) ∧ Below w.heap.size w w' := by
  go_enter Tryd.func3, Tryd.ntmps3
  go_wp2_with fail
  refine (smatrix_right D L G hr hD hL hL4 hG hdiv _).mono ?_
  rintro e wa ⟨v, T, rfl, hT, hH, hba⟩
  rw [nblk_alloc] at hT hba
  have hsa := hba.size
  rw [nblk_alloc] at hsa
  go_wp2_with fail
  refine (tell_nil _).mono ?_
  rintro e wb ⟨rfl, hbb⟩
  have hsb := hbb.size
  have hbab := hba.trans (hbb.mono hsa)
  obtain ⟨p0, p1, p2⟩ := box_cells hbab
  have hT1 := hT.below hbb
  clear hT
  go_wp2_with fail
  refine (theirs_any D L G _).mono ?_
  rintro e wc ⟨rfl, hbc⟩
  have hsc := hbc.size
  have hT2 := hT1.below hbc
  clear hT1 p0 p1 p2
  go_wp2_with fail
  refine (rmatrix_right D L G hr hD hL hL4 hG hdiv _).mono ?_
  rintro e wd ⟨x, T', rfl, hTx, hHx, hbd⟩
  rw [nblk_alloc] at hTx hbd
  have hsd := hbd.size
  rw [nblk_alloc] at hsd
  have hT3 := (hT2.alloc (.cells #[.int .i64 D, .int .i64 L, .int .i64 G] 31)).below (by rw [nblk_alloc]; exact hbd)
  have hal := holds_alikes hH hHx
  have hap := apart_of hT2 hTx (by omega)
  have hbW : Below w.heap.size w wd := ((((Below.refl _ _).alloc (Nat.le_refl _) _).trans (hbab.mono (by omega))).trans (hbc.mono (by omega))).trans (((Below.refl _ _).alloc (by omega) _).trans (hbd.mono (by omega)))
  have HALL := hide (And.intro hal hap)
  clear hT2 hba hbb hbc hbd hbab hH hHx hal hap
  go_wp2_with fail
  refine (sameAll_eq v x T T' w.heap.size _ _ wd hT3 hTx (by omega) (by omega) HALL.out.1 HALL.out.2).mono ?_
  rintro e we ⟨rfl, hbe⟩
  go_wp2_with (go_at_call 15; refine (num_any _ _).mono ?_; rintro e w' ⟨rfl, rfl⟩)
  go_ret
  exact ⟨rfl, hbW.trans hbe⟩
set_option maxRecDepth 100000 in
set_option maxHeartbeats 4000000 in
theorem matrices_wrong (D L G : Int) (hr : rightB D L G = false) (w : World) (hg : globalLaid w) :
    Calls Tryd.prog 3 #[.agg #[.int .i64 D, .int .i64 L, .int .i64 G]] w fun e w' => e = .returned (.bool true) ∧ Below w.heap.size w w' := by
  have hlt : 0 < w.heap.size := block_lt_of_cell hg
  have heq := fun wx => Lib.run_eql_slice_nil (P := Tryd.prog) wx 24 44 none 0 0 0 0 Tryd.underlying24
  go_enter Tryd.func3, Tryd.ntmps3
  go_wp2_with fail
  refine (smatrix_wrong D L G hr _).mono ?_
  rintro e wa ⟨rfl, hba⟩
  rw [nblk_alloc] at hba
  have hsa := hba.size
  rw [nblk_alloc] at hsa
  have hga : globalLaid wa := by
    unfold globalLaid at *
    rw [hba.cell (by simp), World.cell?_alloc_lt _ _ _ hlt]; exact hg
  go_wp2_with fail
  refine (tell_errno 1 _ hga).mono ?_
  rintro e wb ⟨rfl, hbb⟩
  have hsb := hbb.size
  have hbab := hba.trans (hbb.mono hsa)
  obtain ⟨p0, p1, p2⟩ := box_cells hbab
  go_wp2_with fail
  refine (theirs_any D L G _).mono ?_
  rintro e wc ⟨rfl, hbc⟩
  have hsc := hbc.size
  clear p0 p1 p2
  go_wp2_with fail
  refine (rmatrix_wrong D L G hr _).mono ?_
  rintro e wd ⟨rfl, hbd⟩
  rw [nblk_alloc] at hbd
  have hsd := hbd.size
  rw [nblk_alloc] at hsd
  have hbW : Below w.heap.size w wd := ((((Below.refl _ _).alloc (Nat.le_refl _) _).trans (hbab.mono (by omega))).trans (hbc.mono (by omega))).trans (((Below.refl _ _).alloc (by omega) _).trans (hbd.mono (by omega)))
  clear hba hbb hbc hbd hbab hga
  go_wp2_with fail
  refine (sameAll_eq _ _ [] [] w.heap.size w.heap.size w.heap.size wd (Tab.nil _ _) (Tab.nil _ _) (by omega) (by omega) rfl (fun p hp => by simp at hp)).mono ?_
  rintro e we ⟨rfl, hbe⟩
  go_wp2_with (go_at_call 15; refine (num_any _ _).mono ?_; rintro e w' ⟨rfl, rfl⟩)
  go_ret
  exact ⟨rfl, hbW.trans hbe⟩
theorem matrices_any (D L G : Int) (w : World) (hg : globalLaid w) :
    Calls Tryd.prog 3 #[.agg #[.int .i64 D, .int .i64 L, .int .i64 G]] w fun e w' => e = .returned (.bool true) ∧ Below w.heap.size w w' := by
  cases hr : rightB D L G with
  | false => exact matrices_wrong D L G hr w hg
  | true =>
    obtain ⟨d, l, g, rfl, rfl, rfl, h1, h2, h3, h4, h5, h6, h7⟩ := right_nat hr
    exact matrices_right d l g hr h2 h3 h4 h5 h6 w
end Go.Proofs.YthhommjlomphdaaDoor
