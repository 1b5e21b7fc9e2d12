/-
  Decodable: the program's, and the document's.
-/
import Derived.Test.YthhommjlomphdaaKept
import Derived.Test.YthhommjlomphdaaRankTop
import Derived.Test.YthhommjlomphdaaRefMatrix
import Derived.Deep.RegionHeld
namespace Go.Proofs.Ythhommjlomphdaa
open Go.RowKit Go.Deep Gf

theorem Tab.rdH {w : World} {B D : Nat} {v : Value} {T : List (Nat × Nat × List Nat)} {M : List (List Nat)} (h : Tab w B v T) (hH : Holds T D M) (hD : ∀ r ∈ M, r.length = D) (hl : M.length ≤ 100000) : Rd w v M := by
  have hlen : T.length = M.length := by simpa using congrArg List.length hH
  obtain ⟨ao, cap, rfl, hao⟩ := h.slice
  refine ⟨ao, cap, by rw [hlen], by omega, fun hM => ?_⟩
  obtain ⟨g, rfl⟩ := hao (by intro e; rw [e] at hlen; exact hM (List.eq_nil_of_length_eq_zero hlen.symm))
  refine ⟨g, 0, rfl, fun i hi => ?_⟩
  have hiT : i < T.length := by omega
  refine ⟨hdr T[i], by rw [Nat.zero_add]; exact h.cell_at hiT, ?_⟩
  have := h.row_at hiT
  have hat : T[i].2 = (D, M[i]) := by
    have := congrArg (fun l => l[i]?) hH
    simpa [hiT, hi] using this
  rw [hat] at this
  have e : (M[i]).take D = M[i] := by rw [← hD _ (List.getElem_mem hi), List.take_length]
  rw [e] at this
  exact this
theorem Rd.byte {w : World} {v : Value} {D : List (List Nat)} (h : Rd w v D) : ∀ l ∈ D, ∀ x ∈ l, x < 256 := by
  rcases h.cases with ⟨rfl, _⟩ | ⟨b, off, c, rfl, _, hc⟩
  · intro l hl; simp at hl
  · intro l hl
    obtain ⟨i, hi, rfl⟩ := List.mem_iff_getElem.1 hl
    obtain ⟨u, _, hu⟩ := hc i hi
    exact hu.lt
theorem mat_len (D L G : Nat) : (matL D L G).length = D + L + G := by simp [matL]; omega
theorem mat_row (D L G : Nat) : ∀ r ∈ matL D L G, r.length = D := by
  intro r hr
  simp only [matL, List.mem_append, List.mem_map, List.mem_range] at hr
  rcases hr with (⟨i, _, rfl⟩ | ⟨i, _, rfl⟩) | ⟨i, _, rfl⟩
  · simp [dataL]
  · simp [localL]
  · simp [globalL]
theorem mat_byte (D L G : Nat) (hD : D ≤ 12) (hG : G ≤ 4) : ∀ r ∈ matL D L G, ∀ x ∈ r, x < 256 := by
  intro r hr x hx
  simp only [matL, List.mem_append, List.mem_map, List.mem_range] at hr
  rcases hr with (⟨i, _, rfl⟩ | ⟨i, _, rfl⟩) | ⟨i, hi, rfl⟩
  · rcases List.mem_or_eq_of_mem_set hx with h | h
    · have := List.eq_of_mem_replicate h; omega
    · omega
  · simp only [localL, List.mem_map] at hx
    obtain ⟨j, _, rfl⟩ := hx
    split <;> decide
  · simp only [globalL, List.mem_map, List.mem_range] at hx
    obtain ⟨j, hj, rfl⟩ := hx
    exact gi_lt (xlt (by omega) (by omega))
/-- that all data are told -/
def Told (D L G lost : Nat) : Prop := Full (Rem (keepTo (matL D L G) lost (D + L + G)) 0) 0 D
theorem told_iff {D L G lost k : Nat} (hD : D ≤ 12) (hG : G ≤ 4) (h : RankIs (keepTo (matL D L G) lost (D + L + G)) k) : k = D ↔ Told D L G lost := by
  have hm := keep_mem (matL D L G) lost (D + L + G) (by rw [mat_len]; omega)
  exact rank_full (fun l hl => mat_byte D L G hD hG l (hm l hl)) (fun l hl => by rw [mat_row D L G l (hm l hl)]; omega) (by omega) h
theorem keep_fit (D L G lost : Nat) (hD : D ≤ 12) (hL : L ≤ 4) (hG : G ≤ 4) : FitG (keepTo (matL D L G) lost (D + L + G)) := by
  refine ⟨Nat.le_trans (keep_len _ _ _) (by omega), fun i hi => ?_⟩
  rw [mat_row D L G _ (keep_mem (matL D L G) lost (D + L + G) (by rw [mat_len]; omega) _ (List.getElem_mem hi))]
  omega
def DcPost (D L G lost : Nat) (w : World) (e : Ending) (w' : World) : Prop := ∃ b : Bool, e = .returned (.bool b) ∧ (b = true ↔ Told D L G lost) ∧ Below w.heap.size w w'
set_option maxRecDepth 100000 in
set_option maxHeartbeats 4000000 in
theorem decodable_right (D L G lost : Nat) (hr : rightB D L G = true) (hD : D ≤ 12) (hL : 1 ≤ L) (hL4 : L ≤ 4) (hG : G ≤ 4) (hdiv : D % L = 0) (hl : lost < 18446744073709551616) (w : World) :
    Calls Try.prog 27 #[.agg #[.int .i64 D, .int .i64 L, .int .i64 G], .int .u64 lost] w fun e w' => DcPost D L G lost w e w' := by
  go_enter Try.func27, Try.ntmps27
  go_wp2_with fail
  refine (matrix_right D L G hr hD hL hL4 hG hdiv _).mono ?_
  rintro e w1 ⟨v, T, rfl, hT, hH, hb1⟩
  rw [nblk_alloc] at hT hb1
  have hs1 := hb1.size
  rw [nblk_alloc] at hs1
  obtain ⟨p0, p1, p2⟩ := box_cells hb1
  have hrd := hT.rdH hH (mat_row D L G) (by rw [mat_len]; omega)
  have hbw1 : Below w.heap.size w w1 := ((Below.refl _ _).alloc (Nat.le_refl _) _).trans (hb1.mono (by omega))
  have HRD := hide hrd
  have HBW := hide hbw1
  clear hT hH hb1 p1 p2 hrd hbw1
  go_wp2
  go_region_held (fun w' => w'.cell? ⟨w.heap.size, 0, none⟩ = some (.int .i64 (D : Nat))) (first | assumption | exact p0)
    (first
      | (go_at_call 36; refine (kept_any _ (matL D L G) lost _ (show Rd w1.drew _ _ from HRD.out) hl (by rw [mat_len]; omega)).mono ?_; rintro e w2 ⟨v2, rfl, hRl⟩; rw [mat_len] at hRl
         have p02 : w2.cell? ⟨w.heap.size, 0, none⟩ = some (.int .i64 (D : Nat)) := by rw [hRl.choose_spec.2.2.2.cell (block_lt_of_cell p0)]; exact p0
         have HRL := hide hRl
         clear hRl)
      | (go_at_call 25; refine (rank_any _ _ _ (HRL.out.rd (Nat.le_trans (keep_len _ _ _) (by omega))) (HRL.out.rd (Nat.le_trans (keep_len _ _ _) (by omega))).byte).mono ?_
         rintro e w3 ⟨h1, _, hb3⟩; obtain ⟨k, hk, rfl, hrk⟩ := h1 (keep_fit D L G lost hD hL4 hG)
         have p03 : w3.cell? ⟨w.heap.size, 0, none⟩ = some (.int .i64 (D : Nat)) := by rw [hb3.cell (block_lt_of_cell p02)]; exact p02
         have HRK := hide hrk
         have HB3 := hide hb3
         clear h1 hrk hb3))
  go_wp2
  go_ret
  have hb2 := HRL.out.choose_spec.2.2.2
  have hb3 := HB3.out
  have hs2 := hb2.size
  change w1.heap.size ≤ _ at hs2
  have hb12 : Below w.heap.size w w2 := HBW.out.trans ((show Below w1.heap.size w1 w2 from ⟨hb2.os, hb2.tape, hb2.output, hb2.size, hb2.block⟩).mono (by omega))
  refine ⟨((k : Int) == (D : Int)), rfl, ?_, hb12.trans (hb3.mono (by omega))⟩
  rw [← told_iff hD hG HRK.out]
  simp
  omega
set_option maxRecDepth 100000 in
set_option maxHeartbeats 4000000 in
theorem decodable_wrong (D L G : Int) (lost : Nat) (hr : rightB D L G = false) (w : World) :
    Calls Try.prog 27 #[.agg #[.int .i64 D, .int .i64 L, .int .i64 G], .int .u64 lost] w fun e w' => e = .returned (.bool false) ∧ Below w.heap.size w w' := by
  go_enter Try.func27, Try.ntmps27
  go_wp2_with fail
  refine (matrix_wrong D L G hr _).mono ?_
  rintro e w1 ⟨rfl, hb1⟩
  rw [nblk_alloc] at hb1
  obtain ⟨p0, p1, p2⟩ := box_cells hb1
  have hbw1 : Below w.heap.size w w1 := ((Below.refl _ _).alloc (Nat.le_refl _) _).trans (hb1.mono (by omega))
  go_wp2
  go_quiet (fail)
  go_wp2
  go_ret
  exact ⟨rfl, ⟨hbw1.os, hbw1.tape, hbw1.output, hbw1.size, hbw1.block⟩⟩
/-! ### The document's -/
set_option maxRecDepth 100000 in
theorem has_any (lost k : Nat) (hl : lost < 18446744073709551616) (hk : k ≤ 64) (w : World) :
    Calls Try.prog 29 #[.int .u64 lost, .int .i64 k] w fun e w' => e = .returned (.bool (((lost / 2 ^ k % 2 : Nat) : Int) == 1)) ∧ w' = w := by
  have hbit := bit_u64 lost k hl
  go_enter Try.func29, Try.ntmps29
  go_wp2
  go_ret
  exact ⟨rfl, rfl⟩
set_option maxRecDepth 100000 in
set_option maxHeartbeats 4000000 in
theorem rdecodable_right (D L G lost : Nat) (hr : rightB D L G = true) (hD : D ≤ 12) (hL : 1 ≤ L) (hL4 : L ≤ 4) (hG : G ≤ 4) (hdiv : D % L = 0) (hl : lost < 18446744073709551616) (w : World) :
    Calls Try.prog 19 #[.agg #[.int .i64 D, .int .i64 L, .int .i64 G], .int .u64 lost] w fun e w' => DcPost D L G lost w e w' := by
  obtain ⟨i0, hi0, hz0, hz1, hz2⟩ := info_parts Try.infoBytes
  go_enter Try.func19, Try.ntmps19
  go_wp2_with fail
  refine (rmatrix_right D L G hr hD hL hL4 hG hdiv _).mono ?_
  rintro e w1 ⟨v, T, rfl, hT, hH, hb1⟩
  rw [nblk_alloc] at hT hb1
  have hs1 := hb1.size
  rw [nblk_alloc] at hs1
  obtain ⟨p0, p1, p2⟩ := box_cells hb1
  have hrd := hT.rdH hH (mat_row D L G) (by rw [mat_len]; omega)
  have hbw1 : Below w.heap.size w w1 := ((Below.refl _ _).alloc (Nat.le_refl _) _).trans (hb1.mono (by omega))
  have HBW := hide hbw1
  have hml := mat_len D L G
  have hm16 : (matL D L G).length ≤ 64 := by omega
  clear hT hH hb1 p1 p2 hbw1
  have HTI := hide (fun k => told_iff (lost := lost) (L := L) (k := k) hD hG)
  have HFI := hide (keep_fit D L G lost hD hL4 hG)
  rw [← hml] at HTI HFI
  have HML := hide hml
  clear hml hr hdiv
  generalize matL D L G = M at *
  rcases hrd.cases with ⟨rfl, ao, c, rfl⟩ | ⟨b, off, c, rfl, _, hc⟩
  · exfalso
    have := HML.out
    simp at this
    omega
  · clear hrd
    go_wp2
    go_loopw [7, 8] (fun v i wr => KpR w1 M lost v i wr) (fun _ i _ => M.length - (intOf i).toNat)
    case atStart => exact ⟨0, Nat.zero_le _, rfl, Rl.nil _⟩
    case round =>
      rename World => wo
      obtain ⟨k, hk, rfl, hR⟩ := hrel
      have p0o : wo.cell? ⟨w.heap.size, 0, none⟩ = some (.int .i64 (D : Nat)) := by rw [hR.choose_spec.2.2.2.cell (block_lt_of_cell p0)]; exact p0
      by_cases hlt : k < M.length
      · obtain ⟨u, hu, hB⟩ := hc k hlt
        have hu' : wo.cell? ⟨b, off + k, none⟩ = some u := by rw [hR.choose_spec.2.2.2.cell (block_lt_of_cell hu)]; exact hu
        obtain ⟨au, cu, rfl, _⟩ := id hB
        have HK := hide (keep_len M lost k)
        have HC := hide hc
        have HB := hide hB
        have HU := hide hu
        have hget : M.getD k [] = M[k] := by simp [hlt]
        have HGE := hide hget
        clear hc hB hu hget
        by_cases hz : lost / 2 ^ k % 2 = 0
        · have HZ := hide (show (((lost / 2 ^ k % 2 : Nat) : Int) == 1) = false by rw [hz]; rfl)
          have HKI := hide (keep_in M lost k hz)
          clear hz
          obtain ⟨xs, hlen, hX, hown, hbr⟩ := hR
          have HX := hide hX
          have HLN := hide hlen
          have hxl : xs.length ≤ 64 := by rw [hlen]; exact Nat.le_trans HK.out (by omega)
          have hs := hbr.size
          clear hX hlen
          go_wp2_with (first
            | (go_at_call 29; refine (has_any lost k hl (by omega) _).mono ?_; rintro e w' ⟨rfl, hw⟩; have hw2 := hw.symm; clear hw; subst hw2; rw [HZ.out])
            | (at_builtin; refine wpList_append_own _ rfl (.tmp 29) (.tmp 34) 26 rfl w1.heap.size 41 i0 (.slice none 0 0) 1 24 Try.underlying26 hi0 hz0 hz1 hz2 rfl (by decide) _ xs.length xs rfl (ownsRow_below hown ((Below.refl _ _).alloc (Nat.le_refl _) _)) ⟨wo.heap.size, 0, none⟩ 1 1 [.slice au (M[k]).length cu] rfl rfl (one_new _ _ rfl _ _) (by intro q hq; simp at hq; rw [hq]; exact HB.out.one) (by unfold maxLen; omega) (by omega) (by rw [nblk_alloc]; omega) ?_; intro v' w2 hown' hgrow hnn))
          have hR2 := Rl.push HLN.out HX.out hown hbr rfl HB.out hgrow hown'
          rw [← HGE.out, ← HKI.out] at hR2
          clear hown hown' hgrow hnn hbr hu' p0o
          go_wp2
          go_roundw
          case rel => exact ⟨k + 1, by omega, by go_num, hR2⟩
          case measure => simp [intOf]; omega
        · have h1 : lost / 2 ^ k % 2 = 1 := by omega
          have HZ := hide (show (((lost / 2 ^ k % 2 : Nat) : Int) == 1) = true by rw [h1]; rfl)
          have HKO := hide (keep_out M lost k hz)
          clear hz h1
          have HR := hide hR
          clear hR
          go_wp2_with (go_at_call 29; refine (has_any lost k hl (by omega) _).mono ?_; rintro e w' ⟨rfl, hw⟩; have hw2 := hw.symm; clear hw; subst hw2; rw [HZ.out])
          go_roundw
          case rel => exact ⟨k + 1, by omega, by go_num, by rw [HKO.out]; exact HR.out⟩
          case measure => simp [intOf]; omega
      · have hkk : k = M.length := by omega
        rw [hkk] at hR
        have HR := hide hR
        have HR2 := hide (hR.rd (Nat.le_trans (keep_len _ _ _) (by omega)))
        clear hc hR
        go_wp2_with fail
        refine (rrank_any _ _ _ HR2.out).mono ?_
        rintro e w3 ⟨h1, _, hb3⟩
        obtain ⟨j, hj, rfl, hrk⟩ := h1 HFI.out
        have p03 : w3.cell? ⟨w.heap.size, 0, none⟩ = some (.int .i64 (D : Nat)) := by rw [hb3.cell (block_lt_of_cell p0o)]; exact p0o
        have HRK := hide hrk
        have HB3 := hide hb3
        clear h1 hrk hb3
        go_wp2
        go_ret
        have hb2 := HR.out.choose_spec.2.2.2
        have hb3 := HB3.out
        have hs2 := hb2.size
        refine ⟨((j : Int) == (D : Int)), rfl, ?_, (HBW.out.trans (hb2.mono (by omega))).trans (hb3.mono (by omega))⟩
        rw [← HTI.out _ HRK.out]
        simp
        omega
set_option maxRecDepth 100000 in
set_option maxHeartbeats 4000000 in
theorem rdecodable_wrong (D L G : Int) (lost : Nat) (hr : rightB D L G = false) (w : World) :
    Calls Try.prog 19 #[.agg #[.int .i64 D, .int .i64 L, .int .i64 G], .int .u64 lost] w fun e w' => e = .returned (.bool false) ∧ Below w.heap.size w w' := by
  go_enter Try.func19, Try.ntmps19
  go_wp2_with fail
  refine (rmatrix_wrong D L G hr _).mono ?_
  rintro e w1 ⟨rfl, hb1⟩
  rw [nblk_alloc] at hb1
  have hbw1 : Below w.heap.size w w1 := ((Below.refl _ _).alloc (Nat.le_refl _) _).trans (hb1.mono (by omega))
  go_wp2
  go_ret
  exact ⟨rfl, hbw1⟩
end Go.Proofs.Ythhommjlomphdaa
