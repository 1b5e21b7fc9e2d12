import Derived.Test.YthhommjlomphdabDoorPart04
import Derived.Test.YthhommjlomphdabDoorPart05
import Derived.Test.YthhommjlomphdabDoorPart07
import Derived.Deep.RegionHeld
/-
  The document's matrix.
-/
namespace Go.Proofs.YthhommjlomphdabDoor
open Go.RowKit Go.Deep Gf

set_option maxRecDepth 100000 in
set_option maxHeartbeats 4000000 in
theorem matrix_wrong (D L G : Int) (hr : rightB D L G = false) (w : World) :
    Calls Tryd.prog 37 #[.agg #[.int .i64 D, .int .i64 L, .int .i64 G]] w fun e w' => e = .returned (.tuple #[.slice none 0 0, .iface 41 (.int .i64 1)]) ∧ Below w.heap.size w w' := by
  go_enter Tryd.func37, Tryd.ntmps37
  go_wp2_with fail
  refine (right_any D L G _).mono ?_
  rintro e wa ⟨rfl, hba⟩
  rw [nblk_alloc] at hba
  obtain ⟨p0, p1, p2⟩ := box_cells hba
  go_wp2
  go_ret2
  exact ⟨rfl, ((Below.refl _ _).alloc (Nat.le_refl _) _).trans (hba.mono (by omega))⟩
set_option maxRecDepth 100000 in
set_option maxHeartbeats 4000000 in
theorem rmatrix_wrong (D L G : Int) (hr : rightB D L G = false) (w : World) :
    Calls Tryd.prog 15 #[.agg #[.int .i64 D, .int .i64 L, .int .i64 G]] w fun e w' => e = .returned (.tuple #[.slice none 0 0, .int .i64 1]) ∧ Below w.heap.size w w' := by
  go_enter Tryd.func15, Tryd.ntmps15
  go_wp2_with fail
  refine (rright_any D L G _).mono ?_
  rintro e wa ⟨rfl, hba⟩
  rw [nblk_alloc] at hba
  obtain ⟨p0, p1, p2⟩ := box_cells hba
  go_wp2
  go_ret2
  exact ⟨rfl, ((Below.refl _ _).alloc (Nat.le_refl _) _).trans (hba.mono (by omega))⟩
/-- what holds at each round's head of a loop that appends rows -/
def MRel (w0 : World) (base D N : Nat) (M : Nat → List (List Nat)) (v i : Value) (wr : World) : Prop :=
  ∃ k T, k ≤ N ∧ i = .int .i64 (k : Nat) ∧ Tab wr base v T ∧ Holds T D (M k) ∧ Below base w0 wr ∧ base ≤ wr.heap.size
set_option maxRecDepth 100000 in
set_option maxHeartbeats 4000000 in
theorem rmatrix_right (D L G : Nat) (hr : rightB D L G = true) (hD : D ≤ 12) (hL : 1 ≤ L) (hL4 : L ≤ 4) (hG : G ≤ 4) (hdiv : D % L = 0) (w : World) :
    Calls Tryd.prog 15 #[.agg #[.int .i64 D, .int .i64 L, .int .i64 G]] w fun e w' => ∃ v T, e = .returned (.tuple #[v, .int .i64 0]) ∧ Tab w' (w.heap.size + 1) v T ∧ Holds T D (matL D L G) ∧ Below w.heap.size w w' := by
  obtain ⟨i0, hi0, hz0, hz1, hz2⟩ := info_parts Tryd.infoBytes
  have hle := fun g (hg : g < L) => group_le (D := D) hdiv hg
  have hq : D / L ≤ D := Nat.div_le_self _ _
  have hfin : ∀ g, localL D L g = localTo D (g * (D / L)) ((g + 1) * (D / L)) := fun _ => rfl
  have e1 : wrap64 ((D : Int) / (L : Int)) = ((D / L : Nat) : Int) := by
    rw [← Int.natCast_ediv]; exact wrap64_nat (by omega)
  obtain ⟨q, hqq⟩ : ∃ q, q = D / L := ⟨_, rfl⟩
  rw [← hqq] at e1 hq
  have HF : Hid (∀ g, localL D L g = localTo D (g * q) ((g + 1) * q)) := by intro g; rw [hqq]; exact hfin g
  have HLE : Hid (∀ g, g < L → (g + 1) * q ≤ D) := by intro g hg; rw [hqq]; exact hle g hg
  clear hfin hle hqq
  go_enter Tryd.func15, Tryd.ntmps15
  go_wp2_with fail
  refine (rright_any D L G _).mono ?_
  rintro e wa ⟨rfl, hba⟩
  rw [nblk_alloc] at hba
  have hsa := hba.size
  rw [nblk_alloc] at hsa
  obtain ⟨p0, p1, p2⟩ := box_cells hba
  go_wp2_with fail
  go_loopw [5, 6] (fun v i wr => MRel (w.alloc (.cells #[.int .i64 D, .int .i64 L, .int .i64 G] 32)) (w.heap.size + 1) D D (fun k => [] ++ (List.range k).map (dataL D)) v i wr) (fun _ i _ => D - (intOf i).toNat)
  case atStart => exact ⟨0, [], Nat.zero_le _, rfl, Tab.nil _ _, Holds.nil D, hba, hsa⟩
  case round =>
    clear hba p0 p1 p2
    rename World => wo
    obtain ⟨k, T, hk, rfl, hT, hH, hbr, hs⟩ := hrel
    obtain ⟨p0, p1, p2⟩ := box_cells hbr
    have HH := hide hH
    have hlen := hH.length
    simp only [List.nil_append, List.length_map, List.length_range] at hlen
    have hlt12 : T.length ≤ 20 := by omega
    clear hlen hH
    by_cases hlt : k < D
    · go_wp2_with (first
        | (at_make; refine wpList_mk _ rfl (.tmp 26) (.tmp 26) rfl D D rfl rfl rfl (by omega) ?_; intro w1 hB hb hz; clear hz; have hc := hB.cell k (by simpa using hlt); have hf := hB.frozen k; have hB1 := hB.set k 1; have hbel := hb.setCell (p := ⟨wo.heap.size, k, none⟩) (by simp) (.int .u8 1))
        | (at_builtin; refine wpList_append_own _ rfl (.tmp 31) (.tmp 33) 51 rfl (w.heap.size + 1) 59 i0 (.slice none 0 0) 1 24 Tryd.underlying51 hi0 hz0 hz1 hz2 rfl (by decide) _ T.length (T.map hdr) rfl ((hT.below hbel).alloc _).own ⟨w1.heap.size, 0, none⟩ 1 1 [.slice (some ⟨wo.heap.size, 0, none⟩) D D] rfl rfl (one_new _ _ (by simp) _ _) (by simp [Value.oneCell']) (by unfold maxLen; omega) (by omega) (by rw [nblk_alloc]; have := hbel.size; omega)  ?_; intro v' w2 hown' hgrow hnn))
      have hT2 := Tab.append hT hbel hs (Nat.le_refl _) hB1 (dataL_ok D k) (by omega) hgrow hown'
      have hH2 := HH.out.push wo.heap.size (dataL D k)
      have hb2 := below_append hT hbr hbel hs hgrow
      have hs2 := hgrow.size
      have hs3 := hbel.size
      rw [nblk_alloc] at hs2
      rw [List.append_assoc, ← range_snoc] at hH2
      have HH2 := hide hH2
      clear hT hown' hgrow hnn hB1 hbel hbr hH2
      go_roundw
      case rel => exact ⟨k + 1, T ++ [(wo.heap.size, D, dataL D k)], by omega, by go_num, hT2, HH2.out, hb2, by omega⟩
      case measure => simp [intOf]; omega
    · have hkD : D = k := by omega
      clear hlt hk
      subst hkD
      go_wp2_with fail
      go_loopw [5, 9] (fun v i wr => MRel (w.alloc (.cells #[.int .i64 D, .int .i64 L, .int .i64 G] 32)) (w.heap.size + 1) D L (fun k => (List.range D).map (dataL D) ++ (List.range k).map (localL D L)) v i wr) (fun _ i _ => L - (intOf i).toNat)
      case atStart => exact ⟨0, T, Nat.zero_le _, rfl, hT, by dsimp only; rw [List.range_zero, List.map_nil, List.append_nil]; exact HH.out, hbr, hs⟩
      case round =>
        clear hT hbr p0 p1 p2 HH hs hlt12
        rename World => wo
        obtain ⟨k, T, hk, rfl, hT, hH, hbr, hs⟩ := hrel
        obtain ⟨p0, p1, p2⟩ := box_cells hbr
        have HH := hide hH
        have hlen := hH.length
        simp only [List.length_append, List.length_map, List.length_range] at hlen
        have hlt12 : T.length ≤ 20 := by omega
        clear hlen hH
        by_cases hlt : k < L
        · have hgD := HLE.out k hlt
          have hff := HF.out k
          have hgq : k * q ≤ (k + 1) * q := Nat.mul_le_mul_right _ (by omega)
          have e2 : wrap64 ((k : Int) * (q : Int)) = ((k * q : Nat) : Int) := by
            rw [← Int.natCast_mul]; exact wrap64_nat (by omega)
          have e3 : wrap64 (((k : Int) + 1) * (q : Int)) = (((k + 1) * q : Nat) : Int) := by
            have : ((k : Int) + 1) * (q : Int) = (((k + 1) * q : Nat) : Int) := by push_cast; rfl
            rw [this]; exact wrap64_nat (by omega)
          generalize k * q = s at *
          generalize (k + 1) * q = t at *
          have HFF := hide hff
          have E2 := hide e2
          have E3 := hide e3
          clear hff e2 e3
          go_wp2_with (at_make; refine wpList_mk _ rfl (.tmp 47) (.tmp 47) rfl D D rfl rfl rfl (by omega) ?_; intro w1 hB hbel hz; clear hz)
          rw [← localTo_start D s] at hB
          go_loopw [11] (fun i wi => ∃ j : Nat, s ≤ j ∧ j ≤ t ∧ i = .int .i64 j ∧ Brow wi wo.heap.size (localTo D s j) ∧ Below wo.heap.size wo wi) (fun i _ => t - (intOf i).toNat)
          case atStart => exact ⟨s, Nat.le_refl _, hgq, by rw [E2.out], hB, hbel⟩
          case round =>
            clear hB hbel
            obtain ⟨j, hj1, hj2, rfl, hBk, hbk⟩ := hrel
            by_cases hjt : j < t
            · have ht : (j : Int) < wrap64 (((k : Int) + 1) * (q : Int)) := by rw [E3.out]; omega
              have hc := hBk.cell j (by simp [localTo]; omega)
              have hf := hBk.frozen j
              have hB2 := hBk.set j 1
              rw [localTo_step _ _ _ hj1] at hB2
              have hb2 := hbk.setCell (p := ⟨wo.heap.size, j, none⟩) (by simp) (.int .u8 1)
              go_wp2
              go_roundw
              case rel => exact ⟨j + 1, by omega, by omega, by go_num, hB2, hb2⟩
              case measure => simp [intOf]; omega
            · have ht : ¬ (j : Int) < wrap64 (((k : Int) + 1) * (q : Int)) := by rw [E3.out]; omega
              have hjj : t = j := by omega
              clear hjt hj2 E3
              subst hjj
              rw [← HFF.out] at hBk
              have hB1 := hBk
              have hbel := hbk
              clear hBk hbk
              go_wp2_with (at_builtin; refine wpList_append_own _ rfl (.tmp 63) (.tmp 65) 51 rfl (w.heap.size + 1) 59 i0 (.slice none 0 0) 1 24 Tryd.underlying51 hi0 hz0 hz1 hz2 rfl (by decide) _ T.length (T.map hdr) rfl ((hT.below hbel).alloc _).own ⟨wr.heap.size, 0, none⟩ 1 1 [.slice (some ⟨wo.heap.size, 0, none⟩) D D] rfl rfl (one_new _ _ (by simp) _ _) (by simp [Value.oneCell']) (by unfold maxLen; omega) (by omega) (by rw [nblk_alloc]; have := hbel.size; omega)  ?_; intro v' w2 hown' hgrow hnn)
              have hT2 := Tab.append hT hbel hs (Nat.le_refl _) hB1 (localL_ok D L k) (by omega) hgrow hown'
              have hH2 := HH.out.push wo.heap.size (localL D L k)
              have hb2 := below_append hT hbr hbel hs hgrow
              have hs2 := hgrow.size
              have hs3 := hbel.size
              rw [nblk_alloc] at hs2
              rw [List.append_assoc, ← range_snoc] at hH2
              have HH2 := hide hH2
              clear hT hown' hgrow hnn hB1 hbel hbr hH2
              go_roundw
              case rel => exact ⟨k + 1, T ++ [(wo.heap.size, D, localL D L k)], by omega, by go_num, hT2, HH2.out, hb2, by omega⟩
              case measure => simp [intOf]; omega
        · have hkD : L = k := by omega
          clear hlt hk
          subst hkD
          go_wp2_with fail
          go_loopw [5, 12] (fun v i wr => MRel (w.alloc (.cells #[.int .i64 D, .int .i64 L, .int .i64 G] 32)) (w.heap.size + 1) D G (fun k => ((List.range D).map (dataL D) ++ (List.range L).map (localL D L)) ++ (List.range k).map (globalL D)) v i wr) (fun _ i _ => G - (intOf i).toNat)
          case atStart => exact ⟨0, T, Nat.zero_le _, rfl, hT, by dsimp only; rw [List.range_zero, List.map_nil, List.append_nil]; exact HH.out, hbr, hs⟩
          case round =>
            clear hT hbr p0 p1 p2 HH hs hlt12
            rename World => wo
            obtain ⟨k, T, hk, rfl, hT, hH, hbr, hs⟩ := hrel
            obtain ⟨p0, p1, p2⟩ := box_cells hbr
            have HH := hide hH
            have hlen := hH.length
            simp only [List.length_append, List.length_map, List.length_range] at hlen
            have hlt12 : T.length ≤ 20 := by omega
            clear hlen hH
            by_cases hlt : k < G
            · go_wp2_with (at_make; refine wpList_mk _ rfl (.tmp 74) (.tmp 74) rfl D D rfl rfl rfl (by omega) ?_; intro w1 hB hbel hz; clear hz)
              rw [← globalTo_start D k] at hB
              go_loopw [14] (fun i wi => ∃ j : Nat, j ≤ D ∧ i = .int .i64 j ∧ Brow wi wo.heap.size (globalTo D k j) ∧ Below wo.heap.size wo wi) (fun i _ => D - (intOf i).toNat)
              case atStart => exact ⟨0, Nat.zero_le _, rfl, hB, hbel⟩
              case round =>
                clear hB hbel
                obtain ⟨j, hj, rfl, hBk, hbk⟩ := hrel
                have hbox := box_cells (hbr.trans (hbk.mono hs))
                obtain ⟨b0, b1, b2⟩ := hbox
                by_cases hjt : j < D
                · have hc := hBk.cell j (by simp [globalTo]; omega)
                  have hf := hBk.frozen j
                  obtain ⟨hx1, hx2⟩ := xor_cell D k j hD (by omega) hjt
                  have hB2 := hBk.set j (gi ((D + k) ^^^ j))
                  rw [globalTo_step] at hB2
                  have hb2 := hbk.setCell (p := ⟨wo.heap.size, j, none⟩) (by simp) (.int .u8 (gi ((D + k) ^^^ j)))
                  generalize (D + k) ^^^ j = x at *
                  have hx3 : (x : Int) < 256 := by omega
                  go_wp2_with (go_at_call 23; refine (rinv_any x hx1 _).mono ?_; rintro e w' ⟨rfl, rfl⟩)
                  go_roundw
                  case rel => exact ⟨j + 1, by omega, by go_num, hB2, hb2⟩
                  case measure => simp [intOf]; omega
                · have hjj : D = j := by omega
                  clear hjt hj
                  subst hjj
                  rw [globalTo_end] at hBk
                  have hB1 := hBk
                  have hbel := hbk
                  clear hBk hbk
                  go_wp2_with (at_builtin; refine wpList_append_own _ rfl (.tmp 93) (.tmp 95) 51 rfl (w.heap.size + 1) 59 i0 (.slice none 0 0) 1 24 Tryd.underlying51 hi0 hz0 hz1 hz2 rfl (by decide) _ T.length (T.map hdr) rfl ((hT.below hbel).alloc _).own ⟨wr.heap.size, 0, none⟩ 1 1 [.slice (some ⟨wo.heap.size, 0, none⟩) D D] rfl rfl (one_new _ _ (by simp) _ _) (by simp [Value.oneCell']) (by unfold maxLen; omega) (by omega) (by rw [nblk_alloc]; have := hbel.size; omega)  ?_; intro v' w2 hown' hgrow hnn)
                  have hT2 := Tab.append hT hbel hs (Nat.le_refl _) hB1 (globalL_ok D k hD (by omega)) (by omega) hgrow hown'
                  have hH2 := HH.out.push wo.heap.size (globalL D k)
                  have hb2 := below_append hT hbr hbel hs hgrow
                  have hs2 := hgrow.size
                  have hs3 := hbel.size
                  rw [nblk_alloc] at hs2
                  rw [List.append_assoc, ← range_snoc] at hH2
                  have HH2 := hide hH2
                  clear hT hown' hgrow hnn hB1 hbel hbr hH2
                  go_roundw
                  case rel => exact ⟨k + 1, T ++ [(wo.heap.size, D, globalL D k)], by omega, by go_num, hT2, HH2.out, hb2, by omega⟩
                  case measure => simp [intOf]; omega
            · have hkD : G = k := by omega
              clear hlt hk
              subst hkD
              go_wp2
              go_ret2
              refine ⟨_, rfl, T, hT, HH.out, ?_⟩
              exact ((Below.refl _ _).alloc (Nat.le_refl _) _).trans (hbr.mono (by omega))
end Go.Proofs.YthhommjlomphdabDoor
/-
  Decodable: the program's, and the document's.
-/
namespace Go.Proofs.YthhommjlomphdabDoor
open Go.RowKit Go.Deep Gf

theorem Tab.rdH {w : World} {B D : Nat} {v : Value} {T : List (Nat × Nat × List Nat)} {M : List (List Nat)} (h : Tab w B v T) (hH : Holds T D M) (hD : ∀ r ∈ M, r.length = D) (hl : M.length ≤ 100000) : Rd w v M := by
  have hlen : T.length = M.length := by simpa using congrArg List.length hH
  obtain ⟨ao, cap, rfl, hao⟩ := h.slice
  refine ⟨ao, cap, by rw [hlen], by omega, fun hM => ?_⟩
  obtain ⟨g, rfl⟩ := hao (by intro e; rw [e] at hlen; exact hM (List.eq_nil_of_length_eq_zero hlen.symm))
  refine ⟨g, 0, rfl, fun i hi => ?_⟩
  have hiT : i < T.length := by omega
  refine ⟨hdr T[i], by rw [Nat.zero_add]; exact h.cell_at hiT, ?_⟩
  have := h.row_at hiT
  have hat : T[i].2 = (D, M[i]) := by
    have := congrArg (fun l => l[i]?) hH
    simpa [hiT, hi] using this
  rw [hat] at this
  have e : (M[i]).take D = M[i] := by rw [← hD _ (List.getElem_mem hi), List.take_length]
  rw [e] at this
  exact this
theorem Rd.byte {w : World} {v : Value} {D : List (List Nat)} (h : Rd w v D) : ∀ l ∈ D, ∀ x ∈ l, x < 256 := by
  rcases h.cases with ⟨rfl, _⟩ | ⟨b, off, c, rfl, _, hc⟩
  · intro l hl; simp at hl
  · intro l hl
    obtain ⟨i, hi, rfl⟩ := List.mem_iff_getElem.1 hl
    obtain ⟨u, _, hu⟩ := hc i hi
    exact hu.lt
theorem mat_len (D L G : Nat) : (matL D L G).length = D + L + G := by simp [matL]; omega
theorem mat_row (D L G : Nat) : ∀ r ∈ matL D L G, r.length = D := by
  intro r hr
  simp only [matL, List.mem_append, List.mem_map, List.mem_range] at hr
  rcases hr with (⟨i, _, rfl⟩ | ⟨i, _, rfl⟩) | ⟨i, _, rfl⟩
  · simp [dataL]
  · simp [localL]
  · simp [globalL]
theorem mat_byte (D L G : Nat) (hD : D ≤ 12) (hG : G ≤ 4) : ∀ r ∈ matL D L G, ∀ x ∈ r, x < 256 := by
  intro r hr x hx
  simp only [matL, List.mem_append, List.mem_map, List.mem_range] at hr
  rcases hr with (⟨i, _, rfl⟩ | ⟨i, _, rfl⟩) | ⟨i, hi, rfl⟩
  · rcases List.mem_or_eq_of_mem_set hx with h | h
    · have := List.eq_of_mem_replicate h; omega
    · omega
  · simp only [localL, List.mem_map] at hx
    obtain ⟨j, _, rfl⟩ := hx
    split <;> decide
  · simp only [globalL, List.mem_map, List.mem_range] at hx
    obtain ⟨j, hj, rfl⟩ := hx
    exact gi_lt (xlt (by omega) (by omega))
/-- that all data are told -/
def Told (D L G lost : Nat) : Prop := Full (Rem (keepTo (matL D L G) lost (D + L + G)) 0) 0 D
theorem told_iff {D L G lost k : Nat} (hD : D ≤ 12) (hG : G ≤ 4) (h : RankIs (keepTo (matL D L G) lost (D + L + G)) k) : k = D ↔ Told D L G lost := by
  have hm := keep_mem (matL D L G) lost (D + L + G) (by rw [mat_len]; omega)
  exact rank_full (fun l hl => mat_byte D L G hD hG l (hm l hl)) (fun l hl => by rw [mat_row D L G l (hm l hl)]; omega) (by omega) h
theorem keep_fit (D L G lost : Nat) (hD : D ≤ 12) (hL : L ≤ 4) (hG : G ≤ 4) : FitG (keepTo (matL D L G) lost (D + L + G)) := by
  refine ⟨Nat.le_trans (keep_len _ _ _) (by omega), fun i hi => ?_⟩
  rw [mat_row D L G _ (keep_mem (matL D L G) lost (D + L + G) (by rw [mat_len]; omega) _ (List.getElem_mem hi))]
  omega
def DcPost (D L G lost : Nat) (w : World) (e : Ending) (w' : World) : Prop := ∃ b : Bool, e = .returned (.bool b) ∧ (b = true ↔ Told D L G lost) ∧ Below w.heap.size w w'
/-! ### The document's -/
set_option maxRecDepth 100000 in
theorem has_any (lost k : Nat) (hl : lost < 18446744073709551616) (hk : k ≤ 64) (w : World) :
    Calls Tryd.prog 20 #[.int .u64 lost, .int .i64 k] w fun e w' => e = .returned (.bool (((lost / 2 ^ k % 2 : Nat) : Int) == 1)) ∧ w' = w := by
  have hbit := bit_u64 lost k hl
  go_enter Tryd.func20, Tryd.ntmps20
  go_wp2
  go_ret
  exact ⟨rfl, rfl⟩
set_option maxRecDepth 100000 in
set_option maxHeartbeats 4000000 in
theorem rdecodable_right (D L G lost : Nat) (hr : rightB D L G = true) (hD : D ≤ 12) (hL : 1 ≤ L) (hL4 : L ≤ 4) (hG : G ≤ 4) (hdiv : D % L = 0) (hl : lost < 18446744073709551616) (w : World) :
    Calls Tryd.prog 13 #[.agg #[.int .i64 D, .int .i64 L, .int .i64 G], .int .u64 lost] w fun e w' => DcPost D L G lost w e w' := by
  obtain ⟨i0, hi0, hz0, hz1, hz2⟩ := info_parts Tryd.infoBytes
  go_enter Tryd.func13, Tryd.ntmps13
  go_wp2_with fail
  refine (rmatrix_right D L G hr hD hL hL4 hG hdiv _).mono ?_
  rintro e w1 ⟨v, T, rfl, hT, hH, hb1⟩
  rw [nblk_alloc] at hT hb1
  have hs1 := hb1.size
  rw [nblk_alloc] at hs1
  obtain ⟨p0, p1, p2⟩ := box_cells hb1
  have hrd := hT.rdH hH (mat_row D L G) (by rw [mat_len]; omega)
  have hbw1 : Below w.heap.size w w1 := ((Below.refl _ _).alloc (Nat.le_refl _) _).trans (hb1.mono (by omega))
  have HBW := hide hbw1
  have hml := mat_len D L G
  have hm16 : (matL D L G).length ≤ 64 := by omega
  clear hT hH hb1 p1 p2 hbw1
  have HTI := hide (fun k => told_iff (lost := lost) (L := L) (k := k) hD hG)
  have HFI := hide (keep_fit D L G lost hD hL4 hG)
  rw [← hml] at HTI HFI
  have HML := hide hml
  clear hml hr hdiv
  generalize matL D L G = M at *
  rcases hrd.cases with ⟨rfl, ao, c, rfl⟩ | ⟨b, off, c, rfl, _, hc⟩
  · exfalso
    have := HML.out
    simp at this
    omega
  · clear hrd
    go_wp2
    go_loopw [7, 8] (fun v i wr => KpR w1 M lost v i wr) (fun _ i _ => M.length - (intOf i).toNat)
    case atStart => exact ⟨0, Nat.zero_le _, rfl, Rl.nil _⟩
    case round =>
      rename World => wo
      obtain ⟨k, hk, rfl, hR⟩ := hrel
      have p0o : wo.cell? ⟨w.heap.size, 0, none⟩ = some (.int .i64 (D : Nat)) := by rw [hR.choose_spec.2.2.2.cell (block_lt_of_cell p0)]; exact p0
      by_cases hlt : k < M.length
      · obtain ⟨u, hu, hB⟩ := hc k hlt
        have hu' : wo.cell? ⟨b, off + k, none⟩ = some u := by rw [hR.choose_spec.2.2.2.cell (block_lt_of_cell hu)]; exact hu
        obtain ⟨au, cu, rfl, _⟩ := id hB
        have HK := hide (keep_len M lost k)
        have HC := hide hc
        have HB := hide hB
        have HU := hide hu
        have hget : M.getD k [] = M[k] := by simp [hlt]
        have HGE := hide hget
        clear hc hB hu hget
        by_cases hz : lost / 2 ^ k % 2 = 0
        · have HZ := hide (show (((lost / 2 ^ k % 2 : Nat) : Int) == 1) = false by rw [hz]; rfl)
          have HKI := hide (keep_in M lost k hz)
          clear hz
          obtain ⟨xs, hlen, hX, hown, hbr⟩ := hR
          have HX := hide hX
          have HLN := hide hlen
          have hxl : xs.length ≤ 64 := by rw [hlen]; exact Nat.le_trans HK.out (by omega)
          have hs := hbr.size
          clear hX hlen
          go_wp2_with (first
            | (go_at_call 20; refine (has_any lost k hl (by omega) _).mono ?_; rintro e w' ⟨rfl, hw⟩; have hw2 := hw.symm; clear hw; subst hw2; rw [HZ.out])
            | (at_builtin; refine wpList_append_own _ rfl (.tmp 29) (.tmp 34) 51 rfl w1.heap.size 59 i0 (.slice none 0 0) 1 24 Tryd.underlying51 hi0 hz0 hz1 hz2 rfl (by decide) _ xs.length xs rfl (ownsRow_below hown ((Below.refl _ _).alloc (Nat.le_refl _) _)) ⟨wo.heap.size, 0, none⟩ 1 1 [.slice au (M[k]).length cu] rfl rfl (one_new _ _ rfl _ _) (by intro q hq; simp at hq; rw [hq]; exact HB.out.one) (by unfold maxLen; omega) (by omega) (by rw [nblk_alloc]; omega) ?_; intro v' w2 hown' hgrow hnn))
          have hR2 := Rl.push HLN.out HX.out hown hbr rfl HB.out hgrow hown'
          rw [← HGE.out, ← HKI.out] at hR2
          clear hown hown' hgrow hnn hbr hu' p0o
          go_wp2
          go_roundw
          case rel => exact ⟨k + 1, by omega, by go_num, hR2⟩
          case measure => simp [intOf]; omega
        · have h1 : lost / 2 ^ k % 2 = 1 := by omega
          have HZ := hide (show (((lost / 2 ^ k % 2 : Nat) : Int) == 1) = true by rw [h1]; rfl)
          have HKO := hide (keep_out M lost k hz)
          clear hz h1
          have HR := hide hR
          clear hR
          go_wp2_with (go_at_call 20; refine (has_any lost k hl (by omega) _).mono ?_; rintro e w' ⟨rfl, hw⟩; have hw2 := hw.symm; clear hw; subst hw2; rw [HZ.out])
          go_roundw
          case rel => exact ⟨k + 1, by omega, by go_num, by rw [HKO.out]; exact HR.out⟩
          case measure => simp [intOf]; omega
      · have hkk : k = M.length := by omega
        rw [hkk] at hR
        have HR := hide hR
        have HR2 := hide (hR.rd (Nat.le_trans (keep_len _ _ _) (by omega)))
        clear hc hR
        go_wp2_with fail
        refine (rrank_any _ _ _ HR2.out).mono ?_
        rintro e w3 ⟨h1, _, hb3⟩
        obtain ⟨j, hj, rfl, hrk⟩ := h1 HFI.out
        have p03 : w3.cell? ⟨w.heap.size, 0, none⟩ = some (.int .i64 (D : Nat)) := by rw [hb3.cell (block_lt_of_cell p0o)]; exact p0o
        have HRK := hide hrk
        have HB3 := hide hb3
        clear h1 hrk hb3
        go_wp2
        go_ret
        have hb2 := HR.out.choose_spec.2.2.2
        have hb3 := HB3.out
        have hs2 := hb2.size
        refine ⟨((j : Int) == (D : Int)), rfl, ?_, (HBW.out.trans (hb2.mono (by omega))).trans (hb3.mono (by omega))⟩
        rw [← HTI.out _ HRK.out]
        simp
        omega
set_option maxRecDepth 100000 in
set_option maxHeartbeats 4000000 in
theorem rdecodable_wrong (D L G : Int) (lost : Nat) (hr : rightB D L G = false) (w : World) :
    Calls Tryd.prog 13 #[.agg #[.int .i64 D, .int .i64 L, .int .i64 G], .int .u64 lost] w fun e w' => e = .returned (.bool false) ∧ Below w.heap.size w w' := by
  go_enter Tryd.func13, Tryd.ntmps13
  go_wp2_with fail
  refine (rmatrix_wrong D L G hr _).mono ?_
  rintro e w1 ⟨rfl, hb1⟩
  rw [nblk_alloc] at hb1
  have hbw1 : Below w.heap.size w w1 := ((Below.refl _ _).alloc (Nat.le_refl _) _).trans (hb1.mono (by omega))
  go_wp2
  go_ret
  exact ⟨rfl, hbw1⟩
end Go.Proofs.YthhommjlomphdabDoor
