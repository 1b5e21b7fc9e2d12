/-
  The program's matrix.
-/
import Derived.Test.YthhommjlomphdaaMatrixRows
import Derived.Test.YthhommjlomphdaaTabLaws
namespace Go.Proofs.Ythhommjlomphdaa
open Go.RowKit Go.Deep Gf

/-- the whole matrix, by its rows -/
def matL (D L G : Nat) : List (List Nat) := (List.range D).map (dataL D) ++ (List.range L).map (localL D L) ++ (List.range G).map (globalL D)
/-- what a list of rows holds: rows of D bytes each -/
def Holds (T : List (Nat × Nat × List Nat)) (D : Nat) (M : List (List Nat)) : Prop := T.map (fun p => p.2) = M.map (fun r => (D, r))
theorem Holds.push {T : List (Nat × Nat × List Nat)} {D : Nat} {M : List (List Nat)} (h : Holds T D M) (b : Nat) (r : List Nat) : Holds (T ++ [(b, D, r)]) D (M ++ [r]) := by
  unfold Holds at *
  simp [h]
theorem Holds.length {T : List (Nat × Nat × List Nat)} {D : Nat} {M : List (List Nat)} (h : Holds T D M) : T.length = M.length := by
  have := congrArg List.length h
  simpa using this
theorem dataL_ok (D i : Nat) : (dataL D i).length = D ∧ ∀ x ∈ dataL D i, x < 256 := by
  refine ⟨by simp [dataL], fun x hx => ?_⟩
  rcases List.mem_or_eq_of_mem_set hx with h | h
  · have := List.eq_of_mem_replicate h; omega
  · omega
theorem localL_ok (D L g : Nat) : (localL D L g).length = D ∧ ∀ x ∈ localL D L g, x < 256 := by
  refine ⟨by simp [localL], fun x hx => ?_⟩
  obtain ⟨j, _, rfl⟩ := List.mem_map.1 hx
  split <;> decide
theorem globalL_ok (D i : Nat) (hD : D ≤ 12) (hi : i ≤ 4) : (globalL D i).length = D ∧ ∀ x ∈ globalL D i, x < 256 := by
  refine ⟨by simp [globalL], fun x hx => ?_⟩
  obtain ⟨j, hj, rfl⟩ := List.mem_map.1 hx
  exact gi_lt (xlt (by omega) (by have := List.mem_range.1 hj; omega))

/-- an append of a new row -/
theorem Tab.append {w w1 w2 : World} {base : Nat} {v v' : Value} {T : List (Nat × Nat × List Nat)} {b D : Nat} {r : List Nat} {o : Obj} (h : Tab w base v T) (hb : Below w.heap.size w w1) (hbase : base ≤ w.heap.size) (hb1 : w.heap.size ≤ b) (hB : Brow w1 b r) (hr : r.length = D ∧ ∀ x ∈ r, x < 256) (hD : D ≤ 1000000)
    (hg : (w1.alloc o).grownBy w2 v.ownBlock) (hown : w2.ownsRow base 41 1 v' (T.length + 1) (T.map hdr ++ [.slice (some ⟨b, 0, none⟩) D D])) : Tab w2 base v' (T ++ [(b, D, r)]) := by
  have h1 := (h.below hb).alloc o
  refine h1.push hg (p := (b, D, r)) ?_ ⟨by show base ≤ b; omega, hB.alloc o, by show D ≤ r.length; omega, ⟨by show D ≤ 140737488355328; omega, by show r.length ≤ 9223372036854775807; omega⟩, hr.2⟩ ?_
  · have e : hdr (b, D, r) = .slice (some ⟨b, 0, none⟩) D D := by unfold hdr; simp [hr.1]
    rw [e]; exact hown
  · intro q hq
    have := (h.row q hq).2.1.lt
    show q.1 ≠ b
    omega
theorem box_cells {w wx : World} {a b c : Value} {t : TypeId} (h : Below (w.heap.size + 1) (w.alloc (.cells #[a, b, c] t)) wx) :
    wx.cell? ⟨w.heap.size, 0, none⟩ = some a ∧ wx.cell? ⟨w.heap.size, 1, none⟩ = some b ∧ wx.cell? ⟨w.heap.size, 2, none⟩ = some c := by
  have p0 := h.cell (p := ⟨w.heap.size, 0, none⟩) (by simp)
  have p1 := h.cell (p := ⟨w.heap.size, 1, none⟩) (by simp)
  have p2 := h.cell (p := ⟨w.heap.size, 2, none⟩) (by simp)
  rw [World.cell?_alloc_at _ _ _ _ rfl] at p0 p1 p2
  exact ⟨p0, p1, p2⟩
theorem below_made {B : Nat} {w0 wa wb wc : World} (ha : Below B w0 wa) (hB : B ≤ wa.heap.size) (hb : Below wa.heap.size wa wb) (hg : wb.grownBy wc none) : Below B w0 wc :=
  (ha.trans (hb.mono hB)).grown hg (by have := hb.size; omega) (fun k hk => by simp at hk)
theorem Tab.made {wc : World} {base g cap : Nat} (h : wc.ownsRow base 41 1 (.slice (some ⟨g, 0, none⟩) 0 cap) 0 []) : Tab wc base (.slice (some ⟨g, 0, none⟩) 0 cap) [] :=
  ⟨h, fun p hp => by simp at hp, by simp⟩
theorem Holds.nil (D : Nat) : Holds [] D [] := rfl
theorem range_snoc {α : Type} (f : Nat → α) (k : Nat) : (List.range (k + 1)).map f = (List.range k).map f ++ [f k] := by
  rw [List.range_succ, List.map_append]; rfl
set_option maxRecDepth 100000 in
set_option maxHeartbeats 4000000 in
theorem matrix_right (D L G : Nat) (hr : rightB D L G = true) (hD : D ≤ 12) (hL : 1 ≤ L) (hL4 : L ≤ 4) (hG : G ≤ 4) (hdiv : D % L = 0) (w : World) :
    Calls Try.prog 35 #[.agg #[.int .i64 D, .int .i64 L, .int .i64 G]] w fun e w' => ∃ v T, e = .returned (.tuple #[v, .nilIface]) ∧ Tab w' (w.heap.size + 1) v T ∧ Holds T D (matL D L G) ∧ Below w.heap.size w w' := by
  obtain ⟨i0, hi0, hz0, hz1, hz2⟩ := info_parts Try.infoBytes
  go_enter Try.func35, Try.ntmps35
  go_wp2_with fail
  refine (right_any D L G _).mono ?_
  rintro e wa ⟨rfl, hba⟩
  rw [nblk_alloc] at hba
  have hsa := hba.size
  rw [nblk_alloc] at hsa
  obtain ⟨p0, p1, p2⟩ := box_cells hba
  go_wp2_with fail
  refine (shards_any D L G _ (by omega) (by omega) (by omega)).mono ?_
  rintro e wb ⟨rfl, hbb⟩
  have hsb := hbb.size
  clear p0 p1 p2
  go_wp2_with (at_make; refine wpList_make_own _ rfl (.const (.int .i64 0)) (.tmp 13) 26 rfl (w.heap.size + 1) 41 i0 (.slice none 0 0) 1 Try.underlying26 hi0 hz0 hz1 .i64 .i64 (D + L + G) (D + L + G) rfl rfl (by omega) (by rw [hz2]; omega) (by unfold maxLen; omega) (by omega) ?_; intro wc hown hgr; have hbc := below_made hba hsa hbb hgr; obtain ⟨p0, p1, p2⟩ := box_cells hbc)
  have hT := Tab.made hown
  have hsc := hgr.size
  clear hown hgr hba hbb
  generalize Value.slice (some ⟨wb.heap.size, 0, none⟩) 0 (D + L + G) = v0 at *
  go_loopw [4, 17] (fun v i wr => ∃ k T, k ≤ D ∧ i = .int .i64 (k : Nat) ∧ Tab wr (w.heap.size + 1) v T ∧ Holds T D ((List.range k).map (dataL D)) ∧ Below (w.heap.size + 1) (w.alloc (.cells #[.int .i64 D, .int .i64 L, .int .i64 G] 32)) wr ∧ w.heap.size + 1 ≤ wr.heap.size) (fun _ i _ => D - (intOf i).toNat)
  case atStart => exact ⟨0, [], Nat.zero_le _, rfl, hT, Holds.nil D, hbc, by omega⟩
  case round =>
    clear hT hbc p0 p1 p2
    obtain ⟨k, T, hk, rfl, hT, hH, hbr, hs⟩ := hrel
    obtain ⟨p0, p1, p2⟩ := box_cells hbr
    by_cases hlt : k < D
    · have hlen := hH.length
      rw [List.length_map, List.length_range] at hlen
      have hlt12 : T.length ≤ 12 := by omega
      clear hlen
      have HH := hide hH
      clear hH
      go_wp2_with fail
      refine (dataRow_any D L G k hD hlt _).mono ?_
      rintro e w1 ⟨b, rfl, hb1, hB1, hbel⟩
      have hs1 := hbel.size
      go_wp2_with (at_builtin; refine wpList_append_own _ rfl (.tmp 20) (.tmp 24) 26 rfl (w.heap.size + 1) 41 i0 (.slice none 0 0) 1 24 Try.underlying26 hi0 hz0 hz1 hz2 rfl (by decide) _ T.length (T.map hdr) rfl ((hT.below hbel).alloc _).own ⟨w1.heap.size, 0, none⟩ 1 1 [.slice (some ⟨b, 0, none⟩) D D] rfl rfl (cell_one_new _ _ _) (by simp [Value.oneCell']) (by unfold maxLen; omega) (by omega) (by rw [nblk_alloc]; omega) ?_; intro v' w2 hown' hgrow hnn)
      have hT2 := Tab.append hT hbel hs hb1 hB1 (dataL_ok D k) (by omega) hgrow hown'
      have hb2 := below_append hT hbr hbel hs hgrow
      have hs2 := hgrow.size
      rw [nblk_alloc] at hs2
      clear hT hown' hgrow hnn hB1 hbel hbr
      go_roundw
      case rel => exact ⟨k + 1, _, by omega, by go_num, hT2, by rw [range_snoc]; exact HH.out.push b _, hb2, by omega⟩
      case measure => simp [intOf]; omega
    · have hkD : D = k := by omega
      clear hlt hk
      subst hkD
      have HH := hide hH
      clear hH
      go_wp2_with fail
      go_loopw [4, 29] (fun v i wr => ∃ k T, k ≤ L ∧ i = .int .i64 (k : Nat) ∧ Tab wr (w.heap.size + 1) v T ∧ Holds T D ((List.range D).map (dataL D) ++ (List.range k).map (localL D L)) ∧ Below (w.heap.size + 1) (w.alloc (.cells #[.int .i64 D, .int .i64 L, .int .i64 G] 32)) wr ∧ w.heap.size + 1 ≤ wr.heap.size) (fun _ i _ => L - (intOf i).toNat)
      case atStart => exact ⟨0, T, Nat.zero_le _, rfl, hT, by rw [List.range_zero, List.map_nil, List.append_nil]; exact HH.out, hbr, hs⟩
      case round =>
        clear hT hbr p0 p1 p2 HH hs
        obtain ⟨k, T, hk, rfl, hT, hH, hbr, hs⟩ := hrel
        obtain ⟨p0, p1, p2⟩ := box_cells hbr
        by_cases hlt : k < L
        · have hlen := hH.length
          simp only [List.length_append, List.length_map, List.length_range] at hlen
          have hlt12 : T.length ≤ 20 := by omega
          clear hlen
          have HH := hide hH
          clear hH
          go_wp2_with fail
          refine (localRow_any D L G k hD hL hL4 hdiv hlt _).mono ?_
          rintro e w1 ⟨b, rfl, hb1, hB1, hbel⟩
          have hs1 := hbel.size
          go_wp2_with (at_builtin; refine wpList_append_own _ rfl (.tmp 32) (.tmp 36) 26 rfl (w.heap.size + 1) 41 i0 (.slice none 0 0) 1 24 Try.underlying26 hi0 hz0 hz1 hz2 rfl (by decide) _ T.length (T.map hdr) rfl ((hT.below hbel).alloc _).own ⟨w1.heap.size, 0, none⟩ 1 1 [.slice (some ⟨b, 0, none⟩) D D] rfl rfl (cell_one_new _ _ _) (by simp [Value.oneCell']) (by unfold maxLen; omega) (by omega) (by rw [nblk_alloc]; omega) ?_; intro v' w2 hown' hgrow hnn)
          have hT2 := Tab.append hT hbel hs hb1 hB1 (localL_ok D L k) (by omega) hgrow hown'
          have hb2 := below_append hT hbr hbel hs hgrow
          have hs2 := hgrow.size
          rw [nblk_alloc] at hs2
          clear hT hown' hgrow hnn hB1 hbel hbr
          go_roundw
          case rel => exact ⟨k + 1, _, by omega, by go_num, hT2, by rw [range_snoc, ← List.append_assoc]; exact HH.out.push b _, hb2, by omega⟩
          case measure => simp [intOf]; omega
        · have hkD : L = k := by omega
          clear hlt hk
          subst hkD
          have HH := hide hH
          clear hH
          go_wp2_with fail
          go_loopw [4, 41] (fun v i wr => ∃ k T, k ≤ G ∧ i = .int .i64 (k : Nat) ∧ Tab wr (w.heap.size + 1) v T ∧ Holds T D (((List.range D).map (dataL D) ++ (List.range L).map (localL D L)) ++ (List.range k).map (globalL D)) ∧ Below (w.heap.size + 1) (w.alloc (.cells #[.int .i64 D, .int .i64 L, .int .i64 G] 32)) wr ∧ w.heap.size + 1 ≤ wr.heap.size) (fun _ i _ => G - (intOf i).toNat)
          case atStart => exact ⟨0, T, Nat.zero_le _, rfl, hT, by rw [List.range_zero, List.map_nil, List.append_nil]; exact HH.out, hbr, hs⟩
          case round =>
            clear hT hbr p0 p1 p2 HH hs
            obtain ⟨k, T, hk, rfl, hT, hH, hbr, hs⟩ := hrel
            obtain ⟨p0, p1, p2⟩ := box_cells hbr
            by_cases hlt : k < G
            · have hlen := hH.length
              simp only [List.length_append, List.length_map, List.length_range] at hlen
              have hlt12 : T.length ≤ 20 := by omega
              clear hlen
              have HH := hide hH
              clear hH
              go_wp2_with fail
              refine (globalRow_any D L G k hD (by omega) _).mono ?_
              rintro e w1 ⟨b, rfl, hb1, hB1, hbel⟩
              have hs1 := hbel.size
              go_wp2_with (at_builtin; refine wpList_append_own _ rfl (.tmp 44) (.tmp 48) 26 rfl (w.heap.size + 1) 41 i0 (.slice none 0 0) 1 24 Try.underlying26 hi0 hz0 hz1 hz2 rfl (by decide) _ T.length (T.map hdr) rfl ((hT.below hbel).alloc _).own ⟨w1.heap.size, 0, none⟩ 1 1 [.slice (some ⟨b, 0, none⟩) D D] rfl rfl (cell_one_new _ _ _) (by simp [Value.oneCell']) (by unfold maxLen; omega) (by omega) (by rw [nblk_alloc]; omega) ?_; intro v' w2 hown' hgrow hnn)
              have hT2 := Tab.append hT hbel hs hb1 hB1 (globalL_ok D k hD (by omega)) (by omega) hgrow hown'
              have hb2 := below_append hT hbr hbel hs hgrow
              have hs2 := hgrow.size
              rw [nblk_alloc] at hs2
              clear hT hown' hgrow hnn hB1 hbel hbr
              go_roundw
              case rel => exact ⟨k + 1, _, by omega, by go_num, hT2, by rw [range_snoc, ← List.append_assoc]; exact HH.out.push b _, hb2, by omega⟩
              case measure => simp [intOf]; omega
            · have hkD : G = k := by omega
              clear hlt hk
              subst hkD
              have HH := hide hH
              clear hH
              go_wp2
              go_ret2
              refine ⟨_, T, rfl, hT, HH.out, ?_⟩
              exact ((Below.refl _ _).alloc (Nat.le_refl _) _).trans (hbr.mono (by omega))
end Go.Proofs.Ythhommjlomphdaa
