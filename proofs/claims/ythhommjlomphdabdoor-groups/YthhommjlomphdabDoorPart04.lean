import Derived.Test.YthhommjlomphdabDoorPart03
import Derived.Test.YthhommjlomphdabDoorPart02
/-
  The program's matrix.
-/
namespace Go.Proofs.YthhommjlomphdabDoor
open Go.RowKit Go.Deep Gf

/-- the whole matrix, by its rows -/
def matL (D L G : Nat) : List (List Nat) := (List.range D).map (dataL D) ++ (List.range L).map (localL D L) ++ (List.range G).map (globalL D)
/-- what a list of rows holds: rows of D bytes each -/
def Holds (T : List (Nat × Nat × List Nat)) (D : Nat) (M : List (List Nat)) : Prop := T.map (fun p => p.2) = M.map (fun r => (D, r))
theorem Holds.push {T : List (Nat × Nat × List Nat)} {D : Nat} {M : List (List Nat)} (h : Holds T D M) (b : Nat) (r : List Nat) : Holds (T ++ [(b, D, r)]) D (M ++ [r]) := by
  unfold Holds at *
  simp [h]
theorem Holds.length {T : List (Nat × Nat × List Nat)} {D : Nat} {M : List (List Nat)} (h : Holds T D M) : T.length = M.length := by
  have := congrArg List.length h
  simpa using this
theorem dataL_ok (D i : Nat) : (dataL D i).length = D ∧ ∀ x ∈ dataL D i, x < 256 := by
  refine ⟨by simp [dataL], fun x hx => ?_⟩
  rcases List.mem_or_eq_of_mem_set hx with h | h
  · have := List.eq_of_mem_replicate h; omega
  · omega
theorem localL_ok (D L g : Nat) : (localL D L g).length = D ∧ ∀ x ∈ localL D L g, x < 256 := by
  refine ⟨by simp [localL], fun x hx => ?_⟩
  obtain ⟨j, _, rfl⟩ := List.mem_map.1 hx
  split <;> decide
theorem globalL_ok (D i : Nat) (hD : D ≤ 12) (hi : i ≤ 4) : (globalL D i).length = D ∧ ∀ x ∈ globalL D i, x < 256 := by
  refine ⟨by simp [globalL], fun x hx => ?_⟩
  obtain ⟨j, hj, rfl⟩ := List.mem_map.1 hx
  exact gi_lt (xlt (by omega) (by have := List.mem_range.1 hj; omega))

/-- an append of a new row -/
theorem Tab.append {w w1 w2 : World} {base : Nat} {v v' : Value} {T : List (Nat × Nat × List Nat)} {b D : Nat} {r : List Nat} {o : Obj} (h : Tab w base v T) (hb : Below w.heap.size w w1) (hbase : base ≤ w.heap.size) (hb1 : w.heap.size ≤ b) (hB : Brow w1 b r) (hr : r.length = D ∧ ∀ x ∈ r, x < 256) (hD : D ≤ 1000000)
    (hg : (w1.alloc o).grownBy w2 v.ownBlock) (hown : w2.ownsRow base 59 1 v' (T.length + 1) (T.map hdr ++ [.slice (some ⟨b, 0, none⟩) D D])) : Tab w2 base v' (T ++ [(b, D, r)]) := by
  have h1 := (h.below hb).alloc o
  refine h1.push hg (p := (b, D, r)) ?_ ⟨by show base ≤ b; omega, hB.alloc o, by show D ≤ r.length; omega, ⟨by show D ≤ 140737488355328; omega, by show r.length ≤ 9223372036854775807; omega⟩, hr.2⟩ ?_
  · have e : hdr (b, D, r) = .slice (some ⟨b, 0, none⟩) D D := by unfold hdr; simp [hr.1]
    rw [e]; exact hown
  · intro q hq
    have := (h.row q hq).2.1.lt
    show q.1 ≠ b
    omega
theorem box_cells {w wx : World} {a b c : Value} {t : TypeId} (h : Below (w.heap.size + 1) (w.alloc (.cells #[a, b, c] t)) wx) :
    wx.cell? ⟨w.heap.size, 0, none⟩ = some a ∧ wx.cell? ⟨w.heap.size, 1, none⟩ = some b ∧ wx.cell? ⟨w.heap.size, 2, none⟩ = some c := by
  have p0 := h.cell (p := ⟨w.heap.size, 0, none⟩) (by simp)
  have p1 := h.cell (p := ⟨w.heap.size, 1, none⟩) (by simp)
  have p2 := h.cell (p := ⟨w.heap.size, 2, none⟩) (by simp)
  rw [World.cell?_alloc_at _ _ _ _ rfl] at p0 p1 p2
  exact ⟨p0, p1, p2⟩
theorem below_made {B : Nat} {w0 wa wb wc : World} (ha : Below B w0 wa) (hB : B ≤ wa.heap.size) (hb : Below wa.heap.size wa wb) (hg : wb.grownBy wc none) : Below B w0 wc :=
  (ha.trans (hb.mono hB)).grown hg (by have := hb.size; omega) (fun k hk => by simp at hk)
theorem Tab.made {wc : World} {base g cap : Nat} (h : wc.ownsRow base 59 1 (.slice (some ⟨g, 0, none⟩) 0 cap) 0 []) : Tab wc base (.slice (some ⟨g, 0, none⟩) 0 cap) [] :=
  ⟨h, fun p hp => by simp at hp, by simp⟩
theorem Holds.nil (D : Nat) : Holds [] D [] := rfl
theorem range_snoc {α : Type} (f : Nat → α) (k : Nat) : (List.range (k + 1)).map f = (List.range k).map f ++ [f k] := by
  rw [List.range_succ, List.map_append]; rfl
set_option maxRecDepth 100000 in
set_option maxHeartbeats 4000000 in
theorem matrix_right (D L G : Nat) (hr : rightB D L G = true) (hD : D ≤ 12) (hL : 1 ≤ L) (hL4 : L ≤ 4) (hG : G ≤ 4) (hdiv : D % L = 0) (w : World) :
    Calls Tryd.prog 37 #[.agg #[.int .i64 D, .int .i64 L, .int .i64 G]] w fun e w' => ∃ v T, e = .returned (.tuple #[v, .nilIface]) ∧ Tab w' (w.heap.size + 1) v T ∧ Holds T D (matL D L G) ∧ Below w.heap.size w w' := by
  obtain ⟨i0, hi0, hz0, hz1, hz2⟩ := info_parts Tryd.infoBytes
  go_enter Tryd.func37, Tryd.ntmps37
  go_wp2_with fail
  refine (right_any D L G _).mono ?_
  rintro e wa ⟨rfl, hba⟩
  rw [nblk_alloc] at hba
  have hsa := hba.size
  rw [nblk_alloc] at hsa
  obtain ⟨p0, p1, p2⟩ := box_cells hba
  go_wp2_with fail
  refine (shards_any D L G _ (by omega) (by omega) (by omega)).mono ?_
  rintro e wb ⟨rfl, hbb⟩
  have hsb := hbb.size
  clear p0 p1 p2
  go_wp2_with (at_make; refine wpList_make_own _ rfl (.const (.int .i64 0)) (.tmp 13) 51 rfl (w.heap.size + 1) 59 i0 (.slice none 0 0) 1 Tryd.underlying51 hi0 hz0 hz1 .i64 .i64 (D + L + G) (D + L + G) rfl rfl (by omega) (by rw [hz2]; omega) (by unfold maxLen; omega) (by omega) ?_; intro wc hown hgr; have hbc := below_made hba hsa hbb hgr; obtain ⟨p0, p1, p2⟩ := box_cells hbc)
  have hT := Tab.made hown
  have hsc := hgr.size
  clear hown hgr hba hbb
  generalize Value.slice (some ⟨wb.heap.size, 0, none⟩) 0 (D + L + G) = v0 at *
  go_loopw [4, 17] (fun v i wr => ∃ k T, k ≤ D ∧ i = .int .i64 (k : Nat) ∧ Tab wr (w.heap.size + 1) v T ∧ Holds T D ((List.range k).map (dataL D)) ∧ Below (w.heap.size + 1) (w.alloc (.cells #[.int .i64 D, .int .i64 L, .int .i64 G] 23)) wr ∧ w.heap.size + 1 ≤ wr.heap.size) (fun _ i _ => D - (intOf i).toNat)
  case atStart => exact ⟨0, [], Nat.zero_le _, rfl, hT, Holds.nil D, hbc, by omega⟩
  case round =>
    clear hT hbc p0 p1 p2
    obtain ⟨k, T, hk, rfl, hT, hH, hbr, hs⟩ := hrel
    obtain ⟨p0, p1, p2⟩ := box_cells hbr
    by_cases hlt : k < D
    · have hlen := hH.length
      rw [List.length_map, List.length_range] at hlen
      have hlt12 : T.length ≤ 12 := by omega
      clear hlen
      have HH := hide hH
      clear hH
      go_wp2_with fail
      refine (dataRow_any D L G k hD hlt _).mono ?_
      rintro e w1 ⟨b, rfl, hb1, hB1, hbel⟩
      have hs1 := hbel.size
      go_wp2_with (at_builtin; refine wpList_append_own _ rfl (.tmp 20) (.tmp 24) 51 rfl (w.heap.size + 1) 59 i0 (.slice none 0 0) 1 24 Tryd.underlying51 hi0 hz0 hz1 hz2 rfl (by decide) _ T.length (T.map hdr) rfl ((hT.below hbel).alloc _).own ⟨w1.heap.size, 0, none⟩ 1 1 [.slice (some ⟨b, 0, none⟩) D D] rfl rfl (cell_one_new _ _ _) (by simp [Value.oneCell']) (by unfold maxLen; omega) (by omega) (by rw [nblk_alloc]; omega) ?_; intro v' w2 hown' hgrow hnn)
      have hT2 := Tab.append hT hbel hs hb1 hB1 (dataL_ok D k) (by omega) hgrow hown'
      have hb2 := below_append hT hbr hbel hs hgrow
      have hs2 := hgrow.size
      rw [nblk_alloc] at hs2
      clear hT hown' hgrow hnn hB1 hbel hbr
      go_roundw
      case rel => exact ⟨k + 1, _, by omega, by go_num, hT2, by rw [range_snoc]; exact HH.out.push b _, hb2, by omega⟩
      case measure => simp [intOf]; omega
    · have hkD : D = k := by omega
      clear hlt hk
      subst hkD
      have HH := hide hH
      clear hH
      go_wp2_with fail
      go_loopw [4, 29] (fun v i wr => ∃ k T, k ≤ L ∧ i = .int .i64 (k : Nat) ∧ Tab wr (w.heap.size + 1) v T ∧ Holds T D ((List.range D).map (dataL D) ++ (List.range k).map (localL D L)) ∧ Below (w.heap.size + 1) (w.alloc (.cells #[.int .i64 D, .int .i64 L, .int .i64 G] 23)) wr ∧ w.heap.size + 1 ≤ wr.heap.size) (fun _ i _ => L - (intOf i).toNat)
      case atStart => exact ⟨0, T, Nat.zero_le _, rfl, hT, by rw [List.range_zero, List.map_nil, List.append_nil]; exact HH.out, hbr, hs⟩
      case round =>
        clear hT hbr p0 p1 p2 HH hs
        obtain ⟨k, T, hk, rfl, hT, hH, hbr, hs⟩ := hrel
        obtain ⟨p0, p1, p2⟩ := box_cells hbr
        by_cases hlt : k < L
        · have hlen := hH.length
          simp only [List.length_append, List.length_map, List.length_range] at hlen
          have hlt12 : T.length ≤ 20 := by omega
          clear hlen
          have HH := hide hH
          clear hH
          go_wp2_with fail
          refine (localRow_any D L G k hD hL hL4 hdiv hlt _).mono ?_
          rintro e w1 ⟨b, rfl, hb1, hB1, hbel⟩
          have hs1 := hbel.size
          go_wp2_with (at_builtin; refine wpList_append_own _ rfl (.tmp 32) (.tmp 36) 51 rfl (w.heap.size + 1) 59 i0 (.slice none 0 0) 1 24 Tryd.underlying51 hi0 hz0 hz1 hz2 rfl (by decide) _ T.length (T.map hdr) rfl ((hT.below hbel).alloc _).own ⟨w1.heap.size, 0, none⟩ 1 1 [.slice (some ⟨b, 0, none⟩) D D] rfl rfl (cell_one_new _ _ _) (by simp [Value.oneCell']) (by unfold maxLen; omega) (by omega) (by rw [nblk_alloc]; omega) ?_; intro v' w2 hown' hgrow hnn)
          have hT2 := Tab.append hT hbel hs hb1 hB1 (localL_ok D L k) (by omega) hgrow hown'
          have hb2 := below_append hT hbr hbel hs hgrow
          have hs2 := hgrow.size
          rw [nblk_alloc] at hs2
          clear hT hown' hgrow hnn hB1 hbel hbr
          go_roundw
          case rel => exact ⟨k + 1, _, by omega, by go_num, hT2, by rw [range_snoc, ← List.append_assoc]; exact HH.out.push b _, hb2, by omega⟩
          case measure => simp [intOf]; omega
        · have hkD : L = k := by omega
          clear hlt hk
          subst hkD
          have HH := hide hH
          clear hH
          go_wp2_with fail
          go_loopw [4, 41] (fun v i wr => ∃ k T, k ≤ G ∧ i = .int .i64 (k : Nat) ∧ Tab wr (w.heap.size + 1) v T ∧ Holds T D (((List.range D).map (dataL D) ++ (List.range L).map (localL D L)) ++ (List.range k).map (globalL D)) ∧ Below (w.heap.size + 1) (w.alloc (.cells #[.int .i64 D, .int .i64 L, .int .i64 G] 23)) wr ∧ w.heap.size + 1 ≤ wr.heap.size) (fun _ i _ => G - (intOf i).toNat)
          case atStart => exact ⟨0, T, Nat.zero_le _, rfl, hT, by rw [List.range_zero, List.map_nil, List.append_nil]; exact HH.out, hbr, hs⟩
          case round =>
            clear hT hbr p0 p1 p2 HH hs
            obtain ⟨k, T, hk, rfl, hT, hH, hbr, hs⟩ := hrel
            obtain ⟨p0, p1, p2⟩ := box_cells hbr
            by_cases hlt : k < G
            · have hlen := hH.length
              simp only [List.length_append, List.length_map, List.length_range] at hlen
              have hlt12 : T.length ≤ 20 := by omega
              clear hlen
              have HH := hide hH
              clear hH
              go_wp2_with fail
              refine (globalRow_any D L G k hD (by omega) _).mono ?_
              rintro e w1 ⟨b, rfl, hb1, hB1, hbel⟩
              have hs1 := hbel.size
              go_wp2_with (at_builtin; refine wpList_append_own _ rfl (.tmp 44) (.tmp 48) 51 rfl (w.heap.size + 1) 59 i0 (.slice none 0 0) 1 24 Tryd.underlying51 hi0 hz0 hz1 hz2 rfl (by decide) _ T.length (T.map hdr) rfl ((hT.below hbel).alloc _).own ⟨w1.heap.size, 0, none⟩ 1 1 [.slice (some ⟨b, 0, none⟩) D D] rfl rfl (cell_one_new _ _ _) (by simp [Value.oneCell']) (by unfold maxLen; omega) (by omega) (by rw [nblk_alloc]; omega) ?_; intro v' w2 hown' hgrow hnn)
              have hT2 := Tab.append hT hbel hs hb1 hB1 (globalL_ok D k hD (by omega)) (by omega) hgrow hown'
              have hb2 := below_append hT hbr hbel hs hgrow
              have hs2 := hgrow.size
              rw [nblk_alloc] at hs2
              clear hT hown' hgrow hnn hB1 hbel hbr
              go_roundw
              case rel => exact ⟨k + 1, _, by omega, by go_num, hT2, by rw [range_snoc, ← List.append_assoc]; exact HH.out.push b _, hb2, by omega⟩
              case measure => simp [intOf]; omega
            · have hkD : G = k := by omega
              clear hlt hk
              subst hkD
              have HH := hide hH
              clear hH
              go_wp2
              go_ret2
              refine ⟨_, T, rfl, hT, HH.out, ?_⟩
              exact ((Below.refl _ _).alloc (Nat.le_refl _) _).trans (hbr.mono (by omega))
end Go.Proofs.YthhommjlomphdabDoor
/-
  The rows of the shards that are not lost: as many as there are global parities may be lost, whichever they are.
-/
namespace Go.Proofs.YthhommjlomphdabDoor
open Gf

def keepTo (M : List (List Nat)) (lost k : Nat) : List (List Nat) := ((List.range k).filter (fun i => decide (lost / 2 ^ i % 2 = 0))).map (fun i => M.getD i [])
theorem keep_zero (M : List (List Nat)) (lost : Nat) : keepTo M lost 0 = [] := rfl
theorem keep_in (M : List (List Nat)) (lost k : Nat) (h : lost / 2 ^ k % 2 = 0) : keepTo M lost (k + 1) = keepTo M lost k ++ [M.getD k []] := by
  simp [keepTo, List.range_succ, h]
theorem keep_out (M : List (List Nat)) (lost k : Nat) (h : lost / 2 ^ k % 2 ≠ 0) : keepTo M lost (k + 1) = keepTo M lost k := by
  simp [keepTo, List.range_succ, h]
theorem keep_mem (M : List (List Nat)) (lost k : Nat) (hk : k ≤ M.length) : ∀ l ∈ keepTo M lost k, l ∈ M := by
  intro l hl
  simp [keepTo] at hl
  obtain ⟨i, ⟨hi, _⟩, rfl⟩ := hl
  rw [List.getElem?_eq_getElem (by omega)]
  exact List.getElem_mem _
theorem keep_len (M : List (List Nat)) (lost k : Nat) : (keepTo M lost k).length ≤ k := by
  unfold keepTo
  rw [List.length_map]
  exact Nat.le_trans (List.length_filter_le _ _) (by simp)
theorem rem_iff (T : List (List Nat)) (v : Nat → Nat) : Rem T 0 v ↔ ∃ l ∈ T, v = vec l := by
  constructor
  · rintro ⟨i, hi, _, rfl⟩; exact ⟨_, List.getElem_mem hi, rfl⟩
  · rintro ⟨l, hl, rfl⟩
    obtain ⟨i, hi, rfl⟩ := List.mem_iff_getElem.1 hl
    exact ⟨i, hi, Nat.zero_le _, rfl⟩
theorem rem_keep (M : List (List Nat)) (lost k : Nat) (v : Nat → Nat) : Rem (keepTo M lost k) 0 v ↔ ∃ i, i < k ∧ lost / 2 ^ i % 2 = 0 ∧ v = vec (M.getD i []) := by
  rw [rem_iff]
  constructor
  · rintro ⟨l, hl, rfl⟩
    simp only [keepTo, List.mem_map, List.mem_filter, List.mem_range, decide_eq_true_eq] at hl
    obtain ⟨i, ⟨hi, hb⟩, rfl⟩ := hl
    exact ⟨i, hi, hb, rfl⟩
  · rintro ⟨i, hi, hb, rfl⟩
    refine ⟨_, ?_, rfl⟩
    simp only [keepTo, List.mem_map, List.mem_filter, List.mem_range, decide_eq_true_eq]
    exact ⟨i, ⟨hi, hb⟩, rfl⟩
/-- how many are lost -/
def cnt (lost n : Nat) : Nat := (List.range n).countP (fun i => decide (lost / 2 ^ i % 2 = 1))
theorem cnt_succ (lost n : Nat) : cnt lost (n + 1) = cnt lost n + (if lost / 2 ^ n % 2 = 1 then 1 else 0) := by
  simp [cnt, List.range_succ, List.countP_append, List.countP_cons]
theorem cnt_le (lost n : Nat) : cnt lost n ≤ n := by
  have := List.countP_le_length (p := fun i => decide (lost / 2 ^ i % 2 = 1)) (l := List.range n)
  simpa [cnt] using this
theorem vec_data (D i : Nat) (hi : i < D) : vec (dataL D i) = unitV i := by
  funext j
  unfold vec dataL unitV
  by_cases e : j = i
  · subst e; simp [hi]
  · rw [if_neg e]
    simp [Ne.symm e, List.getElem?_replicate]
    split <;> rfl
theorem vec_global (D i j : Nat) : vec (globalL D i) j = if j < D then gi ((D + i) ^^^ j) else 0 := by
  unfold vec globalL
  by_cases h : j < D
  · simp [h]
  · simp [h]
theorem mat_data (D L G i : Nat) (hi : i < D) : (matL D L G).getD i [] = dataL D i := by
  simp [matL, List.getElem?_append, hi]
theorem mat_global (D L G i : Nat) (hi : i < G) : (matL D L G).getD (D + L + i) [] = globalL D i := by
  have e1 : ¬ D + L + i < D := by omega
  have e2 : ¬ D + L + i - D < L := by omega
  have e3 : D + L + i - D - L = i := by omega
  simp [matL, List.getElem?_append, e1, e2, e3, hi]
theorem clearV {R : (Nat → Nat) → Prop} (hR : ∀ r, R r → byteV r) {v : Nat → Nat} (hv : Span R v) : ∀ K : List Nat, (∀ k ∈ K, Span R (unitV k)) → Span R (fun j => if j ∈ K then 0 else v j)
  | [], _ => by simpa using hv
  | k :: K, h => by
    by_cases hk : k ∈ K
    · have e : (fun j => if j ∈ k :: K then 0 else v j) = fun j => if j ∈ K then 0 else v j := by
        funext j
        by_cases e1 : j = k
        · subst e1; simp [hk]
        · simp [e1]
      rw [e]; exact clearV hR hv K (fun j hj => h j (List.mem_cons_of_mem _ hj))
    · have hb := hv.byte k
      have t := Span.add hR (clearV hR hv K (fun j hj => h j (List.mem_cons_of_mem _ hj))) hb (h k List.mem_cons_self)
      have e : addV (fun j => if j ∈ K then 0 else v j) (v k) (unitV k) = fun j => if j ∈ k :: K then 0 else v j := by
        funext j
        show (if j ∈ K then 0 else v j) ^^^ gm (v k) (if j = k then 1 else 0) = _
        by_cases e1 : j = k
        · subst e1
          rw [if_neg hk, if_pos rfl, gm_one _ hb, Nat.xor_self, if_pos List.mem_cons_self]
        · rw [if_neg e1, gm_zero, Nat.xor_zero]
          by_cases e2 : j ∈ K
          · rw [if_pos e2, if_pos (List.mem_cons_of_mem _ e2)]
          · rw [if_neg e2, if_neg (by simp [e1, e2])]
      rwa [e] at t
theorem any_full (D L G lost : Nat) (hD : D ≤ 12) (hG : G ≤ 4) (hR : ∀ r, Rem (keepTo (matL D L G) lost (D + L + G)) 0 r → byteV r) (hc : cnt lost (D + L + G) ≤ G) :
    Full (Rem (keepTo (matL D L G) lost (D + L + G)) 0) 0 D := by
  have kd : ∀ j, j < D → lost / 2 ^ j % 2 = 0 → Span (Rem (keepTo (matL D L G) lost (D + L + G)) 0) (unitV j) := by
    intro j hj hb
    have hr : Rem (keepTo (matL D L G) lost (D + L + G)) 0 (unitV j) := (rem_keep _ _ _ _).2 ⟨j, by omega, hb, by rw [mat_data D L G j hj, vec_data D j hj]⟩
    exact Span.mem (unitV_byte j) hr
  have hcs : cnt lost (D + L + G) = cnt lost D + ((List.range L).countP (fun i => decide (lost / 2 ^ (D + i) % 2 = 1)) + (List.range G).countP (fun i => decide (lost / 2 ^ (D + L + i) % 2 = 1))) := by
    unfold cnt
    rw [List.range_add, List.countP_append, List.range_add, List.countP_append, List.countP_map, List.countP_map, Nat.add_assoc]
    rfl
  have hg := List.length_eq_countP_add_countP (fun i => decide (lost / 2 ^ (D + L + i) % 2 = 1)) (l := List.range G)
  rw [List.length_range] at hg
  have ng : (List.range G).countP (fun i => decide ¬ (decide (lost / 2 ^ (D + L + i) % 2 = 1)) = true) = ((List.range G).filter (fun i => decide (lost / 2 ^ (D + L + i) % 2 = 0))).length := by
    rw [← List.countP_eq_length_filter]
    congr 1
    funext i
    have := Nat.mod_two_eq_zero_or_one (lost / 2 ^ (D + L + i))
    rcases this with h | h <;> simp [h]
  have nl : cnt lost D = ((List.range D).filter (fun i => decide (lost / 2 ^ i % 2 = 1))).length := by rw [cnt, List.countP_eq_length_filter]
  refine Full.units hR fun j hj => ?_
  rcases Nat.mod_two_eq_zero_or_one (lost / 2 ^ j) with hb | hb
  · exact kd j hj hb
  · refine cauchy _ hR ((List.range D).filter (fun i => decide (lost / 2 ^ i % 2 = 1))) (((List.range G).filter (fun i => decide (lost / 2 ^ (D + L + i) % 2 = 0))).map (fun i => D + i)) (fun _ => 1)
      (List.nodup_range.filter _) ?_ ?_ ?_ ?_ ?_ j (by simp [hj, hb])
    · exact List.Pairwise.map _ (fun a b h => by omega) (List.nodup_range.filter _)
    · rw [List.length_map, ← nl, ← ng]; omega
    · intro i hi
      simp at hi
      exact ⟨by omega, by decide, by decide⟩
    · intro x hx
      simp at hx
      obtain ⟨i, ⟨hi, _⟩, rfl⟩ := hx
      refine ⟨by omega, fun k hk => ?_⟩
      simp at hk
      omega
    · intro x hx
      simp only [List.mem_map, List.mem_filter, List.mem_range, decide_eq_true_eq] at hx
      obtain ⟨i, ⟨hi, hbi⟩, rfl⟩ := hx
      have hr : Rem (keepTo (matL D L G) lost (D + L + G)) 0 (vec (globalL D i)) := (rem_keep _ _ _ _).2 ⟨D + L + i, by omega, hbi, by rw [mat_global D L G i hi]⟩
      have t := clearV hR (Span.mem (hR _ hr) hr) ((List.range D).filter (fun i => decide (lost / 2 ^ i % 2 = 0))) (fun k hk => by
        simp only [List.mem_filter, List.mem_range, decide_eq_true_eq] at hk
        exact kd k hk.1 hk.2)
      have e : (fun j => if j ∈ (List.range D).filter (fun i => decide (lost / 2 ^ i % 2 = 0)) then 0 else vec (globalL D i) j) = cauV ((List.range D).filter (fun i => decide (lost / 2 ^ i % 2 = 1))) (fun _ => 1) (D + i) := by
        funext k
        unfold cauV
        rw [vec_global]
        simp only [List.mem_filter, List.mem_range, decide_eq_true_eq]
        by_cases hk : k < D
        · rcases Nat.mod_two_eq_zero_or_one (lost / 2 ^ k) with hb2 | hb2
          · rw [if_pos ⟨hk, hb2⟩, if_neg (by omega)]
          · rw [if_neg (by omega), if_pos hk, if_pos ⟨hk, hb2⟩]
            have := gi_lt (a := (D + i) ^^^ k) (xlt (by omega) (by omega))
            rw [gm_comm (a := 1) (by decide) this, gm_one _ this]
        · rw [if_neg (by omega), if_neg hk, if_neg (by omega)]
      rwa [e] at t
/-- what can be repaired can be, if less is lost -/
theorem keep_mono (M : List (List Nat)) (lost less k D : Nat) (hs : ∀ i, i < k → lost / 2 ^ i % 2 = 0 → less / 2 ^ i % 2 = 0) (h : Full (Rem (keepTo M lost k) 0) 0 D) : Full (Rem (keepTo M less k) 0) 0 D :=
  h.mono fun r hr => by
    obtain ⟨i, hi, hb, e⟩ := (rem_keep _ _ _ _).1 hr
    exact (rem_keep _ _ _ _).2 ⟨i, hi, hs i hi hb, e⟩
theorem keep_none (M : List (List Nat)) (lost k D : Nat) (hD : 1 ≤ D) (hs : ∀ i, i < k → lost / 2 ^ i % 2 = 1) : ¬ Full (Rem (keepTo M lost k) 0) 0 D := by
  intro h
  have := Span.nought (c := 0) (fun r hr => by
    obtain ⟨i, hi, hb, _⟩ := (rem_keep _ _ _ _).1 hr
    have := hs i hi
    omega) (h (unitV 0) (unitV_byte 0) (fun j hj => if_neg (by omega)))
  simp [unitV] at this
end Go.Proofs.YthhommjlomphdabDoor
/-
  Rows of which each byte is written anew, one by one.
-/
namespace Go.Proofs.YthhommjlomphdabDoor
open Go.RowKit Go.Deep Gf

def xr (c : Nat) (l : List Nat) : List Nat := l.map (fun x => x ^^^ c)
def xrTo (c k : Nat) (l : List Nat) : List Nat := (List.range l.length).map fun j => if j < k then l.getD j 0 ^^^ c else l.getD j 0
theorem xrTo_zero (c : Nat) (l : List Nat) : xrTo c 0 l = l := by
  unfold xrTo
  apply List.ext_getElem
  · simp
  · intro j h1 h2; simp [h2]
theorem xrTo_end (c : Nat) (l : List Nat) : xrTo c l.length l = xr c l := by
  unfold xrTo xr
  apply List.ext_getElem
  · simp
  · intro j h1 h2
    simp at h1
    simp [h1]
theorem xrTo_len (c k : Nat) (l : List Nat) : (xrTo c k l).length = l.length := by simp [xrTo]
theorem xrTo_get (c k : Nat) (l : List Nat) (hk : k < l.length) : (xrTo c k l).getD k 0 = l.getD k 0 := by simp [xrTo, hk]
theorem xrTo_step (c k : Nat) (l : List Nat) : (xrTo c k l).set k (l.getD k 0 ^^^ c) = xrTo c (k + 1) l := by
  unfold xrTo
  apply List.ext_getElem
  · simp
  · intro j h1 h2
    simp [List.getElem_set]
    by_cases e : k = j
    · subst e; simp
    · simp only [if_neg e]
      by_cases e2 : j < k
      · rw [if_pos e2, if_pos (by omega)]
      · rw [if_neg e2, if_neg (by omega)]
theorem xr_lt {c : Nat} (hc : c < 256) {l : List Nat} (h : ∀ x ∈ l, x < 256) : ∀ x ∈ xr c l, x < 256 := by
  intro x hx
  obtain ⟨y, hy, rfl⟩ := List.mem_map.1 hx
  exact xlt (h y hy) hc
theorem xr_get (c : Nat) (l : List Nat) (k : Nat) (hk : k < l.length) : (xr c l).getD k 0 = l.getD k 0 ^^^ c := by simp [xr, hk]
theorem xr_len (c : Nat) (l : List Nat) : (xr c l).length = l.length := by simp [xr]

def SA2 (wo : World) (b c : Nat) (l : List Nat) (i : Value) (wr : World) : Prop :=
  ∃ k : Nat, k ≤ l.length ∧ i = .int .i64 k ∧ wo.grownBy wr (some b) ∧ Brow wr b (xrTo c k l)
theorem Bs.drew {w : World} {v : Value} {l : List Nat} (h : Bs w v l) (n : Nat) : Bs (w.drewN n) v l := h.mono ⟨rfl, rfl, rfl, Nat.le_refl _, fun _ _ => rfl⟩
end Go.Proofs.YthhommjlomphdabDoor
