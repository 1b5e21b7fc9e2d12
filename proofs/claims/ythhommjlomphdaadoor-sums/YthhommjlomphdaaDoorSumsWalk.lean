/-
  The law on sums: its walk.
-/
import Derived.Test.YthhommjlomphdaaDoorSumsMath
import Derived.RegionTactic
import Derived.BigRegion
namespace Go.Proofs.YthhommjlomphdaaDoor
open Go.RowKit Go.Deep Gf

def cRow (A B : List (List Nat)) (n j : Nat) : List Nat := (List.range n).map fun k => at2 A j k ^^^ at2 B j k
def cTo (A B : List (List Nat)) (n j t : Nat) : List Nat := (List.range n).map fun k => if k < t then at2 A j k ^^^ at2 B j k else 0
theorem cTo_zero (A B : List (List Nat)) (n j : Nat) : cTo A B n j 0 = List.replicate n 0 := by
  unfold cTo
  apply List.ext_getElem
  · simp
  · intro q h1 h2; simp
theorem cTo_end (A B : List (List Nat)) (n j : Nat) : cTo A B n j n = cRow A B n j := by
  unfold cTo cRow
  apply List.ext_getElem
  · simp
  · intro q h1 h2
    simp at h1
    simp [h1]
theorem cTo_len (A B : List (List Nat)) (n j t : Nat) : (cTo A B n j t).length = n := by simp [cTo]
theorem cTo_step (A B : List (List Nat)) (n j t : Nat) : (cTo A B n j t).set t (at2 A j t ^^^ at2 B j t) = cTo A B n j (t + 1) := by
  unfold cTo
  apply List.ext_getElem
  · simp
  · intro q h1 h2
    simp [List.getElem_set]
    by_cases e : t = q
    · subst e; simp
    · simp only [if_neg e]
      by_cases e2 : q < t
      · rw [if_pos e2, if_pos (by omega)]
      · rw [if_neg e2, if_neg (by omega)]
theorem cRow_ok (A B : List (List Nat)) (hA : ∀ i k, at2 A i k < 256) (hB : ∀ i k, at2 B i k < 256) (n j : Nat) : (cRow A B n j).length = n ∧ ∀ x ∈ cRow A B n j, x < 256 := by
  refine ⟨by simp [cRow], fun x hx => ?_⟩
  obtain ⟨k, _, rfl⟩ := List.mem_map.1 hx
  exact xlt (hA j k) (hB j k)
theorem at2_lt {w : World} {v : Value} {D : List (List Nat)} (h : Rd w v D) : ∀ i k, at2 D i k < 256 := by
  intro i k
  unfold at2
  by_cases hi : i < D.length
  · rcases h.cases with ⟨rfl, _⟩ | ⟨b, off, c, _, _, hc⟩
    · simp at hi
    · obtain ⟨u, _, hB⟩ := hc i hi
      have e : D.getD i [] = D[i] := by simp [hi]
      rw [e]
      exact getD_lt hB.lt k
  · have e : D.getD i [] = [] := by simp [List.getElem?_eq_none (Nat.not_lt.1 hi)]
    rw [e]
    exact (by decide : (0 : Nat) < 256)
set_option maxRecDepth 100000 in
set_option maxHeartbeats 4000000 in
theorem sums_wrong (D L G : Int) (hr : rightB D L G = false) (va vb : Value) (w : World) :
    Calls Tryd.prog 5 #[.agg #[.int .i64 D, .int .i64 L, .int .i64 G], va, vb] w fun e w' => e = .returned (.bool true) ∧ Below w.heap.size w w' := by
  go_enter Tryd.func5, Tryd.ntmps5
  go_wp2_with fail
  refine (theirs_any D L G _).mono ?_
  rintro e w1 ⟨rfl, hb1⟩
  rw [nblk_alloc] at hb1
  have hs1 := hb1.size
  rw [nblk_alloc] at hs1
  go_wp2_with fail
  refine (rright_any D L G _).mono ?_
  rintro e w2 ⟨rfl, hb2⟩
  rw [nblk_alloc] at hb2
  have hbw : Below w.heap.size w w2 := (((Below.refl _ _).alloc (Nat.le_refl _) _).trans (hb1.mono (by omega))).trans (((Below.refl _ _).alloc (by omega) _).trans (hb2.mono (by omega)))
  go_wp2
  go_ret
  exact ⟨rfl, hbw⟩
/-- the two boxes of params, and all that was there -/
structure Boxes (w w1 w2 : World) (D L G : Nat) : Prop where
  bel : Below w.heap.size w w2
  s1 : w.heap.size + 1 ≤ w1.heap.size
  s2 : w1.heap.size + 1 ≤ w2.heap.size
  p0 : w2.cell? ⟨w.heap.size, 0, none⟩ = some (.int .i64 D)
  p1 : w2.cell? ⟨w.heap.size, 1, none⟩ = some (.int .i64 L)
  p2 : w2.cell? ⟨w.heap.size, 2, none⟩ = some (.int .i64 G)
  q0 : w2.cell? ⟨w1.heap.size, 0, none⟩ = some (.int .i64 D)
  q1 : w2.cell? ⟨w1.heap.size, 1, none⟩ = some (.int .i64 L)
  q2 : w2.cell? ⟨w1.heap.size, 2, none⟩ = some (.int .i64 G)
theorem boxes_of {w w1 w2 : World} {D L G : Nat} (hb1 : Below (w.heap.size + 1) (w.alloc (.cells #[.int .i64 D, .int .i64 L, .int .i64 G] 23)) w1) (hb2 : Below (w1.heap.size + 1) (w1.alloc (.cells #[.int .i64 D, .int .i64 L, .int .i64 G] 31)) w2) : Boxes w w1 w2 D L G := by
  have hs1 := hb1.size
  have hs2 := hb2.size
  rw [nblk_alloc] at hs1 hs2
  obtain ⟨a0, a1, a2⟩ := box_cells hb1
  obtain ⟨c0, c1, c2⟩ := box_cells hb2
  have hb12 : Below w1.heap.size w1 w2 := ((Below.refl _ _).alloc (Nat.le_refl _) _).trans (hb2.mono (by omega))
  refine ⟨(((Below.refl _ _).alloc (Nat.le_refl _) _).trans (hb1.mono (by omega))).trans (hb12.mono (by omega)), hs1, hs2, ?_, ?_, ?_, c0, c1, c2⟩
  · rw [hb12.cell (by simp; omega)]; exact a0
  · rw [hb12.cell (by simp; omega)]; exact a1
  · rw [hb12.cell (by simp; omega)]; exact a2
theorem Boxes.mono {w w1 w2 w3 : World} {D L G : Nat} (h : Boxes w w1 w2 D L G) (hb : Below w2.heap.size w2 w3) : Boxes w w1 w3 D L G := by
  have := hb.size
  have a := h.s1
  have b := h.s2
  have c := h.bel.size
  refine ⟨h.bel.trans (hb.mono c), a, by omega, ?_, ?_, ?_, ?_, ?_, ?_⟩
  · rw [hb.cell (by simp; omega)]; exact h.p0
  · rw [hb.cell (by simp; omega)]; exact h.p1
  · rw [hb.cell (by simp; omega)]; exact h.p2
  · rw [hb.cell (by simp; omega)]; exact h.q0
  · rw [hb.cell (by simp; omega)]; exact h.q1
  · rw [hb.cell (by simp; omega)]; exact h.q2

theorem Tab.rdH {w : World} {B : Nat} {v : Value} {T : List (Nat × Nat × List Nat)} {C : List (List Nat)} {n : Nat} (h : Tab w B v T) (hH : Holds T n C) (hn : ∀ l ∈ C, l.length = n) (hl : C.length ≤ 100000) : Rd w v C := by
  have hlen := hH.length
  obtain ⟨ao, cap, rfl, hao⟩ := h.slice
  refine ⟨ao, cap, by rw [hlen], by omega, fun hD => ?_⟩
  obtain ⟨g, rfl⟩ := hao (by intro e; rw [e] at hlen; exact hD (List.eq_nil_of_length_eq_zero hlen.symm))
  refine ⟨g, 0, rfl, fun i hi => ?_⟩
  have hiT : i < T.length := by omega
  refine ⟨hdr T[i], by rw [Nat.zero_add]; exact h.cell_at hiT, ?_⟩
  have := h.row_at hiT
  have hat := hH.at hiT hi
  rw [hat] at this
  have e : (C[i]).take n = C[i] := by rw [List.take_of_length_le]; rw [hn _ (List.getElem_mem hi)]; exact Nat.le_refl _
  rw [e] at this
  exact this
set_option maxRecDepth 100000 in
set_option maxHeartbeats 4000000 in
theorem sums_len (D L G : Nat) (hr : rightB D L G = true) (_hD1 : 1 ≤ D) (va vb : Value) (A B : List (List Nat)) (w : World) (ha : Rd w va A) (hb : Rd w vb B) (hne : ¬ (A.length = D ∧ B.length = D)) :
    Calls Tryd.prog 5 #[.agg #[.int .i64 D, .int .i64 L, .int .i64 G], va, vb] w fun e w' => e = .returned (.bool true) ∧ Below w.heap.size w w' := by
  obtain ⟨ao, ac, rfl, _, _⟩ := ha
  obtain ⟨bo, bc, rfl, _, _⟩ := hb
  by_cases hA : A.length = D
  · have tA : (((A.length : Nat) : Int) != (D : Int)) = false := by rw [hA]; simp
    have tB : (((B.length : Nat) : Int) != (D : Int)) = true := by
      rw [bne_iff_ne]
      have : ¬ B.length = D := fun h => hne ⟨hA, h⟩
      omega
    clear hne hA
    go_enter Tryd.func5, Tryd.ntmps5
    go_wp2_with fail
    refine (theirs_any D L G _).mono ?_
    rintro e w1 ⟨rfl, hb1⟩
    rw [nblk_alloc] at hb1
    go_wp2_with fail
    refine (rright_any D L G _).mono ?_
    rintro e w2 ⟨rfl, hb2⟩
    rw [nblk_alloc] at hb2
    obtain ⟨hbel, hs1, hs2, p0, p1, p2, q0, q1, q2⟩ := boxes_of hb1 hb2
    go_wp2
    go_ret
    exact ⟨rfl, hbel⟩
  · have tA : (((A.length : Nat) : Int) != (D : Int)) = true := by rw [bne_iff_ne]; omega
    clear hne hA
    go_enter Tryd.func5, Tryd.ntmps5
    go_wp2_with fail
    refine (theirs_any D L G _).mono ?_
    rintro e w1 ⟨rfl, hb1⟩
    rw [nblk_alloc] at hb1
    go_wp2_with fail
    refine (rright_any D L G _).mono ?_
    rintro e w2 ⟨rfl, hb2⟩
    rw [nblk_alloc] at hb2
    obtain ⟨hbel, hs1, hs2, p0, p1, p2, q0, q1, q2⟩ := boxes_of hb1 hb2
    go_wp2
    go_ret
    exact ⟨rfl, hbel⟩
/-- a shard's cells -/
theorem shard_cells {W : World} {B g N c n : Nat} {T : List (Nat × Nat × List Nat)} {M A : List (List Nat)} (h : Tab W B (.slice (some ⟨g, 0, none⟩) N c) T) (hH : Holds T n (encL M A n)) (i : Nat) (hi : i < M.length) :
    ∃ rb, W.cell? ⟨g, i, none⟩ = some (.slice (some ⟨rb, 0, none⟩) n n) ∧ ∀ k, k < n → W.cell? ⟨rb, k, none⟩ = some (.int .u8 ((acc M[i] A A.length k : Nat) : Int)) := by
  have hlen := hH.length
  have hle : (encL M A n).length = M.length := by simp [encL]
  have hiT : i < T.length := by omega
  have hca := h.cell_at hiT
  have hrow := (h.row _ (List.getElem_mem hiT)).2.1
  have hat := hH.at hiT (by omega)
  rw [encL_at M A n i hi] at hat
  obtain ⟨⟨rb, rn, rl⟩, hTt⟩ : ∃ p, p = T[i] := ⟨_, rfl⟩
  rw [← hTt] at hca hrow hat
  simp only [hdr, Prod.mk.injEq] at hca hrow hat
  obtain ⟨rfl, rfl⟩ := hat
  rw [combTo_len] at hca
  refine ⟨rb, hca, fun k hk => ?_⟩
  have := hrow.cell k (by rw [combTo_len]; exact hk)
  rw [combTo_get _ _ _ _ _ hk] at this
  exact this
/-- what the loop that adds up has made -/
def SR1 (w w1 w2 : World) (D L G n : Nat) (A B : List (List Nat)) (v i : Value) (wr : World) : Prop :=
  ∃ k T, k ≤ D ∧ i = .int .i64 (k : Nat) ∧ Tab wr w2.heap.size v T ∧ Holds T n ((List.range k).map (cRow A B n)) ∧ Below w2.heap.size w2 wr ∧ w2.heap.size ≤ wr.heap.size ∧ Boxes w w1 wr D L G ∧ (∀ j, j < k → (A.getD j []).length = n ∧ (B.getD j []).length = n)
def SR2 (wo : World) (A B : List (List Nat)) (n j : Nat) (i : Value) (wr : World) : Prop :=
  ∃ k : Nat, k ≤ n ∧ i = .int .i64 k ∧ Brow wr wo.heap.size (cTo A B n j k) ∧ Below wo.heap.size wo wr
/-- a row of data, in whatever world -/
theorem Rd.row {w wr : World} {b off : Nat} {A : List (List Nat)} (hc : ∀ i (hi : i < A.length), ∃ u, w.cell? ⟨b, off + i, none⟩ = some u ∧ Bs w u A[i]) (hb : Below w.heap.size w wr) (i : Nat) (hi : i < A.length) :
    ∃ ao cc, wr.cell? ⟨b, off + i, none⟩ = some (.slice ao (A.getD i []).length cc) ∧ (A.getD i []).length ≤ 140737488355328 ∧ (0 < (A.getD i []).length → ∃ fb foff, ao = some ⟨fb, foff, none⟩ ∧ fb < w.heap.size ∧ ∀ k, k < (A.getD i []).length → wr.cell? ⟨fb, foff + k, none⟩ = some (.int .u8 ((at2 A i k : Nat) : Int))) := by
  obtain ⟨u, hu, hB⟩ := hc i hi
  obtain ⟨ao, cc, rfl, q1, q2, q3, q4⟩ := hB
  have e : A.getD i [] = A[i] := by simp [hi]
  refine ⟨ao, cc, ?_, by rw [e]; omega, fun hp => ?_⟩
  · rw [e, hb.cell (block_lt_of_cell hu)]; exact hu
  · rw [e] at hp ⊢
    obtain ⟨fb, foff, rfl, hf⟩ := q4 (by intro z; rw [z] at hp; simp at hp)
    have hfb : fb < w.heap.size := block_lt_of_cell (hf 0 hp)
    refine ⟨fb, foff, rfl, hfb, fun k hk => ?_⟩
    rw [hb.cell (p := ⟨fb, foff + k, none⟩) hfb, hf k hk]
    unfold at2
    rw [e]
set_option maxRecDepth 100000 in
set_option maxHeartbeats 8000000 in
theorem sums_right (D L G : Nat) (hr : rightB D L G = true) (hD1 : 1 ≤ D) (hD : D ≤ 12) (hL : 1 ≤ L) (hL4 : L ≤ 4) (hG : G ≤ 4) (hdiv : D % L = 0) (hsum : D + L + G ≤ 16) (va vb : Value) (A B : List (List Nat)) (w : World) (ha : Rd w va A) (hb : Rd w vb B) (hlA : A.length = D) (hlB : B.length = D) :
    Calls Tryd.prog 5 #[.agg #[.int .i64 D, .int .i64 L, .int .i64 G], va, vb] w fun e w' => e = .returned (.bool true) ∧ Below w.heap.size w w' := by
  obtain ⟨i0, hi0, hz0, hz1, hz2⟩ := info_parts Tryd.infoBytes
  have hA256 := at2_lt ha
  have hB256 := at2_lt hb
  have hposA : 0 < A.length := by omega
  have hposB : 0 < B.length := by omega
  rcases ha.cases with ⟨rfl, _⟩ | ⟨ab, aoff, ac, rfl, _, hac⟩
  · simp at hposA
  rcases hb.cases with ⟨rfl, _⟩ | ⟨bb, boff, bc, rfl, _, hbc⟩
  · simp at hposB
  have tA : (((A.length : Nat) : Int) != (D : Int)) = false := by rw [hlA]; simp
  have tB : (((B.length : Nat) : Int) != (D : Int)) = false := by rw [hlB]; simp
  obtain ⟨n, hn⟩ : ∃ n, n = (A.getD 0 []).length := ⟨_, rfl⟩
  have HN := hide hn
  have HAC := hide hac
  have HBC := hide hbc
  have HLA := hide hlA
  have HLB := hide hlB
  have HA256 := hide hA256
  have HB256 := hide hB256
  have HA := hide ha
  have HB := hide hb
  clear hn hac hbc hlA hlB hA256 hB256 ha hb
  go_enter Tryd.func5, Tryd.ntmps5
  go_wp2_with fail
  refine (theirs_any D L G _).mono ?_
  rintro e w1 ⟨rfl, hb1⟩
  rw [nblk_alloc] at hb1
  go_wp2_with fail
  refine (rright_any D L G _).mono ?_
  rintro e w2 ⟨rfl, hb2⟩
  rw [nblk_alloc] at hb2
  have hBX := boxes_of hb1 hb2
  have HBX := hide hBX
  obtain ⟨hbel, hs1, hs2, p0, p1, p2, q0, q1, q2⟩ := hBX
  obtain ⟨ao0, cc0, ca0, hl0, _⟩ := Rd.row HAC.out hbel 0 hposA
  rw [← HN.out, Nat.add_zero] at ca0
  rw [← HN.out] at hl0
  clear hb1 hb2
  by_cases h200 : 200 < n
  · go_wp2
    go_ret
    exact ⟨rfl, hbel⟩
  go_wp2
  go_loopw [10, 11] (fun v i wr => SR1 w w1 w2 D L G n A B v i wr) (fun _ i _ => D - (intOf i).toNat)
  case atStart => exact ⟨0, [], Nat.zero_le _, rfl, Tab.nil _ _, rfl, Below.refl _ _, Nat.le_refl _, HBX.out, fun j h => absurd h (by omega)⟩
  case round =>
    clear p0 p1 p2 q0 q1 q2 ca0
    rename World => wo
    obtain ⟨k, T, hk, rfl, hT, hH, hbo, hso, hBXo, hok⟩ := hrel
    have HBXO := hide hBXo
    obtain ⟨hbelo, _, _, p0, p1, p2, q0, q1, q2⟩ := hBXo
    have HH := hide hH
    have hTl := hH.length
    rw [List.length_map, List.length_range] at hTl
    have hTl2 : T.length ≤ 20 := by omega
    have HOK := hide hok
    clear hH hTl hok
    by_cases hlt : k < D
    · have hkA : k < A.length := by rw [HLA.out]; exact hlt
      have hkB : k < B.length := by rw [HLB.out]; exact hlt
      obtain ⟨ao1, cc1, ca1, hl1, hfa⟩ := Rd.row HAC.out hbelo k hkA
      obtain ⟨bo1, dd1, cb1, hl2, hfb⟩ := Rd.row HBC.out hbelo k hkB
      by_cases e1 : (A.getD k []).length = n
      · by_cases e2 : (B.getD k []).length = n
        · have HOK2 : Hid (∀ j, j < k + 1 → (A.getD j []).length = n ∧ (B.getD j []).length = n) := by
            intro j hj
            by_cases e : j = k
            · subst e; exact ⟨e1, e2⟩
            · exact HOK.out j (by omega)
          rw [e1] at ca1 hfa hl1
          rw [e2] at cb1 hfb hl2
          have tn : (((n : Nat) : Int) != ((n : Nat) : Int)) = false := by simp
          have HFA := hide hfa
          have HFB := hide hfb
          clear e1 e2 hfa hfb HOK
          go_wp2_with (at_make; refine wpList_mk _ rfl (.tmp 76) (.tmp 76) rfl _ n rfl rfl rfl (by omega) ?_; intro w3 hS hb3 hz; clear hz)
          rw [← cTo_zero A B n k] at hS
          go_loopw [13] (fun i wr => SR2 wo A B n k i wr) (fun i _ => n - (intOf i).toNat)
          case atStart => exact ⟨0, Nat.zero_le _, rfl, hS, hb3⟩
          case round =>
            clear hS hb3
            rename World => wm
            obtain ⟨t, ht, rfl, hSt, hbt⟩ := hrel
            have hws := hSt.lt
            have hbwm : Below w.heap.size w wm := hbelo.trans (hbt.mono (by have := hbelo.size; omega))
            by_cases htn : t < n
            · obtain ⟨fb, foff, rfl, hfbl, hfc⟩ := HFA.out (by omega)
              obtain ⟨gb, goff, rfl, hgbl, hgc⟩ := HFB.out (by omega)
              have ca2 : wm.cell? ⟨ab, aoff + k, none⟩ = some (.slice (some ⟨fb, foff, none⟩) n cc1) := by rw [hbt.cell (block_lt_of_cell ca1)]; exact ca1
              have cb2 : wm.cell? ⟨bb, boff + k, none⟩ = some (.slice (some ⟨gb, goff, none⟩) n dd1) := by rw [hbt.cell (block_lt_of_cell cb1)]; exact cb1
              have c3 : wm.cell? ⟨fb, foff + t, none⟩ = some (.int .u8 ((at2 A k t : Nat) : Int)) := by rw [hbt.cell (block_lt_of_cell (hfc t htn))]; exact hfc t htn
              have c4 : wm.cell? ⟨gb, goff + t, none⟩ = some (.int .u8 ((at2 B k t : Nat) : Int)) := by rw [hbt.cell (block_lt_of_cell (hgc t htn))]; exact hgc t htn
              have c5 := hSt.cell t (by rw [cTo_len]; exact htn)
              have f5 := hSt.frozen t
              have hS2 := hSt.set t (at2 A k t ^^^ at2 B k t)
              rw [cTo_step] at hS2
              have hb2 := hbt.setCell (p := ⟨wo.heap.size, t, none⟩) (Nat.le_refl _) (.int .u8 ((at2 A k t ^^^ at2 B k t : Nat) : Int))
              have hxx := u8_xor (at2 A k t) (at2 B k t) (HA256.out k t) (HB256.out k t)
              generalize at2 A k t = xa at *
              generalize at2 B k t = xb at *
              generalize (cTo A B n k t).getD t 0 = xo at *
              have HS2 := hide hS2
              have HB2 := hide hb2
              clear hfc hgc hSt hbt HFA HFB hS2 hb2 ca1 cb1 hbwm
              go_wp2
              go_region
              all_goals
                go_wp2
                go_roundw
                case rel => exact ⟨t + 1, by omega, by go_num, HS2.out, ⟨HB2.out.os, HB2.out.tape, HB2.out.output, HB2.out.size, HB2.out.block⟩⟩
                case measure => simp [intOf]; omega
            · have htt : t = n := by omega
              rw [htt, cTo_end] at hSt
              clear htt
              have hro := cRow_ok A B HA256.out HB256.out n k
              go_wp2_with (at_builtin; refine wpList_append_own _ rfl (.tmp 101) (.tmp 103) 24 rfl w2.heap.size 44 i0 (.slice none 0 0) 1 24 Tryd.underlying24 hi0 hz0 hz1 hz2 rfl (by decide) _ T.length (T.map hdr) rfl ((hT.below hbt).alloc _).own ⟨wm.heap.size, 0, none⟩ 1 1 [.slice (some ⟨wo.heap.size, 0, none⟩) n n] rfl rfl (one_new _ _ rfl _ _) (by simp [Value.oneCell']) (by unfold maxLen; omega) (by omega) (by rw [nblk_alloc]; omega) ?_; intro v' w4 hown' hgrow hnn2)
              have hT2 := Tab.append2 hT hbt hso (Nat.le_refl _) hSt hro.1.symm (by rw [hro.1]; omega) (by rw [hro.1]; omega) hro.2 hgrow hown'
              have hb4 := below_append hT hbo hbt hso hgrow
              have hs4 := hgrow.size
              rw [nblk_alloc] at hs4
              have hBX4 := HBX.out.mono hb4
              have hH2 := HH.out.push wo.heap.size (cRow A B n k)
              rw [← range_snoc] at hH2
              have HH2 := hide hH2
              have HBX4 := hide hBX4
              clear hT hown' hgrow hnn2 hSt hbt hbo hH2 hBX4 ca1 cb1 hro
              go_wp2
              go_roundw
              case rel => exact ⟨k + 1, _, by omega, by go_num, hT2, HH2.out, hb4, by omega, HBX4.out, HOK2.out⟩
              case measure => simp [intOf]; omega
        · have t1 : (((n : Nat) : Int) != ((n : Nat) : Int)) = false := by simp
          have t2 : ((((B.getD k []).length : Nat) : Int) != ((n : Nat) : Int)) = true := by rw [bne_iff_ne]; omega
          rw [e1] at ca1
          generalize (B.getD k []).length = lb at *
          clear e1 e2 hfa hfb HOK
          go_wp2
          go_ret
          exact ⟨rfl, hbelo⟩
      · have t1 : ((((A.getD k []).length : Nat) : Int) != ((n : Nat) : Int)) = true := by rw [bne_iff_ne]; omega
        generalize (A.getD k []).length = la at *
        generalize (B.getD k []).length = lb at *
        clear e1 hfa hfb HOK
        go_wp2
        go_ret
        exact ⟨rfl, hbelo⟩
    · have hkD : k = D := by omega
      rw [hkD] at HH HOK
      have hnA : (A.getD 0 []).length = n := HN.out.symm
      have hnB : (B.getD 0 []).length = n := (HOK.out 0 (by omega)).2
      have hC0 : ((((List.range D).map (cRow A B n)).getD 0 []).length = n) := by
        have : ((List.range D).map (cRow A B n)).getD 0 [] = cRow A B n 0 := by simp [show 0 < D by omega]
        rw [this]; exact (cRow_ok A B HA256.out HB256.out n 0).1
      have fitA : Fit A := fun i hi => by
        have := (HOK.out i (by rw [← HLA.out]; exact hi)).1
        have e : A.getD i [] = A[i] := by simp [hi]
        rw [e] at this
        exact ⟨by rw [this, hnA], by omega⟩
      have fitB : Fit B := fun i hi => by
        have := (HOK.out i (by rw [← HLB.out]; exact hi)).2
        have e : B.getD i [] = B[i] := by simp [hi]
        rw [e] at this
        exact ⟨by rw [this, hnB], by omega⟩
      have hCall : ∀ l ∈ (List.range D).map (cRow A B n), l.length = n := by
        intro l hl
        obtain ⟨j, _, rfl⟩ := List.mem_map.1 hl
        exact (cRow_ok A B HA256.out HB256.out n j).1
      have fitC : Fit ((List.range D).map (cRow A B n)) := fun i hi => by
        have := hCall _ (List.getElem_mem hi)
        exact ⟨by rw [this, hC0], by omega⟩
      have hrdC := hT.rdH HH.out hCall (by simp; omega)
      have hCl : ((List.range D).map (cRow A B n)).length = D := by simp
      have hCat : ∀ i k, at2 ((List.range D).map (cRow A B n)) i k = if i < D ∧ k < n then at2 A i k ^^^ at2 B i k else 0 := by
        intro i k
        unfold at2
        by_cases hi : i < D
        · have e : ((List.range D).map (cRow A B n)).getD i [] = cRow A B n i := by simp [hi]
          rw [e]
          by_cases hk2 : k < n
          · rw [if_pos ⟨hi, hk2⟩]
            simp [cRow, hk2, at2]
          · rw [if_neg (by omega)]
            simp [cRow, hk2]
        · have e : ((List.range D).map (cRow A B n)).getD i [] = [] := by simp [hi]
          rw [e, if_neg (by omega)]
          rfl
      generalize hCC : (List.range D).map (cRow A B n) = C at *
      have FA := hide fitA
      have FB := hide fitB
      have FC := hide fitC
      have HCL := hide hCl
      have HCA := hide hCat
      have HNB := hide hnB
      have HNC := hide hC0
      have HRC := hide hrdC
      clear hkD fitA fitB fitC hCall hCl hCat hnA hnB hC0 hCC hrdC
      go_wp2_with fail
      refine (sencode_fit D L G hr hD1 hD hL hL4 hG hdiv _ A _ (HA.out.mono hbelo) HLA.out FA.out).mono ?_
      rintro e w5 ⟨vx, X, rfl, hX, hHX, hb5⟩
      rw [← HN.out] at hHX
      have hs5 := hb5.size
      have hBX5 := HBXO.out.mono hb5
      have HBX5 := hide hBX5
      obtain ⟨hbel5, _, _, a0, a1, a2, c0, c1, c2⟩ := hBX5
      clear p0 p1 p2 q0 q1 q2
      go_wp2_with fail
      refine (sencode_fit D L G hr hD1 hD hL hL4 hG hdiv _ B _ (HB.out.mono hbel5) HLB.out FB.out).mono ?_
      rintro e w6 ⟨vy, Y, rfl, hY, hHY, hb6⟩
      rw [HNB.out] at hHY
      have hs6 := hb6.size
      have hX6 := hX.below hb6
      have hBX6 := HBX5.out.mono hb6
      have HBX6 := hide hBX6
      obtain ⟨hbel6, _, _, p0, p1, p2, q0, q1, q2⟩ := hBX6
      clear a0 a1 a2 c0 c1 c2 hX
      have hb56 := hb5.trans (hb6.mono hs5)
      go_wp2_with fail
      refine (sencode_fit D L G hr hD1 hD hL hL4 hG hdiv _ C _ (HRC.out.mono hb56) HCL.out FC.out).mono ?_
      rintro e w7 ⟨vz, Z, rfl, hZ, hHZ, hb7⟩
      rw [HNC.out] at hHZ
      have hs7 := hb7.size
      have hX7 := hX6.below hb7
      have hY7 := hY.below hb7
      have hBX7 := HBX6.out.mono hb7
      clear hX6 hY p0 p1 p2 q0 q1 q2 hb56 hb5 hb6
      go_wp2_with fail
      refine (tell_nil _).mono ?_
      rintro e w8 ⟨rfl, hb8⟩
      go_wp2_with fail
      refine (tell_nil _).mono ?_
      rintro e w9 ⟨rfl, hb9⟩
      go_wp2_with fail
      refine (tell_nil _).mono ?_
      rintro e w10 ⟨rfl, hb10⟩
      have hs8 := hb8.size
      have hs9 := hb9.size
      have hb810 := hb8.trans ((hb9.mono hs8).trans (hb10.mono (by omega)))
      have hBX10 := hBX7.mono hb810
      have HBX10 := hide hBX10
      obtain ⟨hbel10, _, _, p0, p1, p2, q0, q1, q2⟩ := hBX10
      go_wp2_with fail
      refine (rshards_any D L G _ (by omega) (by omega) (by omega)).mono ?_
      rintro e w11 ⟨rfl, hb11⟩
      have hs10 := hb10.size
      have hb711 := hb810.trans (hb11.mono (by omega))
      have hX11 := hX7.below hb711
      have hY11 := hY7.below hb711
      have hZ11 := hZ.below hb711
      have hBX11 := HBX10.out.mono hb11
      have hlX := hHX.length
      have hlY := hHY.length
      have hlZ := hHZ.length
      unfold encL at hlX hlY hlZ
      rw [List.length_map, matL_len] at hlX hlY hlZ
      clear hX7 hY7 hZ hb8 hb9 hb10 hb11 hb810 hb711 hBX7 p0 p1 p2 q0 q1 q2 hb7
      obtain ⟨xo, xc, rfl, hxo⟩ := hX11.slice
      obtain ⟨yo, yc, rfl, hyo⟩ := hY11.slice
      obtain ⟨zo, zc, rfl, hzo⟩ := hZ11.slice
      obtain ⟨xg, rfl⟩ := hxo (by intro e; rw [e] at hlX; simp at hlX; omega)
      obtain ⟨yg, rfl⟩ := hyo (by intro e; rw [e] at hlY; simp at hlY; omega)
      obtain ⟨zg, rfl⟩ := hzo (by intro e; rw [e] at hlZ; simp at hlZ; omega)
      have tX : (((X.length : Nat) : Int) != ((D : Int) + (L : Int) + (G : Int))) = false := by rw [hlX]; simp
      have tY : (((Y.length : Nat) : Int) != ((D : Int) + (L : Int) + (G : Int))) = false := by rw [hlY]; simp
      have tZ : (((Z.length : Nat) : Int) != ((D : Int) + (L : Int) + (G : Int))) = false := by rw [hlZ]; simp
      have HBX11 := hide hBX11
      obtain ⟨hbel11, _, _, p0, p1, p2, q0, q1, q2⟩ := hBX11
      have HX := hide (And.intro hX11 (And.intro hHX hlX))
      have HY := hide (And.intro hY11 (And.intro hHY hlY))
      have HZ := hide (And.intro hZ11 (And.intro hHZ hlZ))
      clear hxo hyo hzo hlX hlY hlZ hX11 hY11 hZ11 hHX hHY hHZ q0 q1 q2 hT hbo FA FB FC
      go_wp2
      go_loopw [21] (fun i wr => SameR w11 (D + L + G) i wr) (fun i _ => D + L + G - (intOf i).toNat)
      case atStart => exact ⟨0, 0, Nat.zero_le _, rfl, rfl⟩
      case round =>
        obtain ⟨i, m, hi, rfl, rfl⟩ := hrel
        by_cases hiN : i < D + L + G
        · have hiM : i < (matL D L G).length := by rw [matL_len]; exact hiN
          obtain ⟨xb, cx, hxk⟩ := shard_cells HX.out.1 HX.out.2.1 i hiM
          obtain ⟨yb, cy, hyk⟩ := shard_cells HY.out.1 HY.out.2.1 i hiM
          obtain ⟨zb, cz, hzk⟩ := shard_cells HZ.out.1 HZ.out.2.1 i hiM
          have hXl : X.length = D + L + G := HX.out.2.2
          have hYl : Y.length = D + L + G := HY.out.2.2
          have hZl : Z.length = D + L + G := HZ.out.2.2
          have bX : (i : Int) < ((X.length : Nat) : Int) := by omega
          have bY : (i : Int) < ((Y.length : Nat) : Int) := by omega
          have bZ : (i : Int) < ((Z.length : Nat) : Int) := by omega
          have tnn : (((n : Nat) : Int) != ((n : Nat) : Int)) = false := by simp
          have HXK := hide hxk
          have HYK := hide hyk
          have HZK := hide hzk
          clear hXl hYl hZl hxk hyk hzk
          go_wp2
          go_loopw [22] (fun j wr => SameR w11 n j wr) (fun j _ => n - (intOf j).toNat)
          case atStart => exact ⟨0, m, Nat.zero_le _, rfl, rfl⟩
          case round =>
            obtain ⟨t, m2, ht, rfl, rfl⟩ := hrel
            by_cases htn : t < n
            · have dx := HXK.out t htn
              have dy := HYK.out t htn
              have dz := HZK.out t htn
              have hrow256 : ∀ x ∈ (matL D L G)[i], x < 256 := matL_256 D L G hD hG hiM
              have hxl := acc_lt (matL D L G)[i] A hrow256 A.length t
              have hyl := acc_lt (matL D L G)[i] B hrow256 B.length t
              have hzs : acc (matL D L G)[i] C C.length t = acc (matL D L G)[i] A A.length t ^^^ acc (matL D L G)[i] B B.length t := by
                rw [HCL.out, HLA.out, HLB.out]
                exact acc_sum _ A B C t D (fun j hj => by rw [HCA.out j t, if_pos ⟨hj, htn⟩]) D (Nat.le_refl _)
              have hxx := u8_xor _ _ hxl hyl
              rw [hzs] at dz
              have HXV : Hid (i < D → acc (matL D L G)[i] A A.length t = at2 A i t) := by
                intro hiD
                rw [matL_data D L G i hiD hiM, HLA.out, acc_data D i A hiD HA256.out t D (Nat.le_refl _), if_pos hiD]
              generalize acc (matL D L G)[i] A A.length t = xv at *
              generalize acc (matL D L G)[i] B B.length t = yv at *
              have tz : (((xv ^^^ yv : Nat) : Int) != ((xv ^^^ yv : Nat) : Int)) = false := by simp
              clear hzs hrow256
              by_cases hiD : i < D
              · have hiA : i < A.length := by rw [HLA.out]; exact hiD
                obtain ⟨ao1, cc1, ca1, _, hfa⟩ := Rd.row HAC.out hbel11 i hiA
                have hAi := (HOK.out i hiD).1
                rw [hAi] at ca1 hfa
                obtain ⟨fb, foff, rfl, _, hfc⟩ := hfa (by omega)
                have cf := hfc t htn
                rw [← HXV.out hiD] at cf
                have hlt : (i : Int) < (D : Int) := by omega
                have tx : (((xv : Nat) : Int) != ((xv : Nat) : Int)) = false := by simp
                have bA : (i : Int) < ((A.length : Nat) : Int) := by omega
                clear hfc hfa hAi HXV
                clear HAC HBC HLB HA256 HB256 HA HB HBX HN HBXO HH HCL HCA HNB HNC HRC HBX5 HBX6 HBX10 HBX11 HX HY HZ HXK HYK HZK HOK hbel hbelo hbel5 hbel6 hbel10 hbel11 hposA hposB tA tB tX tY tZ hi0 hz0 hz1 hz2 hr hdiv hsum hs1 hs2 hs5 hs6 hs7 hs8 hs9 hs10 hso hk h200 hl0
                go_wp2
                dsimp only [List.append]
                go_quiet (fail)
                go_wp2
                go_roundw
                case rel => exact ⟨t + 1, _, by omega, by go_num, rfl⟩
                case measure => simp [intOf]; omega
              · have hnlt : decide ((i : Int) < (D : Int)) = false := by simp; omega
                clear HXV
                clear HAC HBC HLB HA256 HB256 HA HB HBX HN HBXO HH HCL HCA HNB HNC HRC HBX5 HBX6 HBX10 HBX11 HX HY HZ HXK HYK HZK HOK hbel hbelo hbel5 hbel6 hbel10 hbel11 hposA hposB tA tB tX tY tZ hi0 hz0 hz1 hz2 hr hdiv hsum hs1 hs2 hs5 hs6 hs7 hs8 hs9 hs10 hso hk h200 hl0
                go_wp2
                dsimp only [List.append]
                go_quiet (fail)
                go_wp2
                go_roundw
                case rel => exact ⟨t + 1, _, by omega, by go_num, rfl⟩
                case measure => simp [intOf]; omega
            · go_wp2
              go_roundw
              case rel => exact ⟨i + 1, _, by omega, by go_num, rfl⟩
              case measure => simp [intOf]; omega
        · have hle := fun g (hg : g < L) => group_le (D := D) hdiv hg
          have hq : D / L ≤ D := Nat.div_le_self _ _
          have e1 : wrap64 ((D : Int) / (L : Int)) = ((D / L : Nat) : Int) := by
            rw [← Int.natCast_ediv]; exact wrap64_nat (by omega)
          obtain ⟨q, hqq⟩ : ∃ q, q = D / L := ⟨_, rfl⟩
          rw [← hqq] at e1 hq
          have HLE : Hid (∀ g, g < L → (g + 1) * q ≤ D) := by intro g hg; rw [hqq]; exact hle g hg
          have HLC : Hid (∀ g t, acc (localL D L g) A D t = grp A (g * q) ((g + 1) * q) D t) := by
            intro g t; rw [hqq]; exact acc_local D L g A HA256.out t D (Nat.le_refl _)
          clear hle hqq
          go_wp2
          go_loop [24] (fun i => ∃ g : Nat, g ≤ L ∧ i = .int .i64 g) (fun i => L - (intOf i).toNat)
          case atStart => exact ⟨0, Nat.zero_le _, rfl⟩
          case round =>
            obtain ⟨g, hg, rfl⟩ := hrel
            by_cases hgL : g < L
            · have hgM : D + g < (matL D L G).length := by rw [matL_len]; omega
              obtain ⟨xb, cx, hxk⟩ := shard_cells HX.out.1 HX.out.2.1 (D + g) hgM
              rw [matL_local D L G g hgL hgM, HLA.out] at hxk
              have hXl : X.length = D + L + G := HX.out.2.2
              have bX : (D : Int) + (g : Int) < ((X.length : Nat) : Int) := by omega
              have hgq : g * q ≤ (g + 1) * q := Nat.mul_le_mul_right _ (by omega)
              have hgD := HLE.out g hgL
              have e2 : wrap64 ((g : Int) * (q : Int)) = ((g * q : Nat) : Int) := by
                rw [← Int.natCast_mul]; exact wrap64_nat (by omega)
              have e3 : wrap64 (((g : Int) + 1) * (q : Int)) = (((g + 1) * q : Nat) : Int) := by
                have : ((g : Int) + 1) * (q : Int) = (((g + 1) * q : Nat) : Int) := by push_cast; rfl
                rw [this]; exact wrap64_nat (by omega)
              have hlc := fun t => HLC.out g t
              generalize g * q = s0 at *
              generalize (g + 1) * q = s1 at *
              have E2 := hide e2
              have E3 := hide e3
              have HXK := hide hxk
              have HLG := hide hlc
              clear e2 e3 hxk hlc hXl
              go_wp2
              go_loop [25] (fun i => ∃ t : Nat, t ≤ n ∧ i = .int .i64 t) (fun i => n - (intOf i).toNat)
              case atStart => exact ⟨0, Nat.zero_le _, rfl⟩
              case round =>
                obtain ⟨t, ht, rfl⟩ := hrel
                by_cases htn : t < n
                · have dx := HXK.out t htn
                  rw [HLG.out t] at dx
                  go_wp2
                  go_loop [26, 27] (fun sv jv => ∃ j : Nat, s0 ≤ j ∧ j ≤ s1 ∧ jv = .int .i64 j ∧ sv = .int .u8 ((grp A s0 s1 D t ^^^ grp A s0 j j t : Nat) : Int)) (fun _ jv => s1 - (intOf jv).toNat)
                  case atStart => exact ⟨s0, Nat.le_refl _, hgq, by rw [E2.out], by rw [grp_start A s0 t s0 (Nat.le_refl _) s0, Nat.xor_zero]⟩
                  case round =>
                    obtain ⟨j, hj1, hj2, rfl, rfl⟩ := hrel
                    clear dx
                    by_cases hjs : j < s1
                    · have tj : (j : Int) < wrap64 (((g : Int) + 1) * (q : Int)) := by rw [E3.out]; omega
                      have hjM : j < (matL D L G).length := by rw [matL_len]; omega
                      obtain ⟨jb, cj, hjk⟩ := shard_cells HX.out.1 HX.out.2.1 j hjM
                      have dj := hjk t htn
                      rw [matL_data D L G j (by omega) hjM, HLA.out, acc_data D j A (by omega) HA256.out t D (Nat.le_refl _), if_pos (by omega)] at dj
                      have hXl : X.length = D + L + G := HX.out.2.2
                      have bj : (j : Int) < ((X.length : Nat) : Int) := by omega
                      have l1 := xlt (grp_lt A HA256.out s0 s1 t D) (grp_lt A HA256.out s0 j t j)
                      have l2 := HA256.out j t
                      have hxx := u8_xor _ _ l1 l2
                      rw [Nat.xor_assoc, ← grp_step A s0 j t hj1] at hxx
                      generalize (grp A s0 s1 D t ^^^ grp A s0 j j t) = v0 at *
                      generalize hv1 : (grp A s0 s1 D t ^^^ grp A s0 (j + 1) (j + 1) t) = v1 at *
                      have HV := hide hv1
                      clear hv1
                      generalize at2 A j t = aj at *
                      clear hjk hXl
                      go_wp2
                      go_round
                      case rel => exact ⟨j + 1, by omega, by omega, by go_num, by rw [HV.out]⟩
                      case measure => simp [intOf]; omega
                    · have tj : ¬ (j : Int) < wrap64 (((g : Int) + 1) * (q : Int)) := by rw [E3.out]; omega
                      have hjj : j = s1 := by omega
                      have hz : (grp A s0 s1 D t ^^^ grp A s0 j j t) = 0 := by
                        rw [hjj, grp_end A s0 s1 t D (by omega), Nat.xor_self]
                      rw [hz]
                      clear hz hjj
                      go_wp2
                      go_round
                      case rel => exact ⟨t + 1, by omega, by go_num⟩
                      case measure => simp [intOf]; omega
                · go_wp2
                  go_round
                  case rel => exact ⟨g + 1, by omega, by go_num⟩
                  case measure => simp [intOf]; omega
            · go_wp2
              go_ret
              exact ⟨rfl, hbel11.trans ⟨rfl, rfl, rfl, Nat.le_refl _, fun _ _ => rfl⟩⟩
theorem sums_any (D L G : Int) (va vb : Value) (A B : List (List Nat)) (w : World) (ha : Rd w va A) (hb : Rd w vb B) :
    Calls Tryd.prog 5 #[.agg #[.int .i64 D, .int .i64 L, .int .i64 G], va, vb] w fun e w' => e = .returned (.bool true) ∧ Below w.heap.size w w' := by
  cases hr : rightB D L G with
  | false => exact sums_wrong D L G hr va vb w
  | true =>
    obtain ⟨d, l, g, rfl, rfl, rfl, q1, q2, q3, q4, q5, q6, q7⟩ := right_nat hr
    by_cases hlA : A.length = d
    · by_cases hlB : B.length = d
      · exact sums_right d l g hr q1 q2 q3 q4 q5 q6 q7 va vb A B w ha hb hlA hlB
      · exact sums_len d l g hr q1 va vb A B w ha hb (fun h => hlB h.2)
    · exact sums_len d l g hr q1 va vb A B w ha hb (fun h => hlA h.1)
end Go.Proofs.YthhommjlomphdaaDoor
