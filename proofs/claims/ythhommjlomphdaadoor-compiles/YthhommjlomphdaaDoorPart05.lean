import Derived.Test.YthhommjlomphdaaDoorPart04
import Derived.Laws.CopyOwn
import Derived.Deep.MidRow
import Derived.Deep.RegionWith
import Derived.Laws.BitsAllLaws
/-
  Lists of rows that are read, wherever they lie; the law's own functions that copy them with spare room.
-/
namespace Go.Proofs.YthhommjlomphdaaDoor
open Go.RowKit Go.Deep Gf

/-- a list of just these rows, wherever they lie -/
def Rd (w : World) (v : Value) (D : List (List Nat)) : Prop :=
  ∃ ao c, v = .slice ao D.length c ∧ D.length ≤ 5864062014805 ∧ (D ≠ [] → ∃ b off, ao = some ⟨b, off, none⟩ ∧ ∀ i (hi : i < D.length), ∃ u, w.cell? ⟨b, off + i, none⟩ = some u ∧ Bs w u D[i])
theorem Bs.lt {w : World} {v : Value} {l : List Nat} (h : Bs w v l) : ∀ x ∈ l, x < 256 := by
  obtain ⟨_, _, _, _, _, hx, _⟩ := h; exact hx
theorem Rd.mono {w w' : World} {v : Value} {D : List (List Nat)} (h : Rd w v D) (hb : Below w.heap.size w w') : Rd w' v D := by
  obtain ⟨ao, c, h1, h2, h3⟩ := h
  refine ⟨ao, c, h1, h2, fun hD => ?_⟩
  obtain ⟨b, off, e, hc⟩ := h3 hD
  refine ⟨b, off, e, fun i hi => ?_⟩
  obtain ⟨u, hu, hB⟩ := hc i hi
  exact ⟨u, by rw [hb.cell (block_lt_of_cell hu)]; exact hu, hB.mono hb⟩
theorem Rd.cases {w : World} {v : Value} {D : List (List Nat)} (h : Rd w v D) : (D = [] ∧ ∃ ao c, v = .slice ao 0 c) ∨ ∃ b off c, v = .slice (some ⟨b, off, none⟩) D.length c ∧ D.length ≤ 5864062014805 ∧ ∀ i (hi : i < D.length), ∃ u, w.cell? ⟨b, off + i, none⟩ = some u ∧ Bs w u D[i] := by
  obtain ⟨ao, c, h1, h2, h3⟩ := h
  by_cases hD : D = []
  · subst hD; exact .inl ⟨rfl, ao, c, h1⟩
  · obtain ⟨b, off, rfl, hc⟩ := h3 hD
    exact .inr ⟨b, off, c, h1, h2, hc⟩

/-- how much a list weighs, its first k rows -/
def wgt (D : List (List Nat)) (k : Nat) : Nat := D.length + ((D.take k).map List.length).sum
theorem wgt_step (D : List (List Nat)) (k : Nat) (hk : k < D.length) : wgt D (k + 1) = wgt D k + D[k].length := by
  unfold wgt
  rw [List.take_succ_eq_append_getElem hk, List.map_append, List.sum_append]
  simp
  omega
theorem wgt_le (D : List (List Nat)) (k : Nat) : D.length ≤ wgt D k := by unfold wgt; omega
theorem wgt_mono (D : List (List Nat)) (k : Nat) (hk : k ≤ D.length) : wgt D k ≤ wgt D D.length := by
  induction h : D.length - k generalizing k with
  | zero => have : k = D.length := by omega
            rw [this]; exact Nat.le_refl _
  | succ n ih =>
    have := ih (k + 1) (by omega) (by omega)
    rw [wgt_step D k (by omega)] at this
    omega
def WgR (D : List (List Nat)) (n i : Value) : Prop := ∃ k : Nat, k ≤ D.length ∧ n = .int .i64 (wgt D k : Nat) ∧ i = .int .i64 k ∧ wgt D k ≤ 140737488455328
set_option maxRecDepth 100000 in
set_option maxHeartbeats 2000000 in
theorem weight_any (v : Value) (D : List (List Nat)) (w : World) (h : Rd w v D) :
    Calls Tryd.prog 16 #[v] w fun e w' => ∃ r : Nat, e = .returned (.int .i64 r) ∧ (r ≤ 100000 → wgt D D.length ≤ 100000) ∧ w' = w := by
  rcases h.cases with ⟨rfl, ao, c, rfl⟩ | ⟨b, off, c, rfl, hl, hc⟩
  · go_enter Tryd.func16, Tryd.ntmps16
    go_wp2
    refine wp_loop_rounds 1 ?_
    rw [rounds_succ]
    go_wp2
    go_ret
    exact ⟨0, rfl, fun _ => by simp [wgt], rfl⟩
  · by_cases hbig : 100000 < D.length
    · go_enter Tryd.func16, Tryd.ntmps16
      go_wp2
      go_ret
      exact ⟨D.length, rfl, fun h => absurd h (by omega), rfl⟩
    · go_enter Tryd.func16, Tryd.ntmps16
      go_wp2
      go_loop [3, 4] (fun n i => WgR D n i) (fun _ i => D.length - (intOf i).toNat)
      case atStart => exact ⟨0, Nat.zero_le _, by simp [wgt], rfl, by simp [wgt]; omega⟩
      case round =>
        obtain ⟨k, hk, rfl, rfl, hw⟩ := hrel
        by_cases hlt : k < D.length
        · by_cases hs : wgt D k ≤ 100000
          · obtain ⟨u, cu, hB⟩ := hc k hlt
            obtain ⟨a1, c1, rfl, l1, l2, _⟩ := hB
            have hst := wgt_step D k hlt
            have hle : (D[k]).length ≤ 140737488355328 := by omega
            have HS := hide hst
            clear hst hc
            go_wp2
            go_round
            case rel => exact ⟨k + 1, by omega, by rw [HS.out]; go_num, by go_num, by rw [HS.out]; omega⟩
            case measure => simp [intOf]; omega
          · clear hc
            go_wp2
            go_ret
            exact ⟨wgt D k, rfl, fun h => absurd h hs, rfl⟩
        · have hkk : k = D.length := by omega
          clear hc
          go_wp2
          go_ret
          exact ⟨wgt D D.length, rfl, fun h => h, rfl⟩

theorem Brow.heap {w : World} {b : Nat} {l : List Nat} (h : Brow w b l) : w.heap[b]? = some (.cells (l.map (fun x => Value.int .u8 ((x : Nat) : Int))).toArray 5 (0, 0)) := by
  obtain ⟨c, hc, hs, hg⟩ := h
  have : c = (l.map (fun x => Value.int .u8 ((x : Nat) : Int))).toArray := by
    apply Array.ext
    · simp [hs]
    · intro i h1 h2
      have := hg i (by omega)
      rw [Array.getElem?_eq_getElem h1] at this
      simp [vb] at this
      have hi : i < l.length := by omega
      simp [this, hi]
  rw [← this]; exact hc
theorem Brow.of_heap {w : World} {b : Nat} {l : List Nat} (h : w.heap[b]? = some (.cells (l.map (fun x => Value.int .u8 ((x : Nat) : Int))).toArray 5 (0, 0))) : Brow w b l :=
  ⟨_, h, by simp, fun i hi => by simp [vb, hi]⟩
/-- copy into a row of the call's own, from its head on -/
theorem wpList_cp {w : World} {ops : Array Oper} {rest : List Oper} {o : Oper} {a : Act} {Q : Exit → Act → World → Prop} (hgd : o.guard = none) (d s : Operand)
    (ho : o.op = .call { callee := .builtin .copy, args := #[d, s], argTypes := #[44, 44] }) (g n cap : Nat) (v : Value) (hd : a.eval d = .slice (some ⟨g, 0, none⟩) n cap) (hs : a.eval s = v)
    (old src : List Nat) (hB : Brow w g old) (hS : Bs w v src) (hle : src.length ≤ n) (hn : n ≤ old.length) (B : Nat) (w0 : World) (hb : Below B w0 w) (hBg : B ≤ g)
    (h : ∀ w', Brow w' g (src ++ old.drop src.length) → Below B w0 w' → wpList Tryd.prog ops Q rest (a.put o.dst (goInt src.length)) w') : wpList Tryd.prog ops Q (o :: rest) a w := by
  obtain ⟨ao, c, rfl, h1, h2, h3, h4⟩ := hS
  refine wpList_copy_splice hgd d s 44 44 ho 5 Tryd.underlying44 (by kernel_rfl) (some ⟨g, 0, none⟩) ao n cap src.length c hd hs g 0 _ 5 hB.heap (src.map (fun x => Value.int .u8 ((x : Nat) : Int))) ?_ ?_ ?_ ?_ B w0 hb hBg ?_
  · rw [List.length_map]
    show src.length = min src.length n
    omega
  · intro hp
    rw [List.length_map] at hp
    obtain ⟨b, off, rfl, hc⟩ := h4 (by intro e; rw [e] at hp; simp at hp)
    refine ⟨rfl, _, rfl, fun j u hj => ?_⟩
    have hjl : j < src.length := by
      have := List.getElem?_eq_some_iff.1 hj
      obtain ⟨q, _⟩ := this
      simpa using q
    rw [Addr.add_mid, hc j hjl]
    simp [hjl] at hj
    simp [hjl, hj]
  · simp; omega
  · intro u hu
    obtain ⟨x, _, rfl⟩ := List.mem_map.1 hu
    rfl
  · intro w' hw' hb'
    have e : (splice (old.map (fun x => Value.int .u8 ((x : Nat) : Int))) 0 (src.map (fun x => Value.int .u8 ((x : Nat) : Int)))) = (src ++ old.drop src.length).map (fun x => Value.int .u8 ((x : Nat) : Int)) := by
      simp [splice]
    have hw := hw'.out
    rw [e] at hw
    rw [List.length_map]
    exact h w' (Brow.of_heap hw) hb'
theorem room_start (l : List Nat) : l ++ (List.replicate (l.length + 2) 0).drop l.length = l ++ [0, 0] := by
  rw [List.drop_replicate, Nat.add_sub_cancel_left]; rfl
theorem room_end (l : List Nat) : ((l ++ [0, 0]).set l.length 71).set (l.length + 1) 72 = l ++ [71, 72] := by
  rw [List.set_append_right _ _ (Nat.le_refl _), List.set_append_right _ _ (by omega)]
  simp
set_option maxRecDepth 100000 in
set_option maxHeartbeats 2000000 in
theorem roomy_any (v : Value) (l : List Nat) (w : World) (h : Bs w v l) (hl : l.length ≤ 1000000) :
    Calls Tryd.prog 41 #[v] w fun e w' => ∃ b, e = .returned (.slice (some ⟨b, 0, none⟩) l.length (l.length + 2)) ∧ w.heap.size ≤ b ∧ Brow w' b (l ++ [71, 72]) ∧ Below w.heap.size w w' := by
  have hS := h
  obtain ⟨ao, c, rfl, h1, h2, h3, h4⟩ := h
  clear h1 h2 h3 h4
  go_enter Tryd.func41, Tryd.ntmps41
  go_wp2_with (first
    | (at_make; refine wpList_mk _ rfl (.tmp 8) (.tmp 8) rfl _ (l.length + 2) rfl rfl (by omega) (by omega) ?_; intro w1 hB hb hz; clear hz)
    | (refine wpList_cp rfl (.tmp 10) (.tmp 11) rfl w.heap.size (l.length + 2) (l.length + 2) _ rfl rfl _ l hB (hS.mono hb) (by omega) (by simp) w.heap.size w hb (Nat.le_refl _) ?_; intro w2 hB2 hb2; rw [room_start] at hB2; have c1 := hB2.cell l.length (by simp); have c2 := hB2.cell (l.length + 1) (by simp); have f1 := hB2.frozen l.length; have f2 := hB2.frozen (l.length + 1)))
  go_ret
  refine ⟨w.heap.size, rfl, Nat.le_refl _, ?_, ?_⟩
  · have := (hB2.set l.length 71).set (l.length + 1) 72
    rw [room_end] at this
    exact this
  · exact (hb2.setCell (by simp) _).setCell (by simp) _

/-- a list of rows with their spare room -/
def RoomOf (T : List (Nat × Nat × List Nat)) (D : List (List Nat)) : Prop := T.map (fun p => p.2) = D.map (fun l => (l.length, l ++ [71, 72]))
theorem RoomOf.len {T : List (Nat × Nat × List Nat)} {D : List (List Nat)} (h : RoomOf T D) : T.length = D.length := by simpa using congrArg List.length h
theorem RoomOf.push {T : List (Nat × Nat × List Nat)} {D : List (List Nat)} (h : RoomOf T D) (b : Nat) (l : List Nat) : RoomOf (T ++ [(b, l.length, l ++ [71, 72])]) (D ++ [l]) := by
  unfold RoomOf at *
  simp [h]
def RmR (w : World) (B : Nat) (D : List (List Nat)) (v i : Value) (wr : World) : Prop :=
  ∃ k T, k ≤ D.length ∧ i = .int .i64 (k : Nat) ∧ Tab wr B v T ∧ RoomOf T (D.take k) ∧ Below B w wr ∧ B ≤ wr.heap.size
theorem row_le (D : List (List Nat)) (i : Nat) (hi : i < D.length) (h : wgt D D.length ≤ 100000) : (D[i]).length ≤ 100000 := by
  have h1 := wgt_step D i hi
  have h2 := wgt_mono D (i + 1) (by omega)
  omega
set_option maxRecDepth 100000 in
set_option maxHeartbeats 2000000 in
theorem roomies_any (v : Value) (D : List (List Nat)) (w : World) (h : Rd w v D) (hwt : wgt D D.length ≤ 100000) :
    Calls Tryd.prog 17 #[v] w fun e w' => ∃ r T, e = .returned r ∧ Tab w' w.heap.size r T ∧ RoomOf T D ∧ Below w.heap.size w w' := by
  have hDl : D.length ≤ 100000 := Nat.le_trans (wgt_le D D.length) hwt
  obtain ⟨i0, hi0, hz0, hz1, hz2⟩ := info_parts Tryd.infoBytes
  have hR := h
  rcases h.cases with ⟨rfl, ao, c, rfl⟩ | ⟨b, off, c, rfl, hl, hc⟩
  · go_enter Tryd.func17, Tryd.ntmps17
    go_wp2
    refine wp_loop_rounds 1 ?_
    rw [rounds_succ]
    go_wp2
    go_ret
    exact ⟨_, [], rfl, Tab.nil _ _, rfl, Below.refl _ _⟩
  · go_enter Tryd.func17, Tryd.ntmps17
    go_wp2
    go_loopw [3, 4] (fun v i wr => RmR w w.heap.size D v i wr) (fun _ i _ => D.length - (intOf i).toNat)
    case atStart => exact ⟨0, [], Nat.zero_le _, rfl, Tab.nil _ _, rfl, Below.refl _ _, Nat.le_refl _⟩
    case round =>
      rename World => wo
      obtain ⟨k, T, hk, rfl, hT, hH, hbr, hs⟩ := hrel
      by_cases hlt : k < D.length
      · obtain ⟨u, hu, hB⟩ := hc k hlt
        have hu' : wo.cell? ⟨b, off + k, none⟩ = some u := by rw [hbr.cell (block_lt_of_cell hu)]; exact hu
        have hBo := hB.mono hbr
        have hrl := row_le D k hlt hwt
        have hlen := hH.len
        rw [List.length_take] at hlen
        have hTl : T.length ≤ 100000 := by omega
        have HH := hide hH
        have htk := List.take_succ_eq_append_getElem hlt
        have HTK := hide htk
        clear hH hlen htk hc hR hB hu
        go_wp2_with fail
        refine (roomy_any u _ _ hBo (by omega)).mono ?_
        rintro e w1 ⟨b1, rfl, hb1, hB1, hbel⟩
        have hs1 := hbel.size
        go_wp2_with (at_builtin; refine wpList_append_own _ rfl (.tmp 17) (.tmp 19) 24 rfl w.heap.size 44 i0 (.slice none 0 0) 1 24 Tryd.underlying24 hi0 hz0 hz1 hz2 rfl (by decide) _ T.length (T.map hdr) rfl ((hT.below hbel).alloc _).own ⟨w1.heap.size, 0, none⟩ 1 1 [.slice (some ⟨b1, 0, none⟩) (D[k]).length ((D[k]).length + 2)] rfl rfl (one_new _ _ rfl _ _) (by simp [Value.oneCell']) (by unfold maxLen; omega) (by omega) (by rw [nblk_alloc]; omega) ?_; intro v' w2 hown' hgrow hnn)
        have hx := hBo.lt
        have hT2 := Tab.append2 hT hbel hs hb1 hB1 (by simp) (by simp) (by simp; omega) (by intro x hx2; rcases List.mem_append.1 hx2 with q | q; exact hx x q; simp at q; omega) hgrow hown'
        have hb2 := below_append hT hbr hbel hs hgrow
        have hs2 := hgrow.size
        rw [nblk_alloc] at hs2
        have hH2 := HH.out.push b1 D[k]
        rw [← HTK.out] at hH2
        have HH2 := hide hH2
        clear hT hown' hgrow hnn hB1 hbel hbr hBo hH2 hx hu'
        go_wp2
        go_roundw
        case rel => exact ⟨k + 1, _, by omega, by go_num, hT2, HH2.out, hb2, by omega⟩
        case measure => simp [intOf]; omega
      · have hkk : k = D.length := by omega
        rw [hkk, List.take_length] at hH
        clear hc hR hkk
        go_wp2
        go_ret
        exact ⟨_, T, rfl, hT, hH, hbr⟩

set_option maxRecDepth 100000 in
set_option maxHeartbeats 2000000 in
theorem still_any (rb : Nat) (vb : Value) (l : List Nat) (w : World) (hr : Brow w rb (l ++ [71, 72])) (hb : Bs w vb l) (hl : l.length ≤ 1000000) :
    Calls Tryd.prog 43 #[.slice (some ⟨rb, 0, none⟩) l.length (l.length + 2), vb] w fun e w' => e = .returned (.bool true) ∧ w.grownBy w' (some rb) ∧ Brow w' rb (xr 85 (l ++ [71, 72])) := by
  have hx := hb.lt
  have hlen : (l ++ [71, 72]).length = l.length + 2 := by simp
  have hA : Bs w (.slice (some ⟨rb, 0, none⟩) l.length (l.length + 2)) l := by
    have := Bs.of_row (n := l.length) hr (by simp) (by omega) (by intro x hx2; rcases List.mem_append.1 hx2 with q | q; exact hx x q; simp at q; omega)
    rw [hlen, List.take_left'] at this
    exact this
    rfl
  have c1 := hr.cell l.length (by simp)
  have c2 := hr.cell (l.length + 1) (by simp)
  have e1 : (l ++ [71, 72]).getD l.length 0 = 71 := by simp
  have e2 : (l ++ [71, 72]).getD (l.length + 1) 0 = 72 := by simp
  rw [e1] at c1
  rw [e2] at c2
  have hS := hb
  have hx2 : ∀ x ∈ l ++ [71, 72], x < 256 := by intro x hx2; rcases List.mem_append.1 hx2 with q | q; exact hx x q; simp at q; omega
  obtain ⟨ao, c, rfl, h1, h2, h3, h4⟩ := hb
  clear h1 h2 h3 h4 e1 e2
  generalize hL : l ++ [71, 72] = L at *
  go_enter Tryd.func43, Tryd.ntmps43
  go_wp2_with fail
  refine (same_eq _ _ l _ hA hS).mono ?_
  rintro e w1 ⟨rfl, m, rfl⟩
  clear hA hS hL
  have HLEN := hide hlen
  clear hlen
  go_wp2
  clear c1 c2
  go_loopw [8] (fun j wr => SA2 w rb 85 L j wr) (fun j _ => L.length - (intOf j).toNat)
  case atStart => exact ⟨0, Nat.zero_le _, rfl, grown_drew (World.grownBy.refl _ _) _, by rw [xrTo_zero]; exact hr⟩
  case round =>
    obtain ⟨j, hj, rfl, hgr, hBj⟩ := hrel
    have hj' : j ≤ l.length + 2 := by rw [← HLEN.out]; exact hj
    by_cases hjl : j < l.length + 2
    · have hjL : j < L.length := by rw [HLEN.out]; exact hjl
      have d1 := hBj.cell j (by rw [xrTo_len]; exact hjL)
      have f1 := hBj.frozen j
      rw [xrTo_get 85 j L hjL] at d1
      have hxj := getD_lt hx2 j
      have hB2 := hBj.set j (L.getD j 0 ^^^ 85)
      rw [xrTo_step] at hB2
      have hg2 := grown_set hgr j (.int .u8 ((L.getD j 0 ^^^ 85 : Nat) : Int))
      have hxx : bits .xor .u8 ((L.getD j 0 : Nat) : Int) 85 = ((L.getD j 0 ^^^ 85 : Nat) : Int) := u8_xor (L.getD j 0) 85 hxj (by decide)
      generalize L.getD j 0 = x at *
      clear hBj hgr
      go_wp2
      go_roundw
      case rel => exact ⟨j + 1, by omega, by go_num, hg2, hB2⟩
      case measure => simp [intOf]; omega
    · have hjj : j = L.length := by rw [HLEN.out]; omega
      have hB2 : Brow wr rb (xr 85 L) := by rw [hjj, xrTo_end] at hBj; exact hBj
      clear hBj hjj
      go_wp2
      go_ret
      exact ⟨rfl, hgr, hB2⟩

/-- the first i rows have been written into -/
def stl (T : List (Nat × Nat × List Nat)) (i : Nat) : List (Nat × Nat × List Nat) :=
  (List.range T.length).map fun j => if j < i then ((T.getD j (0, 0, [])).1, (T.getD j (0, 0, [])).2.1, xr 85 (T.getD j (0, 0, [])).2.2) else T.getD j (0, 0, [])
theorem stl_len (L : List (Nat × Nat × List Nat)) (i : Nat) : (stl L i).length = L.length := by simp [stl]
theorem stl_zero (L : List (Nat × Nat × List Nat)) : stl L 0 = L := by
  unfold stl
  apply List.ext_getElem
  · simp
  · intro j h1 h2; simp [h2]
theorem stl_ge (L : List (Nat × Nat × List Nat)) (i j : Nat) (hj : j < L.length) (h : i ≤ j) (h' : j < (stl L i).length) : (stl L i)[j] = L[j] := by
  simp [stl, hj, Nat.not_lt.2 h]
theorem stl_lt (L : List (Nat × Nat × List Nat)) (i j : Nat) (hj : j < L.length) (h : j < i) (h' : j < (stl L i).length) : (stl L i)[j] = (L[j].1, L[j].2.1, xr 85 L[j].2.2) := by
  simp [stl, hj, h]
theorem stl_step (L : List (Nat × Nat × List Nat)) (i : Nat) (hi : i < L.length) : (stl L i).set i (L[i].1, L[i].2.1, xr 85 L[i].2.2) = stl L (i + 1) := by
  apply List.ext_getElem
  · simp [stl]
  · intro j h1 h2
    have hj : j < L.length := by simpa [stl] using h2
    rw [List.getElem_set]
    by_cases e : i = j
    · subst e; rw [if_pos rfl, stl_lt L _ _ hi (by omega)]
    · rw [if_neg e]
      by_cases e2 : j < i
      · rw [stl_lt L _ _ hj e2, stl_lt L _ _ hj (by omega)]
      · rw [stl_ge L _ _ hj (by omega), stl_ge L _ _ hj (by omega)]
theorem RoomOf.at {T : List (Nat × Nat × List Nat)} {D : List (List Nat)} (h : RoomOf T D) {i : Nat} (h1 : i < T.length) (h2 : i < D.length) : T[i].2 = ((D[i]).length, D[i] ++ [71, 72]) := by
  have := List.getElem_of_eq h (i := i) (by simpa using h1)
  simpa using this
theorem Tab.cell_at {w : World} {base g n cap : Nat} {L : List (Nat × Nat × List Nat)} (h : Tab w base (.slice (some ⟨g, 0, none⟩) n cap) L) {i : Nat} (hi : i < L.length) : w.cell? ⟨g, i, none⟩ = some (hdr L[i]) := by
  have := h.own.cells (g := g) rfl i (hdr L[i]) (by simp [hi])
  rw [add0] at this
  exact this
theorem Tab.slice {w : World} {base : Nat} {v : Value} {L : List (Nat × Nat × List Nat)} (h : Tab w base v L) : ∃ ao cap, v = .slice ao L.length cap ∧ (L ≠ [] → ∃ g, ao = some ⟨g, 0, none⟩) := by
  rcases h.shape with ⟨rfl, rfl⟩ | ⟨g, cap, rfl, _⟩
  · exact ⟨none, 0, rfl, fun h => absurd rfl h⟩
  · exact ⟨_, cap, rfl, fun _ => ⟨g, rfl⟩⟩
/-- only these rows are written into -/
structure Only (T : List (Nat × Nat × List Nat)) (w w' : World) : Prop where
  os : w'.os = w.os
  tape : w'.tape = w.tape
  output : w'.output = w.output
  size : w.heap.size ≤ w'.heap.size
  block : ∀ k, k < w.heap.size → (∀ p ∈ T, p.1 ≠ k) → w'.heap[k]? = w.heap[k]?
theorem Only.refl (T : List (Nat × Nat × List Nat)) (w : World) : Only T w w := ⟨rfl, rfl, rfl, Nat.le_refl _, fun _ _ _ => rfl⟩
theorem Only.step {T : List (Nat × Nat × List Nat)} {w wo w' : World} {b : Nat} (h : Only T w wo) (hg : wo.grownBy w' (some b)) (hb : ∃ p ∈ T, p.1 = b) : Only T w w' :=
  ⟨hg.os.trans h.os, hg.tape.trans h.tape, hg.output.trans h.output, Nat.le_trans h.size hg.size, fun k hk hne => by
    obtain ⟨p, hp, e⟩ := hb
    rw [hg.block k (Nat.lt_of_lt_of_le hk h.size) (by intro q; simp at q; exact hne p hp (by omega)), h.block k hk hne]⟩
theorem Only.below {T : List (Nat × Nat × List Nat)} {w w' : World} {B : Nat} (h : Only T w w') (hT : ∀ p ∈ T, B ≤ p.1) (hB : B ≤ w.heap.size) : Below B w w' :=
  ⟨h.os, h.tape, h.output, h.size, fun k hk => h.block k (by omega) (fun p hp e => by have := hT p hp; omega)⟩
theorem Tab.only {T S : List (Nat × Nat × List Nat)} {w w' : World} {B B' : Nat} {v v' : Value} (hS : Tab w B v S) (hT : Tab w B' v' T) (hap : Apart S T) (h : Only T w w') : Tab w' B v S := by
  refine ⟨⟨hS.own.1, ?_⟩, fun p hp => ?_, hS.nodup⟩
  · rcases hS.own.2 with h0 | ⟨g, cap, cur, e1, e2, e3, e4⟩
    · exact .inl h0
    · refine .inr ⟨g, cap, cur, e1, e2, ?_, e4⟩
      obtain ⟨hlt, _⟩ := Array.getElem?_eq_some_iff.1 e3
      rw [h.block g hlt]
      · exact e3
      · intro p hp e
        obtain ⟨c, hc, _⟩ := (hT.row p hp).2.1
        rw [e, e3] at hc
        simp at hc
  · obtain ⟨a, b, c⟩ := hS.row p hp
    exact ⟨a, World.rowIs.of_block b (h.block p.1 b.lt (fun q hq e => hap p hp q hq e.symm)), c⟩
def AsR (w : World) (B : Nat) (v : Value) (T : List (Nat × Nat × List Nat)) (n : Nat) (i o : Value) (wr : World) : Prop :=
  ∃ k : Nat, k ≤ n ∧ i = .int .i64 k ∧ o = .bool true ∧ Tab wr B v (stl T k) ∧ Only T w wr ∧ B ≤ wr.heap.size
set_option maxRecDepth 100000 in
set_option maxHeartbeats 2000000 in
theorem allStill_any (vr vd : Value) (T : List (Nat × Nat × List Nat)) (D : List (List Nat)) (B : Nat) (w0 w : World) (hT : Tab w B vr T) (hR : RoomOf T D) (h0 : Rd w0 vd D) (hB0 : w0.heap.size ≤ B) (hbel0 : Below w0.heap.size w0 w) (hBw : B ≤ w.heap.size) (hwt : wgt D D.length ≤ 100000) :
    Calls Tryd.prog 19 #[vr, vd] w fun e w' => e = .returned (.bool true) ∧ Only T w w' := by
  have hTB : ∀ p ∈ T, B ≤ p.1 := fun p hp => (hT.row p hp).1
  have hlenT := hR.len
  rcases h0.cases with ⟨rfl, ao, c, rfl⟩ | ⟨b, off, c, rfl, hl, hc⟩
  · obtain ⟨ao', cap, rfl, _⟩ := hT.slice
    go_enter Tryd.func19, Tryd.ntmps19
    go_wp2
    refine wp_loop_rounds 1 ?_
    rw [rounds_succ]
    go_wp2
    go_ret
    exact ⟨rfl, Only.refl _ _⟩
  · obtain ⟨ao', cap, rfl, hao⟩ := hT.slice
    by_cases hD : D = []
    · subst hD
      clear hT hR hc hlenT hao
      go_enter Tryd.func19, Tryd.ntmps19
      go_wp2
      refine wp_loop_rounds 1 ?_
      rw [rounds_succ]
      go_wp2
      go_ret
      exact ⟨rfl, Only.refl _ _⟩
    · obtain ⟨g, rfl⟩ := hao (by intro e; rw [e] at hlenT; exact hD (List.eq_nil_of_length_eq_zero hlenT.symm))
      have hDl : D.length ≤ 100000 := Nat.le_trans (wgt_le D D.length) hwt
      have HT := hide hlenT
      clear hlenT hao hD
      go_enter Tryd.func19, Tryd.ntmps19
      go_wp2
      go_loopw [6, 5] (fun i o wr => AsR w B (.slice (some ⟨g, 0, none⟩) T.length cap) T D.length i o wr) (fun i _ _ => D.length - (intOf i).toNat)
      case atStart => exact ⟨0, Nat.zero_le _, rfl, rfl, by rw [stl_zero]; exact hT, Only.refl _ _, hBw⟩
      case round =>
        rename World => wo
        obtain ⟨k, hk, rfl, rfl, hTk, hok, hsk⟩ := hrel
        have hbk := hok.below hTB hBw
        by_cases hlt : k < D.length
        · have hltT : k < T.length := by rw [HT.out]; exact hlt
          obtain ⟨u, hu, hBs⟩ := hc k hlt
          have hb01 : Below w0.heap.size w0 wo := hbel0.trans (hbk.mono hB0)
          have hu' : wo.cell? ⟨b, off + k, none⟩ = some u := by rw [hb01.cell (block_lt_of_cell hu)]; exact hu
          have hBo := hBs.mono hb01
          have hrl := row_le D k hlt hwt
          have hca := hTk.cell_at (i := k) (by rw [stl_len]; exact hltT)
          have hrow := hTk.row _ (List.getElem_mem (by rw [stl_len]; exact hltT : k < (stl T k).length))
          rw [stl_ge T k k hltT (Nat.le_refl _)] at hca hrow
          have hat := hR.at hltT hlt
          have hst := stl_step T k hltT
          have hwr : ∀ (w2 : World) (l2 : List Nat), wo.grownBy w2 (some T[k].1) → Brow w2 T[k].1 l2 → l2.length = T[k].2.2.length → (∀ x ∈ l2, x < 256) → Tab w2 B (.slice (some ⟨g, 0, none⟩) T.length cap) ((stl T k).set k (T[k].1, T[k].2.1, l2)) := by
            intro w2 l2 q1 q2 q3 q4
            have e := stl_ge T k k hltT (Nat.le_refl _) (by rw [stl_len]; exact hltT)
            have := hTk.wrote (i := k) (by rw [stl_len]; exact hltT) (l' := l2) (w' := w2) (by rw [e]; exact q1) (by rw [e]; exact q2) (by rw [e]; exact q3) q4
            rw [e] at this
            exact this
          have hmem := List.getElem_mem hltT
          obtain ⟨⟨rb, n, l⟩, hTt⟩ : ∃ p, p = T[k] := ⟨_, rfl⟩
          rw [← hTt] at hmem
          rw [← hTt] at hca hrow hat hst hwr
          simp only [hdr, Prod.mk.injEq] at hca hrow hat hst hwr
          obtain ⟨rfl, rfl⟩ := hat
          obtain ⟨r1, r2, r3, r4, r5⟩ := hrow
          have el : (D[k] ++ [71, 72]).length = (D[k]).length + 2 := by simp
          rw [el] at hca
          have HS := hide hst
          have HW := hide hwr
          clear hst hwr hc hu hBs hb01 el hTt
          go_wp2
          go_region_with ((go_at_call 43; refine (still_any rb u D[k] _ (by exact r2) (by exact hBo.mono ⟨rfl, rfl, rfl, Nat.le_refl _, fun _ _ => rfl⟩) (by omega)).mono ?_; rintro e w' ⟨rfl, hgr, hB2⟩))
          all_goals
            have hT2 := HW.out w' _ ⟨hgr.os, hgr.tape, hgr.output, hgr.size, hgr.block⟩ hB2 (xr_len 85 _) (xr_lt (by decide) r5)
            rw [HS.out] at hT2
            have hb2 : Only T w w' := hok.step (b := rb) ⟨hgr.os, hgr.tape, hgr.output, hgr.size, hgr.block⟩ ⟨_, hmem, rfl⟩
            have hs2 : wo.heap.size ≤ w'.heap.size := hgr.size
            clear HW HS hgr hB2 hca hu' hBo hTk
            go_wp2
            go_roundw
            case rel => exact ⟨k + 1, by omega, by go_num, rfl, hT2, hb2, by omega⟩
            case measure => simp [intOf]; omega
        · clear hc
          go_wp2
          go_ret
          exact ⟨rfl, hok⟩

/-- rows with their spare room are read as the rows -/
theorem Tab.rd {w : World} {B : Nat} {v : Value} {T : List (Nat × Nat × List Nat)} {D : List (List Nat)} (h : Tab w B v T) (hR : RoomOf T D) (hl : D.length ≤ 100000) : Rd w v D := by
  have hlen := hR.len
  obtain ⟨ao, cap, rfl, hao⟩ := h.slice
  refine ⟨ao, cap, by rw [hlen], by omega, fun hD => ?_⟩
  obtain ⟨g, rfl⟩ := hao (by intro e; rw [e] at hlen; exact hD (List.eq_nil_of_length_eq_zero hlen.symm))
  refine ⟨g, 0, rfl, fun i hi => ?_⟩
  have hiT : i < T.length := by omega
  refine ⟨hdr T[i], by rw [Nat.zero_add]; exact h.cell_at hiT, ?_⟩
  have := h.row_at hiT
  have hat := hR.at hiT hi
  rw [hat] at this
  have e : (D[i] ++ [71, 72]).take (D[i]).length = D[i] := by simp
  rw [e] at this
  exact this
end Go.Proofs.YthhommjlomphdaaDoor
/-
  The rows of the shards that are not lost: the program's kept.
-/
namespace Go.Proofs.YthhommjlomphdaaDoor
open Go.RowKit Go.Deep Gf

theorem bit_u64 (lost k : Nat) (hl : lost < 18446744073709551616) : bits .and .u64 ((lost : Int) / 2 ^ k) 1 = ((lost / 2 ^ k % 2 : Nat) : Int) := by
  have c : (lost : Int) / 2 ^ k = ((lost / 2 ^ k : Nat) : Int) := by simp
  have h : lost / 2 ^ k < 18446744073709551616 := Nat.lt_of_le_of_lt (Nat.div_le_self _ _) hl
  have e := u64_and_nat (lost / 2 ^ k) 1 h (by decide)
  rw [and1] at e
  rw [c]; exact e
/-- a list that the call made, of rows that were there before it -/
def Rl (w0 w : World) (v : Value) (K : List (List Nat)) : Prop :=
  ∃ xs : List Value, xs.length = K.length ∧ (∀ i (h : i < xs.length) (h' : i < K.length), Bs w0 xs[i] K[i]) ∧ w.ownsRow w0.heap.size 44 1 v xs.length xs ∧ Below w0.heap.size w0 w
theorem Rl.nil (w : World) : Rl w w (.slice none 0 0) [] := ⟨[], rfl, fun i h => absurd h (by simp), World.ownsRow_nil _ _ _ _, Below.refl _ _⟩
theorem Rl.rd {w0 w : World} {v : Value} {K : List (List Nat)} (h : Rl w0 w v K) (hl : K.length ≤ 100000) : Rd w v K := by
  obtain ⟨xs, hlen, hB, hown, hb⟩ := h
  rcases hown.2 with ⟨h0, h1⟩ | ⟨g, cap, cur, e1, e2, e3, e4, e5, e6, e7⟩
  · have : K = [] := List.eq_nil_of_length_eq_zero (by omega)
    subst this
    exact ⟨none, 0, h0, by simp, fun h => absurd rfl h⟩
  · refine ⟨some ⟨g, 0, none⟩, cap, by rw [e1, hlen], by omega, fun _ => ⟨g, 0, rfl, fun i hi => ?_⟩⟩
    have hix : i < xs.length := by omega
    have := hown.cells (g := g) (by rw [e1]; rfl) i xs[i] (by simp [hix])
    rw [add0] at this
    exact ⟨xs[i], by rw [Nat.zero_add]; exact this, (hB i hix hi).mono hb⟩
theorem Rl.push {w0 w w1 w2 : World} {v v' u : Value} {K : List (List Nat)} {l : List Nat} {o : Obj} {xs : List Value} (hlen : xs.length = K.length) (hB : ∀ i (h : i < xs.length) (h' : i < K.length), Bs w0 xs[i] K[i])
    (hown : w.ownsRow w0.heap.size 44 1 v xs.length xs) (hb : Below w0.heap.size w0 w) (hw : w1 = w.alloc o) (hu : Bs w0 u l)
    (hg : w1.grownBy w2 v.ownBlock) (hown' : w2.ownsRow w0.heap.size 44 1 v' (xs.length + 1) (xs ++ [u])) : Rl w0 w2 v' (K ++ [l]) := by
  subst hw
  refine ⟨xs ++ [u], by simp [hlen], fun i h h' => ?_, by simpa using hown', (hb.alloc hb.size o).grown hg (by rw [nblk_alloc]; have := hb.size; omega) fun k hk => (hown.lt k hk).1⟩
  by_cases hi : i < xs.length
  · rw [List.getElem_append_left hi, List.getElem_append_left (by omega)]
    exact hB i hi (by omega)
  · have e : i = xs.length := by simp at h; omega
    subst e
    rw [List.getElem_append_right (Nat.le_refl _), List.getElem_append_right (by omega)]
    simpa [hlen] using hu
theorem Bs.one {w : World} {u : Value} {l : List Nat} (h : Bs w u l) : u.oneCell' = true := by
  obtain ⟨ao, c, rfl, _⟩ := h
  rfl
def KpR (w : World) (M : List (List Nat)) (lost : Nat) (v i : Value) (wr : World) : Prop := ∃ k : Nat, k ≤ M.length ∧ i = .int .i64 k ∧ Rl w wr v (keepTo M lost k)
end Go.Proofs.YthhommjlomphdaaDoor
