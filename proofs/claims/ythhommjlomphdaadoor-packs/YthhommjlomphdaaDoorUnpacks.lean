/-
  The law's word on Unpack of some bytes.
-/
import Derived.Test.YthhommjlomphdaaDoorRefUnpack
import Derived.Test.YthhommjlomphdaaDoorSameProg
import Derived.Test.YthhommjlomphdaaDoorRooms
import Derived.Test.YthhommjlomphdaaDoorLaid
import Derived.Lib.SliceRun
namespace Go.Proofs.YthhommjlomphdaaDoor
open Go.RowKit Go.Deep

theorem Ps.aside {kk : IntKind} {w w' : World} {v : Value} {P : List St} {rb : Nat} {l : List Nat} (h : Ps kk w v P) (hB : Brow w rb l) (hg : w.grownBy w' (some rb)) : Ps kk w' v P := by
  obtain ⟨ao, c, h1, h2, h3⟩ := h
  refine ⟨ao, c, h1, h2, fun hP => ?_⟩
  obtain ⟨b, off, e, hc⟩ := h3 hP
  have hne : b ≠ rb := by
    rintro rfl
    have hpos : 0 < P.length := List.length_pos_iff.2 hP
    have hq := (hc 0 hpos).2.1
    obtain ⟨cs, e1, e2, e3⟩ := hB
    have hcell : w.cell? ⟨b, off + 0 * 4 + 1, none⟩ = cs[off + 0 * 4 + 1]? := by simp [World.cell?, e1]
    rw [hcell] at hq
    by_cases hj : off + 0 * 4 + 1 < l.length
    · rw [e3 _ hj] at hq
      simp [vb] at hq
    · rw [Array.getElem?_eq_none (by omega)] at hq
      simp at hq
  refine ⟨b, off, e, fun i hi => ?_⟩
  obtain ⟨c0, c1, c2, c3⟩ := hc i hi
  have hb : w'.heap[b]? = w.heap[b]? := hg.block b (block_lt_of_cell c0) (by simp; exact hne)
  exact ⟨(World.cell?_of_block (a := ⟨b, _, none⟩) hb).trans c0, (World.cell?_of_block (a := ⟨b, _, none⟩) hb).trans c1, (World.cell?_of_block (a := ⟨b, _, none⟩) hb).trans c2, (World.cell?_of_block (a := ⟨b, _, none⟩) hb).trans c3⟩
theorem Ps.keep {w w' : World} {v : Value} {P : List St} {ob : Nat} {x : Int} {ao' : Option Addr} {n' c' : Nat} {t : TypeId} (h : Ps .u8 w v P) (hob : w.heap[ob]? = some (.cells #[.int .i64 x, .slice ao' n' c'] t (0, 0))) (hg : w.grownBy w' (some ob)) : Ps .u8 w' v P := by
  obtain ⟨ao, c, h1, h2, h3⟩ := h
  refine ⟨ao, c, h1, h2, fun hP => ?_⟩
  obtain ⟨b, off, e, hc⟩ := h3 hP
  have hne : b ≠ ob := by
    rintro rfl
    have hpos : 0 < P.length := List.length_pos_iff.2 hP
    have hq := (hc 0 hpos).1
    have hcell : w.cell? ⟨b, off + 0 * 4, none⟩ = (#[.int .i64 x, .slice ao' n' c'] : Array Value)[off + 0 * 4]? := by simp [World.cell?, hob]
    rw [hcell] at hq
    rcases off with _ | _ | off
    · simp at hq
    · simp at hq
    · rw [Array.getElem?_eq_none (by simp)] at hq
      simp at hq
  refine ⟨b, off, e, fun i hi => ?_⟩
  obtain ⟨c0, c1, c2, c3⟩ := hc i hi
  have hb : w'.heap[b]? = w.heap[b]? := hg.block b (block_lt_of_cell c0) (by simp; exact hne)
  exact ⟨(World.cell?_of_block (a := ⟨b, _, none⟩) hb).trans c0, (World.cell?_of_block (a := ⟨b, _, none⟩) hb).trans c1, (World.cell?_of_block (a := ⟨b, _, none⟩) hb).trans c2, (World.cell?_of_block (a := ⟨b, _, none⟩) hb).trans c3⟩
set_option maxRecDepth 100000 in
set_option maxHeartbeats 1000000 in
theorem sunpack_any (bb : Nat) (l : List Nat) (w : World) (h : Bh w bb l) (hx : ∀ x ∈ l, x < 256) (hlb : bb < w.heap.size) (hl : l.length ≤ 1000000) :
    Calls Tryd.prog 48 #[.slice (some ⟨bb, 0, none⟩) l.length (l.length + 2)] w fun r w' => UnPost l w r w' := by
  have hb0 : Below w.heap.size w (w.alloc (.cells #[.int .i64 0, .slice none 0 0] 49)) := (Below.refl _ _).alloc (Nat.le_refl _) _
  have h0 := h.mono hb0
  go_enter Tryd.func48, Tryd.ntmps48
  go_wp2_with fail
  refine (unpack_any bb l _ h0 hx (by rw [nblk_alloc]; omega) hl).mono ?_
  rintro r w1 ⟨h1, h2, hb1⟩
  rw [nblk_alloc] at hb1
  have hx1 : w1.heap[w.heap.size]? = some (.cells #[.int .i64 0, .slice none 0 0] 49 (0, 0)) := (hb1.block _ (by omega)).trans (heap_alloc_last w _)
  obtain ⟨n0, n1, n2, n3⟩ := obj_cells hx1
  have hbw1 := hb0.trans (hb1.mono (by omega))
  by_cases hg : Good l
  · obtain ⟨v, rfl, hv⟩ := h1 hg
    have HG := hide hg
    obtain ⟨av, cv, rfl⟩ := hv.slice
    generalize hr0 : l.getD 0 0 = r0
    have HR0 := hide hr0
    have hset : w1.grownBy ((w1.setCell ⟨w.heap.size, 0, none⟩ (.int .i64 (r0 : Int))).setCell ⟨w.heap.size, 1, none⟩ (.slice av (stpTo l (nOf l)).length cv)) (some w.heap.size) := grown_set (grown_set' _ _ _ _) _ _
    have HV := hide (hv.keep hx1 hset)
    clear h1 h2 hg hv hr0 h h0 hx hset
    go_wp2
    exact bodyPost_ret (v := .tuple #[.agg #[.int .i64 (r0 : Int), .slice av (stpTo l (nOf l)).length cv], .nilIface]) (by simp [results, Tryd.results48, go_sem, n0, n1]) rfl ⟨fun _ => ⟨_, by rw [HR0.out], HV.out⟩, fun h => absurd HG.out h, (hbw1.setCell (by simp) _).setCell (by simp) _⟩
  · obtain rfl := h2 hg
    have HG := hide hg
    clear h1 h2 hg h h0 hx
    go_wp2
    exact bodyPost_ret (v := .tuple #[.agg #[.int .i64 0, .slice none 0 0], .iface 29 (.int .i64 4)]) (by simp [results, Tryd.results48, go_sem, n0, n1]) rfl ⟨fun hg => absurd hg HG.out, fun _ => rfl, (hbw1.setCell (by simp) _).setCell (by simp) _⟩
set_option maxRecDepth 100000 in
set_option maxHeartbeats 1000000 in
theorem runpack_short (ao : Option Addr) (n c : Nat) (w : World) (h3 : n < 3) :
    Calls Tryd.prog 49 #[.slice ao n c] w fun r w' => (∃ ao n c, r = .returned (.tuple #[.agg #[.int .i64 0, .slice ao n c], .bool false])) ∧ Below w.heap.size w w' := by
  obtain ⟨hs2, hx2, hy2, hb2⟩ := alloc2 w (.cells #[.int .i64 0, .slice none 0 0] 53) (.cells #[.int .i64 0, .slice none 0 0] 53)
  have hlI : (n : Int) < 3 := by omega
  obtain ⟨w2, hw2⟩ : ∃ w2, (w.alloc (.cells #[.int .i64 0, .slice none 0 0] 53)).alloc (.cells #[.int .i64 0, .slice none 0 0] 53) = w2 := ⟨_, rfl⟩
  rw [hw2] at hs2 hx2 hy2 hb2
  obtain ⟨p0, p1, p2, p3⟩ := obj_cells hx2
  obtain ⟨q0, q1, q2, q3⟩ := obj_cells hy2
  go_enter Tryd.func49, Tryd.ntmps49
  go_wp2
  exact bodyPost_ret (v := .tuple #[.agg #[.int .i64 0, .slice none 0 0], .bool false]) (by simp [results, Tryd.results49, go_sem, p0, p1]) rfl ⟨⟨_, _, _, rfl⟩, (hb2.setCell (by simp) _).setCell (by simp) _⟩
/-- the document's Unpack of bytes wherever they lie -/
theorem runpack_bs (v : Value) (l : List Nat) (w : World) (h : Bs w v l) (hl : l.length ≤ 1000000) :
    Calls Tryd.prog 49 #[v] w fun r w' => RuPost l w r w' := by
  have hx := h.lt
  obtain ⟨ao, c, rfl, h1, h2, h3, h4⟩ := h
  by_cases h5 : 3 ≤ l.length
  · obtain ⟨b, off, rfl, hc⟩ := h4 (by intro e; rw [e] at h5; simp at h5)
    exact runpack_any b off c l w hc hx h5 hl
  · refine (runpack_short ao l.length c w (by omega)).mono ?_
    rintro r w' ⟨h6, h7⟩
    exact ⟨fun hg => absurd hg.1 h5, fun _ => h6, h7⟩
set_option maxRecDepth 100000 in
set_option maxHeartbeats 4000000 in
theorem unpacks_any (v : Value) (l : List Nat) (w : World) (h : Bs w v l) (hl : l.length ≤ 1000000) (hg : globalLaid w) :
    Calls Tryd.prog 33 #[v] w fun e w' => e = .returned (.bool true) ∧ Below w.heap.size w w' := by
  have hlt0 : 0 < w.heap.size := block_lt_of_cell hg
  have hx := h.lt
  obtain ⟨ao, c, rfl⟩ : ∃ ao c, v = .slice ao l.length c := by obtain ⟨ao, c, e, _⟩ := h; exact ⟨ao, c, e⟩
  go_enter Tryd.func33, Tryd.ntmps33
  go_wp2_with fail
  refine (roomy_any _ l _ h hl).mono ?_
  rintro e w1 ⟨rb, rfl, hrb, hB1, hb1⟩
  have hs1 := hb1.size
  have hBh : Bh w1 rb l := fun k hk => by
    have := hB1.cell k (by simp; omega)
    rw [this]
    simp [List.getElem?_append_left hk]
  have hB1lt := hB1.lt
  go_wp2_with fail
  refine (sunpack_any rb l _ hBh hx hB1lt hl).mono ?_
  rintro r w2 ⟨h1, h2, hb2⟩
  have hs2 := hb2.size
  have hB2 := hB1.below hb2
  have hbw2 := hb1.trans (hb2.mono (by omega))
  have hg2 : globalLaid w2 := by
    unfold globalLaid at *
    rw [hbw2.cell hlt0]; exact hg
  by_cases hgd : Good l
  · obtain ⟨vg, rfl, hvg⟩ := h1 hgd
    obtain ⟨r0, hr0⟩ : ∃ r0, l.getD 0 0 = r0 := ⟨_, rfl⟩
    rw [hr0]
    have HR0 := hide hr0
    have HG := hide hgd
    obtain ⟨av, cv, rfl⟩ := hvg.slice
    have HV := hide hvg
    have HB2 := hide hB2
    have HB := hide h
    clear h1 h2 hgd hvg hr0 hB1 hBh hb2 hb1 hB2 hx h
    go_wp2_with fail
    refine (tell_nil _).mono ?_
    rintro e w4 ⟨rfl, hb4⟩
    rw [nblk_alloc] at hb4
    have hs4 := hb4.size
    rw [nblk_alloc] at hs4
    have hx4 : w4.heap[w2.heap.size]? = some (.cells #[.int .i64 (r0 : Int), .slice av (stpTo l (nOf l)).length cv] 49 (0, 0)) := (hb4.block _ (by omega)).trans (heap_alloc_last w2 _)
    have hb24 : Below w2.heap.size w2 w4 := ((Below.refl _ _).alloc (Nat.le_refl _) _).trans (hb4.mono (by omega))
    have hbw4 := hbw2.trans (hb24.mono (by omega))
    have hB4 := HB2.out.below hb24
    have HV4 := hide (HV.out.mono hb24)
    clear hb4 hg2
    go_wp2_with fail
    refine (still_any rb _ l _ hB4 (HB.out.mono hbw4) hl).mono ?_
    rintro e w5 ⟨rfl, hgr5, _⟩
    have hs5 := hgr5.size
    have hbw5 : Below w.heap.size w w5 := grown_below hbw4 hgr5 (by omega) hrb
    have hx5 := (hgr5.block w2.heap.size (by omega) (by simp; omega)).trans hx4
    have HV5 := hide (HV4.out.aside hB4 hgr5)
    clear hB4 hx4 hgr5 HV4 HB2 hb24 HV
    go_wp2_with fail
    refine (runpack_bs _ l _ (HB.out.mono hbw5) hl).mono ?_
    rintro r w6 ⟨h6, _, hb6⟩
    obtain ⟨vq, rfl, hvq⟩ := h6 HG.out
    rw [HR0.out]
    obtain ⟨aq, cq, rfl⟩ := hvq.slice
    have hs6 := hb6.size
    have hbw6 := hbw5.trans (hb6.mono (by omega))
    have hx6 : w6.heap[w2.heap.size]? = some (.cells #[.int .i64 (r0 : Int), .slice av (stpTo l (nOf l)).length cv] 49 (0, 0)) := (hb6.block _ (by omega)).trans hx5
    have al := (Below.refl w6.heap.size w6).alloc (Nat.le_refl _) (.cells #[.int .i64 (r0 : Int), .slice aq (stpTo l (nOf l)).length cq] 53)
    have hx7 := (al.block _ (by omega)).trans hx6
    obtain ⟨g0, g1, _, _⟩ := obj_cells hx7
    have HV7 := hide ((HV5.out.mono hb6).mono al)
    have HQ7 := hide (hvq.mono al)
    have hbw7 := hbw6.trans (al.mono (by omega))
    have HOI : Hid (∀ s ∈ stpTo l (nOf l), okInts s) := fun s hs => by
      simp only [stpTo, List.mem_map] at hs
      obtain ⟨i, _, rfl⟩ := hs
      have q0 := getD_lt HB.out.lt (3 + 4 * i)
      have q1 := getD_lt HB.out.lt (4 + 4 * i)
      have q2 := getD_lt HB.out.lt (5 + 4 * i)
      have q3 := getD_lt HB.out.lt (6 + 4 * i)
      simp only [okInts, stp]
      omega
    clear h6 hvq hb6 hx5 hx6 hx7 al HV5
    go_wp2_with fail
    refine (sameProgram_any (r0 : Int) _ _ (stpTo l (nOf l)) _ HV7.out HQ7.out HOI.out).mono ?_
    rintro e w8 ⟨rfl, hb8⟩
    rw [nblk_alloc] at hb8
    have hbw8 := hbw7.trans (hb8.mono (by omega))
    clear hb8 g0 g1
    go_wp2
    go_ret
    exact ⟨rfl, hbw8⟩
  · obtain rfl := h2 hgd
    have HG := hide hgd
    have HB2 := hide hB2
    have HB := hide h
    have heq := fun wx => Lib.run_eql_slice_nil (P := Tryd.prog) wx 47 92 none 0 0 0 0 Tryd.underlying47
    clear h1 h2 hgd hB1 hBh hb2 hb1 hB2 hx h
    go_wp2_with fail
    refine (tell_errno 4 _ (by
      have := (((Below.refl w2.heap.size w2).alloc (Nat.le_refl _) (.cells #[.int .i64 0, .slice none 0 0] 49)).cell (p := ⟨0, 0, none⟩) (by show 0 < _; omega)).trans hg2
      exact this)).mono ?_
    rintro e w4 ⟨rfl, hb4⟩
    rw [nblk_alloc] at hb4
    have hs4 := hb4.size
    rw [nblk_alloc] at hs4
    have hx4 : w4.heap[w2.heap.size]? = some (.cells #[.int .i64 0, .slice none 0 0] 49 (0, 0)) := (hb4.block _ (by omega)).trans (heap_alloc_last w2 _)
    have hb24 : Below w2.heap.size w2 w4 := ((Below.refl _ _).alloc (Nat.le_refl _) _).trans (hb4.mono (by omega))
    have hbw4 := hbw2.trans (hb24.mono (by omega))
    have hB4 := HB2.out.below hb24
    clear hb4 hg2
    go_wp2_with fail
    refine (still_any rb _ l _ hB4 (HB.out.mono hbw4) hl).mono ?_
    rintro e w5 ⟨rfl, hgr5, _⟩
    have hs5 := hgr5.size
    have hbw5 : Below w.heap.size w w5 := grown_below hbw4 hgr5 (by omega) hrb
    have hx5 := (hgr5.block w2.heap.size (by omega) (by simp; omega)).trans hx4
    clear hB4 hx4 hgr5 HB2 hb24
    go_wp2_with fail
    refine (runpack_bs _ l _ (HB.out.mono hbw5) hl).mono ?_
    rintro r w6 ⟨_, h6, hb6⟩
    obtain ⟨aq, nq, cq, rfl⟩ := h6 HG.out
    have hs6 := hb6.size
    have hbw6 := hbw5.trans (hb6.mono (by omega))
    have hx6 : w6.heap[w2.heap.size]? = some (.cells #[.int .i64 0, .slice none 0 0] 49 (0, 0)) := (hb6.block _ (by omega)).trans hx5
    have al := (Below.refl w6.heap.size w6).alloc (Nat.le_refl _) (.cells #[.int .i64 0, .slice aq nq cq] 53)
    have hx7 := (al.block _ (by omega)).trans hx6
    obtain ⟨g0, g1, _, _⟩ := obj_cells hx7
    have hbw7 := hbw6.trans (al.mono (by omega))
    clear h6 hb6 hx5 hx6 hx7 al
    go_wp2
    go_ret
    exact ⟨rfl, hbw7⟩
end Go.Proofs.YthhommjlomphdaaDoor
