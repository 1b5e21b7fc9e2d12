import Derived.Test.YtogdeaaphdlchaaGreatDoorPart25
/-
  archive.Open: where the params are wrong, or the array.
-/
namespace Go.Proofs.YtogdeaaphdlchaaGreatDoor
open Go.RowKit Go.Deep Gf

set_option maxRecDepth 100000 in
set_option maxHeartbeats 1000000 in
theorem open_wrong {w : World} {p : Nat} {D L G cache : Int} (hr : rightB D L G = false) :
    Calls Tryz.prog 11 #[.pointer (some ⟨p, 0, none⟩), .agg #[.int .i64 D, .int .i64 L, .int .i64 G], .agg #[.int .i64 cache]] w fun e w' => e = .returned (.tuple #[.pointer none, .iface 34 (.int .i64 1)]) ∧ Below w.heap.size w w' := by
  have hq : ((w.alloc (.cells #[.int .i64 D, .int .i64 L, .int .i64 G] 23)).alloc (.cells #[.int .i64 cache] 33)).heap[w.heap.size]? = some (.cells #[.int .i64 D, .int .i64 L, .int .i64 G] 23 (0, 0)) := (blk_alloc_lt _ _ _ (by simp)).trans (blk_alloc_new _ _)
  have ho : ((w.alloc (.cells #[.int .i64 D, .int .i64 L, .int .i64 G] 23)).alloc (.cells #[.int .i64 cache] 33)).heap[w.heap.size + 1]? = some (.cells #[.int .i64 cache] 33 (0, 0)) := by
    have := blk_alloc_new (w.alloc (.cells #[.int .i64 D, .int .i64 L, .int .i64 G] 23)) (.cells #[.int .i64 cache] 33)
    rwa [World.size_alloc] at this
  have hb2 : Below w.heap.size w ((w.alloc (.cells #[.int .i64 D, .int .i64 L, .int .i64 G] 23)).alloc (.cells #[.int .i64 cache] 33)) := ((Below.refl _ w).alloc (Nat.le_refl _) _).alloc (by simp) _
  have hz2 : ((w.alloc (.cells #[.int .i64 D, .int .i64 L, .int .i64 G] 23)).alloc (.cells #[.int .i64 cache] 33)).heap.size = w.heap.size + 2 := by simp
  obtain ⟨w2, hw2⟩ : ∃ w2, (w.alloc (.cells #[.int .i64 D, .int .i64 L, .int .i64 G] 23)).alloc (.cells #[.int .i64 cache] 33) = w2 := ⟨_, rfl⟩
  rw [hw2] at hq ho hb2 hz2
  have p0 : w2.cell? ⟨w.heap.size, 0, none⟩ = some (.int .i64 D) := by simp [World.cell?, hq]
  have p1 : w2.cell? ⟨w.heap.size, 1, none⟩ = some (.int .i64 L) := by simp [World.cell?, hq]
  have p2 : w2.cell? ⟨w.heap.size, 2, none⟩ = some (.int .i64 G) := by simp [World.cell?, hq]
  have H2 := hide (And.intro hq (And.intro ho (And.intro hb2 hz2)))
  clear hq ho hb2 hz2
  go_enter Tryz.func11, Tryz.ntmps11
  go_wp2_with fail
  refine (right_any D L G _).mono ?_
  rw [hr]
  rintro e w3 ⟨rfl, hb3⟩
  obtain ⟨hq, ho, hb2, hz2⟩ := H2.out
  have hb03 : Below w.heap.size w w3 := hb2.trans (hb3.mono hb2.size)
  have H3 := hide hb03
  clear hq ho hb2 hz2 hb03 hb3 p0 p1 p2
  go_wp2
  go_ret2
  exact ⟨rfl, H3.out⟩
set_option maxRecDepth 100000 in
set_option maxHeartbeats 1000000 in
theorem open_cache {w : World} {p : Nat} {D L G cache : Int} (hr : rightB D L G = true) (hc : cache < 0 ∨ 64 < cache) :
    Calls Tryz.prog 11 #[.pointer (some ⟨p, 0, none⟩), .agg #[.int .i64 D, .int .i64 L, .int .i64 G], .agg #[.int .i64 cache]] w fun e w' => e = .returned (.tuple #[.pointer none, .iface 34 (.int .i64 1)]) ∧ Below w.heap.size w w' := by
  have hq : ((w.alloc (.cells #[.int .i64 D, .int .i64 L, .int .i64 G] 23)).alloc (.cells #[.int .i64 cache] 33)).heap[w.heap.size]? = some (.cells #[.int .i64 D, .int .i64 L, .int .i64 G] 23 (0, 0)) := (blk_alloc_lt _ _ _ (by simp)).trans (blk_alloc_new _ _)
  have ho : ((w.alloc (.cells #[.int .i64 D, .int .i64 L, .int .i64 G] 23)).alloc (.cells #[.int .i64 cache] 33)).heap[w.heap.size + 1]? = some (.cells #[.int .i64 cache] 33 (0, 0)) := by
    have := blk_alloc_new (w.alloc (.cells #[.int .i64 D, .int .i64 L, .int .i64 G] 23)) (.cells #[.int .i64 cache] 33)
    rwa [World.size_alloc] at this
  have hb2 : Below w.heap.size w ((w.alloc (.cells #[.int .i64 D, .int .i64 L, .int .i64 G] 23)).alloc (.cells #[.int .i64 cache] 33)) := ((Below.refl _ w).alloc (Nat.le_refl _) _).alloc (by simp) _
  have hz2 : ((w.alloc (.cells #[.int .i64 D, .int .i64 L, .int .i64 G] 23)).alloc (.cells #[.int .i64 cache] 33)).heap.size = w.heap.size + 2 := by simp
  obtain ⟨w2, hw2⟩ : ∃ w2, (w.alloc (.cells #[.int .i64 D, .int .i64 L, .int .i64 G] 23)).alloc (.cells #[.int .i64 cache] 33) = w2 := ⟨_, rfl⟩
  rw [hw2] at hq ho hb2 hz2
  have p0 : w2.cell? ⟨w.heap.size, 0, none⟩ = some (.int .i64 D) := by simp [World.cell?, hq]
  have p1 : w2.cell? ⟨w.heap.size, 1, none⟩ = some (.int .i64 L) := by simp [World.cell?, hq]
  have p2 : w2.cell? ⟨w.heap.size, 2, none⟩ = some (.int .i64 G) := by simp [World.cell?, hq]
  have H2 := hide (And.intro hq (And.intro ho (And.intro hb2 hz2)))
  clear hq ho hb2 hz2
  go_enter Tryz.func11, Tryz.ntmps11
  go_wp2_with fail
  refine (right_any D L G _).mono ?_
  rw [hr]
  rintro e w3 ⟨rfl, hb3⟩
  obtain ⟨hq, ho, hb2, hz2⟩ := H2.out
  have ho3 := (hb3.block _ (by omega)).trans ho
  have hb03 : Below w.heap.size w w3 := hb2.trans (hb3.mono hb2.size)
  have o0 : w3.cell? ⟨w.heap.size + 1, 0, none⟩ = some (.int .i64 cache) := by simp [World.cell?, ho3]
  have H3 := hide hb03
  clear hq ho hb2 hz2 ho3 hb03 hb3 p0 p1 p2
  rcases hc with hc | hc
  · go_wp2
    go_ret2
    exact ⟨rfl, H3.out⟩
  · have hc0 : ¬ cache < 0 := by omega
    go_wp2
    go_ret2
    exact ⟨rfl, H3.out⟩
set_option maxRecDepth 100000 in
set_option maxHeartbeats 1000000 in
theorem open_array {w : World} {p D L G : Nat} {cache : Int} {A : Arr} {F : Foot} (h : ArrAt w p A F) (hf : A.fit) (hr : rightB D L G = true) (hD1 : 1 ≤ D) (hD : D ≤ 12) (hL4 : L ≤ 4) (hG : G ≤ 4) (hc0 : 0 ≤ cache) (hc1 : cache ≤ 64) (hne : A.n ≠ D + L + G ∨ A.nb < 8) :
    Calls Tryz.prog 11 #[.pointer (some ⟨p, 0, none⟩), .agg #[.int .i64 D, .int .i64 L, .int .i64 G], .agg #[.int .i64 cache]] w fun e w' => e = .returned (.tuple #[.pointer none, .iface 34 (.int .i64 5)]) ∧ Below w.heap.size w w' := by
  have hq : ((w.alloc (.cells #[.int .i64 (D : Int), .int .i64 (L : Int), .int .i64 (G : Int)] 23)).alloc (.cells #[.int .i64 cache] 33)).heap[w.heap.size]? = some (.cells #[.int .i64 (D : Int), .int .i64 (L : Int), .int .i64 (G : Int)] 23 (0, 0)) := (blk_alloc_lt _ _ _ (by simp)).trans (blk_alloc_new _ _)
  have ho : ((w.alloc (.cells #[.int .i64 (D : Int), .int .i64 (L : Int), .int .i64 (G : Int)] 23)).alloc (.cells #[.int .i64 cache] 33)).heap[w.heap.size + 1]? = some (.cells #[.int .i64 cache] 33 (0, 0)) := by
    have := blk_alloc_new (w.alloc (.cells #[.int .i64 (D : Int), .int .i64 (L : Int), .int .i64 (G : Int)] 23)) (.cells #[.int .i64 cache] 33)
    rwa [World.size_alloc] at this
  have hb2 : Below w.heap.size w ((w.alloc (.cells #[.int .i64 (D : Int), .int .i64 (L : Int), .int .i64 (G : Int)] 23)).alloc (.cells #[.int .i64 cache] 33)) := ((Below.refl _ w).alloc (Nat.le_refl _) _).alloc (by simp) _
  have hz2 : ((w.alloc (.cells #[.int .i64 (D : Int), .int .i64 (L : Int), .int .i64 (G : Int)] 23)).alloc (.cells #[.int .i64 cache] 33)).heap.size = w.heap.size + 2 := by simp
  obtain ⟨w2, hw2⟩ : ∃ w2, (w.alloc (.cells #[.int .i64 (D : Int), .int .i64 (L : Int), .int .i64 (G : Int)] 23)).alloc (.cells #[.int .i64 cache] 33) = w2 := ⟨_, rfl⟩
  rw [hw2] at hq ho hb2 hz2
  have p0 : w2.cell? ⟨w.heap.size, 0, none⟩ = some (.int .i64 D) := by simp [World.cell?, hq]
  have p1 : w2.cell? ⟨w.heap.size, 1, none⟩ = some (.int .i64 L) := by simp [World.cell?, hq]
  have p2 : w2.cell? ⟨w.heap.size, 2, none⟩ = some (.int .i64 G) := by simp [World.cell?, hq]
  have H2 := hide (And.intro hq (And.intro ho (And.intro hb2 hz2)))
  clear hq ho hb2 hz2
  go_enter Tryz.func11, Tryz.ntmps11
  go_wp2_with fail
  refine (right_any D L G _).mono ?_
  rw [hr]
  rintro e w3 ⟨rfl, hb3⟩
  obtain ⟨hq, ho, hb2, hz2⟩ := H2.out
  have hq3 := (hb3.block _ (by omega)).trans hq
  have ho3 := (hb3.block _ (by omega)).trans ho
  have hb03 : Below w.heap.size w w3 := hb2.trans (hb3.mono hb2.size)
  have hz3 := hb3.size
  have o0 : w3.cell? ⟨w.heap.size + 1, 0, none⟩ = some (.int .i64 cache) := by simp [World.cell?, ho3]
  have H3 := hide (And.intro hq3 (And.intro ho3 (And.intro hb03 (show w.heap.size + 2 ≤ w3.heap.size by omega))))
  clear hq ho hb2 hz2 hq3 ho3 hb03 hb3 hz3 p0 p1 p2
  go_wp2_with fail
  refine open_region (by kernel_rfl) (h.below H3.out.2.2.1 (Nat.le_refl _)) hf H3.out.1 hD hL4 hG rfl rfl rfl ?_
  intro w4 hb4
  have hb04 : Below w.heap.size w w4 := H3.out.2.2.1.trans (hb4.mono H3.out.2.2.1.size)
  by_cases hn : A.n = D + L + G
  · rw [decide_eq_true hn]
    have hnb : A.nb < 8 := hne.resolve_left (fun q => q hn)
    have hbk := blocks_any (h.below hb04 (Nat.le_refl _)) (by omega)
    have H4 := hide (And.intro hb04 hbk)
    obtain ⟨NB, hNB⟩ : ∃ NB, A.nb = NB := ⟨_, rfl⟩
    rw [hNB] at H4 hnb
    have hnb' : ((NB : Nat) : Int) < 8 := by omega
    clear hb04 hbk hb4 hNB hne
    rename_i hKK
    refine hKK _ _ ?_
    clear hKK
    simp only [Act.putFrom, Act.put, List.setIfInBounds_toArray, List.set_cons_succ, List.set_cons_zero]
    go_wp2_with fail
    refine H4.out.2.mono ?_
    rintro e w5 ⟨rfl, hw5⟩
    subst hw5
    go_wp2
    go_ret2
    exact ⟨rfl, H4.out.1⟩
  · rw [decide_eq_false hn]
    have H4 := hide hb04
    clear hb04 hb4 hne
    rename_i hKK
    refine hKK _ _ ?_
    clear hKK
    simp only [Act.putFrom, Act.put, List.setIfInBounds_toArray, List.set_cons_succ, List.set_cons_zero]
    go_wp2
    go_ret2
    exact ⟨rfl, H4.out⟩
end Go.Proofs.YtogdeaaphdlchaaGreatDoor
/-
  stripes.Open: of a new array, and where something is wrong.
-/
namespace Go.Proofs.YtogdeaaphdlchaaGreatDoor
open Go.RowKit Go.Deep Gf

/-- what Open lays first -/
structure Laid2B (w w2 : World) (D L G cache : Int) : Prop where
  par : w2.heap[w.heap.size]? = some (.cells #[.int .i64 D, .int .i64 L, .int .i64 G] 23 (0, 0))
  opt : w2.heap[w.heap.size + 1]? = some (.cells #[.int .i64 cache] 33 (0, 0))
  below : Below w.heap.size w w2
  size : w2.heap.size = w.heap.size + 2
theorem laid2B (w : World) (D L G cache : Int) : Laid2B w ((w.alloc (.cells #[.int .i64 D, .int .i64 L, .int .i64 G] 23)).alloc (.cells #[.int .i64 cache] 33)) D L G cache := by
  refine ⟨(blk_alloc_lt _ _ _ (by simp)).trans (blk_alloc_new _ _), ?_, ((Below.refl _ w).alloc (Nat.le_refl _) _).alloc (by simp) _, by simp⟩
  have := blk_alloc_new (w.alloc (.cells #[.int .i64 D, .int .i64 L, .int .i64 G] 23)) (.cells #[.int .i64 cache] 33)
  rwa [World.size_alloc] at this
set_option maxRecDepth 100000 in
set_option maxHeartbeats 1000000 in
theorem sopen_err {w : World} {p : Nat} {D L G cache n : Int} (h : ∀ w2, Below w.heap.size w w2 → Calls Tryz.prog 11 #[.pointer (some ⟨p, 0, none⟩), .agg #[.int .i64 D, .int .i64 L, .int .i64 G], .agg #[.int .i64 cache]] w2 fun e w' => e = .returned (.tuple #[.pointer none, .iface 34 (.int .i64 n)]) ∧ Below w2.heap.size w2 w') :
    Calls Tryz.prog 5 #[.pointer (some ⟨p, 0, none⟩), .agg #[.int .i64 D, .int .i64 L, .int .i64 G], .agg #[.int .i64 cache]] w fun e w' => e = .returned (.tuple #[.pointer none, .iface 34 (.int .i64 n)]) ∧ Below w.heap.size w w' := by
  have hL := laid2B w D L G cache
  obtain ⟨w2, hw2⟩ : ∃ w2, (w.alloc (.cells #[.int .i64 D, .int .i64 L, .int .i64 G] 23)).alloc (.cells #[.int .i64 cache] 33) = w2 := ⟨_, rfl⟩
  rw [hw2] at hL
  have p0 : w2.cell? ⟨w.heap.size, 0, none⟩ = some (.int .i64 D) := by simp [World.cell?, hL.par]
  have p1 : w2.cell? ⟨w.heap.size, 1, none⟩ = some (.int .i64 L) := by simp [World.cell?, hL.par]
  have p2 : w2.cell? ⟨w.heap.size, 2, none⟩ = some (.int .i64 G) := by simp [World.cell?, hL.par]
  have o0 : w2.cell? ⟨w.heap.size + 1, 0, none⟩ = some (.int .i64 cache) := by simp [World.cell?, hL.opt]
  have H := hide (And.intro hL (h w2 hL.below))
  clear hL h
  go_enter Tryz.func5, Tryz.ntmps5
  go_wp2_with fail
  refine H.out.2.mono ?_
  rintro e w3 ⟨rfl, hb3⟩
  have H3 := hide (H.out.1.below.trans (hb3.mono H.out.1.below.size))
  clear hb3
  go_wp2
  go_ret2
  exact ⟨rfl, H3.out⟩
set_option maxRecDepth 100000 in
set_option maxHeartbeats 1000000 in
theorem sopen_new {w : World} {p D L G : Nat} {cache : Int} {A : Arr} {F : Foot} (h : ArrAt w p A F) (hf : A.fit) (hn : A.n = D + L + G) (hr : rightB D L G = true) (hD1 : 1 ≤ D) (hD : D ≤ 12) (hL : 1 ≤ L) (hL4 : L ≤ 4) (hG : G ≤ 4) (hdiv : D % L = 0) (h16 : D + L + G ≤ 16) (hc0 : 0 ≤ cache) (hc1 : cache ≤ 64)
    (hnb : 8 ≤ A.nb) (hw : A.wait < 0) (hlost : ∀ i, A.lost i = false) (hbad : ∀ d, A.bad d 0 = false) (hz : ∀ i, i < A.n → A.blk i 0 = zb) (hv : hvLaid w) (ht : tabLaid w) (hK : 3 ≤ w.heap.size) (hFg : ¬ F.has p A.n 2) (hFt : ¬ F.has p A.n 1) :
    Calls Tryz.prog 5 #[.pointer (some ⟨p, 0, none⟩), .agg #[.int .i64 D, .int .i64 L, .int .i64 G], .agg #[.int .i64 cache]] w fun e w' => ∃ sa ar v ps u, e = .returned (.tuple #[.pointer (some ⟨sa, 0, none⟩), .nilIface]) ∧ w.heap.size ≤ sa ∧ Boxed w' sa 55 (.pointer (some ⟨ar, 0, none⟩)) ∧ NewArc w w' p D L G ar v ps u A F := by
  have hLd := laid2B w D L G cache
  obtain ⟨w2, hw2⟩ : ∃ w2, (w.alloc (.cells #[.int .i64 (D : Int), .int .i64 (L : Int), .int .i64 (G : Int)] 23)).alloc (.cells #[.int .i64 cache] 33) = w2 := ⟨_, rfl⟩
  rw [hw2] at hLd
  have p0 : w2.cell? ⟨w.heap.size, 0, none⟩ = some (.int .i64 D) := by simp [World.cell?, hLd.par]
  have p1 : w2.cell? ⟨w.heap.size, 1, none⟩ = some (.int .i64 L) := by simp [World.cell?, hLd.par]
  have p2 : w2.cell? ⟨w.heap.size, 2, none⟩ = some (.int .i64 G) := by simp [World.cell?, hLd.par]
  have o0 : w2.cell? ⟨w.heap.size + 1, 0, none⟩ = some (.int .i64 cache) := by simp [World.cell?, hLd.opt]
  have hb := hLd.below
  have hc := open_new (h.below hb (Nat.le_refl _)) hf hn hr hD1 hD hL hL4 hG hdiv h16 hc0 hc1 hnb hw hlost hbad hz (hv.below hb hv.lt) (ht.keep (hb.block _ ht.lt)) (Nat.le_trans hK hb.size) hFg hFt
  have H := hide (And.intro hLd hc)
  clear hLd hc hb
  go_enter Tryz.func5, Tryz.ntmps5
  go_wp2_with fail
  refine H.out.2.mono ?_
  rintro e w3 ⟨ar, v, ps, u, rfl, hN⟩
  have H3 := hide hN
  clear hN
  go_wp2
  go_ret2
  have hN := H3.out
  have hb := H.out.1.below
  have hz2 := H.out.1.size
  have hO3 : Outside (F.has p A.n) w w3 := (Outside.of_all hb _).trans hN.out
  have hbA : Below w3.heap.size w3 (w3.alloc (.cells #[.pointer (some ⟨ar, 0, none⟩)] 55)) := (Below.refl _ w3).alloc (Nat.le_refl _) _
  refine ⟨w3.heap.size, ar, v, ps, u, rfl, hO3.size, Boxed.new w3 _ _, ?_, ?_, hN.arc.keep (hbA.block _ hN.arc.lt), ?_, hN.vol.below hbA (Nat.le_refl _), hO3.trans (Outside.of_all hbA _)⟩
  · have := hN.arGe; omega
  · have := hN.vGe; omega
  · exact (hN.pg.weaken (fun k hk => by omega)).keep (KpS.of_below hbA)
end Go.Proofs.YtogdeaaphdlchaaGreatDoor
/-
  stripes.Open over a new archive: of the same params, and of others.
-/
namespace Go.Proofs.YtogdeaaphdlchaaGreatDoor
open Go.RowKit Go.Deep Gf

set_option maxRecDepth 100000 in
set_option maxHeartbeats 1000000 in
theorem sopen_errO {w : World} {p : Nat} {D L G cache n : Int} {S : Nat → Prop} (h : ∀ w2, Below w.heap.size w w2 → Calls Tryz.prog 11 #[.pointer (some ⟨p, 0, none⟩), .agg #[.int .i64 D, .int .i64 L, .int .i64 G], .agg #[.int .i64 cache]] w2 fun e w' => e = .returned (.tuple #[.pointer none, .iface 34 (.int .i64 n)]) ∧ Outside S w2 w') :
    Calls Tryz.prog 5 #[.pointer (some ⟨p, 0, none⟩), .agg #[.int .i64 D, .int .i64 L, .int .i64 G], .agg #[.int .i64 cache]] w fun e w' => e = .returned (.tuple #[.pointer none, .iface 34 (.int .i64 n)]) ∧ Outside S w w' := by
  have hL := laid2B w D L G cache
  obtain ⟨w2, hw2⟩ : ∃ w2, (w.alloc (.cells #[.int .i64 D, .int .i64 L, .int .i64 G] 23)).alloc (.cells #[.int .i64 cache] 33) = w2 := ⟨_, rfl⟩
  rw [hw2] at hL
  have p0 : w2.cell? ⟨w.heap.size, 0, none⟩ = some (.int .i64 D) := by simp [World.cell?, hL.par]
  have p1 : w2.cell? ⟨w.heap.size, 1, none⟩ = some (.int .i64 L) := by simp [World.cell?, hL.par]
  have p2 : w2.cell? ⟨w.heap.size, 2, none⟩ = some (.int .i64 G) := by simp [World.cell?, hL.par]
  have o0 : w2.cell? ⟨w.heap.size + 1, 0, none⟩ = some (.int .i64 cache) := by simp [World.cell?, hL.opt]
  have H := hide (And.intro hL (h w2 hL.below))
  clear hL h
  go_enter Tryz.func5, Tryz.ntmps5
  go_wp2_with fail
  refine H.out.2.mono ?_
  rintro e w3 ⟨rfl, hb3⟩
  have H3 := hide ((Outside.of_all H.out.1.below S).trans hb3)
  clear hb3
  go_wp2
  go_ret2
  exact ⟨rfl, H3.out⟩
set_option maxRecDepth 100000 in
set_option maxHeartbeats 1000000 in
theorem sopen_okO {w : World} {p : Nat} {D L G cache : Int} {S : Nat → Prop} (h : ∀ w2, Below w.heap.size w w2 → Calls Tryz.prog 11 #[.pointer (some ⟨p, 0, none⟩), .agg #[.int .i64 D, .int .i64 L, .int .i64 G], .agg #[.int .i64 cache]] w2 fun e w' => ∃ ar, e = .returned (.tuple #[.pointer (some ⟨ar, 0, none⟩), .nilIface]) ∧ Outside S w2 w') :
    Calls Tryz.prog 5 #[.pointer (some ⟨p, 0, none⟩), .agg #[.int .i64 D, .int .i64 L, .int .i64 G], .agg #[.int .i64 cache]] w fun e w' => ∃ sa, e = .returned (.tuple #[.pointer (some ⟨sa, 0, none⟩), .nilIface]) ∧ Outside S w w' := by
  have hL := laid2B w D L G cache
  obtain ⟨w2, hw2⟩ : ∃ w2, (w.alloc (.cells #[.int .i64 D, .int .i64 L, .int .i64 G] 23)).alloc (.cells #[.int .i64 cache] 33) = w2 := ⟨_, rfl⟩
  rw [hw2] at hL
  have p0 : w2.cell? ⟨w.heap.size, 0, none⟩ = some (.int .i64 D) := by simp [World.cell?, hL.par]
  have p1 : w2.cell? ⟨w.heap.size, 1, none⟩ = some (.int .i64 L) := by simp [World.cell?, hL.par]
  have p2 : w2.cell? ⟨w.heap.size, 2, none⟩ = some (.int .i64 G) := by simp [World.cell?, hL.par]
  have o0 : w2.cell? ⟨w.heap.size + 1, 0, none⟩ = some (.int .i64 cache) := by simp [World.cell?, hL.opt]
  have H := hide (And.intro hL (h w2 hL.below))
  clear hL h
  go_enter Tryz.func5, Tryz.ntmps5
  go_wp2_with fail
  refine H.out.2.mono ?_
  rintro e w3 ⟨ar, rfl, hb3⟩
  have H3 := hide ((Outside.of_all H.out.1.below S).trans hb3)
  clear hb3
  go_wp2
  go_ret2
  exact ⟨_, rfl, H3.out.trans (Outside.alloc _ _)⟩
/-- what stands on a new archive's array -/
structure NewOn (B : Arr) (D L G : Nat) : Prop where
  bad : ∀ i m, B.bad i m = false
  lost : ∀ i, B.lost i = false
  wait : B.wait < 0
  root : ∀ i, i < B.n → B.blk i 0 = (Rec.root D L G 1 2 0).blk
  fill : ∀ i, i < B.n → B.blk i 1 = Rec.filled.blk
  page : ∀ i, i < B.n → B.blk i 2 = (Rec.shard ((stripeL D L G (pageB D [2] [] 0)).getD i [])).blk
theorem newOn {A : Arr} (D L G : Nat) (hb : ∀ i m, A.bad i m = false) (hl : ∀ i, A.lost i = false) (hw : A.wait < 0) : NewOn (newArc A D L G) D L G := by
  refine ⟨fun i m => ?_, hl, hw, fun i hi => ?_, fun i hi => ?_, fun i hi => ?_⟩
  · simp [newArc, Arr.pagesTo, Arr.putAt, hb]
  · have hi' : i < A.n := hi
    simp [newArc, Arr.pagesTo, Arr.putAt, hi']
  · have hi' : i < A.n := hi
    simp [newArc, Arr.pagesTo, Arr.putAt, hi']
  · have hi' : i < A.n := hi
    simp [newArc, Arr.pagesTo, Arr.putAt, hi']
theorem again_other {w : World} {p D L G D2 L2 G2 : Nat} {B : Arr} {F : Foot} (h : ArrAt w p B F) (hf : B.fit) (ho : NewOn B D L G) (hD1 : D ≤ 12) (hL1 : L ≤ 4) (hG1 : G ≤ 4) (hn : B.n = D2 + L2 + G2) (hr : rightB D2 L2 G2 = true) (hD0 : 1 ≤ D2) (hD : D2 ≤ 12) (hL4 : L2 ≤ 4) (hG : G2 ≤ 4) (hnb : 8 ≤ B.nb) (hne : ¬ (D = D2 ∧ L = L2 ∧ G = G2))
    (hv : hvLaid w) (ht : tabLaid w) (hK : 3 ≤ w.heap.size) (hFg : ¬ F.has p B.n 2) (hFt : ¬ F.has p B.n 1) :
    Calls Tryz.prog 5 #[.pointer (some ⟨p, 0, none⟩), .agg #[.int .i64 D2, .int .i64 L2, .int .i64 G2], .agg #[.int .i64 0]] w fun e w' => e = .returned (.tuple #[.pointer none, .iface 34 (.int .i64 1)]) ∧ Outside (F.has p B.n) w w' := by
  refine sopen_errO (cache := 0) fun w2 hb2 => ?_
  refine (open_by (cache := 0) (h.below hb2 (Nat.le_refl _)) hf hn hr hD hL4 hG (by omega) (by omega) hnb (hv.below hb2 hv.lt) (ht.keep (hb2.block _ ht.lt)) (Nat.le_trans hK hb2.size) hFg hFt (by omega) (.iface 34 (.int .i64 1)) (.inr ⟨1, by decide, rfl⟩) (fun _ _ _ _ _ => True) fun w1 ar v ps hb1 ha1 hv1 hva hA hV hFr har => ?_).mono ?_
  · refine (load_other hA hV hFr har hf hn hD0 hD hL4 hG (by omega) ho.wait ho.lost (fun d => ho.bad d 0) (D1 := D) (L1 := L) (G1 := G) (t := 1) (f := 2) (m := 0) ⟨by omega, by omega, by omega, by omega, by omega, by omega⟩ (by decide) ho.root hne).mono ?_
    rintro e w3 ⟨rfl, hA3, hO3⟩
    exact ⟨rfl, trivial, hO3.mono fun _ _ q => .inr (.inr q), _, (hO3.block _ hA.lt har).trans hA, rfl⟩
  · rintro e w3 ⟨ar, v, ps, w4, w5, w0, he, _, _, _, _, hO⟩
    rcases he with ⟨q, _⟩ | ⟨_, rfl⟩
    · cases q
    · exact ⟨rfl, hO⟩
theorem again_same {w : World} {p D L G : Nat} {B : Arr} {F : Foot} (h : ArrAt w p B F) (hf : B.fit) (ho : NewOn B D L G) (hn : B.n = D + L + G) (hr : rightB D L G = true) (hD0 : 1 ≤ D) (hD : D ≤ 12) (hL4 : L ≤ 4) (hG : G ≤ 4) (h16 : D + L + G ≤ 16) (hnb : 8 ≤ B.nb)
    (hv : hvLaid w) (ht : tabLaid w) (hK : 3 ≤ w.heap.size) (hFg : ¬ F.has p B.n 2) (hFt : ¬ F.has p B.n 1) :
    Calls Tryz.prog 5 #[.pointer (some ⟨p, 0, none⟩), .agg #[.int .i64 D, .int .i64 L, .int .i64 G], .agg #[.int .i64 0]] w fun e w' => ∃ sa, e = .returned (.tuple #[.pointer (some ⟨sa, 0, none⟩), .nilIface]) ∧ Outside (F.has p B.n) w w' := by
  refine sopen_okO (cache := 0) fun w2 hb2 => ?_
  refine (open_by (cache := 0) (h.below hb2 (Nat.le_refl _)) hf hn hr hD hL4 hG (by omega) (by omega) hnb (hv.below hb2 hv.lt) (ht.keep (hb2.block _ ht.lt)) (Nat.le_trans hK hb2.size) hFg hFt (by omega) .nilIface (.inl rfl) (fun _ _ _ _ _ => True) fun w1 ar v ps hb1 ha1 hv1 hva hA hV hFr har => ?_).mono ?_
  · have hz2 := hb2.size
    have hpg : pgs D 0 = 1 := by
      unfold pgs
      rw [Nat.zero_add, Nat.div_eq_of_lt (by omega)]; rfl
    refine (load_same (t := 1) hA hV hFr har hf hn hD0 hD hL4 hG h16 (by omega) ho.wait ho.lost (fun d => ho.bad d 0) (fun d => ho.bad d 1) ho.fill [2] [] (fun x hx => by cases hx) (by decide) (by rw [List.length_nil, hpg]; rfl) (fun x hx => by rw [List.mem_singleton.1 hx]; omega) (by show 1 ≤ B.nb; omega) (by decide) (fun x _ i => ho.bad i x)
      (fun k hk i hi => ?_) [] (unpackOk_nil D) ?_ hva (by omega) (by omega) ⟨by omega, by omega, by omega, by decide, by decide, by decide⟩ (by decide) ho.root).mono ?_
    · have hk0 : k = 0 := by have : k < 1 := hk; omega
      subst hk0
      exact ho.page i hi
    · show (tkStep B.nb (fun _ => false, true) 2).2 = true
      unfold tkStep
      rw [if_neg (fun q => by rcases q with q | q | q; omega; omega; cases q)]
    · rintro e w3 ⟨rfl, hp⟩
      obtain ⟨u, o, q1, _⟩ := hp.arc
      exact ⟨rfl, trivial, hp.out, _, q1, rfl⟩
  · rintro e w3 ⟨ar, v, ps, w4, w5, w0, he, _, _, _, _, hO⟩
    rcases he with ⟨_, rfl⟩ | ⟨q, _⟩
    · exact ⟨ar, rfl, hO⟩
    · exact absurd rfl q
end Go.Proofs.YtogdeaaphdlchaaGreatDoor
/-
  archive.Open: of an array without drives.
-/
namespace Go.Proofs.YtogdeaaphdlchaaGreatDoor
open Go.RowKit Go.Deep Gf

set_option maxRecDepth 100000 in
set_option maxHeartbeats 1000000 in
theorem drives_zero {w : World} {p cap : Nat} {ao : Option Addr} (h : w.heap[p]? = some (.cells #[.slice ao 0 cap, .int .i64 (-1)] 46 (0, 0))) : Calls Tryz.prog 15 #[.pointer (some ⟨p, 0, none⟩)] w fun e w' => e = .returned (.int .i64 (0 : Nat)) ∧ w' = w := by
  have c0 : w.cell? ⟨p, 0, none⟩ = some (.slice ao 0 cap) := by simp [World.cell?, h]
  clear h
  go_enter Tryz.func15, Tryz.ntmps15
  go_wp2
  go_ret
  exact ⟨rfl, rfl⟩
set_option maxRecDepth 100000 in
set_option maxHeartbeats 1000000 in
theorem open_region0 {ops : Array Oper} {Q : Exit → Act → World → Prop} {a : Act} {w : World} {p q D L G n : Nat} (hops : ROn = ops) (h : ∀ w', Below w.heap.size w w' → Calls Tryz.prog 15 #[.pointer (some ⟨p, 0, none⟩)] w' fun e w'' => e = .returned (.int .i64 n) ∧ w'' = w') (hq : w.heap[q]? = some (.cells #[.int .i64 (D : Int), .int .i64 (L : Int), .int .i64 (G : Int)] 23 (0, 0))) (hD : D ≤ 12) (hL : L ≤ 4) (hG : G ≤ 4) (hsz : a.tmps.size = 48)
    (e0 : a.eval (.tmp 0) = .pointer (some ⟨p, 0, none⟩)) (e4 : a.eval (.tmp 4) = .pointer (some ⟨q, 0, none⟩))
    (hQ : ∀ (w' : World), Below w.heap.size w w' → Q .normal (Act.putFrom a 21 [.bool (!decide (n = D + L + G)), a.eval (.tmp 22), a.eval (.tmp 23), .pointer (some ⟨p, 0, none⟩), .int .i64 n, .agg #[.int .i64 D, .int .i64 L, .int .i64 G], .int .i64 ((D + L + G : Nat) : Int), .bool (!decide (n = D + L + G))]) w') : (Code.region 6 ops true).wp Tryz.prog Q a w := by
  subst hops
  have hql : q < w.heap.size := (Array.getElem?_eq_some_iff.1 hq).1
  refine region_factsS (by kernel_rfl) ROn_shape a w (by omega) (fun i u _ => u = (vsOn p n D L G).getD i undef) (fun _ w' => Below w.heap.size w w') ((Below.refl _ w).drew) ?_ ?_
  · intro i hi
    match i, hi with
    | 0, _ => exact fun o a' w' Dn hg ho hdst hk hDi hcl hdep hB hV => op_val (run_op_move ho ((hk.slot 0 (by omega)).trans e0) w') hdst ⟨hB, rfl, fun _ _ _ q => q⟩
    | 1, _ =>
      intro o a' w' Dn hg ho hdst hk hDi hcl hdep hB hV
      have u0 : a'.eval (.tmp 24) = .pointer (some ⟨p, 0, none⟩) := hV 0 (hdep 0 (by decide))
      refine op_call (f := 15) (args := #[.pointer (some ⟨p, 0, none⟩)]) (w1 := w') (by simp only [execOp, show o.op = Op.call { callee := Callee.value (Operand.func 15), args := #[Operand.tmp 24], argTypes := #[25] } from ho]; go_simp; simpa [Act.eval] using u0) hdst (h w' hB) ?_
      rintro e w'' ⟨rfl, rfl⟩
      exact ⟨_, rfl, hB, rfl, fun _ _ _ q => q⟩
    | 2, _ =>
      intro o a' w' Dn hg ho hdst hk hDi hcl hdep hB hV
      have u0 : a'.eval (.tmp 4) = .pointer (some ⟨q, 0, none⟩) := (hk.slot 4 (by omega)).trans e4
      have hq' : w'.heap[q]? = _ := (hB.block q hql).trans hq
      have hld : (Instr.loadAt 23 (.pointer (some ⟨q, 0, none⟩))).run Tryz.prog w' = .ok (.agg #[.int .i64 (D : Int), .int .i64 (L : Int), .int .i64 (G : Int)]) w' := by
        simp only [Instr.loadAt, Instr.sureAddr, Sem.run_bind, Sem.run_pure, Result.andThen_ok, run_loadVar_row w' q 23 23 #[.int .i64 (D : Int), .int .i64 (L : Int), .int .i64 (G : Int)] (0, 0) _ hq' Tryz.underlying23 rfl (by kernel_rfl)]
      exact op_val (v := .agg #[.int .i64 D, .int .i64 L, .int .i64 G]) (by simp [execOp, show o.op = Op.load 23 (.tmp 4) from ho, u0, hld]) hdst ⟨hB, rfl, fun _ _ _ q => q⟩
    | 3, _ =>
      intro o a' w' Dn hg ho hdst hk hDi hcl hdep hB hV
      have u0 : a'.eval (.tmp 26) = .agg #[.int .i64 D, .int .i64 L, .int .i64 G] := hV 2 (hdep 2 (by decide))
      refine op_call (f := 16) (args := #[.agg #[.int .i64 D, .int .i64 L, .int .i64 G]]) (w1 := w') (by simp only [execOp, show o.op = Op.call { callee := Callee.value (Operand.func 16), args := #[Operand.tmp 26], argTypes := #[23] } from ho]; go_simp; simpa [Act.eval] using u0) hdst (shards_any (D : Int) (L : Int) (G : Int) w' ⟨by omega, by omega⟩ ⟨by omega, by omega⟩ ⟨by omega, by omega⟩) ?_
      rintro e w'' ⟨rfl, hb⟩
      exact ⟨_, rfl, hB.trans (hb.mono hB.size), by show Value.int .i64 ((D : Int) + L + G) = .int .i64 ((D + L + G : Nat) : Int); congr 1, fun _ _ _ q => q⟩
    | 4, _ =>
      intro o a' w' Dn hg ho hdst hk hDi hcl hdep hB hV
      have u0 : a'.eval (.tmp 25) = .int .i64 (n : Nat) := hV 1 (hdep 1 (by decide))
      have u1 : a'.eval (.tmp 27) = .int .i64 ((D + L + G : Nat) : Int) := hV 3 (hdep 3 (by decide))
      refine op_val (v := .bool (!decide (n = D + L + G))) ?_ hdst ⟨hB, rfl, fun _ _ _ q => q⟩
      simp only [execOp, show o.op = Op.binOp BinOp.neq 3 (Operand.tmp 25) (Operand.tmp 27) 3 from ho, u0, u1]
      by_cases e : n = D + L + G
      · rw [e]; go_simp
      · have e' : ¬ ((n : Nat) : Int) = ((D + L + G : Nat) : Int) := by omega
        rw [decide_eq_false e]
        generalize ((D + L + G : Nat) : Int) = q at *
        go_simp
    | 5, _ =>
      intro o a' w' Dn hg ho hdst hk hDi hcl hdep hB hV
      have u0 : a'.eval (.tmp 28) = .bool (!decide (n = D + L + G)) := hV 4 (hdep 4 (by decide))
      exact op_val (v := .bool (!decide (n = D + L + G))) (by simp [execOp, show o.op = Op.assign (.tmp 28) from ho, u0]) hdst ⟨hB, rfl, fun _ _ _ q => q⟩
    | n + 6, hn => exact absurd hn (by show ¬ n + 6 < 6; omega)
  · rintro a' w' hk' hsame ⟨Dn, hD', hB⟩ hV
    have e : a' = Act.putFrom a 21 [.bool (!decide (n = D + L + G)), a.eval (.tmp 22), a.eval (.tmp 23), .pointer (some ⟨p, 0, none⟩), .int .i64 n, .agg #[.int .i64 D, .int .i64 L, .int .i64 G], .int .i64 ((D + L + G : Nat) : Int), .bool (!decide (n = D + L + G))] := hk'.out _ rfl (by omega) (fun i hi => ?_)
    · rw [e]; exact hQ w' hB
    · match i, hi with
      | 0, _ => exact hV 5 (by decide)
      | 1, _ => exact hsame 22 (by decide)
      | 2, _ => exact hsame 23 (by decide)
      | 3, _ => exact hV 0 (by decide)
      | 4, _ => exact hV 1 (by decide)
      | 5, _ => exact hV 2 (by decide)
      | 6, _ => exact hV 3 (by decide)
      | 7, _ => exact hV 4 (by decide)
      | n + 8, hn => exact absurd hn (by simp)
set_option maxRecDepth 100000 in
set_option maxHeartbeats 1000000 in
theorem open_array0 {w : World} {p D L G : Nat} {cache : Int} (h : ∀ w', Below w.heap.size w w' → Calls Tryz.prog 15 #[.pointer (some ⟨p, 0, none⟩)] w' fun e w'' => e = .returned (.int .i64 (0 : Nat)) ∧ w'' = w') (hr : rightB D L G = true) (hD1 : 1 ≤ D) (hD : D ≤ 12) (hL4 : L ≤ 4) (hG : G ≤ 4) (hc0 : 0 ≤ cache) (hc1 : cache ≤ 64) :
    Calls Tryz.prog 11 #[.pointer (some ⟨p, 0, none⟩), .agg #[.int .i64 D, .int .i64 L, .int .i64 G], .agg #[.int .i64 cache]] w fun e w' => e = .returned (.tuple #[.pointer none, .iface 34 (.int .i64 5)]) ∧ Below w.heap.size w w' := by
  have hq : ((w.alloc (.cells #[.int .i64 (D : Int), .int .i64 (L : Int), .int .i64 (G : Int)] 23)).alloc (.cells #[.int .i64 cache] 33)).heap[w.heap.size]? = some (.cells #[.int .i64 (D : Int), .int .i64 (L : Int), .int .i64 (G : Int)] 23 (0, 0)) := (blk_alloc_lt _ _ _ (by simp)).trans (blk_alloc_new _ _)
  have ho : ((w.alloc (.cells #[.int .i64 (D : Int), .int .i64 (L : Int), .int .i64 (G : Int)] 23)).alloc (.cells #[.int .i64 cache] 33)).heap[w.heap.size + 1]? = some (.cells #[.int .i64 cache] 33 (0, 0)) := by
    have := blk_alloc_new (w.alloc (.cells #[.int .i64 (D : Int), .int .i64 (L : Int), .int .i64 (G : Int)] 23)) (.cells #[.int .i64 cache] 33)
    rwa [World.size_alloc] at this
  have hb2 : Below w.heap.size w ((w.alloc (.cells #[.int .i64 (D : Int), .int .i64 (L : Int), .int .i64 (G : Int)] 23)).alloc (.cells #[.int .i64 cache] 33)) := ((Below.refl _ w).alloc (Nat.le_refl _) _).alloc (by simp) _
  have hz2 : ((w.alloc (.cells #[.int .i64 (D : Int), .int .i64 (L : Int), .int .i64 (G : Int)] 23)).alloc (.cells #[.int .i64 cache] 33)).heap.size = w.heap.size + 2 := by simp
  obtain ⟨w2, hw2⟩ : ∃ w2, (w.alloc (.cells #[.int .i64 (D : Int), .int .i64 (L : Int), .int .i64 (G : Int)] 23)).alloc (.cells #[.int .i64 cache] 33) = w2 := ⟨_, rfl⟩
  rw [hw2] at hq ho hb2 hz2
  have p0 : w2.cell? ⟨w.heap.size, 0, none⟩ = some (.int .i64 D) := by simp [World.cell?, hq]
  have p1 : w2.cell? ⟨w.heap.size, 1, none⟩ = some (.int .i64 L) := by simp [World.cell?, hq]
  have p2 : w2.cell? ⟨w.heap.size, 2, none⟩ = some (.int .i64 G) := by simp [World.cell?, hq]
  have H2 := hide (And.intro hq (And.intro ho (And.intro hb2 hz2)))
  clear hq ho hb2 hz2
  go_enter Tryz.func11, Tryz.ntmps11
  go_wp2_with fail
  refine (right_any D L G _).mono ?_
  rw [hr]
  rintro e w3 ⟨rfl, hb3⟩
  obtain ⟨hq, ho, hb2, hz2⟩ := H2.out
  have hq3 := (hb3.block _ (by omega)).trans hq
  have ho3 := (hb3.block _ (by omega)).trans ho
  have hb03 : Below w.heap.size w w3 := hb2.trans (hb3.mono hb2.size)
  have hz3 := hb3.size
  have o0 : w3.cell? ⟨w.heap.size + 1, 0, none⟩ = some (.int .i64 cache) := by simp [World.cell?, ho3]
  have H3 := hide (And.intro hq3 (And.intro ho3 (And.intro hb03 (show w.heap.size + 2 ≤ w3.heap.size by omega))))
  clear hq ho hb2 hz2 hq3 ho3 hb03 hb3 hz3 p0 p1 p2
  go_wp2_with fail
  refine open_region0 (n := 0) (by kernel_rfl) (fun w' hb => h w' (H3.out.2.2.1.trans (hb.mono H3.out.2.2.1.size))) H3.out.1 hD hL4 hG rfl rfl rfl ?_
  intro w4 hb4
  have hb04 : Below w.heap.size w w4 := H3.out.2.2.1.trans (hb4.mono H3.out.2.2.1.size)
  rw [decide_eq_false (show ¬ 0 = D + L + G by omega)]
  have H4 := hide hb04
  clear hb04 hb4
  rename_i hKK
  refine hKK _ _ ?_
  clear hKK
  simp only [Act.putFrom, Act.put, List.setIfInBounds_toArray, List.set_cons_succ, List.set_cons_zero]
  go_wp2
  go_ret2
  exact ⟨rfl, H4.out⟩
end Go.Proofs.YtogdeaaphdlchaaGreatDoor
/-
  List of an archive without objects.
-/
namespace Go.Proofs.YtogdeaaphdlchaaGreatDoor
open Go.RowKit Go.Deep Gf

set_option maxRecDepth 100000 in
set_option maxHeartbeats 1000000 in
theorem list1_nil {w : World} {b1 b2 ar v D L G t f n : Nat} {pg : Value} {off : Bool} (h1 : w.cell? ⟨b1, 0, none⟩ = some (.pointer (some ⟨ar, 0, none⟩))) (ha : ArcAt w ar v D L G t f n pg (.slice none 0 0) off) :
    Calls Tryz.prog 25 #[.pointer (some ⟨b1, 0, none⟩), .pointer (some ⟨b2, 0, none⟩)] w fun e w' => e = .returned .nilIface ∧ w' = w := by
  obtain ⟨_, _, _, _, c8⟩ := ha.cells
  clear ha
  go_enter Tryz.func25, Tryz.ntmps25
  go_wp2
  refine wp_loop_rounds 1 ?_
  rw [rounds_succ]
  go_wp2
  go_ret
  exact ⟨rfl, rfl⟩
set_option maxRecDepth 100000 in
set_option maxHeartbeats 1000000 in
theorem arcList_nil {w : World} {ar v D L G t f n : Nat} {pg : Value} (ha : ArcAt w ar v D L G t f n pg (.slice none 0 0) false) :
    Calls Tryz.prog 13 #[.pointer (some ⟨ar, 0, none⟩)] w fun e w' => e = .returned (.tuple #[.slice none 0 0, .nilIface]) ∧ Below w.heap.size w w' := by
  have hmf : ∀ (fn : Fn) (first cap : Array Value) (w : World), (Instr.makeFunc fn first cap).run Tryz.prog w = .ok (.func fn first cap) w := fun _ _ _ _ => rfl
  have hcf : ∀ (args : Array Value) (w : World), (callFunc 25 args).run Tryz.prog w = .ok (.enter 25 args) w := enters_of Tryz.func25 (by kernel_rfl) rfl
  have h1 : Boxed ((w.alloc (.cells #[.pointer (some ⟨ar, 0, none⟩)] 51)).alloc (.cells #[.slice none 0 0] 40)) w.heap.size 51 (.pointer (some ⟨ar, 0, none⟩)) := (Boxed.new w _ _).alloc _
  have h2 : Boxed ((w.alloc (.cells #[.pointer (some ⟨ar, 0, none⟩)] 51)).alloc (.cells #[.slice none 0 0] 40)) (w.heap.size + 1) 40 (.slice none 0 0) := by
    have := Boxed.new (w.alloc (.cells #[.pointer (some ⟨ar, 0, none⟩)] 51)) 40 (.slice none 0 0)
    rwa [World.size_alloc] at this
  have hb : Below w.heap.size w ((w.alloc (.cells #[.pointer (some ⟨ar, 0, none⟩)] 51)).alloc (.cells #[.slice none 0 0] 40)) := ((Below.refl _ w).alloc (Nat.le_refl _) _).alloc (by simp) _
  have hz : ((w.alloc (.cells #[.pointer (some ⟨ar, 0, none⟩)] 51)).alloc (.cells #[.slice none 0 0] 40)).heap.size = w.heap.size + 2 := by simp
  obtain ⟨w2, hw2⟩ : ∃ w2, (w.alloc (.cells #[.pointer (some ⟨ar, 0, none⟩)] 51)).alloc (.cells #[.slice none 0 0] 40) = w2 := ⟨_, rfl⟩
  rw [hw2] at h1 h2 hb hz
  have ha2 := ha.keep (hb.block _ ha.lt)
  have c1 := h1.cell
  have hpw := arcPowered_ok 25 #[] #[.pointer (some ⟨w.heap.size, 0, none⟩), .pointer (some ⟨w.heap.size + 1, 0, none⟩)] hcf w2 ar _ ha2 rfl (fun w1 x w3 => x = .nilIface ∧ w3 = w1)
    (fun w1 hb1 hz1 => (list1_nil (b1 := w.heap.size) (b2 := w.heap.size + 1) ((show Boxed w1 w.heap.size 51 _ from (hb1.block _ h1.lt).trans h1).cell) (ha2.keep (hb1.block _ ha2.lt))).mono (by
      rintro e w3 ⟨rfl, rfl⟩
      exact ⟨_, rfl, .inl rfl, ⟨rfl, rfl⟩, rfl, _, ha2.keep (hb1.block _ ha2.lt), rfl⟩))
  have harl := ha.lt
  have H := hide (And.intro h2 (And.intro hb (And.intro hz (And.intro hpw ha2))))
  clear h1 h2 hb hz hpw ha2 ha
  go_enter Tryz.func13, Tryz.ntmps13
  go_wp2_with fail
  refine H.out.2.2.2.1.mono ?_
  rintro e w8 ⟨x, w1, w3, rfl, _, hb1, hz1, ⟨rfl, rfl⟩, rfl⟩
  obtain ⟨h2, hb, hz, _, ha2⟩ := H.out
  have h28 : Boxed ((w3.setCell ⟨w2.heap.size, 0, none⟩ .nilIface).setCell ⟨ar, 9, none⟩ (.bool false)) (w.heap.size + 1) 40 (.slice none 0 0) :=
    (blk_setCell_other _ _ _ _ (by show w.heap.size + 1 ≠ ar; omega)).trans ((blk_setCell_other _ _ _ _ (by show w.heap.size + 1 ≠ w2.heap.size; omega)).trans ((hb1.block _ (by omega)).trans h2))
  have hb8 : Below w.heap.size w ((w3.setCell ⟨w2.heap.size, 0, none⟩ .nilIface).setCell ⟨ar, 9, none⟩ (.bool false)) := by
    have ha3 : (w3.setCell ⟨w2.heap.size, 0, none⟩ .nilIface).heap[ar]? = some (.cells (arcA v D L G t f n pg (.slice none 0 0) false) 68 (0, 0)) := (blk_setCell_other _ _ _ _ (by show ar ≠ w2.heap.size; omega)).trans ((hb1.block _ ha2.lt).trans ha2)
    have hset := heap_setCell_at (j := 9) ha3 (.bool false)
    refine ⟨hb1.os.trans hb.os, hb1.tape.trans hb.tape, hb1.output.trans hb.output, by have := hb.size; have := hb1.size; simp [World.setCell]; omega, fun k hk => ?_⟩
    by_cases e : k = ar
    · subst e
      exact (hset.trans (ha2.symm.trans (hb.block k hk)) : _)
    · exact (blk_setCell_other _ _ _ _ e).trans ((blk_setCell_other _ _ _ _ (by show k ≠ w2.heap.size; omega)).trans ((hb1.block k (by omega)).trans (hb.block k hk)))
  obtain ⟨w8, hw8⟩ : ∃ w8, (w3.setCell ⟨w2.heap.size, 0, none⟩ .nilIface).setCell ⟨ar, 9, none⟩ (.bool false) = w8 := ⟨_, rfl⟩
  rw [hw8] at h28 hb8 ⊢
  have c2 := h28.cell
  have f2 := h28.frozen
  have H8 := hide (And.intro h28 hb8)
  clear h28 hb8 h2 hb hz ha2 hb1 hw8
  go_wp2
  have c3 := (H8.out.1.set (.slice none 0 0)).cell
  refine bodyPost_ret (v := .tuple #[.slice none 0 0, .nilIface]) (by simp [results, Tryz.results13, go_sem, c3]) rfl ?_
  exact ⟨rfl, H8.out.2.setCell (p := ⟨w.heap.size + 1, 0, none⟩) (by show w.heap.size ≤ w.heap.size + 1; omega) _⟩
set_option maxRecDepth 100000 in
set_option maxHeartbeats 1000000 in
theorem sList_nil {w : World} {sa ar v D L G t f n : Nat} {pg : Value} (hs : Boxed w sa 55 (.pointer (some ⟨ar, 0, none⟩))) (ha : ArcAt w ar v D L G t f n pg (.slice none 0 0) false) :
    Calls Tryz.prog 10 #[.pointer (some ⟨sa, 0, none⟩)] w fun e w' => e = .returned (.tuple #[.slice none 0 0, .nilIface]) ∧ Below w.heap.size w w' := by
  have c := hs.cell
  have hc := arcList_nil ha
  clear hs ha
  go_enter Tryz.func10, Tryz.ntmps10
  go_wp2_with fail
  refine hc.mono ?_
  rintro e w1 ⟨rfl, hb⟩
  have H := hide hb
  clear hb hc
  go_wp2
  go_ret2
  exact ⟨rfl, H.out⟩
end Go.Proofs.YtogdeaaphdlchaaGreatDoor
