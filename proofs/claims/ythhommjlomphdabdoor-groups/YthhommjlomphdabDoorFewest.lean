/-
  The program's fewest: the search, and what it finds.
-/
import Derived.Test.YthhommjlomphdabDoorPart13
import Derived.Laws.EntriesVeiled
namespace Go.Proofs.YthhommjlomphdabDoor
open Go.RowKit Go.Shelf Go.Deep Gf

attribute [local go_sem] Oper.semAt_some
set_option maxHeartbeats 1000000 in
theorem leavings_any (C : Ck) (kept Bl : Nat) (w : World) :
    Calls Tryd.prog 44 #[.agg (ckA C), .int .u64 kept, fewV Bl] w fun e w' => e = .returned (.func (.func 58) #[] #[.pointer (some ⟨w.heap.size, 0, none⟩), .pointer (some ⟨w.heap.size + 1, 0, none⟩), .pointer (some ⟨w.heap.size + 1 + 1, 0, none⟩)]) ∧
      CkAt w' w.heap.size C ∧ Bx w' (w.heap.size + 1) (.int .u64 (kept : Int)) ∧ Bx w' (w.heap.size + 1 + 1) (fewV Bl) ∧ Below w.heap.size w w' ∧ w'.heap.size = w.heap.size + 3 := by
  have hsz := ckA_size C
  unfold fewV
  go_enter Tryd.func44, Tryd.ntmps44
  go_wp2
  go_ret
  refine ⟨rfl, ?_, ?_, ?_, ?_, by simp⟩
  · exact (CkAt.new w C).keep (by rw [Below.heap_alloc _ _ _ (by simp; omega), Below.heap_alloc _ _ _ (by simp)])
  · have h := Bx.new (w.alloc (.cells (ckA C) 68)) 63 (.int .u64 (kept : Int))
    rw [World.size_alloc] at h
    exact h.alloc _
  · have h := Bx.new ((w.alloc (.cells (ckA C) 68)).alloc (.cells #[.int .u64 (kept : Int)] 63)) 94 (.func (.func 43) #[] #[.pointer (some ⟨Bl, 0, none⟩)])
    simp only [World.size_alloc] at h
    exact h
  · exact (((Below.refl _ w).alloc (Nat.le_refl _) _).alloc (by simp) _).alloc (by simp; omega) _
set_option maxRecDepth 100000 in
set_option maxHeartbeats 1000000 in
theorem leavings1_in (K : List Nat) (n0 Bl l : Nat) (J : Srch → World → Prop) (hJb : ∀ s A B, J s A → Below n0 A B → J s B)
    (hJl : ∀ s A, J s A → A.cell? ⟨Bl, 0, none⟩ = some (.int .i64 (s.2 : Int)) ∧ n0 ≤ A.heap.size ∧ tabLaid A) (hn2 : 2 ≤ n0)
    (hY : ∀ m s C W1, J s W1 → CkFit C → YieldAt Fence.wide m Tryd.prog l #[.agg (ckA C)] W1 fun e W' => e = .returned (.bool true) ∧ J (stepS K s C) W' ∧ Above n0 W1 W')
    (n Bc Bs Bf : Nat) (C : Ck) (kept : Nat) (s : Srch) (W : World) (hc : CkAt W Bc C) (hs : Bx W Bs (.int .u64 (kept : Int))) (hfw : Bx W Bf (fewV Bl)) (hf : CkFit C) (hk : kept < 65536) (hJ : J s W) :
    CallsIn Fence.wide n Tryd.prog 58 #[.func (.yield l) #[] #[], .pointer (some ⟨Bc, 0, none⟩), .pointer (some ⟨Bs, 0, none⟩), .pointer (some ⟨Bf, 0, none⟩)] W fun e W' => (∃ v, e = .returned v) ∧ J (visitS K 8 C kept 0 s) W' := by
  have hv := fun m => visit_in K n0 Bl l J hJb hJl hn2 hY 8 m C kept 0 s W hf (by have := hf.most; omega) hk (by decide) hJ
  have c1 := hs.cell
  have c2 := hfw.cell
  unfold fewV at c2 hv
  refine callsIn_of_wp Tryd.func58 rfl trivial ?_ rfl
  simp only [Tryd.ntmps58, List.size_toArray, List.length_cons, List.length_nil, Nat.reduceAdd, Nat.reduceSub, Array.replicate_succ, Array.replicate_zero, List.push_toArray, List.append_toArray, List.nil_append, List.cons_append]
  gi_wp2_with (refine in_load rfl (.tmp 1) rfl Bc C rfl hc ?_)
  refine ⟨trivial, fun h => (by cases h), (hv _).mono ?_⟩
  rintro e W' ⟨rfl, hJ', _⟩
  gi_wp2
  go_end0
  exact ⟨⟨_, rfl⟩, hJ'⟩
/-- what the variables of fewest hold -/
structure FI (w : World) (kept B5 B6 B7 : Nat) (s : Srch) (W : World) : Prop where
  best : CkAt W B5 s.1
  least : Bx W B6 (.int .i64 (s.2 : Int))
  few : Bx W B7 (fewV B6)
  set : Bx W (w.heap.size + 1) (.int .u64 (kept : Int))
  res : CkAt W (w.heap.size + 1 + 1) ckZ
  below : Below w.heap.size w W
theorem FI.mono {w : World} {kept B5 B6 B7 B : Nat} {s : Srch} {W W' : World} (h : FI w kept B5 B6 B7 s W) (hb : Below B W W') (hB : W.heap.size ≤ B ∨ (B5 < B ∧ B6 < B ∧ B7 < B ∧ w.heap.size + 3 ≤ B)) : FI w kept B5 B6 B7 s W' := by
  have l5 := h.best.lt
  have l6 := h.least.lt
  have l7 := h.few.lt
  have l1 := h.set.lt
  have l2 := h.res.lt
  have hs := h.below.size
  exact ⟨h.best.keep (hb.block _ (by omega)), h.least.keep (hb.block _ (by omega)), h.few.keep (hb.block _ (by omega)), h.set.keep (hb.block _ (by omega)), h.res.keep (hb.block _ (by omega)), h.below.trans (hb.mono (by omega))⟩
theorem fewer_eq {z : Int} (p least Bl : Nat) (w : World) (hz : z = (p : Int)) (hc : w.cell? ⟨Bl, 0, none⟩ = some (.int .i64 (least : Int))) :
    Calls Tryd.prog 43 #[.int .i64 z, .pointer (some ⟨Bl, 0, none⟩)] w fun e w' => e = .returned (.bool (decide (p < least))) ∧ w' = w := by
  subst hz; exact fewer_any p least Bl w hc
/-- how many shards of those that have come are read -/
def cR (x : Ck) (pre : List Sh) : Nat := ((pre.map (·.1)).filter (readsB x)).length
theorem cR_snoc (x : Ck) (pre : List Sh) (i : Sh) : cR x (pre ++ [i]) = cR x pre + (if readsB x i.1 = true then 1 else 0) := by
  unfold cR
  rw [List.map_append, List.filter_append, List.length_append]
  congr 1
  by_cases h : readsB x i.1 = true
  · simp [h]
  · simp [h]
theorem cR_all {x : Ck} {pre : List Sh} {kept : Nat} (h : pre.map (·.1) = mems kept) : cR x pre = cntR (mems kept) x := by unfold cR cntR; rw [h]
theorem cR_part {x : Ck} {pre : List Sh} {kept : Nat} (h : pre.map (·.1) <+: mems kept) : cR x pre ≤ cntR (mems kept) x := by
  unfold cR cntR
  obtain ⟨R, hR⟩ := h
  rw [← hR, List.filter_append, List.length_append]
  omega
theorem cR_le (x : Ck) (pre : List Sh) : cR x pre ≤ pre.length := by
  unfold cR
  exact Nat.le_trans (List.length_filter_le _ _) (by rw [List.length_map]; exact Nat.le_refl _)
/-- what holds between two shards -/
def InI (X : World) (s : Srch) (x : Ck) (pre : List Sh) (Y : World) : Prop := Below X.heap.size X Y ∧ Bx Y X.heap.size (.int .i64 (cR x pre : Int)) ∧ (cR x pre = 0 ∨ cR x pre < s.2)
theorem InI.own {X : World} {s : Srch} {x : Ck} {B : Nat} (hB : X.heap.size + 1 ≤ B) : OwnFrom B (fun pre Y => InI X s x pre Y) := by
  rintro pre A Bw row ⟨q1, q2, q3⟩ hg hrow
  have hlt := q2.lt
  exact ⟨q1.grown hg (by have := q1.size; omega) (fun k e => by have := (hrow k e).1; omega), q2.keep (hg.block _ hlt (fun e => by have := (hrow _ e.symm).1; omega)), q3⟩
set_option maxRecDepth 100000 in
set_option maxHeartbeats 4000000 in
theorem fewest_any (C : Ck) (kept : Nat) (w : World) (hf : CkFit C) (hk : kept < 65536) (hT : tabLaid w) (h2 : 2 ≤ w.heap.size) :
    Calls Tryd.prog 29 #[.agg (ckA C), .int .u64 kept] w fun e w' => e = .returned (.agg (ckA (fewestS 8 C kept).1)) ∧ Below w.heap.size w w' := by
  have hsz := ckA_size C
  have hszz := ckA_size ckZ
  have hz := zeroCk
  obtain ⟨n, HN⟩ : ∃ n : Nat, Hid (9 ≤ n) := ⟨9, Nat.le_refl _⟩
  refine (callsIn_wide (n := n)).1 ?_
  refine callsIn_of_wp_marks Tryd.func29 rfl trivial ?_ rfl
  simp only [Tryd.ntmps29, List.size_toArray, List.length_cons, List.length_nil, Nat.reduceAdd, Nat.reduceSub, Array.replicate_succ, Array.replicate_zero, List.push_toArray, List.append_toArray, List.nil_append, List.cons_append]
  have b0 : Below w.heap.size w (((w.alloc (.cells (ckA C) 68)).alloc (.cells #[.int .u64 (kept : Int)] 63)).alloc (.cells (ckA ckZ) 68)) := (((Below.refl _ w).alloc (Nat.le_refl _) _).alloc (by simp) _).alloc (by simp; omega) _
  have c0 : CkAt (((w.alloc (.cells (ckA C) 68)).alloc (.cells #[.int .u64 (kept : Int)] 63)).alloc (.cells (ckA ckZ) 68)) w.heap.size C := (CkAt.new w C).keep (by rw [Below.heap_alloc _ _ _ (by simp; omega), Below.heap_alloc _ _ _ (by simp)])
  have s0 : Bx (((w.alloc (.cells (ckA C) 68)).alloc (.cells #[.int .u64 (kept : Int)] 63)).alloc (.cells (ckA ckZ) 68)) (w.heap.size + 1) (.int .u64 (kept : Int)) := by
    have h := Bx.new (w.alloc (.cells (ckA C) 68)) 63 (.int .u64 (kept : Int))
    rw [World.size_alloc] at h
    exact h.alloc _
  have r0 : CkAt (((w.alloc (.cells (ckA C) 68)).alloc (.cells #[.int .u64 (kept : Int)] 63)).alloc (.cells (ckA ckZ) 68)) (w.heap.size + 1 + 1) ckZ := by
    have h := CkAt.new ((w.alloc (.cells (ckA C) 68)).alloc (.cells #[.int .u64 (kept : Int)] 63)) ckZ
    simp only [World.size_alloc] at h
    exact h
  have z0 : (((w.alloc (.cells (ckA C) 68)).alloc (.cells #[.int .u64 (kept : Int)] 63)).alloc (.cells (ckA ckZ) 68)).heap.size = w.heap.size + 3 := by simp
  obtain ⟨w3, hw3⟩ : ∃ w3, ((w.alloc (.cells (ckA C) 68)).alloc (.cells #[.int .u64 (kept : Int)] 63)).alloc (.cells (ckA ckZ) 68) = w3 := ⟨_, rfl⟩
  rw [hw3] at b0 c0 s0 r0 z0
  have HB := hide b0
  have HC := hide c0
  have HS := hide s0
  have HR := hide r0
  have HZ := hide z0
  clear b0 c0 s0 r0 z0
  gi_wp2
  refine in_scope ?_
  gi_wp2
  refine few_first w.heap.size (w.heap.size + 1) kept C (by kernel_rfl) rfl hk rfl rfl HC.out HS.out ?_
  rintro a' w4 B5 B6 hk4 e5 e6 l5 l6 c5 c6 hb4
  obtain ⟨ls, hls, rfl⟩ := hk4.split (by decide) (by simp)
  clear hk4
  obtain ⟨u0, u1, u2, u3, u4, u5, u6, u7, u8, rfl⟩ := len9 hls
  clear hls
  simp only [List.take_succ_cons, List.take_zero, List.drop_succ_cons, List.drop_zero, List.cons_append, List.nil_append] at e5 e6 ⊢
  obtain rfl : u0 = .pointer (some ⟨B5, 0, none⟩) := e5
  obtain rfl : u1 = .pointer (some ⟨B6, 0, none⟩) := e6
  clear hw3
  have hz3 := HZ.out
  have cN := (Bx.new w4 94 .nilFunc).cell
  have fN := (Bx.new w4 94 .nilFunc).frozen
  have hb5 : Below w4.heap.size w4 ((w4.alloc (.cells #[.nilFunc] 94)).setCell ⟨w4.heap.size, 0, none⟩ (fewV B6)) := ((Below.refl _ _).alloc (Nat.le_refl _) _).setCell (p := ⟨w4.heap.size, 0, none⟩) (Nat.le_refl _) _
  have hFI : FI w kept B5 B6 w4.heap.size (C, (mems kept).length) ((w4.alloc (.cells #[.nilFunc] 94)).setCell ⟨w4.heap.size, 0, none⟩ (fewV B6)) :=
    ⟨c5.keep (hb5.block _ c5.lt), c6.keep (hb5.block _ c6.lt), (Bx.new w4 94 .nilFunc).set _, HS.out.keep ((hb5.block _ (by have := hb4.size; omega)).trans (hb4.block _ (by omega))), HR.out.keep ((hb5.block _ (by have := hb4.size; omega)).trans (hb4.block _ (by omega))), (HB.out.trans (hb4.mono (by omega))).trans (hb5.mono (by have := hb4.size; omega))⟩
  have hc5 : CkAt ((w4.alloc (.cells #[.nilFunc] 94)).setCell ⟨w4.heap.size, 0, none⟩ (fewV B6)) w.heap.size C := HC.out.keep ((hb5.block _ (by have := hb4.size; omega)).trans (hb4.block _ (by omega)))
  have hz5 : ((w4.alloc (.cells #[.nilFunc] 94)).setCell ⟨w4.heap.size, 0, none⟩ (fewV B6)).heap.size = w4.heap.size + 1 := by simp [World.setCell]
  have hs4 := hb4.size
  have l64 := c6.lt
  obtain ⟨w5, hw5⟩ : ∃ w5, (w4.alloc (.cells #[.nilFunc] 94)).setCell ⟨w4.heap.size, 0, none⟩ (fewV B6) = w5 := ⟨_, rfl⟩
  rw [hw5] at hFI hc5 hz5
  unfold fewV at hw5
  have c7 := hFI.few.cell
  unfold fewV at c7
  have c3 := hFI.set.cell
  have HF := hide hFI
  have HC5 := hide hc5
  have HZ5 := hide hz5
  have H34 := hide hs4
  have HZ3 := hide hz3
  clear hFI hc5 hz5 hb5 c5 c6 hb4 HB HC HS HR HZ hs4 hz3 hz hsz hszz
  have hlv := leavings_any C kept B6 w5
  unfold fewV at hlv
  gi_wp2
  refine wpIn_label ?_
  gi_wp2_with (refine in_load rfl (.tmp 2) rfl w.heap.size C rfl HC5.out ?_)
  refine at_wide hlv ?_
  clear hlv
  rintro e w6 ⟨rfl, k1, k2, k3, k4, k5⟩
  have HK1 := hide k1
  have HK2 := hide k2
  have HK3 : Hid (Bx w6 (w5.heap.size + 1 + 1) (fewV B6)) := hide k3
  have HK4 := hide k4
  have HK5 := hide k5
  clear k1 k2 k3 k4 k5 hw5 cN fN c7 c3
  gi_wp2
  have hF6 : FI w kept B5 B6 w4.heap.size (C, (mems kept).length) w6 := HF.out.mono HK4.out (.inl (Nat.le_refl _))
  have l5' := HF.out.best.lt
  have l6' := HF.out.least.lt
  have l7' := HF.out.few.lt
  have l2' := HF.out.res.lt
  have hk5 := HK5.out
  obtain ⟨m, HM⟩ : ∃ m : Nat, Hid (9 ≤ m) := ⟨9, Nat.le_refl _⟩
  refine range_lk (P := Tryd.prog) (n := n) m (w := w6) (gf := 58) (lb := #[.pointer (some ⟨w5.heap.size, 0, none⟩), .pointer (some ⟨w5.heap.size + 1, 0, none⟩), .pointer (some ⟨w5.heap.size + 1 + 1, 0, none⟩)]) rfl (enters_of Tryd.func58 (by kernel_rfl) rfl)
    (encs := fun C : Ck => #[.agg (ckA C)]) (fun _ => rfl) (stepS (mems kept)) CkFit (FI w kept B5 B6 w4.heap.size) (fun s A B h hb => h.mono hb (.inr ⟨by omega, by omega, by omega, by omega⟩)) (fun s => s = fewestS 8 C kept) (C, (mems kept).length)
    ?call hF6 (fun B x a' A => ∃ B8, B ≤ B8 ∧ CkAt A B8 x ∧ a' = { tmps := #[.agg (ckA C), .int .u64 (kept : Int), .pointer (some ⟨w.heap.size, 0, none⟩), .pointer (some ⟨w.heap.size + 1, 0, none⟩), .pointer (some ⟨w.heap.size + 1 + 1, 0, none⟩), .pointer (some ⟨B5, 0, none⟩), .pointer (some ⟨B6, 0, none⟩), .pointer (some ⟨w4.heap.size, 0, none⟩), .pointer (some ⟨B8, 0, none⟩), u4, u5, u6, u7, u8, .func (.func 43) #[] #[.pointer (some ⟨B6, 0, none⟩)], .agg (ckA C), .int .u64 (kept : Int), .func (.func 43) #[] #[.pointer (some ⟨B6, 0, none⟩)], .func (.func 58) #[] #[.pointer (some ⟨w5.heap.size, 0, none⟩), .pointer (some ⟨w5.heap.size + 1, 0, none⟩), .pointer (some ⟨w5.heap.size + 1 + 1, 0, none⟩)], .agg (ckA x), undef, undef, undef, undef, undef, undef, undef, undef, undef, undef, undef, undef, undef, undef, undef], defers := [] }) ?ax ?assign ?body ?done
  case call =>
    intro l J W hbW hsW hJb hJI hY hJ0
    refine (leavings1_in (mems kept) (w6.heap.size + 2) B6 l J hJb (fun s A hj => ?_) (by omega) hY (n - 1) w5.heap.size (w5.heap.size + 1) (w5.heap.size + 1 + 1) C kept _ W (HK1.out.keep (hbW.block _ (by omega))) (HK2.out.keep (hbW.block _ (by omega))) (HK3.out.keep (hbW.block _ (by omega))) hf hk hJ0).mono ?_
    · obtain ⟨fi, hs⟩ := hJI s A hj
      exact ⟨fi.least.cell, hs, hT.mono (by omega) fi.below⟩
    · rintro e W' ⟨hv, hJ'⟩
      exact ⟨hv, _, rfl, hJ'⟩
  case ax =>
    rintro B x a' A A' ⟨B8, h1, h2', h3⟩ hab
    exact ⟨B8, h1, h2'.keep (hab.block B8 h1 h2'.lt), h3⟩
  case assign =>
    intro l s x W K hI hOk hK
    have hz := zeroCk
    have hszz := ckA_size ckZ
    gi_wp2_with (refine in_store rfl (.tmp 8) (.tmp 19) rfl W.heap.size x ckZ rfl rfl (CkAt.new W ckZ) ?_)
    exact hK _ _ (((Below.refl _ _).alloc (Nat.le_refl _) _).grown (grown_setRow _ _ _) (by simp) (fun k e => by cases e; exact Nat.le_refl _)) ⟨W.heap.size, Nat.le_refl _, (CkAt.new W ckZ).setRow x, rfl⟩
  case body =>
    rintro l B s x a' X hl hlB hBX ⟨r, hr⟩ hI hOk ⟨B8, hB8, hx8, rfl⟩
    have hls := hI.below.size
    have hlX : l < X.heap.size := (Array.getElem?_eq_some_iff.1 hr).1
    have hb1 : Below X.heap.size X (X.alloc (.cells #[.int .i64 0] 3)) := (Below.refl _ _).alloc (Nat.le_refl _) _
    have c3 := (hI.mono hb1 (.inl (Nat.le_refl _))).set.cell
    have hb12 : Below X.heap.size X ((X.alloc (.cells #[.int .i64 0] 3)).alloc (.cells #[.int .u64 (kept : Int)] 63)) := hb1.alloc (by simp) _
    have h92 := (Bx.new X 3 (.int .i64 0)).alloc (.cells #[.int .u64 (kept : Int)] 63)
    have hs2 := (Bx.new (X.alloc (.cells #[.int .i64 0] 3)) 63 (.int .u64 (kept : Int))).cell
    have hz2 : ((X.alloc (.cells #[.int .i64 0] 3)).alloc (.cells #[.int .u64 (kept : Int)] 63)).heap.size = X.heap.size + 1 + 1 := by simp
    rw [World.size_alloc] at hs2
    have HMB := members_any kept (X.alloc (.cells #[.int .i64 0] 3))
    rw [World.size_alloc] at HMB
    have HI := hide hI
    have HX8 := hide hx8
    have HB12 := hide hb12
    have H92 := hide h92
    have HS2 := hide hs2
    have HZ2 := hide hz2
    have HR := hide hr
    have HHB := hide HMB
    clear hI hx8 hb1 h92 hs2 hz2 hb12 hr hls HMB hk5
    gi_wp2
    refine at_round HHB.out ?_
    rintro e w' ⟨rfl, hw'⟩
    rw [← hw'] at HB12 H92 HS2 HZ2
    clear HHB c3 hw'
    gi_wp2
    have hT2 : tabLaid w' := hT.mono (by omega) ((HI.out.mono HB12.out (.inl (Nat.le_refl _))).below)
    have hz2 := HZ2.out
    have hr2 : w'.heap[l]? = some (.loop r) := (HB12.out.block l hlX).trans HR.out
    have hFl := HI.out.least
    refine wpIn_rangeFunc_ownN (l₀ := l) (r₀ := r) rfl hr2 (by have := HM.out; omega) (gf := 52) (lb := #[.pointer (some ⟨X.heap.size + 1, 0, none⟩)]) rfl trivial (enters_of Tryd.func52 (by kernel_rfl) rfl)
      ((members_stops (m - 1) (X.heap.size + 1) kept hk w' (by omega) HS2.out (by omega) hT2).inRound l) (fun h k => kpT_t h k) (kpT_b (by omega)) (Below.refl _ _) (fun _ => rfl)
      (fun pre Y => InI X s x pre Y) (fun c pre Y => c = .exit 1 ∧ Below X.heap.size X Y ∧ 1 ≤ cR x pre ∧ s.2 ≤ cR x pre)
      (InI.own (by omega)) (fun c => by
        rintro pre A Bw row ⟨q1, q2, q3⟩ hg hrow
        exact ⟨q1, q2.grown hg (by have := q2.size; omega) (fun k e => by have := (hrow k e).1; omega), q3⟩)
      ⟨HB12.out, H92.out, .inl rfl⟩
      (fun i a'' _ => a'' = { tmps := #[.agg (ckA C), .int .u64 (kept : Int), .pointer (some ⟨w.heap.size, 0, none⟩), .pointer (some ⟨w.heap.size + 1, 0, none⟩), .pointer (some ⟨w.heap.size + 1 + 1, 0, none⟩), .pointer (some ⟨B5, 0, none⟩), .pointer (some ⟨B6, 0, none⟩), .pointer (some ⟨w4.heap.size, 0, none⟩), .pointer (some ⟨B8, 0, none⟩), .pointer (some ⟨X.heap.size, 0, none⟩), .int .i64 (i.1 : Int), u6, u7, u8, .func (.func 43) #[] #[.pointer (some ⟨B6, 0, none⟩)], .agg (ckA C), .int .u64 (kept : Int), .func (.func 43) #[] #[.pointer (some ⟨B6, 0, none⟩)], .func (.func 58) #[] #[.pointer (some ⟨w5.heap.size, 0, none⟩), .pointer (some ⟨w5.heap.size + 1, 0, none⟩), .pointer (some ⟨w5.heap.size + 1 + 1, 0, none⟩)], .agg (ckA x), .int .u64 (kept : Int), .func (.func 52) #[] #[.pointer (some ⟨X.heap.size + 1, 0, none⟩)], .int .i64 (i.1 : Int), undef, undef, undef, undef, undef, undef, undef, undef, undef, undef, undef, undef], defers := [] })
      (fun _ _ _ _ _ _ hs _ _ => hs)
      ?assign2 ?body2 ?done2 ?stop2
    case assign2 =>
      rintro l2 pre i Y K hi hK
      unfold encSh
      gi_wp2
      exact hK _ _ (KeepsFrom.refl _ _) (KpT.refl _) hi rfl
    case body2 =>
      rintro l2 pre i a'' Y _ _ ⟨q1, q2, q3⟩ rfl hlen
      have hB8X := HX8.out.lt
      have hck := HX8.out.keep (q1.block B8 hB8X)
      have hcr := cR_le x pre
      have hl16 : (mems kept).length ≤ 16 := by rw [← shs_len kept]; exact shs_le kept
      have HQ1 := hide q1
      have HQ2 := hide q2
      have HQ3 := hide q3
      have c9 := q2.cell
      have f9 := q2.frozen
      have hrd := reads_any B8 i.1 x Y hck hOk i.2
      have hsn := cR_snoc x pre i
      have HSN := hide hsn
      have hb5 : Below X.heap.size X (Y.setCell ⟨X.heap.size, 0, none⟩ (.int .i64 ((cR x pre : Int) + 1))) := q1.setCell (p := ⟨X.heap.size, 0, none⟩) (Nat.le_refl _) _
      have hF5 := HI.out.mono hb5 (.inl (Nat.le_refl _))
      have c7 := hF5.few.cell
      have c6 := hF5.least.cell
      have h95 := q2.set (.int .i64 ((cR x pre : Int) + 1))
      have c95 := h95.cell
      unfold fewV at c7
      have HB5 := hide hb5
      have H95 := hide h95
      clear q1 q2 q3 hsn hb5 hF5 h95 hck
      gi_wp2
      refine at_round hrd ?_
      clear hrd
      rintro e w'' ⟨rfl, hw''⟩
      subst hw''
      cases hrb : readsB x i.1 with
      | false =>
        have HSN2 : Hid (cR x (pre ++ [i]) = cR x pre) := hide (by rw [HSN.out, hrb]; simp)
        clear hrb
        gi_wp2
        refine ⟨KeepsFrom.refl _ _, KpT.refl _, HQ1.out, ?_, ?_⟩
        · rw [HSN2.out]; exact HQ2.out
        · rw [HSN2.out]; exact HQ3.out
      | true =>
        have HSN2 : Hid (cR x (pre ++ [i]) = cR x pre + 1) := hide (by rw [HSN.out, hrb]; simp)
        clear hrb
        gi_wp2
        refine at_round (fewer_eq (cR x pre + 1) s.2 B6 _ (by omega) c6) ?_
        rintro e w3' ⟨rfl, hw3'⟩
        have hkf : KeepsFrom w'.heap.size w'' (w''.setCell ⟨X.heap.size, 0, none⟩ (.int .i64 ((cR x pre : Int) + 1))) := (KeepsOthers.setCell _ _ _).from _
        have HKF := hide hkf
        clear hkf
        subst hw3'
        by_cases hlt : cR x pre + 1 < s.2
        · rw [decide_eq_true hlt]
          gi_wp2
          refine ⟨HKF.out, fun _ => hT.mono (by omega) (HI.out.mono HB5.out (.inl (Nat.le_refl _))).below, HB5.out, ?_, ?_⟩
          · rw [HSN2.out]; exact H95.out
          · rw [HSN2.out]; exact .inr hlt
        · rw [decide_eq_false hlt]
          gi_wp2
          refine ⟨HKF.out, rfl, HB5.out, ?_, ?_⟩
          · rw [HSN2.out]; omega
          · rw [HSN2.out]; omega
    case done2 =>
      rintro ys Y hys ⟨q1, q2, q3⟩
      have hcr := cR_all (x := x) hys
      rw [hcr] at q2 q3
      have hFY := HI.out.mono q1 (.inl (Nat.le_refl _))
      have hB8X := HX8.out.lt
      have hY8 := HX8.out.keep (q1.block B8 hB8X)
      have hk5 := HK5.out
      gi_wp2
      refine few_better B5 B6 B8 X.heap.size (cntR (mems kept) x) x s.1 _ (by kernel_rfl) rfl rfl rfl rfl rfl hY8 q2 hFY.best hFY.least (by omega) ?_
      intro a3 hk3
      have hst : stepS (mems kept) s x = (x, cntR (mems kept) x) := by unfold stepS; rw [if_pos q3]
      rw [hst]
      have n65 := ck_ne hFY.best hFY.least
      have n57 := ck_ne hFY.best hFY.few
      have n5s := ck_ne hFY.best hFY.set
      have n2l := ck_ne hFY.res hFY.least
      have e1 : ∀ k, k ≠ B5 → k ≠ B6 → k < Y.heap.size → ((Y.drew.setRow B5 (ckA x)).setCell ⟨B6, 0, none⟩ (.int .i64 (cntR (mems kept) x : Int))).heap[k]? = Y.heap[k]? := fun k k1 k2 k3 =>
        (Below.heap_setCell _ _ _ _ k2).trans ((grown_setRow Y.drew B5 (ckA x)).block k k3 (fun e => k1 (by cases e; rfl)))
      have hsz : Y.heap.size ≤ ((Y.drew.setRow B5 (ckA x)).setCell ⟨B6, 0, none⟩ (.int .i64 (cntR (mems kept) x : Int))).heap.size := by simp [World.setCell, World.setRow]
      have hlw := HI.out.below.size
      have hXY := q1.size
      have l5w : w.heap.size ≤ B5 := by have := HZ3.out; omega
      have l6w : w.heap.size ≤ B6 := by have := HZ3.out; omega
      refine ⟨⟨?_, ?_, ?_, ?_, ?_, ?_⟩, ?_⟩
      · exact (((show CkAt Y.drew B5 s.1 from hFY.best).setRow x)).keep (Below.heap_setCell _ _ _ _ n65)
      · exact ((show Bx Y.drew B6 _ from hFY.least).keep ((grown_setRow Y.drew B5 (ckA x)).block B6 hFY.least.lt (fun e => n65 (by cases e; rfl)))).set _
      · exact hFY.few.keep (e1 _ (Ne.symm n57) (by omega) hFY.few.lt)
      · exact hFY.set.keep (e1 _ (Ne.symm n5s) (by have := HZ3.out; omega) hFY.set.lt)
      · exact hFY.res.keep (e1 _ (by have := HZ3.out; omega) n2l hFY.res.lt)
      · exact hFY.below.trans ⟨rfl, rfl, rfl, hsz, fun k hk => e1 k (by omega) (by omega) (by have := hFY.below.size; omega)⟩
      · exact (Above.of_below q1).trans ⟨rfl, rfl, rfl, hsz, fun k k1 k2 => e1 k (by omega) (by omega) k2⟩
    case stop2 =>
      rintro c pre Y hpre ⟨rfl, q1, q2, q3⟩
      have hle := cR_part (x := x) hpre
      have hst : stepS (mems kept) s x = s := by unfold stepS; rw [if_neg (by omega)]
      rw [hst]
      gi_wp2
      exact ⟨HI.out.mono q1 (.inl (Nat.le_refl _)), Above.of_below q1⟩
  case done =>
    rintro D s X hD rfl hI hK
    have hb := hI.best
    have hrs := hI.res
    have HI := hide hI
    have hszz := ckA_size ckZ
    gi_wp2_with (first
      | (refine in_load rfl (.tmp 5) rfl B5 (fewestS 8 C kept).1 rfl hb ?_)
      | (refine in_store rfl (.tmp 4) (.tmp 34) rfl (w.heap.size + 1 + 1) (fewestS 8 C kept).1 ckZ rfl rfl hrs ?_))
    have hK' : (X.setRow (w.heap.size + 1 + 1) (ckA (fewestS 8 C kept).1)).heap[D]? = some (.deferred (some [])) := ((grown_setRow X (w.heap.size + 1 + 1) _).block D (Array.getElem?_eq_some_iff.1 hK).1 (fun e => by cases e; omega)).trans hK
    refine ⟨by simp, .inl ⟨_, _, rfl, run_takeDeferred hK', ?_⟩⟩
    have hres : CkAt ((X.setRow (w.heap.size + 1 + 1) (ckA (fewestS 8 C kept).1)).putObj D (.deferred none)) (w.heap.size + 1 + 1) (fewestS 8 C kept).1 := (hrs.setRow (fewestS 8 C kept).1).keep (World.putObj_heap_other (by omega))
    have hb2 : Below w.heap.size w ((X.setRow (w.heap.size + 1 + 1) (ckA (fewestS 8 C kept).1)).putObj D (.deferred none)) :=
      Below.putObj' (HI.out.below.grown (grown_setRow _ _ _) HI.out.below.size (fun k e => by cases e; omega)) (by omega) (Array.getElem?_eq_some_iff.1 hK').1 _
    exact ⟨.agg (ckA (fewestS 8 C kept).1), results_cell_row Tryd.results29 _ _ (w.heap.size + 1 + 1) 68 (ckA (fewestS 8 C kept).1) (0, 0) _ rfl hres.heap Tryd.underlying68 rfl (ckA_info _), rfl, hb2⟩
end Go.Proofs.YthhommjlomphdabDoor
