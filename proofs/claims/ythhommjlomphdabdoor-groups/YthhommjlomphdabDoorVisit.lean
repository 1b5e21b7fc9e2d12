/-
  The search through the checks: the program's visit, and what calls it.
-/
import Derived.Test.YthhommjlomphdabDoorVisitRegion
namespace Go.Proofs.YthhommjlomphdabDoor
open Go.RowKit Go.Shelf Go.Deep Gf

attribute [local go_sem] Oper.semAt_some
set_option maxHeartbeats 1000000 in
theorem fewer_any (p least Bl : Nat) (w : World) (hc : w.cell? ⟨Bl, 0, none⟩ = some (.int .i64 (least : Int))) :
    Calls Tryd.prog 43 #[.int .i64 p, .pointer (some ⟨Bl, 0, none⟩)] w fun e w' => e = .returned (.bool (decide (p < least))) ∧ w' = w := by
  go_enter Tryd.func43, Tryd.ntmps43
  go_wp2
  go_ret
  exact ⟨by simp, rfl⟩
/-- the value of fewer -/
def fewV (Bl : Nat) : Value := .func (.func 43) #[] #[.pointer (some ⟨Bl, 0, none⟩)]
/-- a variable's own block -/
def Bx (W : World) (B : Nat) (v : Value) : Prop := ∃ t, Boxed W B t v
theorem Bx.cell {W : World} {B : Nat} {v : Value} (h : Bx W B v) : W.cell? ⟨B, 0, none⟩ = some v := by obtain ⟨t, h⟩ := h; exact h.cell
theorem Bx.frozen {W : World} {B : Nat} {v : Value} (h : Bx W B v) : W.frozen? ⟨B, 0, none⟩ = false := by obtain ⟨t, h⟩ := h; exact h.frozen
theorem Bx.lt {W : World} {B : Nat} {v : Value} (h : Bx W B v) : B < W.heap.size := by obtain ⟨t, h⟩ := h; exact h.lt
theorem Bx.keep {W W' : World} {B : Nat} {v : Value} (h : Bx W B v) (e : W'.heap[B]? = W.heap[B]?) : Bx W' B v := by obtain ⟨t, h⟩ := h; exact ⟨t, e.trans h⟩
theorem Bx.set {W : World} {B : Nat} {v : Value} (h : Bx W B v) (v' : Value) : Bx (W.setCell ⟨B, 0, none⟩ v') B v' := by obtain ⟨t, h⟩ := h; exact ⟨t, h.set v'⟩
theorem Bx.new (W : World) (t : TypeId) (v : Value) : Bx (W.alloc (.cells #[v] t)) W.heap.size v := ⟨t, Boxed.new W t v⟩
theorem Bx.alloc {W : World} {B : Nat} {v : Value} (h : Bx W B v) (o : Obj) : Bx (W.alloc o) B v := by obtain ⟨t, h⟩ := h; exact ⟨t, h.alloc o⟩
/-- what lies in the blocks of one call of visit, from h on -/
structure VB (W : World) (h : Nat) (C : Ck) (of q Bl l : Nat) : Prop where
  ck : CkAt W h C
  set : Bx W (h + 1) (.int .u64 (of : Int))
  pas : Bx W (h + 1 + 1) (.int .i64 (q : Int))
  few : Bx W (h + 1 + 1 + 1) (fewV Bl)
  yld : Bx W (h + 1 + 1 + 1 + 1) (.func (.yield l) #[] #[])
  res : Bx W (h + 1 + 1 + 1 + 1 + 1) (.bool false)
theorem VB.keep {W W' : World} {h : Nat} {C : Ck} {of q Bl l : Nat} (v : VB W h C of q Bl l) (e : ∀ k, h ≤ k → k < h + 6 → W'.heap[k]? = W.heap[k]?) : VB W' h C of q Bl l :=
  ⟨v.ck.keep (e _ (by omega) (by omega)), v.set.keep (e _ (by omega) (by omega)), v.pas.keep (e _ (by omega) (by omega)), v.few.keep (e _ (by omega) (by omega)), v.yld.keep (e _ (by omega) (by omega)), v.res.keep (e _ (by omega) (by omega))⟩
theorem VB.passed {W : World} {h : Nat} {C : Ck} {of q Bl l : Nat} (v : VB W h C of q Bl l) (q' : Nat) : VB (W.setCell ⟨h + 1 + 1, 0, none⟩ (.int .i64 (q' : Int))) h C of q' Bl l := by
  have e : ∀ k, k ≠ h + 1 + 1 → (W.setCell ⟨h + 1 + 1, 0, none⟩ (.int .i64 (q' : Int))).heap[k]? = W.heap[k]? := fun k hk => Below.heap_setCell _ _ _ _ hk
  exact ⟨v.ck.keep (e _ (by omega)), v.set.keep (e _ (by omega)), v.pas.set _, v.few.keep (e _ (by omega)), v.yld.keep (e _ (by omega)), v.res.keep (e _ (by omega))⟩
/-- what the loop's rounds so far come to -/
def visTo (K : List Nat) (d : Nat) (C : Ck) (of p : Nat) (s : Srch) (pre : List Sh) : Nat × Srch × Bool := (pre.map (·.1)).foldl (visF (recS K d) C of) (p, stepS K s C, false)
theorem visTo_snoc (K : List Nat) (d : Nat) (C : Ck) (of p : Nat) (s : Srch) (pre : List Sh) (x : Sh) : visTo K d C of p s (pre ++ [x]) = visF (recS K d) C of (visTo K d C of p s pre) x.1 := by
  unfold visTo; rw [List.map_append, List.foldl_append]; rfl
theorem visTo_end {K : List Nat} {d : Nat} {C : Ck} {of p : Nat} {s : Srch} {pre : List Sh} (h : pre.map (·.1) = mems of) : (visTo K d C of p s pre).2.1 = visitS K d C of p s := by
  unfold visTo; rw [h, visitS_eq]
theorem visTo_stop {K : List Nat} {d : Nat} {C : Ck} {of p : Nat} {s : Srch} {pre : List Sh} (h : pre.map (·.1) <+: mems of) (hb : (visTo K d C of p s pre).2.2 = true) : (visTo K d C of p s pre).2.1 = visitS K d C of p s := by
  obtain ⟨R, hR⟩ := h
  rw [visitS_eq, ← hR, List.foldl_append]
  show _ = (R.foldl (visF (recS K d) C of) (visTo K d C of p s pre)).2.1
  obtain ⟨e1, e2⟩ : ∃ q sx, visTo K d C of p s pre = (q, sx, true) := ⟨_, _, by rw [← hb]⟩
  obtain ⟨e2, e3⟩ := e2
  rw [e3, visF_done]
/-- what holds between two rounds -/
def VI (K : List Nat) (d : Nat) (C : Ck) (of p : Nat) (s : Srch) (W : World) (B n0 Bl l : Nat) (J : Srch → World → Prop) (brk : Bool) (pre : List Sh) (X : World) : Prop :=
  (visTo K d C of p s pre).2.2 = brk ∧ VB X W.heap.size C of (visTo K d C of p s pre).1 Bl l ∧ J (visTo K d C of p s pre).2.1 X ∧ Above n0 W X ∧ (visTo K d C of p s pre).1 ≤ p + pre.length ∧ B ≤ X.heap.size
theorem VI.own {K : List Nat} {d : Nat} {C : Ck} {of p : Nat} {s : Srch} {W : World} {B n0 Bl l : Nat} {J : Srch → World → Prop} {brk : Bool} (hJb : ∀ s A B, J s A → Below n0 A B → J s B) (h6 : W.heap.size + 6 ≤ B) (hn : n0 ≤ W.heap.size) :
    OwnFrom B (VI K d C of p s W B n0 Bl l J brk) := by
  rintro pre X Y row ⟨h1, h2, h3, h4, h5, h7⟩ hg hr
  have hk : ∀ k, k < W.heap.size + 6 → Y.heap[k]? = X.heap[k]? := fun k hk => hg.block k (by omega) (fun e => by have := (hr k e.symm).1; omega)
  have hs := hg.size
  refine ⟨h1, h2.keep (fun k _ hk2 => hk k hk2), hJb _ _ _ h3 ⟨hg.os, hg.tape, hg.output, hg.size, fun k hk3 => hk k (by omega)⟩, ⟨hg.os.trans h4.os, hg.tape.trans h4.tape, hg.output.trans h4.output, by have := h4.size; omega, fun k k1 k2 => (hk k (by omega)).trans (h4.block k k1 k2)⟩, h5, by omega⟩
/-- a break leaves the loop -/
def VX (K : List Nat) (d : Nat) (C : Ck) (of p : Nat) (s : Srch) (W : World) (B n0 Bl l : Nat) (J : Srch → World → Prop) (c : Code) (pre : List Sh) (X : World) : Prop := c = .exit 0 ∧ VI K d C of p s W B n0 Bl l J true pre X
theorem visF_stop {rec : Ck → Nat → Nat → Srch → Srch} {C : Ck} {of q i : Nat} {sx : Srch} (h : ¬ q < sx.2) : visF rec C of (q, sx, false) i = (q, sx, true) := by unfold visF; simp [h]
theorem visF_pass {rec : Ck → Nat → Nat → Srch → Srch} {C : Ck} {of q i : Nat} {sx : Srch} (h : q < sx.2) (hl : leave C i = none) : visF rec C of (q, sx, false) i = (q, sx, false) := by unfold visF; simp [h, hl]
theorem visF_go {rec : Ck → Nat → Nat → Srch → Srch} {C C' : Ck} {of q i : Nat} {sx : Srch} (h : q < sx.2) (hl : leave C i = some C') : visF rec C of (q, sx, false) i = (q + 1, rec C' (behindN of i) q sx, false) := by unfold visF; simp [h, hl]
theorem shs_len (s : Nat) : (shs s).length = (mems s).length := by rw [← shs_val s, List.length_map]
theorem shs_le (s : Nat) : (shs s).length ≤ 16 := by
  rw [shs_len]
  exact Nat.le_trans (List.length_filter_le _ _) (by simp)
theorem wrap_next (q : Nat) (h : q ≤ 100000) : wrap64 ((q : Int) + 1) = ((q + 1 : Nat) : Int) ∧ IntKind.i64.wrap ((q : Int) + 1) = ((q + 1 : Nat) : Int) := by
  constructor
  · unfold wrap64; omega
  · rw [IntKind.wrap_i64]; omega
/-- true is handed back, and the loop's marks are taken up -/
theorem visit_end {n : Nat} {n0 D B : Nat} {W X : World} {J : Srch → World → Prop} {s : Srch} {a : Act} (hJb : ∀ s A B, J s A → Below n0 A B → J s B) (hn0 : n0 ≤ W.heap.size) (hB : W.heap.size ≤ B) (hD : W.heap.size ≤ D) (hBD : B ≠ D)
    (hres : Bx X B (.bool false)) (hJ : J s X) (hA : Above n0 W X) (hK : X.heap[D]? = some (.deferred (some []))) (hd : a.defers = [{ target := .collected D, args := #[] }]) (h10 : a.eval (.tmp 10) = .pointer (some ⟨B, 0, none⟩)) (hT : a.tmps.size = 39) :
    bodyPostM Fence.wide n Tryd.prog Tryd.f59 (fun e W' => e = .returned (.bool true) ∧ J s W' ∧ Above n0 W W') .ret a (X.setCell ⟨B, 0, none⟩ (.bool true)) := by
  have hK' : (X.setCell ⟨B, 0, none⟩ (.bool true)).heap[D]? = some (.deferred (some [])) := (KeepsOthers.setCell _ _ _).same D _ hK rfl
  obtain ⟨tm, df⟩ := a
  simp only at hd hT
  subst hd
  refine ⟨by simp, .inl ⟨_, _, rfl, run_takeDeferred hK', ?_⟩⟩
  have hb1 : Bx (X.setCell ⟨B, 0, none⟩ (.bool true)) B (.bool true) := hres.set _
  have hb2 : Bx ((X.setCell ⟨B, 0, none⟩ (.bool true)).putObj D (.deferred none)) B (.bool true) := hb1.keep (World.putObj_heap_other (fun e => hBD e))
  have c := hb2.cell
  have hlt := (Array.getElem?_eq_some_iff.1 hK').1
  have h10' : tm.getD 10 undef = .pointer (some ⟨B, 0, none⟩) := h10
  refine ⟨.bool true, ?_, rfl, hJb _ _ _ (hJb _ _ _ hJ ((Below.refl _ _).setCell (p := ⟨B, 0, none⟩) (by show n0 ≤ B; omega) _)) (Below.putObj' (Below.refl _ _) (by omega) hlt _), (hA.setCell (p := ⟨B, 0, none⟩) (.inr hB) _).putObj (.inr hD) _⟩
  have h10'' : tm[10]'(by omega) = .pointer (some ⟨B, 0, none⟩) := by rw [← h10']; simp [hT]
  simp only [results, Tryd.results59]
  go_simp
set_option maxRecDepth 100000 in
set_option maxHeartbeats 4000000 in
theorem visit_step (K : List Nat) (n0 Bl l : Nat) (J : Srch → World → Prop) (hJb : ∀ s A B, J s A → Below n0 A B → J s B)
    (hJl : ∀ s A, J s A → A.cell? ⟨Bl, 0, none⟩ = some (.int .i64 (s.2 : Int)) ∧ n0 ≤ A.heap.size ∧ tabLaid A) (hn2 : 2 ≤ n0)
    (hY : ∀ m s C W1, J s W1 → CkFit C → YieldAt Fence.wide m Tryd.prog l #[.agg (ckA C)] W1 fun e W' => e = .returned (.bool true) ∧ J (stepS K s C) W' ∧ Above n0 W1 W')
    (d m : Nat) (C : Ck) (of p : Nat) (s : Srch) (W : World) (hf : CkFit C) (hof : of < 65536) (hp : p + 16 ≤ 100000) (hJ : J s W)
    (hrec : ∀ (m i : Nat) (C' : Ck) (of' p' : Nat) (s' : Srch) (W' : World), leave C i = some C' → of' < 65536 → p' ≤ p + 16 → J s' W' →
      CallsIn Fence.wide m Tryd.prog 59 #[.agg (ckA C'), .int .u64 of', .int .i64 p', fewV Bl, .func (.yield l) #[] #[]] W' fun e W'' => e = .returned (.bool true) ∧ J (recS K d C' of' p' s') W'' ∧ Above n0 W' W'') :
    CallsIn Fence.wide m Tryd.prog 59 #[.agg (ckA C), .int .u64 of, .int .i64 p, fewV Bl, .func (.yield l) #[] #[]] W fun e W' => e = .returned (.bool true) ∧ J (visitS K d C of p s) W' ∧ Above n0 W W' := by
  have hsz := ckA_size C
  obtain ⟨_, hn0, _⟩ := hJl s W hJ
  obtain ⟨n, HN⟩ : ∃ n : Nat, Hid (5 ≤ n) := ⟨5, Nat.le_refl _⟩
  refine callsIn_wide.2 ((callsIn_wide (n := n)).1 ?_)
  refine callsIn_of_wp_marks Tryd.func59 rfl trivial ?_ rfl
  simp only [Tryd.ntmps59, List.size_toArray, List.length_cons, List.length_nil, Nat.reduceAdd, Nat.reduceSub, Array.replicate_succ, Array.replicate_zero, List.push_toArray, List.append_toArray, List.nil_append, List.cons_append]
  have hb6 : Below W.heap.size W ((((((W.alloc (.cells (ckA C) 68)).alloc (.cells #[.int .u64 (of : Int)] 63)).alloc (.cells #[.int .i64 (p : Int)] 3)).alloc (.cells #[fewV Bl] 94)).alloc (.cells #[.func (.yield l) #[] #[]] 118)).alloc (.cells #[.bool false] 4)) :=
    ((((((Below.refl _ W).alloc (Nat.le_refl _) _).alloc (by simp) _).alloc (by simp; omega) _).alloc (by simp; omega) _).alloc (by simp; omega) _).alloc (by simp; omega) _
  have hv6 : VB ((((((W.alloc (.cells (ckA C) 68)).alloc (.cells #[.int .u64 (of : Int)] 63)).alloc (.cells #[.int .i64 (p : Int)] 3)).alloc (.cells #[fewV Bl] 94)).alloc (.cells #[.func (.yield l) #[] #[]] 118)).alloc (.cells #[.bool false] 4)) W.heap.size C of p Bl l := by
    have hal : ∀ (X : World) (o : Obj) (k : Nat), k < X.heap.size → (X.alloc o).heap[k]? = X.heap[k]? := fun X o k h => Below.heap_alloc X o k h
    refine ⟨?_, ?_, ?_, ?_, ?_, ?_⟩
    · exact (CkAt.new W C).keep (by rw [hal _ _ _ (by simp; omega), hal _ _ _ (by simp; omega), hal _ _ _ (by simp; omega), hal _ _ _ (by simp; omega), hal _ _ _ (by simp)])
    · have h := Bx.new (W.alloc (.cells (ckA C) 68)) 63 (.int .u64 (of : Int))
      rw [World.size_alloc] at h
      exact (((h.alloc _).alloc _).alloc _).alloc _
    · have h := Bx.new ((W.alloc (.cells (ckA C) 68)).alloc (.cells #[.int .u64 (of : Int)] 63)) 3 (.int .i64 (p : Int))
      simp only [World.size_alloc] at h
      exact ((h.alloc _).alloc _).alloc _
    · have h := Bx.new (((W.alloc (.cells (ckA C) 68)).alloc (.cells #[.int .u64 (of : Int)] 63)).alloc (.cells #[.int .i64 (p : Int)] 3)) 94 (fewV Bl)
      simp only [World.size_alloc] at h
      exact (h.alloc _).alloc _
    · have h := Bx.new ((((W.alloc (.cells (ckA C) 68)).alloc (.cells #[.int .u64 (of : Int)] 63)).alloc (.cells #[.int .i64 (p : Int)] 3)).alloc (.cells #[fewV Bl] 94)) 118 (.func (.yield l) #[] #[])
      simp only [World.size_alloc] at h
      exact h.alloc _
    · have h := Bx.new (((((W.alloc (.cells (ckA C) 68)).alloc (.cells #[.int .u64 (of : Int)] 63)).alloc (.cells #[.int .i64 (p : Int)] 3)).alloc (.cells #[fewV Bl] 94)).alloc (.cells #[.func (.yield l) #[] #[]] 118)) 4 (.bool false)
      simp only [World.size_alloc] at h
      exact h
  have hs6 : ((((((W.alloc (.cells (ckA C) 68)).alloc (.cells #[.int .u64 (of : Int)] 63)).alloc (.cells #[.int .i64 (p : Int)] 3)).alloc (.cells #[fewV Bl] 94)).alloc (.cells #[.func (.yield l) #[] #[]] 118)).alloc (.cells #[.bool false] 4)).heap.size = W.heap.size + 6 := by simp
  unfold fewV at hb6 hv6 hs6 ⊢
  obtain ⟨W6, hW6⟩ : ∃ W6, ((((((W.alloc (.cells (ckA C) 68)).alloc (.cells #[.int .u64 (of : Int)] 63)).alloc (.cells #[.int .i64 (p : Int)] 3)).alloc (.cells #[.func (.func 43) #[] #[.pointer (some ⟨Bl, 0, none⟩)]] 94)).alloc (.cells #[.func (.yield l) #[] #[]] 118)).alloc (.cells #[.bool false] 4)) = W6 := ⟨_, rfl⟩
  rw [hW6] at hb6 hv6 hs6
  obtain ⟨fn, tmps, assign, body, hy, hRd⟩ := hY (n - 1) s C W6 (hJb s W W6 hJ (hb6.mono hn0)) hf
  have c9 := hv6.yld.cell
  have HV := hide hv6
  have HB := hide hb6
  have HS := hide hs6
  clear hv6 hb6 hs6
  gi_wp2_with (first
    | (rw [hW6]; refine in_load rfl (.tmp 5) rfl W.heap.size C rfl HV.out.ck ?_)
    | (refine in_load rfl (.tmp 5) rfl W.heap.size C rfl HV.out.ck ?_))
  refine ⟨fun h => (by cases h), hRd.mono ?_⟩
  rintro e W7 ⟨rfl, hJ7, hA7⟩
  have hA : Above n0 W W7 := (Above.of_below HB.out).trans hA7
  have hv7 : VB W7 W.heap.size C of p Bl l := HV.out.keep (fun k k1 k2 => hA7.block k (by omega) (by have := HS.out; omega))
  have hs7 : W.heap.size + 6 ≤ W7.heap.size := by have := hA7.size; have := HS.out; omega
  have hl7 := hJl _ _ hJ7
  have c6 := hv7.set.cell
  clear hy hRd hW6 HV HB HS hA7 c9
  have HV := hide hv7
  clear hv7
  gi_wp2
  refine at_wide (members_any of W7) ?_
  rintro e w' ⟨rfl, rfl⟩
  have hT8 : tabLaid (W7.alloc (.cells #[.int .u64 (of : Int)] 63)) := hl7.2.2.mono (B := W7.heap.size) (by omega) ((Below.refl _ _).alloc (Nat.le_refl _) _)
  have hc8 : (W7.alloc (.cells #[.int .u64 (of : Int)] 63)).cell? ⟨W7.heap.size, 0, none⟩ = some (.int .u64 (of : Int)) := (Bx.new W7 63 (.int .u64 (of : Int))).cell
  have h0 : VI K d C of p s W (W7.alloc (.cells #[.int .u64 (of : Int)] 63)).heap.size n0 Bl l J false [] (W7.alloc (.cells #[.int .u64 (of : Int)] 63)) :=
    ⟨rfl, HV.out.keep (fun k k1 k2 => Below.heap_alloc _ _ _ (by omega)), hJb _ _ _ hJ7 ((Below.refl _ _).alloc hl7.2.1 _), hA.trans (Above.of_below ((Below.refl _ _).alloc (Nat.le_refl _) _)), Nat.le_refl _, Nat.le_refl _⟩
  have hs8 : (W7.alloc (.cells #[.int .u64 (of : Int)] 63)).heap.size = W7.heap.size + 1 := by simp
  obtain ⟨W8, hW8⟩ : ∃ W8, W7.alloc (.cells #[.int .u64 (of : Int)] 63) = W8 := ⟨_, rfl⟩
  have H0 := hide h0
  have HC := hide hc8
  have HT := hide hT8
  have H8 := hide hs8
  clear h0 hc8 hT8 hs8
  gi_wp2
  rw [hW8] at H0 HC HT H8
  clear hW8
  refine wpIn_rangeFunc_ownG rfl (by have := HN.out; omega) (gf := 52) (lb := #[.pointer (some ⟨W7.heap.size, 0, none⟩)]) rfl trivial (enters_of Tryd.func52 (by kernel_rfl) rfl)
    (members_stops (n - 1) W7.heap.size of hof W8 (by have := H8.out; omega) HC.out (by have := H8.out; omega) HT.out) (fun h k => kpT_t h k) (kpT_b (by have := H8.out; omega)) (Below.refl _ _) (fun _ => rfl)
    (VI K d C of p s W W8.heap.size n0 Bl l J false) (VX K d C of p s W W8.heap.size n0 Bl l J)
    (VI.own hJb (by have := H8.out; omega) hn0) (fun c => by
      rintro pre X Y row ⟨h1, h2⟩ hg hr
      exact ⟨h1, VI.own hJb (by have := H8.out; omega) hn0 pre X Y row h2 hg hr⟩) H0.out
    (fun x => { tmps := #[.agg (ckA C), .int .u64 (of : Int), .int .i64 (p : Int), .func (.func 43) #[] #[.pointer (some ⟨Bl, 0, none⟩)], .func (.yield l) #[] #[], .pointer (some ⟨W.heap.size, 0, none⟩), .pointer (some ⟨W.heap.size + 1, 0, none⟩), .pointer (some ⟨W.heap.size + 1 + 1, 0, none⟩), .pointer (some ⟨W.heap.size + 1 + 1 + 1, 0, none⟩), .pointer (some ⟨W.heap.size + 1 + 1 + 1 + 1, 0, none⟩), .pointer (some ⟨W.heap.size + 1 + 1 + 1 + 1 + 1, 0, none⟩), .int .i64 (x.1 : Int), undef, .func (.yield l) #[] #[], .agg (ckA C), .bool true, .bool false, .int .u64 (of : Int), .func (.func 52) #[] #[.pointer (some ⟨W7.heap.size, 0, none⟩)], .int .i64 (x.1 : Int), undef, undef, undef, undef, undef, undef, undef, undef, undef, undef, undef, undef, undef, undef, undef, undef, undef, undef, undef], defers := [] }) ?assign ?body ?done ?stop
  case assign =>
    intro l2 x X Kk hK
    unfold encSh
    gi_wp2
    exact hK
  case body =>
    rintro l2 pre x X ⟨h1, h2, h3, h4, h5, h6⟩ hlen
    obtain ⟨q, sx, hst⟩ : ∃ q sx, visTo K d C of p s pre = (q, sx, false) := ⟨_, _, by rw [← h1]⟩
    have hsn := visTo_snoc K d C of p s pre x
    rw [hst] at h2 h3 h5 hsn
    simp only at h2 h3 h5
    have hlen16 : (mems of).length ≤ 16 := by rw [← shs_len of]; exact shs_le of
    have hq : q ≤ p + 16 := by omega
    have hq2 : q ≤ 100000 := by omega
    have hl := hJl _ _ h3
    have cl := hl.1
    have c7 := h2.pas.cell
    have f7 := h2.pas.frozen
    have c8 := h2.few.cell
    unfold fewV at c8
    have HV := hide h2
    have HJ := hide h3
    have HA := hide h4
    have HSN := hide hsn
    have hx16 := x.2
    have H6 := hide h6
    clear h2 h3 h4 hst h1 hsn hl h6 hlen
    gi_wp2
    refine at_round (fewer_any q sx.2 Bl X cl) ?_
    rintro e w' ⟨rfl, rfl⟩
    by_cases hlt : q < sx.2
    · have hdt : decide (q < sx.2) = true := decide_eq_true hlt
      rw [hdt]
      have hz := zeroCk
      have hck := HV.out.ck
      have hszz := ckA_size ckZ
      gi_wp2_with (first
        | (refine in_load rfl (.tmp 5) rfl W.heap.size C rfl hck ?_)
        | (refine in_store rfl (.tmp 12) (.tmp 24) rfl w'.heap.size C ckZ rfl rfl (CkAt.new w' ckZ) ?_))
      have hcy : CkAt ((w'.alloc (.cells (ckA ckZ) 68)).setRow w'.heap.size (ckA C)) w'.heap.size C := (CkAt.new w' ckZ).setRow C
      have hby : Below w'.heap.size w' ((w'.alloc (.cells (ckA ckZ) 68)).setRow w'.heap.size (ckA C)) := ((Below.refl _ _).alloc (Nat.le_refl _) _).grown (grown_setRow _ _ _) (by simp) (fun k e => by cases e; exact Nat.le_refl _)
      refine at_round (ckLeave_any w'.heap.size x.1 C _ hcy hf hx16) ?_
      rintro e w2 (⟨hln, rfl, hw2⟩ | ⟨C', hls, rfl, hC', hg'⟩)
      · -- it cannot be left
        subst hw2
        have HL := hide hln
        have HBY := hide hby
        clear hln hby hcy hz hck hszz
        gi_wp2
        have hh8 := H8.out
        have h6 := H6.out
        have hVs := HV.out.keep (fun k k1 k2 => HBY.out.block k (by omega))
        refine ⟨(Above.of_below HBY.out).keeps (Nat.zero_le _), KpT.of_below (by omega) HBY.out, ?_⟩
        unfold VI
        rw [HSN.out, visF_pass hlt HL.out]
        exact ⟨rfl, hVs, hJb _ _ _ HJ.out (HBY.out.mono (by omega)), HA.out.trans (Above.of_below HBY.out), by rw [List.length_append]; exact Nat.le_succ_of_le h5, by have := HBY.out.size; omega⟩
      · -- it is left, and the search goes on
        have hb2 : Below w'.heap.size w' w2 := hby.grown hg' hby.size (fun k e => by cases e; exact Nat.le_refl _)
        have hsz2 : w'.heap.size < w2.heap.size := hC'.lt
        have HLS := hide hls
        have HB2 := hide hb2
        have HC' := hide hC'
        have hlim : W.heap.size + 6 ≤ w'.heap.size := by have := H8.out; have := H6.out; omega
        have hv2 : VB w2 W.heap.size C of q Bl l := HV.out.keep (fun k k1 k2 => hb2.block k (by omega))
        have hj2 : J sx w2 := hJb _ _ _ HJ.out (hb2.mono (by omega))
        have HV2 := hide hv2
        have HJ2 := hide hj2
        clear hls hb2 hC' hg' hby hcy hz hck hszz hv2 hj2
        gi_wp2
        have hvis : ∀ m, CallsIn Fence.wide m Tryd.prog 59 #[.agg (ckA C'), .int .u64 (behindN of x.1 : Nat), .int .i64 (q : Int), fewV Bl, .func (.yield l) #[] #[]] w2.drew fun e w'' => e = .returned (.bool true) ∧ (J (recS K d C' (behindN of x.1) q sx) w'' ∧ Above n0 w2.drew w'') :=
          fun m => hrec m x.1 C' (behindN of x.1) q sx w2.drew HLS.out (behind_lt _ _ hof) (by omega) (hJb _ _ _ HJ2.out (Below.refl _ _).drew)
        refine vis_region w'.heap.size (W.heap.size + 1) (W.heap.size + 1 + 1) (W.heap.size + 1 + 1 + 1) (W.heap.size + 1 + 1 + 1 + 1) x.1 of q C' (fewV Bl) (.func (.yield l) #[] #[]) (fun w'' => J (recS K d C' (behindN of x.1) q sx) w'' ∧ Above n0 w2.drew w'') (by kernel_rfl) rfl hx16 hof rfl rfl rfl rfl rfl rfl
          (show CkAt w2.drew _ _ from HC'.out) HV2.out.set.cell HV2.out.pas.cell HV2.out.few.cell HV2.out.yld.cell hvis ?_
        clear hvis
        rintro a' w3 hk f36 ⟨hJ3, hA3⟩
        obtain ⟨ls, hls, rfl⟩ := hk.split (by decide) (by simp)
        clear hk
        obtain ⟨u0, u1, u2, u3, u4, u5, u6, u7, u8, rfl⟩ := len9 hls
        clear hls
        simp only [List.take_succ_cons, List.take_zero, List.drop_succ_cons, List.drop_zero, List.cons_append, List.nil_append] at f36 ⊢
        obtain rfl : u8 = .bool false := f36
        have hA23 : Above n0 w2 w3 := ⟨hA3.os, hA3.tape, hA3.output, hA3.size, hA3.block⟩
        have hv3 : VB w3 W.heap.size C of q Bl l := HV2.out.keep (fun k k1 k2 => hA23.block k (by omega) (by omega))
        have c7 := hv3.pas.cell
        have f7 := hv3.pas.frozen
        obtain ⟨hwr, hwr2⟩ := wrap_next q hq2
        have HV3 := hide hv3
        have HJ3 := hide hJ3
        have HA3 := hide hA23
        clear hv3 hJ3 hA23 hA3
        gi_wp2
        have hh8 := H8.out
        have h6 := H6.out
        have hJ4 : J (recS K d C' (behindN of x.1) q sx) (w3.setCell ⟨W.heap.size + 1 + 1, 0, none⟩ (.int .i64 ((q + 1 : Nat) : Int))) := hJb _ _ _ HJ3.out ((Below.refl _ _).setCell (p := ⟨W.heap.size + 1 + 1, 0, none⟩) (by show n0 ≤ W.heap.size + 1 + 1; omega) _)
        have hA14 : Above n0 w' w3 := (Above.of_below HB2.out).trans HA3.out
        have hkf : KeepsFrom W8.heap.size w' (w3.setCell ⟨W.heap.size + 1 + 1, 0, none⟩ (.int .i64 ((q + 1 : Nat) : Int))) := (hA14.keeps (by omega)).trans ((KeepsOthers.setCell _ _ _).from _)
        refine ⟨hkf, fun _ => (hJl _ _ hJ4).2.2, ?_⟩
        unfold VI
        rw [HSN.out, visF_go hlt HLS.out]
        refine ⟨rfl, HV3.out.passed (q + 1), hJ4, (HA.out.trans hA14).setCell (p := ⟨W.heap.size + 1 + 1, 0, none⟩) (.inr (Nat.le_trans (Nat.le_succ _) (Nat.le_succ _))) _, by rw [List.length_append]; exact Nat.succ_le_succ h5, ?_⟩
        have := HA3.out.size
        simp only [World.setCell, Array.size_modify]
        omega
    · have hdt : decide (q < sx.2) = false := decide_eq_false hlt
      rw [hdt]
      gi_wp2
      refine ⟨KeepsFrom.refl _ _, rfl, ?_⟩
      unfold VI
      rw [HSN.out, visF_stop hlt]
      exact ⟨rfl, HV.out, HJ.out, HA.out, by rw [List.length_append]; exact Nat.le_succ_of_le h5, H6.out⟩
  case done =>
    rintro D xs X hD hxs ⟨h1, h2, h3, h4, h5, h6⟩ hK
    have hend := visTo_end (K := K) (d := d) (C := C) (p := p) (s := s) hxs
    rw [hend] at h3
    have c10 := h2.res.cell
    have f10 := h2.res.frozen
    have hh8 := H8.out
    have HH := hide (And.intro h2 (And.intro h3 h4))
    clear h2 h3 h4
    gi_wp2
    clear hend
    exact visit_end (a := _) hJb hn0 (by omega) (by omega) (by omega) HH.out.1.res HH.out.2.1 HH.out.2.2 hK (by simp) (by simp [Act.eval]) (by simp)
  case stop =>
    rintro D c pre X hD hpre ⟨rfl, h1, h2, h3, h4, h5, h6⟩ hK
    have hend := visTo_stop (K := K) (d := d) (C := C) (p := p) (s := s) hpre h1
    rw [hend] at h3
    have c10 := h2.res.cell
    have f10 := h2.res.frozen
    have hh8 := H8.out
    have HH := hide (And.intro h2 (And.intro h3 h4))
    clear h2 h3 h4
    gi_wp2
    clear hend
    exact visit_end (a := _) hJb hn0 (by omega) (by omega) (by omega) HH.out.1.res HH.out.2.1 HH.out.2.2 hK (by simp) (by simp [Act.eval]) (by simp)
theorem leave_fit {C C' : Ck} {i : Nat} (hf : CkFit C) (h : leave C i = some C') : CkFit C' := by
  obtain ⟨r, rfl, h1, h2, _⟩ := leave_cases h
  have := hf.most
  exact ⟨leave_byte hf.byt, by show C.told ≤ C.count - 1; omega, by show C.count - 1 ≤ 8; omega⟩
/-- the search, as deep as there are spare checks -/
theorem visit_in (K : List Nat) (n0 Bl l : Nat) (J : Srch → World → Prop) (hJb : ∀ s A B, J s A → Below n0 A B → J s B)
    (hJl : ∀ s A, J s A → A.cell? ⟨Bl, 0, none⟩ = some (.int .i64 (s.2 : Int)) ∧ n0 ≤ A.heap.size ∧ tabLaid A) (hn2 : 2 ≤ n0)
    (hY : ∀ m s C W1, J s W1 → CkFit C → YieldAt Fence.wide m Tryd.prog l #[.agg (ckA C)] W1 fun e W' => e = .returned (.bool true) ∧ J (stepS K s C) W' ∧ Above n0 W1 W') :
    ∀ (d m : Nat) (C : Ck) (of p : Nat) (s : Srch) (W : World), CkFit C → C.count ≤ C.told + d → of < 65536 → p + 16 * (d + 1) ≤ 100000 → J s W →
      CallsIn Fence.wide m Tryd.prog 59 #[.agg (ckA C), .int .u64 of, .int .i64 p, fewV Bl, .func (.yield l) #[] #[]] W fun e W' => e = .returned (.bool true) ∧ J (visitS K d C of p s) W' ∧ Above n0 W W' := by
  intro d
  induction d with
  | zero =>
    intro m C of p s W hf hd hof hp hJ
    refine visit_step K n0 Bl l J hJb hJl hn2 hY 0 m C of p s W hf hof (by omega) hJ ?_
    intro m i C' of' p' s' W' hl
    obtain ⟨r, _, h1, h2, _⟩ := leave_cases hl
    omega
  | succ d ih =>
    intro m C of p s W hf hd hof hp hJ
    refine visit_step K n0 Bl l J hJb hJl hn2 hY (d + 1) m C of p s W hf hof (by omega) hJ ?_
    intro m i C' of' p' s' W' hl ho hp' hJ'
    have hf' := leave_fit hf hl
    obtain ⟨r, hC', h1, h2, _⟩ := leave_cases hl
    exact ih m C' of' p' s' W' hf' (by rw [hC']; show C.count - 1 ≤ C.told + d; omega) ho (by omega) hJ'
end Go.Proofs.YthhommjlomphdabDoor
