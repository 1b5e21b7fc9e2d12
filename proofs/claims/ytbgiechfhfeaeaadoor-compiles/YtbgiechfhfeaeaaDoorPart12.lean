import Derived.Test.YtbgiechfhfeaeaaDoorCkRegions
/-
  A frame of which some slots have turned, spelled out. Written by gen_frames.py.
-/
namespace Go.Proofs.YtbgiechfhfeaeaaDoor
open Go.RowKit

theorem Kept.split {lo hi : Nat} {a a' : Act} (hk : Kept lo hi a a') (h1 : lo ≤ hi) (h2 : hi ≤ a.tmps.size) :
    ∃ l : List Value, l.length = hi - lo ∧ a' = { tmps := (a.tmps.toList.take lo ++ (l ++ a.tmps.toList.drop hi)).toArray, defers := a.defers } := by
  have hev : ∀ (x : Act) (s : Nat), s < x.tmps.size → x.tmps[s]? = some (x.eval (.tmp s)) := fun x s hs => by
    simp [Act.eval, Array.getD_eq_getD_getElem?, hs]
  refine ⟨(a'.tmps.toList.drop lo).take (hi - lo), ?_, ?_⟩
  · have := hk.size
    simp; omega
  · obtain ⟨t', d'⟩ := a'
    have hs := hk.size
    have hd := hk.defers
    simp only at hs hd
    subst hd
    congr 1
    apply Array.ext_getElem?
    intro i
    simp only [List.getElem?_toArray, List.getElem?_append, List.getElem?_take, List.getElem?_drop, List.length_take, List.length_drop, Array.length_toList, Array.getElem?_toList]
    by_cases c1 : i < lo
    · rw [if_pos (by omega), if_pos c1]
      have e := hk.slot i (.inl c1)
      have x1 := hev ⟨t', a.defers⟩ i (by show i < t'.size; omega)
      have x2 := hev a i (by omega)
      simp only at x1
      rw [x1, x2, e]
    · by_cases c2 : i < hi
      · rw [if_neg (by omega), if_pos (by omega), if_pos (by omega), show lo + (i - min lo a.tmps.size) = i by omega]
      · rw [if_neg (by omega), if_neg (by omega)]
        have ei : hi + (i - min lo a.tmps.size - min (hi - lo) (t'.size - lo)) = i := by omega
        rw [ei]
        by_cases c3 : i < a.tmps.size
        · have e := hk.slot i (.inr (by omega))
          have x1 := hev ⟨t', a.defers⟩ i (by show i < t'.size; omega)
          have x2 := hev a i c3
          simp only at x1
          rw [x1, x2, e]
        · rw [Array.getElem?_eq_none (by omega), Array.getElem?_eq_none (by omega)]
theorem len9 {l : List Value} (h : l.length = 9) : ∃ u0 u1 u2 u3 u4 u5 u6 u7 u8, l = [u0, u1, u2, u3, u4, u5, u6, u7, u8] := by
  match l, h with
  | [u0, u1, u2, u3, u4, u5, u6, u7, u8], _ => exact ⟨u0, u1, u2, u3, u4, u5, u6, u7, u8, rfl⟩
theorem len14 {l : List Value} (h : l.length = 14) : ∃ u0 u1 u2 u3 u4 u5 u6 u7 u8 u9 u10 u11 u12 u13, l = [u0, u1, u2, u3, u4, u5, u6, u7, u8, u9, u10, u11, u12, u13] := by
  match l, h with
  | [u0, u1, u2, u3, u4, u5, u6, u7, u8, u9, u10, u11, u12, u13], _ => exact ⟨u0, u1, u2, u3, u4, u5, u6, u7, u8, u9, u10, u11, u12, u13, rfl⟩
theorem len28 {l : List Value} (h : l.length = 28) : ∃ u0 u1 u2 u3 u4 u5 u6 u7 u8 u9 u10 u11 u12 u13 u14 u15 u16 u17 u18 u19 u20 u21 u22 u23 u24 u25 u26 u27, l = [u0, u1, u2, u3, u4, u5, u6, u7, u8, u9, u10, u11, u12, u13, u14, u15, u16, u17, u18, u19, u20, u21, u22, u23, u24, u25, u26, u27] := by
  match l, h with
  | [u0, u1, u2, u3, u4, u5, u6, u7, u8, u9, u10, u11, u12, u13, u14, u15, u16, u17, u18, u19, u20, u21, u22, u23, u24, u25, u26, u27], _ => exact ⟨u0, u1, u2, u3, u4, u5, u6, u7, u8, u9, u10, u11, u12, u13, u14, u15, u16, u17, u18, u19, u20, u21, u22, u23, u24, u25, u26, u27, rfl⟩
end Go.Proofs.YtbgiechfhfeaeaaDoor
/-
  A check is told to tell a lost shard; one is given up.
-/
namespace Go.Proofs.YtbgiechfhfeaeaaDoor
open Go.RowKit Go.Deep Gf

set_option maxRecDepth 100000 in
set_option maxHeartbeats 4000000 in
theorem ckLeave_any (b i : Nat) (C : Ck) (w : World) (hC : CkAt w b C) (hf : CkFit C) (hi : i < 16) :
    Calls Tryd.prog 102 #[.pointer (some ⟨b, 0, none⟩), .int .i64 i] w fun e w' =>
      (leave C i = none ∧ e = .returned (.bool false) ∧ w' = w) ∨ (∃ C', leave C i = some C' ∧ e = .returned (.bool true) ∧ CkAt w' b C' ∧ w.grownBy w' (some b)) := by
  go_enter Tryd.func102, Tryd.ntmps102
  go_wp2_with fail
  refine (spare_any b i C w hC hf hi).mono ?_
  rintro e w1 ⟨rfl, hw⟩
  subst hw
  cases hsp : spareAt C i with
  | none =>
    have HN : Hid (leave C i = none) := hide (by unfold leave; rw [hsp]; rfl)
    simp only [spV]
    clear hsp
    go_wp2
    go_ret
    exact .inl ⟨HN.out, rfl, rfl⟩
  | some r =>
    obtain ⟨r1, r2, r3⟩ := spareAt_some hsp
    have HN : Hid (leave C i = some (leaveAt C i r)) := hide (by unfold leave; rw [hsp]; rfl)
    have hmost := hf.most
    simp only [spV]
    clear hsp
    go_wp2_with fail
    refine (ckOff_any b r i C _ hC hf (by omega) hi).mono ?_
    rintro e w2 ⟨rfl, hC2, hg2⟩
    have cc := hC2.countC
    have ff := hC2.frozen 129
    have hcn : (offC C C.count r i).count = C.count := rfl
    rw [hcn] at cc
    have hC3 := count_set hC2 (C.count - 1)
    have hg3 := grown_set hg2 129 (.int .i64 ((C.count - 1 : Nat) : Int))
    have hwr : wrap64 ((C.count : Int) - 1) = ((C.count - 1 : Nat) : Int) := by unfold wrap64; omega
    have hwr2 : IntKind.i64.wrap ((C.count : Int) - 1) = ((C.count - 1 : Nat) : Int) := by rw [IntKind.wrap_i64]; omega
    obtain ⟨w3, hw3⟩ : ∃ w3, w2.setCell ⟨b, 129, none⟩ (.int .i64 ((C.count - 1 : Nat) : Int)) = w3 := ⟨_, rfl⟩
    rw [hw3] at hC3 hg3
    have HC2 := hide hC2
    have HG2 := hide hg2
    have HC3 := hide hC3
    have HG3 := hide hg3
    have c9 := hC3.countC
    have HR := hide (put_row (show CkAt w3.drew b _ from hC3) r (by omega) ((offC C C.count r i).m (C.count - 1)))
    have HGR : Hid (w1.grownBy (w3.drew.setCells b (r * 16) (rowL ((offC C C.count r i).m (C.count - 1)))) (some b)) := hide (ck_grown _ _ _ _ ⟨hg3.os, hg3.tape, hg3.output, hg3.size, hg3.block⟩)
    have HL := hide (rowL_range (show CkAt w3.drew b _ from hC3) (C.count - 1) (by omega))
    have HT := hide (ck_there (show CkAt w3.drew b _ from hC3) r (by omega))
    clear hC2 hg2 hC3 hg3 hC
    go_wp2
    clear hw3 cc ff hwr hwr2 hcn HC2 HG2 HC3 HG3
    refine ck_fill b r (C.count - 1) (offC C C.count r i).m (by kernel_rfl) (fun _ _ _ _ _ h => h) rfl (by omega) (by omega) rfl rfl c9 HL.out HT.out ?_
    intro a' hk
    obtain ⟨l, hl, rfl⟩ := hk.split (by decide) (by simp)
    clear hk
    obtain ⟨u0, u1, u2, u3, u4, u5, u6, u7, u8, u9, u10, u11, u12, u13, rfl⟩ := len14 hl
    clear hl
    simp only [List.take_succ_cons, List.take_zero, List.drop_succ_cons, List.cons_append, List.nil_append, List.drop_nil, List.append_nil]
    obtain ⟨w4, hw4⟩ : ∃ w4, w3.drew.setCells b (r * 16) (rowL ((offC C C.count r i).m (C.count - 1))) = w4 := ⟨_, rfl⟩
    rw [hw4] at HR HGR ⊢
    clear hw4
    go_wp2
    go_ret
    exact .inr ⟨_, HN.out, rfl, HR.out, HGR.out⟩
theorem CkFit.off {C : Ck} (h : CkFit C) (k r i : Nat) : CkFit (offC C k r i) := ⟨off_byte h.byt, h.le, h.most⟩
theorem swap_put (m : Nat → Nat → Nat) (t r : Nat) : putF (putF m t (m r)) r (m t) = swapF m t r := by
  funext k
  unfold putF swapF
  by_cases h1 : k = r
  · rw [if_pos h1]
    by_cases h2 : k = t
    · rw [if_pos h2, ← h1, ← h2]
    · rw [if_neg h2, if_pos h1]
  · rw [if_neg h1]
    by_cases h2 : k = t
    · rw [if_pos h2, if_pos h2]
    · rw [if_neg h2, if_neg h2, if_neg h1]
set_option maxRecDepth 100000 in
set_option maxHeartbeats 4000000 in
theorem ckTell_any (b i : Nat) (C : Ck) (w : World) (hC : CkAt w b C) (hf : CkFit C) (hi : i < 16) :
    Calls Tryd.prog 75 #[.pointer (some ⟨b, 0, none⟩), .int .i64 i] w fun e w' =>
      (tell C i = none ∧ e = .returned (.bool false) ∧ w' = w) ∨ (∃ C', tell C i = some C' ∧ e = .returned (.bool true) ∧ CkAt w' b C' ∧ w.grownBy w' (some b)) := by
  go_enter Tryd.func75, Tryd.ntmps75
  go_wp2_with fail
  refine (spare_any b i C w hC hf hi).mono ?_
  rintro e w1 ⟨rfl, hw⟩
  subst hw
  cases hsp : spareAt C i with
  | none =>
    have HN : Hid (tell C i = none) := hide (by unfold tell; rw [hsp]; rfl)
    simp only [spV]
    clear hsp
    go_wp2
    go_ret
    exact .inl ⟨HN.out, rfl, rfl⟩
  | some r =>
    obtain ⟨r1, r2, r3⟩ := spareAt_some hsp
    have HN : Hid (tell C i = some (tellAt C i r)) := hide (by unfold tell; rw [hsp]; rfl)
    have hmost := hf.most
    simp only [spV]
    clear hsp
    have c8 := hC.toldC
    have h1 := put_row (put_row (show CkAt w1.drew b _ from hC) C.told (by omega) (C.m r)) r (by omega) (C.m C.told)
    have e1 : (⟨putF (putF C.m C.told (C.m r)) r (C.m C.told), C.told, C.count⟩ : Ck) = ⟨swapF C.m C.told r, C.told, C.count⟩ := by rw [swap_put]
    have h2 : CkAt ((w1.drew.setCells b (C.told * 16) (rowL (C.m r))).setCells b (r * 16) (rowL (C.m C.told))) b ⟨swapF C.m C.told r, C.told, C.count⟩ := by rw [← e1]; exact h1
    have hg : w1.grownBy ((w1.drew.setCells b (C.told * 16) (rowL (C.m r))).setCells b (r * 16) (rowL (C.m C.told))) (some b) :=
      ck_grown _ _ _ _ (ck_grown _ _ _ _ ⟨rfl, rfl, rfl, Nat.le_refl _, fun _ _ _ => rfl⟩)
    have HC2 := hide h2
    have HG2 := hide hg
    have HL := hide (rowL_range (show CkAt w1.drew b _ from hC) r (by omega))
    have HL2 := hide (rowL_range (show CkAt w1.drew b _ from hC) C.told (by omega))
    have HT := hide (ck_there (show CkAt w1.drew b _ from hC) r (by omega))
    have HT2 := hide (ck_there (show CkAt w1.drew b _ from hC) C.told (by omega))
    clear h1 e1 h2 hg hC
    go_wp2
    refine ck_exchange b r C.told C.m (by kernel_rfl) (fun _ _ _ _ _ h => h) rfl (by omega) (by omega) rfl rfl c8 HL.out HL2.out HT.out HT2.out ?_
    intro a' hk
    obtain ⟨l, hl, rfl⟩ := hk.split (by decide) (by simp)
    clear hk HL HL2 HT HT2
    obtain ⟨u0, u1, u2, u3, u4, u5, u6, u7, u8, u9, u10, u11, u12, u13, u14, u15, u16, u17, u18, u19, u20, u21, u22, u23, u24, u25, u26, u27, rfl⟩ := len28 hl
    clear hl
    simp only [List.take_succ_cons, List.take_zero, List.drop_succ_cons, List.drop_zero, List.cons_append, List.nil_append]
    obtain ⟨w2, hw2⟩ : ∃ w2, (w1.drew.setCells b (C.told * 16) (rowL (C.m r))).setCells b (r * 16) (rowL (C.m C.told)) = w2 := ⟨_, rfl⟩
    rw [hw2] at HC2 HG2 ⊢
    clear hw2 c8
    have c8 := HC2.out.toldC
    have hf2 : CkFit ⟨swapF C.m C.told r, C.told, C.count⟩ := ⟨swap_byte hf.byt, hf.le, hf.most⟩
    go_wp2_with fail
    refine (ckScale_any b C.told i _ _ HC2.out hf2 (by omega) hi).mono ?_
    rintro e w3 ⟨rfl, hC3, hg3⟩
    have hf3 : CkFit ⟨scaleF (swapF C.m C.told r) C.told i, C.told, C.count⟩ := ⟨scale_byte (swap_byte hf.byt), hf.le, hf.most⟩
    have hg13 := grown_trans HG2.out hg3
    have c8' := hC3.toldC
    have HC3 := hide hC3
    have HG3 := hide hg13
    clear hC3 hg3 hg13 c8 HC2 HG2
    go_wp2_with fail
    refine (ckOff_any b C.told i _ _ HC3.out hf3 (by omega) hi).mono ?_
    rintro e w4 ⟨rfl, hC4, hg4⟩
    have hg14 := grown_trans HG3.out hg4
    have hC5 := told_set hC4 (C.told + 1)
    have hg5 := grown_set hg14 128 (.int .i64 ((C.told + 1 : Nat) : Int))
    have c9 := hC4.toldC
    have f9 := hC4.frozen 128
    have c9' : w4.cell? ⟨b, 128, none⟩ = some (.int .i64 (C.told : Int)) := c9
    have hwr : wrap64 ((C.told : Int) + 1) = ((C.told + 1 : Nat) : Int) := by unfold wrap64; omega
    have hwr2 : IntKind.i64.wrap ((C.told : Int) + 1) = ((C.told + 1 : Nat) : Int) := by rw [IntKind.wrap_i64]; omega
    have HC5 := hide hC5
    have HG5 := hide hg5
    clear hC4 hg4 hg14 hC5 hg5 c9 c8' HC3 HG3
    go_wp2
    go_ret
    exact .inr ⟨_, HN.out, rfl, HC5.out, HG5.out⟩
end Go.Proofs.YtbgiechfhfeaeaaDoor
