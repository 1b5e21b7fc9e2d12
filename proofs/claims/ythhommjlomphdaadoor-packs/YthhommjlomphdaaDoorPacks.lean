/-
  The law Packs: its walk.
-/
import Derived.Test.YthhommjlomphdaaDoorUnpacks
import Derived.Test.YthhommjlomphdaaDoorRefPack
import Derived.Laws.Cover3
namespace Go.Proofs.YthhommjlomphdaaDoor
open Go.RowKit Go.Deep

theorem owns_bs {w : World} {base n : Nat} {v : Value} {l : List Nat} (h : w.ownsRow base 5 1 v n (bv l)) (hx : ∀ x ∈ l, x < 256) (hc : l.length ≤ 140737488355328) : Bs w v l := by
  have hn : n = l.length := by have := h.1; simp [bv] at this; omega
  subst hn
  rcases h.2 with ⟨h0, h1⟩ | ⟨g, cap, cur, e1, e2, e3, e4, e5, e6, e7⟩
  · have : l = [] := List.eq_nil_of_length_eq_zero h1
    subst this
    exact ⟨none, 0, h0, by simp, by simp, by simp, fun h => absurd rfl h⟩
  · subst e1
    refine ⟨some ⟨g, 0, none⟩, cap, rfl, e4, hc, hx, fun _ => ⟨g, 0, rfl, fun k hk => ?_⟩⟩
    rw [Nat.zero_add, h.cellAt k (by omega)]
    simp [bv, hk]
set_option maxRecDepth 100000 in
set_option maxHeartbeats 1000000 in
theorem spack_any (regs : Int) (v : Value) (P : List St) (w : World) (h : Ps .u8 w v P) (hP : ∀ s ∈ P, okInts s) :
    Calls Tryd.prog 30 #[.agg #[.int .i64 regs, v]] w fun r w' => PaPost regs P w r w' := by
  have hb0 : Below w.heap.size w (w.alloc (.cells #[.int .i64 regs, v] 49)) := (Below.refl _ _).alloc (Nat.le_refl _) _
  have h0 := h.mono hb0
  obtain ⟨ao, c, rfl⟩ := h.slice
  clear h
  go_enter Tryd.func30, Tryd.ntmps30
  go_wp2_with fail
  refine (pack_any regs _ P _ h0 hP).mono ?_
  rintro r w1 ⟨h1, h2, hb1⟩
  rw [nblk_alloc] at h1 hb1
  have hbw := hb0.trans (hb1.mono (by omega))
  by_cases hp : okPack regs P
  · obtain ⟨v1, rfl, hv1⟩ := h1 hp
    have HP := hide hp
    have HV := hide hv1
    clear h1 h2 hp hv1
    go_wp2
    go_ret2
    exact ⟨fun _ => ⟨_, rfl, ownsRow_weaken HV.out (by omega)⟩, fun h => absurd HP.out h, hbw⟩
  · obtain rfl := h2 hp
    have HP := hide hp
    clear h1 h2 hp
    go_wp2
    go_ret2
    exact ⟨fun h => absurd h HP.out, fun _ => rfl, hbw⟩
theorem packTo_len (regs : Int) (P : List St) : ∀ k, k ≤ P.length → (packTo regs P k).length = 3 + k * 4
  | 0, _ => by simp [packTo]
  | k + 1, hk => by rw [packTo_succ regs P k (by omega), List.length_append, packTo_len regs P k (by omega)]; simp [packS]; omega
theorem packTo_lt (regs : Int) (P : List St) (hok : okPack regs P) (hP : ∀ s ∈ P, okInts s) : ∀ k, k ≤ P.length → ∀ x ∈ packTo regs P k, x < 256
  | 0, _, x, hx => by
    obtain ⟨⟨h1, h2, h3⟩, _⟩ := hok
    simp [packTo] at hx
    omega
  | k + 1, hk, x, hx => by
    rw [packTo_succ regs P k (by omega)] at hx
    rcases List.mem_append.1 hx with h | h
    · exact packTo_lt regs P hok hP k (by omega) x h
    · have q := hok.2 k (by omega)
      have q2 := hP _ (List.getElem_mem (show k < P.length by omega))
      unfold okPk at q
      unfold okInts at q2
      simp [packS] at h
      omega
theorem bs_nil (w : World) : Bs w (.slice none 0 0) [] := ⟨none, 0, rfl, by simp, by simp, by simp, fun h => absurd rfl h⟩
set_option maxRecDepth 100000 in
set_option maxHeartbeats 1000000 in
theorem packs_big (regs : Int) (ao : Option Addr) (len cap : Nat) (ab : Option Addr) (lb cb : Nat) (w : World) (hbig : 5000 < len ∨ 100000 < lb) :
    Calls Tryd.prog 8 #[.agg #[.int .i64 regs, .slice ao len cap], .slice ab lb cb] w fun e w' => e = .returned (.bool true) ∧ Below w.heap.size w w' := by
  by_cases h1 : (5000 : Int) < (len : Int)
  · clear hbig
    go_enter Tryd.func8, Tryd.ntmps8
    go_wp2
    go_ret
    exact ⟨rfl, (Below.refl _ _).alloc (Nat.le_refl _) _⟩
  · have h2 : (100000 : Int) < (lb : Int) := by omega
    clear hbig
    go_enter Tryd.func8, Tryd.ntmps8
    go_wp2
    go_ret
    exact ⟨rfl, (Below.refl _ _).alloc (Nat.le_refl _) _⟩
theorem laid_of {w w' : World} (hg : globalLaid w) (hb : Below w.heap.size w w') : globalLaid w' := by
  have := block_lt_of_cell hg
  unfold globalLaid at *
  rw [hb.cell this]; exact hg
set_option maxRecDepth 100000 in
set_option maxHeartbeats 4000000 in
theorem packs_bad (regs : Int) (v : Value) (P : List St) (vb : Value) (l : List Nat) (w : World) (h : Ps .u8 w v P) (hl : P.length ≤ 5000) (hP : ∀ s ∈ P, okInts s) (hb : Bs w vb l) (hlb : l.length ≤ 100000) (hg : globalLaid w) (hok : ¬ okPack regs P) :
    Calls Tryd.prog 8 #[.agg #[.int .i64 regs, v], vb] w fun e w' => e = .returned (.bool true) ∧ Below w.heap.size w w' := by
  have hb0 : Below w.heap.size w (w.alloc (.cells #[.int .i64 regs, v] 49)) := (Below.refl _ _).alloc (Nat.le_refl _) _
  have HP := hide hP
  have H := hide h
  have HB := hide hb
  have HOK := hide hok
  have h0 := h.mono hb0
  obtain ⟨ao, c, rfl⟩ := h.slice
  obtain ⟨ab, cb, rfl⟩ : ∃ ab cb, vb = .slice ab l.length cb := by obtain ⟨ao, c, e, _⟩ := hb; exact ⟨ao, c, e⟩
  have hlI : ¬ (5000 : Int) < (P.length : Int) := by omega
  have hlI2 : ¬ (100000 : Int) < (l.length : Int) := by omega
  have heq := fun wx => run_neq_slice_nil (P := Tryd.prog) wx 44 5 none 0 0 Tryd.underlying44
  clear h hP hb hok
  go_enter Tryd.func8, Tryd.ntmps8
  go_wp2_with fail
  refine (spack_any regs _ P _ h0 HP.out).mono ?_
  rintro r w1 ⟨_, h2, hb1⟩
  obtain rfl := h2 HOK.out
  rw [nblk_alloc] at hb1
  obtain ⟨p0, p1⟩ := box2 hb1 rfl
  have hs1 := hb1.size
  rw [nblk_alloc] at hs1
  have hbw1 := hb0.trans (hb1.mono (by omega))
  clear h2 hb1 h0 hb0
  go_wp2_with fail
  refine (tell_errno 4 _ (laid_of hg hbw1)).mono ?_
  rintro e w2 ⟨rfl, hb2⟩
  have hs2 := hb2.size
  have q0 := (hb2.cell (block_lt_of_cell p0)).trans p0
  have q1 := (hb2.cell (block_lt_of_cell p1)).trans p1
  have hbw2 := hbw1.trans (hb2.mono (by omega))
  clear hb2 p0 p1 hbw1
  go_wp2_with fail
  refine (program_any regs _ P _ (H.out.mono hbw2) hl (fun s hs => (HP.out s hs).1)).mono ?_
  rintro e w3 ⟨v3, rfl, hv3, hb3⟩
  have hs3 := hb3.size
  have hbw3 := hbw2.trans (hb3.mono (by omega))
  obtain ⟨a3, c3, rfl⟩ := hv3.slice
  have H3 := hide hv3
  have hbw4 := hbw3.alloc (by omega) (.cells #[.int .i64 regs, .slice a3 P.length c3] 53)
  clear hv3 q0 q1 hb3 hbw2
  go_wp2_with fail
  refine (rpack_any regs _ P _ (H3.out.mono ((Below.refl _ _).alloc (Nat.le_refl _) _)) HP.out).mono ?_
  rintro r w5 ⟨_, h5, hb5⟩
  obtain rfl := h5 HOK.out
  rw [nblk_alloc] at hb5
  have hs5 := hb5.size
  rw [nblk_alloc] at hs5
  have hbw5 := hbw4.trans (hb5.mono (by omega))
  clear h5 hb5 hbw4
  go_wp2_with fail
  refine (same_eq _ _ [] _ (bs_nil _) (bs_nil _)).mono ?_
  rintro e w6 ⟨rfl, m6, rfl⟩
  have hbw6 : Below w.heap.size w (w5.drewN m6) := ⟨hbw5.os, hbw5.tape, hbw5.output, hbw5.size, hbw5.block⟩
  generalize w5.drewN m6 = w6 at *
  clear hbw5
  go_wp2_with fail
  refine (num_any _ _).mono ?_
  rintro e w7 ⟨rfl, hw7⟩
  have hw8 := hw7.symm
  clear hw7
  subst hw8
  go_wp2_with fail
  refine (unpacks_any _ l _ (HB.out.mono hbw6) (by omega) (laid_of hg hbw6)).mono ?_
  rintro e w8 ⟨rfl, hb8⟩
  have hs6 := hbw6.size
  have hbw8 := hbw6.trans (hb8.mono (by omega))
  clear hb8
  go_wp2
  go_ret
  exact ⟨rfl, hbw8⟩
set_option maxRecDepth 100000 in
set_option maxHeartbeats 4000000 in
theorem packs_ok (regs : Int) (v : Value) (P : List St) (vb : Value) (l : List Nat) (w : World) (h : Ps .u8 w v P) (hl : P.length ≤ 5000) (hP : ∀ s ∈ P, okInts s) (hb : Bs w vb l) (hlb : l.length ≤ 100000) (hg : globalLaid w) (hok : okPack regs P) :
    Calls Tryd.prog 8 #[.agg #[.int .i64 regs, v], vb] w fun e w' => e = .returned (.bool true) ∧ Below w.heap.size w w' := by
  obtain ⟨i0, hi0, hz0, hz1, hz2⟩ := info_parts Tryd.infoByte
  have hb0 : Below w.heap.size w (w.alloc (.cells #[.int .i64 regs, v] 49)) := (Below.refl _ _).alloc (Nat.le_refl _) _
  have HP := hide hP
  have H := hide h
  have HB := hide hb
  have HOK := hide hok
  have HLT := hide (packTo_lt regs P hok hP P.length (Nat.le_refl _))
  have HLN := hide (packTo_len regs P P.length (Nat.le_refl _))
  have h0 := h.mono hb0
  obtain ⟨ao, c, rfl⟩ := h.slice
  obtain ⟨ab, cb, rfl⟩ : ∃ ab cb, vb = .slice ab l.length cb := by obtain ⟨ao, c, e, _⟩ := hb; exact ⟨ao, c, e⟩
  have hlI : ¬ (5000 : Int) < (P.length : Int) := by omega
  have hlI2 : ¬ (100000 : Int) < (l.length : Int) := by omega
  clear h hP hb hok
  go_enter Tryd.func8, Tryd.ntmps8
  go_wp2_with fail
  refine (spack_any regs _ P _ h0 HP.out).mono ?_
  rintro r w1 ⟨h1, _, hb1⟩
  obtain ⟨v1, rfl, hv1⟩ := h1 HOK.out
  rw [nblk_alloc] at hb1 hv1
  obtain ⟨p0, p1⟩ := box2 hb1 rfl
  have hs1 := hb1.size
  rw [nblk_alloc] at hs1
  have hbw1 := hb0.trans (hb1.mono (by omega))
  have HV1 := hide hv1
  clear h1 hb1 h0 hb0 hv1
  go_wp2_with fail
  refine (tell_nil _).mono ?_
  rintro e w2 ⟨rfl, hb2⟩
  have hs2 := hb2.size
  have q0 := (hb2.cell (block_lt_of_cell p0)).trans p0
  have q1 := (hb2.cell (block_lt_of_cell p1)).trans p1
  have hbw2 := hbw1.trans (hb2.mono (by omega))
  have b12 : Below w1.heap.size w1 w2 := hb2
  clear hb2 p0 p1 hbw1
  go_wp2_with fail
  refine (program_any regs _ P _ (H.out.mono hbw2) hl (fun s hs => (HP.out s hs).1)).mono ?_
  rintro e w3 ⟨v3, rfl, hv3, hb3⟩
  have hs3 := hb3.size
  have hbw3 := hbw2.trans (hb3.mono (by omega))
  have b13 := b12.trans (hb3.mono hs2)
  obtain ⟨a3, c3, rfl⟩ := hv3.slice
  have H3 := hide hv3
  have hbw4 := hbw3.alloc (by omega) (.cells #[.int .i64 regs, .slice a3 P.length c3] 53)
  have b14 := b13.alloc b13.size (.cells #[.int .i64 regs, .slice a3 P.length c3] 53)
  clear hv3 q0 q1 hb3 hbw2 b12 b13
  go_wp2_with fail
  refine (rpack_any regs _ P _ (H3.out.mono ((Below.refl _ _).alloc (Nat.le_refl _) _)) HP.out).mono ?_
  rintro r w5 ⟨h5, _, hb5⟩
  obtain ⟨v5, rfl, hv5⟩ := h5 HOK.out
  rw [nblk_alloc] at hb5
  have hs5 := hb5.size
  rw [nblk_alloc] at hs5
  have hbw5 := hbw4.trans (hb5.mono (by omega))
  have b15 := b14.trans (hb5.mono (by omega))
  have HB5 := hide (owns_bs hv5 HLT.out (by have := HLN.out; omega))
  have HB1 := hide (owns_bs (ownsRow_below HV1.out b15) HLT.out (by have := HLN.out; omega))
  clear h5 hb5 hbw4 b14 hv5
  go_wp2_with fail
  refine (same_eq _ _ _ _ HB1.out HB5.out).mono ?_
  rintro e w6 ⟨rfl, m6, rfl⟩
  have hbw6 : Below w.heap.size w (w5.drewN m6) := ⟨hbw5.os, hbw5.tape, hbw5.output, hbw5.size, hbw5.block⟩
  have b16 : Below w1.heap.size w1 (w5.drewN m6) := ⟨b15.os, b15.tape, b15.output, b15.size, b15.block⟩
  generalize w5.drewN m6 = w6 at *
  clear hbw5 b15 HB1 HB5
  go_wp2_with fail
  refine (num_any _ _).mono ?_
  rintro e w7 ⟨rfl, hw7⟩
  have hw8 := hw7.symm
  clear hw7
  subst hw8
  go_wp2_with fail
  refine (unpacks_any _ l _ (HB.out.mono hbw6) (by omega) (laid_of hg hbw6)).mono ?_
  rintro e w8 ⟨rfl, hb8⟩
  have hs6 := hbw6.size
  have hbw8 := hbw6.trans (hb8.mono (by omega))
  have b18 := b16.trans (hb8.mono b16.size)
  clear hb8 hbw6 b16
  go_wp2_with fail
  refine (unpacks_any _ (packTo regs P P.length) _ (owns_bs (ownsRow_below HV1.out b18) HLT.out (by have := HLN.out; omega)) (by have := HLN.out; omega) (laid_of hg hbw8)).mono ?_
  rintro e w9 ⟨rfl, hb9⟩
  have hs8 := hbw8.size
  have hbw9 := hbw8.trans (hb9.mono (by omega))
  have b19 := b18.trans (hb9.mono b18.size)
  have ho9 := ownsRow_below HV1.out b19
  have hs9 := hbw9.size
  have HO9 := hide ho9
  have HL9 := hide ho9.lt
  have HB9 := hide (HB.out.mono hbw9)
  clear hb9 hbw8 b18 ho9
  have hc9 := b19.size
  cases hab : ab with
  | none =>
    subst hab
    have hl0 : l = [] := by
      obtain ⟨ao', c', e, _, _, _, h4⟩ := HB9.out
      simp at e
      rcases l with _ | ⟨x, t⟩
      · rfl
      · obtain ⟨b', off', e2, _⟩ := h4 (by simp)
        rw [← e.1] at e2
        simp at e2
    subst hl0
    obtain ⟨g, cap, rfl, hcap, hcm⟩ : ∃ g cap, v1 = .slice (some ⟨g, 0, none⟩) (3 + P.length * 4) cap ∧ 3 + P.length * 4 ≤ cap ∧ cap ≤ maxLen := by
      rcases HO9.out.2 with ⟨_, h0⟩ | ⟨g, cap, cur, hv, _, _, h4, h5, _⟩
      · omega
      · exact ⟨g, cap, hv, h4, h5⟩
    unfold maxLen at hcm
    have HBZ := hide (owns_bs HO9.out HLT.out (by have := HLN.out; omega))
    go_wp2_with fail
    refine (unpacks_any _ (packTo regs P P.length) _ HBZ.out (by have := HLN.out; omega) (laid_of hg hbw9)).mono ?_
    rintro e w11 ⟨rfl, hb11⟩
    have hbw11 := hbw9.trans (hb11.mono (by omega))
    clear hb11
    go_wp2
    go_ret
    exact ⟨rfl, hbw11⟩
  | some ad =>
    subst hab
    have hnews : ∀ j u, (bv l)[j]? = some u → w9.cell? (ad.add j) = some u := by
      intro j u hu
      obtain ⟨ao', c', e, _, _, _, h4⟩ := HB9.out
      have hj : j < l.length := by
        obtain ⟨q, _⟩ := List.getElem?_eq_some_iff.1 hu
        simpa [bv] using q
      obtain ⟨b', off', e2, hc⟩ := h4 (by intro e; rw [e] at hj; simp at hj)
      simp at e
      rw [← e.1] at e2
      simp at e2
      subst e2
      have e3 : (⟨b', off', none⟩ : Addr).add j = ⟨b', off' + j, none⟩ := by unfold Addr.add; split <;> simp_all
      rw [e3, hc j hj, ← hu]
      simp [bv, hj]
    have HNW := hide hnews
    clear hnews
    go_wp2_with (at_builtin; refine wpList_append_own _ rfl (.tmp 64) (.tmp 65) 44 rfl (w.heap.size + 1) 5 i0 (.int .u8 0) 1 1 Tryd.underlying44 hi0 hz0 hz1 hz2 rfl (by decide) v1 (3 + P.length * 4) (bv (packTo regs P P.length)) rfl HO9.out ad l.length cb (bv l) rfl (by simp [bv]) HNW.out (by intro q hq; simp [bv] at hq; obtain ⟨x, _, rfl⟩ := hq; rfl) (by unfold maxLen; omega) (by omega) (by omega) ?_; intro v' w10 hown' hgrow hnn)
    have hb10 : Below w.heap.size w w10 := hbw9.grown hgrow (by omega) (fun q hq => by have := (HL9.out q hq).1; omega)
    rw [← bv_append] at hown'
    have HBZ := hide (owns_bs hown' (by
      intro x hx
      rcases List.mem_append.1 hx with q | q
      · exact HLT.out x q
      · exact HB.out.lt x q) (by rw [List.length_append]; have := HLN.out; omega))
    clear hown' hgrow hnn
    refine (unpacks_any _ _ _ HBZ.out (by rw [List.length_append]; have := HLN.out; omega) (laid_of hg hb10)).mono ?_
    rintro e w11 ⟨rfl, hb11⟩
    have hs10 := hb10.size
    have hbw11 := hb10.trans (hb11.mono (by omega))
    clear hb11
    go_wp2
    go_ret
    exact ⟨rfl, hbw11⟩
end Go.Proofs.YthhommjlomphdaaDoor
