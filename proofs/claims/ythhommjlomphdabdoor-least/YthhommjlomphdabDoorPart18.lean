import Derived.Test.YthhommjlomphdabDoorPart17
import Derived.Test.YthhommjlomphdabDoorPart08
import Derived.Test.YthhommjlomphdabDoorCompile
import Derived.Test.YthhommjlomphdabDoorPart15
/-
  How few shards do: the document's.
-/
namespace Go.Proofs.YthhommjlomphdabDoor
open Go.RowKit Go.Deep Gf

theorem Rl.next {w0 w w' : World} {v : Value} {K : List (List Nat)} (h : Rl w0 w v K) (hb : Below w.heap.size w w') : Rl w0 w' v K := by
  obtain ⟨xs, hlen, hB, hown, hb0⟩ := h
  exact ⟨xs, hlen, hB, ownsRow_below hown hb, hb0.trans (hb.mono hb0.size)⟩
theorem has_bit (s k : Nat) (hs : s < 18446744073709551616) (hk : k ≤ 64) (w : World) :
    Calls Tryd.prog 20 #[.int .u64 s, .int .i64 k] w fun e w' => e = .returned (.bool (s.testBit k)) ∧ w' = w := by
  refine (has_any s k hs hk w).mono ?_
  rintro e w' ⟨rfl, rfl⟩
  refine ⟨?_, rfl⟩
  rw [Nat.testBit_eq_decide_div_mod_eq]
  generalize s / 2 ^ k % 2 = q
  by_cases h : q = 1
  · subst h; rfl
  · have : ¬ ((q : Int)) = 1 := by omega
    simp [h, this]
def CntR (s : Nat) (sv nv : Value) : Prop := ∃ j q c : Nat, j ≤ 16 ∧ s / 2 ^ j = q ∧ cp (fun i => s.testBit i) j = c ∧ sv = .int .u64 (q : Int) ∧ nv = .int .i64 (c : Int)
set_option maxRecDepth 100000 in
theorem count_any (s : Nat) (hs : s < 65536) (w : World) :
    Calls Tryd.prog 16 #[.int .u64 s] w fun e w' => e = .returned (.int .i64 (popN s : Int)) ∧ w' = w := by
  go_enter Tryd.func16, Tryd.ntmps16
  go_wp2
  go_loopw [0, 3] (fun sv nv wr => CntR s sv nv ∧ wr = w) (fun sv _ _ => (intOf sv).toNat)
  case atStart => exact ⟨⟨0, s, 0, by decide, by simp, rfl, rfl, rfl⟩, rfl⟩
  case round =>
    obtain ⟨⟨j, q, c, hj, hq, hc, rfl, rfl⟩, rfl⟩ := hrel
    have hqs : q ≤ s := by rw [← hq]; exact Nat.div_le_self _ _
    have hcl : c ≤ 16 := by rw [← hc]; exact Nat.le_trans (cp_le _ _) hj
    by_cases h0 : q = 0
    · have HE := hide (pop_end hj (hq.trans h0))
      have HC := hide hc
      subst h0
      clear hq hc
      go_wp2
      go_ret
      exact ⟨by rw [← HE.out, HC.out]; rfl, rfl⟩
    · have hj16 : j < 16 := by
        rcases Nat.lt_or_ge j 16 with h | h
        · exact h
        · exfalso
          have : j = 16 := by omega
          subst this
          rw [Nat.div_eq_of_lt hs] at hq
          omega
      have hpos : (0 : Int) < (q : Int) := by omega
      have hbit : bits .and .u64 (q : Int) 1 = ((q % 2 : Nat) : Int) := by
        have := u64_and_nat q 1 (by omega) (by decide)
        rw [and1] at this
        exact this
      have h2 : q % 2 < 2 := Nat.mod_lt _ (by decide)
      have HN := hide (And.intro (show s / 2 ^ (j + 1) = q / 2 by rw [Nat.pow_succ, ← Nat.div_div_eq_div_mul, hq]) (show cp (fun i => s.testBit i) (j + 1) = c + q % 2 by rw [pop_step, hc, hq]))
      clear hq hc
      go_wp2
      go_roundw
      case rel => exact ⟨⟨j + 1, q / 2, c + q % 2, by omega, HN.out.1, HN.out.2, by go_num, by go_num⟩, by first | rfl | trivial⟩
      case measure => simp [intOf]; omega
def SpR1 (w : World) (M : List (List Nat)) (s : Nat) (v i : Value) (wr : World) : Prop := ∃ k : Nat, k ≤ M.length ∧ i = .int .i64 k ∧ Rl w wr v (selTo M s k)
def SpR2 (w : World) (M A : List (List Nat)) (s : Nat) (v i : Value) (wr : World) : Prop := ∃ k : Nat, k ≤ M.length ∧ i = .int .i64 k ∧ Rl w wr v (A ++ selTo M s k)
set_option maxRecDepth 100000 in
set_option maxHeartbeats 4000000 in
theorem spans_any (vm : Value) (M : List (List Nat)) (gone s : Nat) (w : World) (hM : Rd w vm M) (hm : M.length ≤ 16) (hm0 : 0 < M.length) (hg : gone < 18446744073709551616) (hs : s < 18446744073709551616) (hf1 : FitG (selTo M s M.length)) (hf2 : FitG (selTo M s M.length ++ selTo M gone M.length))
    (hmade : ∀ a b, RankIs (selTo M s M.length) a → RankIs (selTo M s M.length ++ selTo M gone M.length) b → (a = b ↔ Made M M.length s gone)) :
    Calls Tryd.prog 17 #[vm, .int .u64 gone, .int .u64 s] w fun e w' => ∃ b : Bool, e = .returned (.bool b) ∧ (b = true ↔ Made M M.length s gone) ∧ Below w.heap.size w w' := by
  obtain ⟨i0, hi0, hz0, hz1, hz2⟩ := info_parts Tryd.infoBytes
  have HF := hide (And.intro hf1 (And.intro hf2 hmade))
  clear hf1 hf2 hmade
  rcases hM.cases with ⟨rfl, ao, c, rfl⟩ | ⟨b, off, c, rfl, _, hc⟩
  · exact absurd hm0 (by simp)
  clear hM hm0
  go_enter Tryd.func17, Tryd.ntmps17
  go_wp2
  go_loopw [7, 8] (fun v i wr => SpR1 w M s v i wr) (fun _ i _ => M.length - (intOf i).toNat)
  case atStart => exact ⟨0, Nat.zero_le _, rfl, Rl.nil _⟩
  case round =>
    rename World => wo
    obtain ⟨k, hk, rfl, hR⟩ := hrel
    by_cases hlt : k < M.length
    · obtain ⟨u, hu, hB⟩ := hc k hlt
      have hu' : wo.cell? ⟨b, off + k, none⟩ = some u := by rw [hR.choose_spec.2.2.2.cell (block_lt_of_cell hu)]; exact hu
      obtain ⟨au, cu, rfl, _⟩ := id hB
      have HK := hide (sel_len M s k)
      have HC := hide hc
      have HB := hide hB
      have HU := hide hu
      have hget : M.getD k [] = M[k] := by simp [hlt]
      have HGE := hide hget
      clear hc hB hu hget
      cases hz : s.testBit k
      · have HKO := hide (sel_out M s k hz)
        have HZ := hide hz
        clear hz
        have HR := hide hR
        clear hR
        go_wp2_with (go_at_call 20; refine (has_bit s k hs (by omega) _).mono ?_; rintro e w' ⟨rfl, hw⟩; have hw2 := hw.symm; clear hw; subst hw2; rw [HZ.out])
        go_roundw
        case rel => exact ⟨k + 1, by omega, by go_num, by rw [HKO.out]; exact HR.out⟩
        case measure => simp [intOf]; omega
      · have HKI := hide (sel_in M s k hz)
        have HZ := hide hz
        clear hz
        obtain ⟨xs, hlen, hX, hown, hbr⟩ := hR
        have HX := hide hX
        have HLN := hide hlen
        have hxl : xs.length ≤ 64 := by rw [hlen]; exact Nat.le_trans HK.out (by omega)
        have hsz := hbr.size
        clear hX hlen
        go_wp2_with (first
          | (go_at_call 20; refine (has_bit s k hs (by omega) _).mono ?_; rintro e w' ⟨rfl, hw⟩; have hw2 := hw.symm; clear hw; subst hw2; rw [HZ.out])
          | (at_builtin; refine wpList_append_own _ rfl (.tmp 24) (.tmp 29) 51 rfl w.heap.size 59 i0 (.slice none 0 0) 1 24 Tryd.underlying51 hi0 hz0 hz1 hz2 rfl (by decide) _ xs.length xs rfl (ownsRow_below hown ((Below.refl _ _).alloc (Nat.le_refl _) _)) ⟨wo.heap.size, 0, none⟩ 1 1 [.slice au (M[k]).length cu] rfl rfl (one_new _ _ rfl _ _) (by intro q hq; simp at hq; rw [hq]; exact HB.out.one) (by unfold maxLen; omega) (by omega) (by rw [nblk_alloc]; omega) ?_; intro v' w2 hown' hgrow hnn))
        have hR2 := Rl.push HLN.out HX.out hown hbr rfl HB.out hgrow hown'
        rw [← HGE.out, ← HKI.out] at hR2
        clear hown hown' hgrow hnn hbr hu'
        go_wp2
        go_roundw
        case rel => exact ⟨k + 1, by omega, by go_num, hR2⟩
        case measure => simp [intOf]; omega
    · have hkk : k = M.length := by omega
      rw [hkk] at hR
      have HR := hide hR
      have HR2 := hide (hR.rd (Nat.le_trans (sel_len _ _ _) (by omega)))
      have HC := hide hc
      clear hR hc
      go_wp2_with fail
      refine (rrank_any _ _ _ HR2.out).mono ?_
      rintro e w3 ⟨h1, _, hb3⟩
      obtain ⟨r, hr, rfl, hrk⟩ := h1 HF.out.1
      have HRK := hide hrk
      have hR3 := HR.out.next hb3
      clear h1 hrk hb3 HR HR2
      go_wp2
      go_loopw [7, 11] (fun v i wr => SpR2 w M (selTo M s M.length) gone v i wr) (fun _ i _ => M.length - (intOf i).toNat)
      case atStart => exact ⟨0, Nat.zero_le _, rfl, by rw [sel_zero, List.append_nil]; exact hR3⟩
      case round =>
        rename World => wp
        obtain ⟨k, hk, rfl, hR⟩ := hrel
        have hc := HC.out
        by_cases hlt : k < M.length
        · obtain ⟨u, hu, hB⟩ := hc k hlt
          have hu' : wp.cell? ⟨b, off + k, none⟩ = some u := by rw [hR.choose_spec.2.2.2.cell (block_lt_of_cell hu)]; exact hu
          obtain ⟨au, cu, rfl, _⟩ := id hB
          have HK := hide (show (selTo M s M.length ++ selTo M gone k).length ≤ 32 by rw [List.length_append]; have := sel_len M s M.length; have := sel_len M gone k; omega)
          have HB := hide hB
          have HU := hide hu
          have hget : M.getD k [] = M[k] := by simp [hlt]
          have HGE := hide hget
          clear hc hB hu hget
          cases hz : gone.testBit k
          · have HKO := hide (sel_out M gone k hz)
            have HZ := hide hz
            clear hz
            have HR := hide hR
            clear hR hR3
            go_wp2_with (go_at_call 20; refine (has_bit gone k hg (by omega) _).mono ?_; rintro e w' ⟨rfl, hw⟩; have hw2 := hw.symm; clear hw; subst hw2; rw [HZ.out])
            go_roundw
            case rel => exact ⟨k + 1, by omega, by go_num, by rw [HKO.out]; exact HR.out⟩
            case measure => simp [intOf]; omega
          · have HKI := hide (sel_in M gone k hz)
            have HZ := hide hz
            clear hz hR3
            obtain ⟨xs, hlen, hX, hown, hbr⟩ := hR
            have HX := hide hX
            have HLN := hide hlen
            have hxl : xs.length ≤ 64 := by rw [hlen]; exact Nat.le_trans HK.out (by omega)
            have hsz := hbr.size
            clear hX hlen
            go_wp2_with (first
              | (go_at_call 20; refine (has_bit gone k hg (by omega) _).mono ?_; rintro e w' ⟨rfl, hw⟩; have hw2 := hw.symm; clear hw; subst hw2; rw [HZ.out])
              | (at_builtin; refine wpList_append_own _ rfl (.tmp 43) (.tmp 48) 51 rfl w.heap.size 59 i0 (.slice none 0 0) 1 24 Tryd.underlying51 hi0 hz0 hz1 hz2 rfl (by decide) _ xs.length xs rfl (ownsRow_below hown ((Below.refl _ _).alloc (Nat.le_refl _) _)) ⟨wp.heap.size, 0, none⟩ 1 1 [.slice au (M[k]).length cu] rfl rfl (one_new _ _ rfl _ _) (by intro q hq; simp at hq; rw [hq]; exact HB.out.one) (by unfold maxLen; omega) (by omega) (by rw [nblk_alloc]; omega) ?_; intro v' w2 hown' hgrow hnn))
            have hR2 := Rl.push HLN.out HX.out hown hbr rfl HB.out hgrow hown'
            rw [← HGE.out, List.append_assoc, ← HKI.out] at hR2
            clear hown hown' hgrow hnn hbr hu'
            go_wp2
            go_roundw
            case rel => exact ⟨k + 1, by omega, by go_num, hR2⟩
            case measure => simp [intOf]; omega
        · have hkk : k = M.length := by omega
          rw [hkk] at hR
          have HR := hide hR
          have HR2 := hide (hR.rd (show (selTo M s M.length ++ selTo M gone M.length).length ≤ 100000 by rw [List.length_append]; have := sel_len M s M.length; have := sel_len M gone M.length; omega))
          clear hR hc hR3
          go_wp2_with fail
          refine (rrank_any _ _ _ HR2.out).mono ?_
          rintro e w4 ⟨h1, _, hb4⟩
          obtain ⟨r2, hr2, rfl, hrk⟩ := h1 HF.out.2.1
          have hm2 := HF.out.2.2 r r2 HRK.out hrk
          have HM2 := hide hm2
          have HB4 := hide hb4
          clear h1 hrk hb4 hm2
          go_wp2
          go_ret
          have hb2 := HR.out.choose_spec.2.2.2
          have hb4 := HB4.out
          have hs2 := hb2.size
          refine ⟨((r : Int) == (r2 : Int)), rfl, ?_, hb2.trans (hb4.mono (by omega))⟩
          rw [← HM2.out]
          simp
          omega
def LsR (w : World) (q : Nat) (kv : Value) (wr : World) : Prop := ∃ k : Nat, k ≤ q ∧ kv = .int .i64 (k : Int) ∧ Below w.heap.size w wr
def LsR2 (w : World) (k q n S : Nat) (sv : Value) (wr : World) : Prop := ∃ s : Nat, s ≤ pw n ∧ sv = .int .u64 (s : Int) ∧ (k = q → s ≤ S) ∧ Below w.heap.size w wr
set_option maxRecDepth 100000 in
set_option maxHeartbeats 4000000 in
theorem rleast_any (D L G lost q S : Nat) (hr : rightB D L G = true) (hD1 : 1 ≤ D) (hD : D ≤ 12) (hL : 1 ≤ L) (hL4 : L ≤ 4) (hG : G ≤ 4) (hdiv : D % L = 0) (h16 : D + L + G ≤ 16) (hl : lost < 18446744073709551616) (hq : q ≤ 16)
    (hup : S < 2 ^ (D + L + G) ∧ S &&& goneN (D + L + G) lost = 0 ∧ popN S = q ∧ Made (matL D L G) (D + L + G) S (goneN (D + L + G) lost)) (hlow : ∀ s, s &&& goneN (D + L + G) lost = 0 → Made (matL D L G) (D + L + G) s (goneN (D + L + G) lost) → q ≤ popN s) (w : World) :
    Calls Tryd.prog 8 #[.agg #[.int .i64 D, .int .i64 L, .int .i64 G], .int .u64 lost, .int .i64 q] w fun e w' => e = .returned (.int .i64 q) ∧ Below w.heap.size w w' := by
  go_enter Tryd.func8, Tryd.ntmps8
  go_wp2_with fail
  refine (rmatrix_right D L G hr hD hL hL4 hG hdiv _).mono ?_
  rintro e w1 ⟨v, T, rfl, hT, hH, hb1⟩
  rw [nblk_alloc] at hT hb1
  have hs1 := hb1.size
  rw [nblk_alloc] at hs1
  have hrd := hT.rdH hH (mat_row D L G) (by rw [mat_len]; omega)
  have hbw1 : Below w.heap.size w w1 := ((Below.refl _ _).alloc (Nat.le_refl _) _).trans (hb1.mono (by omega))
  have HBW := hide hbw1
  have hml := mat_len D L G
  have HFT := hide (fun s => sel_fit D L G s (goneN (D + L + G) lost) hD hL4 hG)
  have HMD := hide (fun s a b => made_rank (M := matL D L G) (n := D + L + G) (s := s) (gone := goneN (D + L + G) lost) (a := a) (b := b) (mat_byte D L G hD hG) (fun l hl => by rw [mat_row D L G l hl]; omega) (by rw [hml]; exact Nat.le_refl _))
  have HF := hide (And.intro hup hlow)
  have hm16 : (matL D L G).length ≤ 16 := by omega
  have hm0 : 0 < (matL D L G).length := by omega
  have hsz1 : w.heap.size ≤ w1.heap.size := by omega
  clear hup hlow hT hH hb1 hbw1 hs1
  rw [← hml] at HFT HMD HF
  clear hml hr hdiv h16
  generalize matL D L G = M at *
  have hsl : IntKind.u64.wrap ((2 : Int) ^ M.length) = (pw M.length : Int) := shl_u64 M.length (by omega)
  have hpk := pw_key M.length hm16
  have hgk := gone_key lost M.length hl hm16
  have hgl := goneN_lt lost hm16
  have hn64 : (M.length : Int) < 64 := by omega
  have hp16 : pw M.length ≤ 65536 := pow16 hm16
  generalize goneN M.length lost = g at *
  rcases hrd.cases with ⟨rfl, ao, c, rfl⟩ | ⟨b, off, c, rfl, _, _⟩
  · exact absurd hm0 (by simp)
  have HRD := hide hrd
  clear hrd
  go_wp2
  go_loopw [10] (fun kv wr => LsR w1 q kv wr) (fun kv _ => q + 1 - (intOf kv).toNat)
  case atStart => exact ⟨0, Nat.zero_le _, rfl, Below.refl _ _⟩
  case round =>
    rename World => wo
    obtain ⟨k, hk, rfl, hbo⟩ := hrel
    have hk' : (k : Int) ≤ (q : Int) := by omega
    have hso := hbo.size
    go_wp2
    go_loopw [11] (fun sv wr => LsR2 w1 k q M.length S sv wr) (fun sv _ => pw M.length - (intOf sv).toNat)
    case atStart => exact ⟨0, Nat.zero_le _, rfl, fun _ => Nat.zero_le _, hbo⟩
    case round =>
      rename World => wi
      obtain ⟨s, hs, rfl, hsS, hbi⟩ := hrel
      have hsi := hbi.size
      by_cases hlt : s < pw M.length
      · have hlt' : (s : Int) < (pw M.length : Int) := by omega
        have hs16 : s < 65536 := by omega
        by_cases hc : popN s = k
        · have HCC := hide hc
          have hand := and_u64 s g (by omega) (by omega)
          by_cases hz : s &&& g = 0
          · have HZ := hide hz
            rw [hz] at hand
            clear hz
            go_wp2_with (go_at_call 16; refine (count_any s hs16 _).mono ?_; rintro e w' ⟨rfl, hw⟩; have hw2 := hw.symm; clear hw; subst hw2; rw [HCC.out])
            refine (spans_any _ M g s _ (HRD.out.mono hbi) hm16 hm0 (by omega) (by omega) (HFT.out s).1 (HFT.out s).2 (fun a b => HMD.out s a b)).mono ?_
            rintro e w5 ⟨r, rfl, hr5, hb5⟩
            have hb15 := hbi.trans (hb5.mono hsi)
            cases r
            · have hne : s ≠ S := fun e => by subst e; exact absurd (hr5.2 HF.out.1.2.2.2) (by decide)
              have hsS' : k = q → s + 1 ≤ S := fun e => by have := hsS e; omega
              clear hr5 hb5
              go_wp2
              go_roundw
              case rel => exact ⟨s + 1, by omega, by go_num, hsS', hb15⟩
              case measure => simp [intOf]; omega
            · have hqk : q = k := by
                have := HF.out.2 s HZ.out (hr5.1 rfl)
                omega
              clear hr5 hb5
              go_wp2
              go_ret
              exact ⟨by rw [hqk]; rfl, HBW.out.trans (hb15.mono hsz1)⟩
          · have hne : s ≠ S := fun e => by subst e; exact hz HF.out.1.2.1
            have hsS' : k = q → s + 1 ≤ S := fun e => by have := hsS e; omega
            obtain ⟨z, hzz⟩ : ∃ z, s &&& g = z := ⟨_, rfl⟩
            rw [hzz] at hand hz
            have hz' : (z : Int) ≠ 0 := by omega
            clear hzz
            go_wp2_with (go_at_call 16; refine (count_any s hs16 _).mono ?_; rintro e w' ⟨rfl, hw⟩; have hw2 := hw.symm; clear hw; subst hw2; rw [HCC.out])
            go_roundw
            case rel => exact ⟨s + 1, by omega, by go_num, hsS', hbi⟩
            case measure => simp [intOf]; omega
        · have hsS' : k = q → s + 1 ≤ S := fun e => by
            have := hsS e
            have hne : s ≠ S := fun e2 => by subst e2; exact hc (HF.out.1.2.2.1.trans e.symm)
            omega
          have hc' : ((popN s : Nat) : Int) ≠ (k : Int) := by omega
          go_wp2_with (go_at_call 16; refine (count_any s hs16 _).mono ?_; rintro e w' ⟨rfl, hw⟩; have hw2 := hw.symm; clear hw; subst hw2)
          go_roundw
          case rel => exact ⟨s + 1, by omega, by go_num, hsS', hbi⟩
          case measure => simp [intOf]; omega
      · have hlt' : ¬ (s : Int) < (pw M.length : Int) := by omega
        have hkq : k < q := by
          rcases Nat.lt_or_ge k q with h | h
          · exact h
          · have h1 := hsS (by omega)
            have h2 : S < pw M.length := HF.out.1.1
            omega
        go_wp2
        go_roundw
        case rel => exact ⟨k + 1, by omega, by go_num, hbi⟩
        case measure => simp [intOf]; omega
end Go.Proofs.YthhommjlomphdabDoor
/-
  Check: the document's.
-/
namespace Go.Proofs.YthhommjlomphdabDoor
open Go.RowKit Go.Deep

def RcPost (regs : Int) (P : List St) (shards : Int) (w : World) (r : Ending) (w' : World) : Prop := (okProg regs P shards → r = .returned (.int .i64 0)) ∧ (¬ okProg regs P shards → r = .returned (.int .i64 4)) ∧ Below w.heap.size w w'
end Go.Proofs.YthhommjlomphdabDoor
