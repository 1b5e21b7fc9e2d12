/-
  The program's rows side by side: how they are worked off one another.
-/
import Derived.Test.YthhommjlomphdaaRankSteps
import Derived.Test.YthhommjlomphdaaAddTimes
import Derived.Test.YthhommjlomphdaaRefRank
namespace Go.Proofs.Ythhommjlomphdaa
open Go.RowKit Go.Deep Gf

def FtPost (D : List (List Nat)) (w : World) (e : Ending) (w' : World) : Prop := (FitG D → e = .returned (.bool true)) ∧ (¬ FitG D → e = .returned (.bool false)) ∧ w' = w
def FtR (D : List (List Nat)) (i : Value) : Prop := ∃ k : Nat, k ≤ D.length ∧ i = .int .i64 (k : Nat) ∧ ∀ j (hj : j < D.length), j < k → (D[j]).length ≤ 64
set_option maxRecDepth 100000 in
set_option maxHeartbeats 4000000 in
theorem fits_any (vd : Value) (D : List (List Nat)) (w : World) (hd : Rd w vd D) :
    Calls Try.prog 31 #[vd] w fun e w' => FtPost D w e w' := by
  by_cases h64 : 64 < D.length
  · obtain ⟨ao, c, rfl, hl, _⟩ := hd
    go_enter Try.func31, Try.ntmps31
    go_wp2
    go_ret
    exact ⟨fun h => absurd h.1 (by omega), fun _ => rfl, rfl⟩
  rcases hd.cases with ⟨rfl, ao, c, rfl⟩ | ⟨b, off, c, rfl, hl, hc⟩
  · go_enter Try.func31, Try.ntmps31
    go_wp2
    refine wp_loop_rounds 1 ?_
    rw [rounds_succ]
    go_wp2
    go_ret
    exact ⟨fun _ => rfl, fun h => absurd ⟨by simp, fun i hi => by simp at hi⟩ h, rfl⟩
  have HC := hide hc
  clear hc
  go_enter Try.func31, Try.ntmps31
  go_wp2
  go_loop [10] (fun i => FtR D i) (fun i => D.length - (intOf i).toNat)
  case atStart => exact ⟨0, Nat.zero_le _, rfl, fun j _ h => absurd h (by omega)⟩
  case round =>
    obtain ⟨k, hk, rfl, hok⟩ := hrel
    by_cases hlt : k < D.length
    · obtain ⟨u, hu, hBs⟩ := HC.out k hlt
      obtain ⟨fo, fc, rfl, q1, q2, q3, q4⟩ := hBs
      by_cases h1 : (D[k]).length ≤ 64
      · have HOK : Hid (∀ j (hj : j < D.length), j < k + 1 → (D[j]).length ≤ 64) := by
          intro j hj hjk
          by_cases e : j = k
          · subst e; exact h1
          · exact hok j hj (by omega)
        clear hok q1 q2 q3 q4
        generalize (D[k]).length = lk at *
        go_wp2
        go_round
        case rel => exact ⟨k + 1, by omega, by go_num, HOK.out⟩
        case measure => simp [intOf]; omega
      · have HN : Hid (¬ FitG D) := fun h => h1 (h.2 k hlt)
        have hlk : (D[k]).length ≤ 140737488355328 := by omega
        clear hok q1 q2 q3 q4
        generalize (D[k]).length = lk at *
        go_wp2
        go_ret
        exact ⟨fun h => absurd h HN.out, fun _ => rfl, rfl⟩
    · have HF : Hid (FitG D) := ⟨by omega, fun i hi => hok i hi (by omega)⟩
      clear hok
      go_wp2
      go_ret
      exact ⟨fun _ => rfl, fun h => absurd HF.out h, rfl⟩
/-- column c is worked off row top in the rows from top + 1 to k - 1; iv: the inverse of row top's number there -/
def wk (G : Nat → Nat) (top c iv k x : Nat) : Nat := if top < x / 64 ∧ x / 64 < k ∧ c ≤ x % 64 then G x ^^^ gm (gm (G (x / 64 * 64 + c)) iv) (G (top * 64 + x % 64)) else G x
theorem wk_start (G : Nat → Nat) (top c iv : Nat) : wk G top c iv (top + 1) = G := by
  funext x; unfold wk; rw [if_neg (by omega)]
theorem wk_lt {G : Nat → Nat} (h : ∀ x, G x < 256) {iv : Nat} (top c k x : Nat) : wk G top c iv k x < 256 := by
  unfold wk
  split
  · exact xlt (h x) (gm_lt _ (gm_lt _ (h _)))
  · exact h x
theorem wk_top (G : Nat → Nat) (top c iv k j : Nat) (hj : j < 64) : wk G top c iv k (top * 64 + j) = G (top * 64 + j) := by
  unfold wk; rw [if_neg (by omega)]
theorem wk_next (G : Nat → Nat) (top c iv k j : Nat) (hj : j < 64) : wk G top c iv k (k * 64 + j) = G (k * 64 + j) := by
  unfold wk; rw [if_neg (by omega)]
theorem wk_step (G : Nat → Nat) (top c iv k : Nat) (ht : top < k) (hc : c < 64) : addTo (wk G top c iv k) (fun i => G (top * 64 + c + i)) (gm (G (k * 64 + c)) iv) (k * 64 + c) (64 - c) = wk G top c iv (k + 1) := by
  funext x
  unfold addTo
  by_cases h : k * 64 + c ≤ x ∧ x < k * 64 + c + (64 - c)
  · have e1 : x / 64 = k := by omega
    have e2 : top * 64 + c + (x - (k * 64 + c)) = top * 64 + x % 64 := by omega
    rw [if_pos h]
    unfold wk
    rw [if_neg (by omega), if_pos (by omega), e1]
    show _ ^^^ gm _ (G (top * 64 + c + (x - (k * 64 + c)))) = _
    rw [e2]
  · rw [if_neg h]
    unfold wk
    by_cases h2 : top < x / 64 ∧ x / 64 < k ∧ c ≤ x % 64
    · rw [if_pos h2, if_pos (by omega)]
    · rw [if_neg h2, if_neg (by omega)]
theorem grid_slice (w : World) (b o c : Nat) (hc : c < 64) : (Instr.sliceAt 48 (.pointer (some ⟨b, o, none⟩)) (some (.int .i64 (c : Int))) none none).run Try.prog w = .ok (.slice (some ⟨b, o + c, none⟩) (64 - c) (64 - c)) w := by
  have hl : Try.prog.arrayLen 48 = 64 := by kernel_rfl
  have hu : Try.prog.underlying 48 = some (.array (Try.prog.arrayLen 48) (Try.prog.elem 48)) := by kernel_rfl
  have hs : ∀ w, (sizeOf (Try.prog.elem 48)).run Try.prog w = .ok 1 w := by
    have he : Try.prog.elem 48 = 5 := by kernel_rfl
    rw [he]
    intro w
    go_simp
  rw [run_sliceAt_array_l w 48 _ hu .i64 (c : Int) (by omega) (by rw [hl]; omega), hs, hl]
  simp [slicedAt, Result.andThen]
  rw [if_neg (by omega)]
  simp [Addr.add]
def WkR (w : World) (b t top c iv n : Nat) (G : Nat → Nat) (i : Value) (wr : World) : Prop :=
  ∃ k : Nat, top < k ∧ k ≤ max n (top + 1) ∧ i = .int .i64 (k : Nat) ∧ wr.rowIs b t 4096 (tv (wk G top c iv k)) ∧ w.grownBy wr (some b)
set_option maxRecDepth 100000 in
set_option maxHeartbeats 4000000 in
theorem workOff_any (b top c n : Nat) (G : Nat → Nat) (w : World) (hG : ∀ x, G x < 256) (hr : w.rowIs b 50 4096 (tv G)) (ht : top < 64) (hc : c < 64) (hn : n ≤ 64) :
    Calls Try.prog 33 #[.pointer (some ⟨b, 0, none⟩), .int .i64 top, .int .i64 c, .int .i64 n] w fun e w' => e = .returned (.tuple #[]) ∧ w'.rowIs b 50 4096 (tv (wk G top c (gi (G (top * 64 + c))) (max n (top + 1)))) ∧ w.grownBy w' (some b) := by
  have hc1 : w.cell? ⟨b, top * 64 + c, none⟩ = some (.int .u8 ((G (top * 64 + c) : Nat) : Int)) := hr.cell (by omega)
  have hy := hG (top * 64 + c)
  generalize hyy : G (top * 64 + c) = y at *
  go_enter Try.func33, Try.ntmps33
  go_wp2_with (go_at_call 23; refine (inv_any y hy _).mono ?_; rintro e wv ⟨rfl, rfl⟩)
  have hs0 : wv.rowIs b 50 4096 (tv (wk G top c (gi y) (top + 1))) := by rw [wk_start]; exact hr
  go_loopw [9] (fun i wr => WkR wv b 50 top c (gi y) n G i wr) (fun i _ => n - (intOf i).toNat)
  case atStart => exact ⟨top + 1, by omega, by omega, by go_num, hs0, World.grownBy.refl _ _⟩
  case round =>
    clear hs0 hr hc1
    rename World => wo
    obtain ⟨k, htk, hkn, rfl, hrk, hgk⟩ := hrel
    by_cases hlt : k < n
    · have hck : wo.cell? ⟨b, k * 64 + c, none⟩ = some (.int .u8 ((wk G top c (gi y) k (k * 64 + c) : Nat) : Int)) := hrk.cell (by omega)
      rw [wk_next _ _ _ _ _ _ hc] at hck
      have hx := hG (k * 64 + c)
      have hfc : ∀ i, i < 64 - c → wo.cell? ⟨b, top * 64 + c + i, none⟩ = some (.int .u8 ((G (top * 64 + c + i) : Nat) : Int)) := by
        intro i hi
        have h1 : wo.cell? ⟨b, top * 64 + c + i, none⟩ = some (.int .u8 ((wk G top c (gi y) k (top * 64 + c + i) : Nat) : Int)) := hrk.cell (by omega)
        rw [Nat.add_assoc, wk_top _ _ _ _ _ _ (by omega), ← Nat.add_assoc] at h1
        exact h1
      have hst := wk_step G top c (gi y) k htk hc
      have hfl : gm (G (k * 64 + c)) (gi y) < 256 := gm_lt _ hx
      have HFC := hide hfc
      have HST := hide hst
      clear hfc hst
      generalize G (k * 64 + c) = x at *
      have hsl1 := fun w => grid_slice w b (k * 64) c hc
      have hsl2 := fun w => grid_slice w b (top * 64) c hc
      go_wp2
      go_region_with (first
        | (go_at_call 22; refine (mul_any x (gi y) hx (gi_lt hy) _).mono ?_; rintro e w' ⟨rfl, rfl⟩)
        | (go_at_call 37; refine (addTimes_some b 50 4096 (k * 64 + c) (64 - c) (64 - c) b (top * 64 + c) (64 - c) (gm x (gi y)) (wk G top c (gi y) k) (fun i => G (top * 64 + c + i)) _ hfl (by exact hrk) (wk_lt hG top c k) (fun j => hG _) (by omega) (by omega) (by exact HFC.out) (.inr (.inl (by omega)))).mono ?_; rintro e w' ⟨rfl, hr2, hg2⟩))
      all_goals
        have hr3 := hr2
        rw [HST.out] at hr3
        have hg3 : wv.grownBy w' (some b) := grown_trans hgk ⟨hg2.os, hg2.tape, hg2.output, hg2.size, hg2.block⟩
        clear hr2 hg2 hsl1 hsl2
        go_wp2
        go_roundw
        case rel => exact ⟨k + 1, by omega, by omega, by go_num, hr3, hg3⟩
        case measure => simp [intOf]; omega
    · have hkk : k = max n (top + 1) := by omega
      rw [hkk] at hrk
      clear hkk
      go_wp2
      go_end0
      exact ⟨rfl, hrk, hgk⟩
end Go.Proofs.Ythhommjlomphdaa
