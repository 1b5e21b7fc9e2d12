/-
  The rows of the matrix, one by one.
-/
import Derived.Test.YthhommjlomphdaaParams
import Derived.Test.YthhommjlomphdaaRefField
namespace Go.Proofs.Ythhommjlomphdaa
open Go.RowKit Go.Deep Gf

/-- the rows of the matrix -/
def dataL (D i : Nat) : List Nat := (List.replicate D 0).set i 1
set_option maxRecDepth 100000 in
set_option maxHeartbeats 1000000 in
theorem dataRow_any (D L G i : Nat) (hD : D ≤ 12) (hi : i < D) (w : World) :
    Calls Try.prog 40 #[.agg #[.int .i64 D, .int .i64 L, .int .i64 G], .int .i64 i] w fun e w' => ∃ b, e = .returned (.slice (some ⟨b, 0, none⟩) D D) ∧ w.heap.size ≤ b ∧ Brow w' b (dataL D i) ∧ Below w.heap.size w w' := by
  go_enter Try.func40, Try.ntmps40
  go_wp2_with (at_make; refine wpList_mk _ rfl (.tmp 7) (.tmp 7) rfl D D rfl rfl rfl (by omega) ?_; intro w1 hB hb hz; rw [nblk_alloc] at hB hb hz; have hc := hB.cell i (by simpa using hi); have hf := hB.frozen i)
  go_ret
  refine ⟨w.heap.size + 1, rfl, by omega, ?_, ?_⟩
  · exact hB.set i 1
  · exact (((Below.refl _ _).alloc (Nat.le_refl _) _).trans (hb.mono (by omega))).setCell (by simp) _

def localL (D L g : Nat) : List Nat := (List.range D).map fun j => if g * (D / L) ≤ j ∧ j < (g + 1) * (D / L) then 1 else 0
/-- so many of them are set -/
def localTo (D s k : Nat) : List Nat := (List.range D).map fun j => if s ≤ j ∧ j < k then 1 else 0
theorem localTo_start (D s : Nat) : localTo D s s = List.replicate D 0 := by
  unfold localTo
  apply List.ext_getElem
  · simp
  · intro i h1 h2
    simp
theorem localTo_step (D s k : Nat) (hs : s ≤ k) : (localTo D s k).set k 1 = localTo D s (k + 1) := by
  unfold localTo
  apply List.ext_getElem
  · simp
  · intro i h1 h2
    simp [List.getElem_set]
    by_cases e : k = i
    · subst e; simp; omega
    · simp only [if_neg e]
      by_cases e2 : s ≤ i ∧ i < k
      · rw [if_pos e2, if_pos ⟨e2.1, by omega⟩]
      · rw [if_neg e2, if_neg (by omega)]
theorem group_le {D L g : Nat} (hdiv : D % L = 0) (hg : g < L) : (g + 1) * (D / L) ≤ D := by
  have h1 : (g + 1) * (D / L) ≤ L * (D / L) := Nat.mul_le_mul_right _ hg
  have h2 : L * (D / L) = D := Nat.mul_div_cancel' (Nat.dvd_of_mod_eq_zero hdiv)
  omega
set_option maxRecDepth 100000 in
set_option maxHeartbeats 1000000 in
theorem localRow_any (D L G g : Nat) (hD : D ≤ 12) (hL : 1 ≤ L) (hL4 : L ≤ 4) (hdiv : D % L = 0) (hg : g < L) (w : World) :
    Calls Try.prog 41 #[.agg #[.int .i64 D, .int .i64 L, .int .i64 G], .int .i64 g] w fun e w' => ∃ b, e = .returned (.slice (some ⟨b, 0, none⟩) D D) ∧ w.heap.size ≤ b ∧ Brow w' b (localL D L g) ∧ Below w.heap.size w w' := by
  have hle := group_le hdiv hg
  have hq : D / L ≤ D := Nat.div_le_self _ _
  have hfin : localL D L g = localTo D (g * (D / L)) ((g + 1) * (D / L)) := rfl
  have e1 : wrap64 ((D : Int) / (L : Int)) = ((D / L : Nat) : Int) := by
    rw [← Int.natCast_ediv]; exact wrap64_nat (by omega)
  generalize D / L = q at *
  have hgq : g * q ≤ (g + 1) * q := Nat.mul_le_mul_right _ (by omega)
  have e2 : wrap64 ((g : Int) * (q : Int)) = ((g * q : Nat) : Int) := by
    rw [← Int.natCast_mul]; unfold wrap64; omega
  have e3 : wrap64 (((g : Int) + 1) * (q : Int)) = (((g + 1) * q : Nat) : Int) := by
    have : ((g : Int) + 1) * (q : Int) = (((g + 1) * q : Nat) : Int) := by push_cast; rfl
    rw [this]; unfold wrap64; omega
  generalize g * q = s at *
  generalize (g + 1) * q = t at *
  have HF := hide hfin
  clear hfin
  go_enter Try.func41, Try.ntmps41
  go_wp2_with (at_make; refine wpList_mk _ rfl (.tmp 9) (.tmp 9) rfl D D rfl rfl rfl (by omega) ?_; intro w1 hB hb hz; rw [nblk_alloc] at hB hb hz; have hp := hb.cell (p := ⟨w.heap.size, 0, none⟩) (by simp); have hp1 := hb.cell (p := ⟨w.heap.size, 1, none⟩) (by simp))
  rw [← localTo_start D s] at hB
  go_loopw [7] (fun i wr => ∃ k : Nat, s ≤ k ∧ k ≤ t ∧ i = .int .i64 k ∧ Brow wr (w.heap.size + 1) (localTo D s k) ∧ Below w.heap.size w wr) (fun i _ => t - (intOf i).toNat)
  case atStart => exact ⟨s, Nat.le_refl _, hgq, by rw [e2], hB, ((Below.refl _ _).alloc (Nat.le_refl _) _).trans (hb.mono (by omega))⟩
  case round =>
    obtain ⟨k, hk1, hk2, rfl, hBk, hbk⟩ := hrel
    clear hB hb hp hp1
    by_cases hlt : k < t
    · have hc := hBk.cell k (by simp [localTo]; omega)
      have hf := hBk.frozen k
      have hB2 := hBk.set k 1
      rw [localTo_step _ _ _ hk1] at hB2
      have hb2 := hbk.setCell (p := ⟨w.heap.size + 1, k, none⟩) (by simp) (.int .u8 1)
      go_wp2
      go_roundw
      case rel => exact ⟨k + 1, by omega, by omega, by go_num, hB2, hb2⟩
      case measure => simp [intOf]; omega
    · have hkt : k = t := by omega
      subst hkt
      go_wp2
      go_ret
      exact ⟨w.heap.size + 1, rfl, by omega, by rw [HF.out]; exact hBk, hbk⟩

def globalL (D i : Nat) : List Nat := (List.range D).map fun j => gi ((D + i) ^^^ j)
def globalTo (D i k : Nat) : List Nat := (List.range D).map fun j => if j < k then gi ((D + i) ^^^ j) else 0
theorem globalTo_start (D i : Nat) : globalTo D i 0 = List.replicate D 0 := by
  unfold globalTo
  apply List.ext_getElem
  · simp
  · intro j h1 h2
    simp
theorem globalTo_end (D i : Nat) : globalTo D i D = globalL D i := by
  unfold globalTo globalL
  apply List.ext_getElem
  · simp
  · intro j h1 h2
    simp at h1
    simp [h1]
theorem globalTo_step (D i k : Nat) : (globalTo D i k).set k (gi ((D + i) ^^^ k)) = globalTo D i (k + 1) := by
  unfold globalTo
  apply List.ext_getElem
  · simp
  · intro j h1 h2
    simp [List.getElem_set]
    by_cases e : k = j
    · subst e; simp
    · simp only [if_neg e]
      by_cases e2 : j < k
      · rw [if_pos e2, if_pos (by omega)]
      · rw [if_neg e2, if_neg (by omega)]
theorem xor_cell (D i j : Nat) (hD : D ≤ 12) (hi : i ≤ 4) (hj : j < D) : (D + i) ^^^ j < 256 ∧ bits .xor .i64 ((D : Int) + (i : Int)) (j : Int) = (((D + i) ^^^ j : Nat) : Int) := by
  refine ⟨xlt (by omega) (by omega), ?_⟩
  have := i64_xor (D + i) j (by omega) (by omega)
  rw [← this]
  congr 1
set_option maxRecDepth 100000 in
set_option maxHeartbeats 1000000 in
theorem globalRow_any (D L G i : Nat) (hD : D ≤ 12) (hi : i ≤ 4) (w : World) :
    Calls Try.prog 42 #[.agg #[.int .i64 D, .int .i64 L, .int .i64 G], .int .i64 i] w fun e w' => ∃ b, e = .returned (.slice (some ⟨b, 0, none⟩) D D) ∧ w.heap.size ≤ b ∧ Brow w' b (globalL D i) ∧ Below w.heap.size w w' := by
  go_enter Try.func42, Try.ntmps42
  go_wp2_with (at_make; refine wpList_mk _ rfl (.tmp 8) (.tmp 8) rfl D D rfl rfl rfl (by omega) ?_; intro w1 hB hb hz; rw [nblk_alloc] at hB hb hz; have hp := hb.cell (p := ⟨w.heap.size, 0, none⟩) (by simp))
  rw [← globalTo_start D i] at hB
  simp at hp
  go_loopw [12] (fun j wr => ∃ k : Nat, k ≤ D ∧ j = .int .i64 k ∧ Brow wr (w.heap.size + 1) (globalTo D i k) ∧ wr.cell? ⟨w.heap.size, 0, none⟩ = some (.int .i64 D) ∧ Below w.heap.size w wr) (fun j _ => D - (intOf j).toNat)
  case atStart => exact ⟨0, Nat.zero_le _, rfl, hB, hp, ((Below.refl _ _).alloc (Nat.le_refl _) _).trans (hb.mono (by omega))⟩
  case round =>
    obtain ⟨k, hk, rfl, hBk, hpk, hbk⟩ := hrel
    clear hB hb hp
    by_cases hlt : k < D
    · have hc := hBk.cell k (by simp [globalTo]; omega)
      have hf := hBk.frozen k
      obtain ⟨hx1, hx2⟩ := xor_cell D i k hD hi hlt
      have hB2 := hBk.set k (gi ((D + i) ^^^ k))
      rw [globalTo_step] at hB2
      have hb2 := hbk.setCell (p := ⟨w.heap.size + 1, k, none⟩) (by simp) (.int .u8 (gi ((D + i) ^^^ k)))
      have hp2 : (wr.setCell ⟨w.heap.size + 1, k, none⟩ (.int .u8 (gi ((D + i) ^^^ k)))).cell? ⟨w.heap.size, 0, none⟩ = some (.int .i64 D) := by rw [← hpk]; exact World.cell?_of_block (blk_setCell_other _ _ _ _ (by simp))
      generalize (D + i) ^^^ k = x at *
      have hx3 : (x : Int) < 256 := by omega
      go_wp2_with (go_at_call 23; refine (inv_any x hx1 _).mono ?_; rintro e w' ⟨rfl, rfl⟩)
      go_roundw
      case rel => exact ⟨k + 1, by omega, by go_num, hB2, hp2, hb2⟩
      case measure => simp [intOf]; omega
    · have hkt : k = D := by omega
      subst hkt
      rw [globalTo_end] at hBk
      go_wp2
      go_ret
      exact ⟨w.heap.size + 1, rfl, by omega, hBk, hbk⟩
end Go.Proofs.Ythhommjlomphdaa
