/-
  Whether shards have all one length that is allowed.
-/
import Derived.Test.YthhommjlomphdaaDoorRooms
namespace Go.Proofs.YthhommjlomphdaaDoor
open Go.RowKit Go.Deep Gf

def okRow (D : List (List Nat)) (l : List Nat) : Prop := l.length = (D.getD 0 []).length ∧ l.length ≤ 4096
def Fit (D : List (List Nat)) : Prop := ∀ i (hi : i < D.length), okRow D D[i]
def EvR (D : List (List Nat)) (i : Value) : Prop := ∃ k : Nat, k ≤ D.length ∧ i = .int .i64 k ∧ ∀ j (hj : j < D.length), j < k → okRow D D[j]
def EvPost (D : List (List Nat)) (w : World) (e : Ending) (w' : World) : Prop := ∃ r : Bool, e = .returned (.bool r) ∧ (r = true ↔ Fit D) ∧ w' = w
set_option maxRecDepth 100000 in
set_option maxHeartbeats 4000000 in
theorem even_any (vd : Value) (D : List (List Nat)) (w : World) (hd : Rd w vd D) (hD : 0 < D.length) :
    Calls Tryd.prog 61 #[vd] w fun e w' => EvPost D w e w' := by
  rcases hd.cases with ⟨rfl, _⟩ | ⟨b, off, c, rfl, hl, hc⟩
  · simp at hD
  obtain ⟨u0, hu0, hB0⟩ := hc 0 hD
  obtain ⟨ao0, c0, rfl, l1, l2, _, _⟩ := hB0
  have hg0 : (D.getD 0 []).length = (D[0]).length := by simp [hD]
  have hlen0 : (D[0]).length ≤ 140737488355328 := by omega
  rw [← hg0] at hu0 hlen0
  rw [Nat.add_zero] at hu0
  have HC := hide hc
  clear hc l1 l2 hg0
  go_enter Tryd.func61, Tryd.ntmps61
  go_wp2
  go_loop [7] (fun i => EvR D i) (fun i => D.length - (intOf i).toNat)
  case atStart => exact ⟨0, Nat.zero_le _, rfl, fun j hj h => absurd h (by omega)⟩
  case round =>
    obtain ⟨k, hk, rfl, hok⟩ := hrel
    by_cases hlt : k < D.length
    · obtain ⟨u, hu, hBs⟩ := HC.out k hlt
      obtain ⟨fo, fc, rfl, q1, q2, _, _⟩ := hBs
      have hlk : (D[k]).length ≤ 140737488355328 := by omega
      by_cases h1 : okRow D D[k]
      · have t1 : ((((D[k]).length : Nat) : Int) != (((D.getD 0 []).length : Nat) : Int)) = false := by rw [h1.1]; simp
        have t2 : ¬ (4096 : Int) < (((D[k]).length : Nat) : Int) := by have := h1.2; omega
        have HO : Hid (∀ j (hj : j < D.length), j < k + 1 → okRow D D[j]) := by
          intro j hj hjk
          by_cases e : j = k
          · subst e; exact h1
          · exact hok j hj (by omega)
        have h1' := h1.1
        generalize (D.getD 0 []).length = n0 at *
        generalize (D[k]).length = nk at *
        clear hok h1 h1' q1 q2
        go_wp2
        go_round
        case rel => exact ⟨k + 1, by omega, by go_num, HO.out⟩
        case measure => simp [intOf]; omega
      · have HN : Hid (¬ Fit D) := fun h => h1 (h k hlt)
        by_cases h2 : (D[k]).length = (D.getD 0 []).length
        · have t1 : ((((D[k]).length : Nat) : Int) != (((D.getD 0 []).length : Nat) : Int)) = false := by rw [h2]; simp
          have t2 : (4096 : Int) < (((D[k]).length : Nat) : Int) := by
            have : ¬ (D[k]).length ≤ 4096 := fun h => h1 ⟨h2, h⟩
            omega
          generalize (D.getD 0 []).length = n0 at *
          generalize (D[k]).length = nk at *
          clear hok h1 h2 q1 q2
          go_wp2
          go_ret
          exact ⟨false, rfl, ⟨fun h => by simp at h, fun h => absurd h HN.out⟩, rfl⟩
        · have t1 : ((((D[k]).length : Nat) : Int) != (((D.getD 0 []).length : Nat) : Int)) = true := by rw [bne_iff_ne]; omega
          generalize (D.getD 0 []).length = n0 at *
          generalize (D[k]).length = nk at *
          clear hok h1 h2 q1 q2
          go_wp2
          go_ret
          exact ⟨false, rfl, ⟨fun h => by simp at h, fun h => absurd h HN.out⟩, rfl⟩
    · have HF : Hid (Fit D) := fun i hi => hok i hi (by omega)
      clear hok
      go_wp2
      go_ret
      exact ⟨true, rfl, ⟨fun _ => HF.out, fun _ => rfl⟩, rfl⟩
end Go.Proofs.YthhommjlomphdaaDoor
