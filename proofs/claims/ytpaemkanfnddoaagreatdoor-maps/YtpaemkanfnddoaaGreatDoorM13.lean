import Derived.Test.YtpaemkanfnddoaaGreatDoorM12
set_option maxRecDepth 100000
set_option maxHeartbeats 8000000
namespace Go.Proofs.YtpaemkanfnddoaaGreatDoor.Gf
variable {s i : Nat}
def mems (s : Nat) : List Nat := (List.range 16).filter (fun i => s.testBit i)
def behindN (s i : Nat) : Nat := s / 2 ^ (i + 1) * 2 ^ (i + 1)
theorem behindN_bit (s i j : Nat) : (behindN s i).testBit j = (decide (i < j) && s.testBit j) := by
 unfold behindN
 rw [Nat.testBit_mul_two_pow]
 by_cases h : i + 1 ≤ j
 · simp only [Nat.testBit_div_two_pow]
   rw [show j - (i + 1) + (i + 1) = j by omega]
   simp [h, show i < j by omega]
 · simp [h, show ¬ i < j by omega]
theorem mems_sorted (s : Nat) : (mems s).Pairwise (· < ·) := (List.pairwise_lt_range (n := 16)).filter _
theorem mem_mems : i ∈ mems s ↔ i < 16 ∧ s.testBit i = true := by unfold mems; rw [List.mem_filter, List.mem_range]
theorem mems_behind {pre R : List Nat} (h : mems s = pre ++ i :: R) : mems (behindN s i) = R := by
 have e : mems (behindN s i) = (mems s).filter (fun j => decide (i < j)) := by
  unfold mems
  rw [List.filter_filter]
  apply List.filter_congr
  intro j _
  rw [behindN_bit]
 have hs := mems_sorted s
 rw [h] at hs
 rw [e, h, List.filter_append, List.filter_cons]
 obtain ⟨h1, h2, h3⟩ := List.pairwise_append.1 hs
 obtain ⟨h4, h5⟩ := List.pairwise_cons.1 h2
 have e1 : pre.filter (fun j => decide (i < j)) = [] := List.filter_eq_nil_iff.2 (fun j hj => by have := h3 j hj i (by simp); simp; omega)
 have e2 : R.filter (fun j => decide (i < j)) = R := List.filter_eq_self.2 (fun j hj => by have := h4 j hj; simp; omega)
 rw [e1, e2]
 simp
end Go.Proofs.YtpaemkanfnddoaaGreatDoor.Gf
