/-
  The laws on Decodable: their walks.
-/
import Derived.Test.YthhommjlomphdaaDecodable
namespace Go.Proofs.Ythhommjlomphdaa
open Go.RowKit Go.Deep Gf

theorem right_nat' {D L G : Int} (h : rightB D L G = true) : ∃ d l g : Nat, D = d ∧ L = l ∧ G = g ∧ 1 ≤ d ∧ d ≤ 12 ∧ 1 ≤ l ∧ l ≤ 4 ∧ g ≤ 4 ∧ d % l = 0 ∧ d + l + g ≤ 16 := by
  unfold rightB at h
  rw [decide_eq_true_eq] at h
  obtain ⟨h1, h2, h3, h4, h5, h6, h7, h8⟩ := h
  refine ⟨D.toNat, L.toNat, G.toNat, by omega, by omega, by omega, by omega, by omega, by omega, by omega, by omega, ?_, by omega⟩
  have e1 : (D.toNat : Int) = D := by omega
  have e2 : (L.toNat : Int) = L := by omega
  have : ((D.toNat % L.toNat : Nat) : Int) = 0 := by rw [Int.natCast_emod, e1, e2]; exact h7
  omega
def DcP (D L G : Int) (lost : Nat) (w : World) (e : Ending) (w' : World) : Prop := ∃ b : Bool, e = .returned (.bool b) ∧ (b = true ↔ rightB D L G = true ∧ Told D.toNat L.toNat G.toNat lost) ∧ Below w.heap.size w w'
theorem decodable_any (D L G : Int) (lost : Nat) (hl : lost < 18446744073709551616) (w : World) :
    Calls Try.prog 27 #[.agg #[.int .i64 D, .int .i64 L, .int .i64 G], .int .u64 lost] w fun e w' => DcP D L G lost w e w' := by
  cases hr : rightB D L G with
  | false =>
    refine (decodable_wrong D L G lost hr w).mono ?_
    rintro e w' ⟨rfl, hb⟩
    exact ⟨false, rfl, by simp [hr], hb⟩
  | true =>
    obtain ⟨d, l, g, rfl, rfl, rfl, q1, q2, q3, q4, q5, q6, q7⟩ := right_nat' hr
    refine (decodable_right d l g lost hr q2 q3 q4 q5 q6 hl w).mono ?_
    rintro e w' ⟨b, rfl, h, hb⟩
    exact ⟨b, rfl, by simp [hr, h], hb⟩
theorem rdecodable_any (D L G : Int) (lost : Nat) (hl : lost < 18446744073709551616) (w : World) :
    Calls Try.prog 19 #[.agg #[.int .i64 D, .int .i64 L, .int .i64 G], .int .u64 lost] w fun e w' => DcP D L G lost w e w' := by
  cases hr : rightB D L G with
  | false =>
    refine (rdecodable_wrong D L G lost hr w).mono ?_
    rintro e w' ⟨rfl, hb⟩
    exact ⟨false, rfl, by simp [hr], hb⟩
  | true =>
    obtain ⟨d, l, g, rfl, rfl, rfl, q1, q2, q3, q4, q5, q6, q7⟩ := right_nat' hr
    refine (rdecodable_right d l g lost hr q2 q3 q4 q5 q6 hl w).mono ?_
    rintro e w' ⟨b, rfl, h, hb⟩
    exact ⟨b, rfl, by simp [hr, h], hb⟩
set_option maxRecDepth 100000 in
set_option maxHeartbeats 1000000 in
theorem sdecodable_any (D L G : Int) (lost : Nat) (hl : lost < 18446744073709551616) (w : World) :
    Calls Try.prog 18 #[.agg #[.int .i64 D, .int .i64 L, .int .i64 G], .int .u64 lost] w fun e w' => DcP D L G lost w e w' := by
  go_enter Try.func18, Try.ntmps18
  go_wp2_with fail
  refine (decodable_any D L G lost hl _).mono ?_
  rintro e w1 ⟨b, rfl, h, hb⟩
  have H := hide h
  clear h
  rw [nblk_alloc] at hb
  go_wp2
  go_ret
  exact ⟨b, rfl, H.out, ((Below.refl _ _).alloc (Nat.le_refl _) _).trans (hb.mono (by omega))⟩
set_option maxRecDepth 100000 in
set_option maxHeartbeats 2000000 in
theorem decodables_any (D L G : Int) (lost : Nat) (hl : lost < 18446744073709551616) (w : World) :
    Calls Try.prog 6 #[.agg #[.int .i64 D, .int .i64 L, .int .i64 G], .int .u64 lost] w fun e w' => e = .returned (.bool true) ∧ Below w.heap.size w w' := by
  go_enter Try.func6, Try.ntmps6
  have hb0 : Below w.heap.size w (w.alloc (.cells #[.int .i64 D, .int .i64 L, .int .i64 G] 32)) := (Below.refl _ _).alloc (Nat.le_refl _) _
  go_wp2_with fail
  refine (theirs_any D L G _).mono ?_
  rintro e w1 ⟨rfl, hb1⟩
  rw [nblk_alloc] at hb1
  have hs1 := hb1.size
  rw [nblk_alloc] at hs1
  obtain ⟨p0, p1, p2⟩ := box_cells hb1
  have hbw1 := hb0.trans (hb1.mono (by omega))
  have al := (Below.refl w1.heap.size w1).alloc (Nat.le_refl _) (.cells #[.int .i64 D, .int .i64 L, .int .i64 G] 34)
  have q0 := (al.cell (block_lt_of_cell p0)).trans p0
  have q1 := (al.cell (block_lt_of_cell p1)).trans p1
  have q2 := (al.cell (block_lt_of_cell p2)).trans p2
  clear hb1 al
  go_wp2_with fail
  refine (sdecodable_any D L G lost hl _).mono ?_
  rintro e w2 ⟨b, rfl, h, hb2⟩
  have H := hide h
  rw [nblk_alloc] at hb2
  have hs2 := hb2.size
  rw [nblk_alloc] at hs2
  obtain ⟨r0, r1, r2⟩ := box_cells hb2
  have hbw2 := (hbw1.alloc (by omega) (.cells #[.int .i64 D, .int .i64 L, .int .i64 G] 34)).trans (hb2.mono (by omega))
  clear h hb2 p0 p1 p2 q0 q1 q2
  go_wp2_with fail
  refine (rdecodable_any D L G lost hl _).mono ?_
  rintro e w3 ⟨b', rfl, h', hb3⟩
  obtain rfl : b = b' := by rw [Bool.eq_iff_iff, H.out, h']
  have hbw3 := hbw2.trans (hb3.mono (by omega))
  clear h' hb3 r0 r1 r2 H
  have hbb : (b == b) = true := by simp
  go_wp2
  go_ret
  exact ⟨by simp, hbw3⟩
end Go.Proofs.Ythhommjlomphdaa
