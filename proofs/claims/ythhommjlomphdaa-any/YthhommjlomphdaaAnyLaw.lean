/-
  The law Any: its walk.
-/
import Derived.Test.YthhommjlomphdaaAnyRegion
namespace Go.Proofs.Ythhommjlomphdaa
open Go.RowKit Go.Deep Gf

set_option maxRecDepth 100000 in
set_option maxHeartbeats 1000000 in
theorem any_wrong (D L G : Int) (lost less : Nat) (hl : lost < 18446744073709551616) (hr : rightB D L G = false) (w : World) :
    Calls Try.prog 7 #[.agg #[.int .i64 D, .int .i64 L, .int .i64 G], .int .u64 lost, .int .u64 less] w fun e w' => e = .returned (.bool true) ∧ Below w.heap.size w w' := by
  go_enter Try.func7, Try.ntmps7
  have hb0 : Below w.heap.size w (w.alloc (.cells #[.int .i64 D, .int .i64 L, .int .i64 G] 32)) := (Below.refl _ _).alloc (Nat.le_refl _) _
  go_wp2_with fail
  refine (theirs_any D L G _).mono ?_
  rintro e w1 ⟨rfl, hb1⟩
  rw [nblk_alloc] at hb1
  have hs1 := hb1.size
  rw [nblk_alloc] at hs1
  obtain ⟨p0, p1, p2⟩ := box_cells hb1
  have hbw1 := hb0.trans (hb1.mono (by omega))
  have al := (Below.refl w1.heap.size w1).alloc (Nat.le_refl _) (.cells #[.int .i64 D, .int .i64 L, .int .i64 G] 34)
  have q0 := (al.cell (block_lt_of_cell p0)).trans p0
  have q1 := (al.cell (block_lt_of_cell p1)).trans p1
  have q2 := (al.cell (block_lt_of_cell p2)).trans p2
  have hbw2 := hbw1.trans (al.mono (by omega))
  clear hb1 al
  go_wp2_with fail
  refine (rright_any D L G _).mono ?_
  rintro e w2 ⟨rfl, hb2⟩
  rw [hr]
  rw [nblk_alloc] at hb2
  have hs2 := hb2.size
  rw [nblk_alloc] at hs2
  have r0 := (hb2.cell (by simp; omega)).trans q0
  have r1 := (hb2.cell (by simp; omega)).trans q1
  have r2 := (hb2.cell (by simp; omega)).trans q2
  have hbw3 := hbw2.trans (hb2.mono (by omega))
  clear p0 p1 p2 q0 q1 q2 hb2 hbw1 hbw2
  go_wp2_with fail
  refine (sdecodable_any D L G lost hl _).mono ?_
  rintro e w3 ⟨b, rfl, h, hb3⟩
  rw [hr] at h
  have hbf : b = false := by cases b <;> simp_all
  subst hbf
  have hbw4 := hbw3.trans (hb3.mono (by omega))
  clear h hb3 r0 r1 r2
  go_wp2
  go_ret
  exact ⟨rfl, hbw4⟩
theorem bit_and (x y i : Nat) : (x &&& y) / 2 ^ i % 2 = (x / 2 ^ i % 2) * (y / 2 ^ i % 2) := by
  have h := Nat.testBit_and x y i
  simp only [Nat.testBit_eq_decide_div_mod_eq] at h
  rcases Nat.mod_two_eq_zero_or_one (x / 2 ^ i) with a | a <;> rcases Nat.mod_two_eq_zero_or_one (y / 2 ^ i) with b | b <;> rcases Nat.mod_two_eq_zero_or_one ((x &&& y) / 2 ^ i) with c | c <;> simp [a, b, c] at h ⊢
theorem bit_all (n i : Nat) (h : i < n) : (2 ^ n - 1) / 2 ^ i % 2 = 1 := by
  have := Nat.testBit_two_pow_sub_one n i
  rw [Nat.testBit_eq_decide_div_mod_eq] at this
  simpa [h] using this
def AnR (lost n : Nat) (cv iv : Value) : Prop := ∃ k : Nat, k ≤ n ∧ iv = .int .i64 k ∧ cv = .int .i64 (cnt lost k : Nat)
theorem rshards_nat (D L G N : Nat) (hN : D + L + G = N) (h16 : N ≤ 16) (w : World) :
    Calls Try.prog 21 #[.agg #[.int .i64 D, .int .i64 L, .int .i64 G]] w fun e w' => e = .returned (.int .i64 (N : Nat)) ∧ Below w.heap.size w w' := by
  refine (rshards_any D L G w (by omega) (by omega) (by omega)).mono ?_
  rintro e w' ⟨rfl, hb⟩
  have e : ((D : Int) + L + G) = ((N : Nat) : Int) := by omega
  exact ⟨by rw [e], hb⟩
set_option maxRecDepth 100000 in
set_option maxHeartbeats 4000000 in
theorem any_right (D L G N lost less : Nat) (hr : rightB D L G = true) (hN : D + L + G = N) (h16 : N ≤ 16) (hD1 : 1 ≤ D) (hD : D ≤ 12) (hL4 : L ≤ 4) (hG : G ≤ 4) (hl : lost < 18446744073709551616) (hls : less < 18446744073709551616) (w : World) :
    Calls Try.prog 7 #[.agg #[.int .i64 D, .int .i64 L, .int .i64 G], .int .u64 lost, .int .u64 less] w fun e w' => e = .returned (.bool true) ∧ Below w.heap.size w w' := by
  have h2N : 2 ^ N ≤ 2 ^ 16 := Nat.pow_le_pow_right (by decide) h16
  have h2N' : 1 ≤ 2 ^ N := Nat.one_le_two_pow
  obtain ⟨A, hA⟩ : ∃ A, 2 ^ N - 1 = A := ⟨_, rfl⟩
  obtain ⟨m, hm⟩ : ∃ m, lost &&& A = m := ⟨_, rfl⟩
  obtain ⟨y, hy⟩ : ∃ y, m &&& less = y := ⟨_, rfl⟩
  have hall : A < 18446744073709551616 := by omega
  have hlm : m < 18446744073709551616 := by rw [← hm]; exact Nat.lt_of_le_of_lt Nat.and_le_left hl
  have hly : y < 18446744073709551616 := by rw [← hy]; exact Nat.lt_of_le_of_lt Nat.and_le_left hlm
  have e1 : IntKind.u64.wrap (IntKind.u64.wrap (2 ^ N) - 1) = (A : Int) := by
    have c : ((2 ^ N : Nat) : Int) = 2 ^ N := by simp
    rw [← c]
    simp only [IntKind.wrap_u64]
    omega
  have e2 : bits .and .u64 (lost : Int) (A : Int) = (m : Int) := by rw [u64_and_nat lost A hl hall, hm]
  have e3 : bits .and .u64 (m : Int) (less : Int) = (y : Int) := by rw [u64_and_nat m less hlm hls, hy]
  -- what the three answers are to each other
  have hbyt : ∀ s, ∀ r, Rem (keepTo (matL D L G) s (D + L + G)) 0 r → byteV r := fun s => rem_byte (fun l hl => mat_byte D L G hD hG l (keep_mem _ _ _ (by rw [mat_len]; omega) l hl)) 0
  have T1 : Hid (cnt m N ≤ G → Told D L G m) := fun h => any_full D L G m hD hG (hbyt m) (by rw [hN]; exact h)
  have T2 : Hid (Told D L G m → Told D L G y) := fun h => keep_mono _ m y _ _ (fun i _ hi => by rw [← hy, bit_and, hi, Nat.zero_mul]) h
  have T3 : Hid (¬ Told D L G A) := keep_none _ A _ _ hD1 (fun i hi => by rw [← hA]; exact bit_all N i (by omega))
  have hcl := cnt_le m N
  clear hA hm hy hbyt h2N h2N'
  go_enter Try.func7, Try.ntmps7
  have hb0 : Below w.heap.size w (w.alloc (.cells #[.int .i64 D, .int .i64 L, .int .i64 G] 32)) := (Below.refl _ _).alloc (Nat.le_refl _) _
  go_wp2_with fail
  refine (theirs_any D L G _).mono ?_
  rintro e w1 ⟨rfl, hb1⟩
  rw [nblk_alloc] at hb1
  have hs1 := hb1.size
  rw [nblk_alloc] at hs1
  obtain ⟨p0, p1, p2⟩ := box_cells hb1
  have hbw1 := hb0.trans (hb1.mono (by omega))
  have al := (Below.refl w1.heap.size w1).alloc (Nat.le_refl _) (.cells #[.int .i64 D, .int .i64 L, .int .i64 G] 34)
  have q0 := (al.cell (block_lt_of_cell p0)).trans p0
  have q1 := (al.cell (block_lt_of_cell p1)).trans p1
  have q2 := (al.cell (block_lt_of_cell p2)).trans p2
  have hbw2 := hbw1.trans (al.mono (by omega))
  clear hb1 al
  go_wp2_with fail
  refine (rright_any D L G _).mono ?_
  rintro e w2 ⟨rfl, hb2⟩
  rw [hr]
  rw [nblk_alloc] at hb2
  have hs2 := hb2.size
  rw [nblk_alloc] at hs2
  have r0 := (hb2.cell (by simp; omega)).trans q0
  have r1 := (hb2.cell (by simp; omega)).trans q1
  have r2 := (hb2.cell (by simp; omega)).trans q2
  obtain ⟨s0, s1, s2⟩ := box_cells hb2
  have hbw3 := hbw2.trans (hb2.mono (by omega))
  clear p0 p1 p2 q0 q1 q2 hb2 hbw1 hbw2
  go_wp2_with fail
  refine (rshards_nat D L G N hN h16 _).mono ?_
  rintro e w3 ⟨rfl, hb3⟩
  have hs3 := hb3.size
  have t0 := (hb3.cell (block_lt_of_cell r0)).trans r0
  have t1 := (hb3.cell (block_lt_of_cell r1)).trans r1
  have t2 := (hb3.cell (block_lt_of_cell r2)).trans r2
  have hbw4 := hbw3.trans (hb3.mono (by omega))
  clear r0 r1 r2 s0 s1 s2 hb3 hbw3
  go_wp2
  go_loop [11, 12] (fun cv iv => AnR m N cv iv) (fun _ iv => N - (intOf iv).toNat)
  case atStart => exact ⟨0, Nat.zero_le _, rfl, rfl⟩
  case round =>
    obtain ⟨k, hk, rfl, rfl⟩ := hrel
    by_cases hlt : k < N
    · have hbit := bit_u64 m k hlm
      have hcs := cnt_succ m k
      have hck := cnt_le m k
      by_cases hz : m / 2 ^ k % 2 = 1
      · rw [hz] at hbit
        rw [if_pos hz] at hcs
        have HCS := hide hcs
        clear hz hcs
        go_wp2
        go_round
        case rel => exact ⟨k + 1, by omega, by go_num, by rw [HCS.out]; go_num⟩
        case measure => simp [intOf]; omega
      · have h0 : m / 2 ^ k % 2 = 0 := by omega
        rw [h0] at hbit
        rw [if_neg hz] at hcs
        have HCS := hide hcs
        clear hz h0 hcs
        go_wp2
        go_round
        case rel => exact ⟨k + 1, by omega, by go_num, by rw [HCS.out]; rfl⟩
        case measure => simp [intOf]; omega
    · have hkk : k = N := by omega
      subst hkk
      go_wp2_with fail
      refine (sdecodable_any D L G m hlm _).mono ?_
      rintro e w4 ⟨bx, rfl, hx, hb4⟩
      have hs4 := hb4.size
      have u0 := (hb4.cell (block_lt_of_cell t0)).trans t0
      have u1 := (hb4.cell (block_lt_of_cell t1)).trans t1
      have u2 := (hb4.cell (block_lt_of_cell t2)).trans t2
      have hbw5 := hbw4.trans (hb4.mono (by omega))
      have HX := hide hx
      clear t0 t1 t2 hb4 hx hbw4
      go_wp2_with fail
      refine (sdecodable_any D L G y hly _).mono ?_
      rintro e w5 ⟨by', rfl, hy, hb5⟩
      have hs5 := hb5.size
      have v0 := (hb5.cell (block_lt_of_cell u0)).trans u0
      have v1 := (hb5.cell (block_lt_of_cell u1)).trans u1
      have v2 := (hb5.cell (block_lt_of_cell u2)).trans u2
      have hbw6 := hbw5.trans (hb5.mono (by omega))
      have HY := hide hy
      clear u0 u1 u2 hb5 hy hbw5
      go_wp2
      refine region16 w.heap.size D L G k A (by kernel_rfl) (fun _ _ _ _ _ h => h) rfl h16 e1 rfl rfl v0 v1 v2 (fun b w' => DcP D L G A w5.drew (.returned (.bool b)) w') ?_ ?_
      · refine (sdecodable_any D L G A hall _).mono ?_
        rintro e w6 ⟨bz, rfl, hz, hb6⟩
        exact ⟨bz, rfl, bz, rfl, hz, hb6⟩
      rintro bz w6 ⟨bz', hbz, hz, hb6⟩
      obtain rfl : bz = bz' := by simpa using hbz
      have x0 := (hb6.cell (block_lt_of_cell (w := w5.drew) v0)).trans v0
      have x1 := (hb6.cell (block_lt_of_cell (w := w5.drew) v1)).trans v1
      have x2 := (hb6.cell (block_lt_of_cell (w := w5.drew) v2)).trans v2
      have HZ := hide hz
      have hb6' : Below w5.heap.size w5 w6 := ⟨hb6.os, hb6.tape, hb6.output, hb6.size, hb6.block⟩
      unfold act16
      clear hz hb6 hbz
      have hbw7 := hbw6.trans (hb6'.mono (by omega))
      have hX := HX.out
      have hY := HY.out
      have hZ := HZ.out
      rw [hr] at hX hY hZ
      simp only [Int.toNat_natCast, true_and] at hX hY hZ
      have hzf : bz = false := by
        cases bz
        · rfl
        · exact absurd (hZ.1 rfl) T3.out
      have hxy : bx = true → by' = true := fun h => hY.2 (T2.out (hX.1 h))
      have hcx : cnt m k ≤ G → bx = true := fun h => hX.2 (T1.out h)
      subst hzf
      clear HX HY HZ hX hY hZ T1 T2 T3 hb6' v0 v1 v2
      by_cases hcG : cnt m k ≤ G
      · obtain rfl := hcx hcG
        obtain rfl := hxy rfl
        clear hcx hxy
        go_wp2
        go_ret
        exact ⟨rfl, hbw7⟩
      · clear hcx
        cases bx
        · clear hxy
          have hlt : G < cnt m k := by omega
          go_wp2
          go_ret
          exact ⟨by simp, hbw7⟩
        · obtain rfl := hxy rfl
          clear hxy
          go_wp2
          go_ret
          exact ⟨rfl, hbw7⟩
theorem any_any (D L G : Int) (lost less : Nat) (hl : lost < 18446744073709551616) (hls : less < 18446744073709551616) (w : World) :
    Calls Try.prog 7 #[.agg #[.int .i64 D, .int .i64 L, .int .i64 G], .int .u64 lost, .int .u64 less] w fun e w' => e = .returned (.bool true) ∧ Below w.heap.size w w' := by
  cases hr : rightB D L G with
  | false => exact any_wrong D L G lost less hl hr w
  | true =>
    obtain ⟨d, l, g, rfl, rfl, rfl, q1, q2, q3, q4, q5, q6, q7⟩ := right_nat' hr
    exact any_right d l g _ lost less hr rfl q7 q1 q2 q4 q5 hl hls w
end Go.Proofs.Ythhommjlomphdaa
