import Derived.Test.YtbgiechfhfeaeaaDoorPart16
import Derived.Laws.BitsAllLaws
import Derived.Test.YtbgiechfhfeaeaaDoorPart22
import Derived.Test.YtbgiechfhfeaeaaDoorPart17
/-
  The law's word for what a program loads.
-/
namespace Go.Proofs.YtbgiechfhfeaeaaDoor
open Go.RowKit Go.Deep Gf

def ldTo (P : List St) (k : Nat) : Nat × Nat × Bool := (P.take k).foldl ldF (0, 0, false)
theorem ldTo_zero (P : List St) : ldTo P 0 = (0, 0, false) := by unfold ldTo; simp
theorem ldTo_next {P : List St} {k : Nat} (hk : k < P.length) : ldTo P (k + 1) = ldF (ldTo P k) P[k] := by
  unfold ldTo
  rw [List.take_succ_eq_append_getElem hk, List.foldl_append]; rfl
theorem ldTo_all (P : List St) : ldTo P P.length = ldAll P := by unfold ldTo ldAll; rw [List.take_length]
theorem ldF_yes {s : Nat × Nat × Bool} {t : St} {b : Nat} (hk : t.k = 0) (hb : t.b = (b : Int)) (h : b < 64) : ldF s t = (s.1 ||| 2 ^ b, s.2.1 + 1, s.2.2 || s.1.testBit b) := by
  unfold ldF
  rw [if_pos ⟨hk, by omega, by omega⟩, hb]; rfl
theorem ldF_no {s : Nat × Nat × Bool} {t : St} (h : ¬ (t.k = 0 ∧ 0 ≤ t.b ∧ t.b < 64)) : ldF s t = s := by unfold ldF; rw [if_neg h]
theorem or_lt64 {a b : Nat} (ha : a < 18446744073709551616) (hb : b < 64) : a ||| 2 ^ b < 18446744073709551616 := by
  have h1 : 2 ^ b < 2 ^ 64 := Nat.pow_lt_pow_right (by decide) hb
  exact Nat.or_lt_two_pow (n := 64) ha h1
theorem ldTo_ok (P : List St) : ∀ k, k ≤ P.length → (ldTo P k).1 < 18446744073709551616 ∧ (ldTo P k).2.1 ≤ k
  | 0, _ => by rw [ldTo_zero]; exact ⟨by decide, Nat.le_refl _⟩
  | k + 1, h => by
    obtain ⟨h1, h2⟩ := ldTo_ok P k (by omega)
    rw [ldTo_next (show k < P.length by omega)]
    unfold ldF
    split
    · rename_i hc
      exact ⟨or_lt64 h1 (by omega), by show _ + 1 ≤ k + 1; omega⟩
    · exact ⟨h1, by omega⟩
theorem shl_u64 (b : Nat) (h : b < 64) : IntKind.u64.wrap ((2 : Int) ^ b) = ((2 ^ b : Nat) : Int) := by
  have h1 := pow_lt64 h
  have e : ((2 : Int) ^ b) = ((2 ^ b : Nat) : Int) := by rw [Int.natCast_pow]; rfl
  rw [e, IntKind.wrap_u64]
  generalize 2 ^ b = q at h1
  omega
attribute [local go_sem] Oper.semAt_some
def LdR (w : World) (P : List St) (s n t i : Value) (wr : World) : Prop := ∃ k : Nat, k ≤ P.length ∧ i = .int .i64 (k : Int) ∧ s = .int .u64 ((ldTo P k).1 : Int) ∧ n = .int .i64 ((ldTo P k).2.1 : Int) ∧ t = .bool (ldTo P k).2.2 ∧ Below w.heap.size w wr
set_option maxRecDepth 100000 in
set_option maxHeartbeats 4000000 in
theorem loaded_any (regs : Int) (v : Value) (P : List St) (w : World) (h : Ps .u8 w v P) (hl : P.length ≤ 5000) (hk8 : ∀ t ∈ P, t.k < 256) :
    Calls Tryd.prog 35 #[.agg #[.int .i64 regs, v]] w fun e w' => e = .returned (.tuple #[.int .u64 ((ldAll P).1 : Int), .int .i64 ((ldAll P).2.1 : Int), .bool (ldAll P).2.2]) ∧ Below w.heap.size w w' := by
  have hb0 : Below w.heap.size w (w.alloc (.cells #[.int .i64 regs, v] 49)) := (Below.refl _ _).alloc (Nat.le_refl _) _
  have h0 := h.mono hb0
  have c0 := (box2 (w := w) (n := w.heap.size) (x := .int .i64 regs) (y := v) (t := 49) (w' := w.alloc (.cells #[.int .i64 regs, v] 49)) (by rw [← nblk_alloc w (.cells #[.int .i64 regs, v] 49)]; exact Below.refl _ _) rfl)
  obtain ⟨ao, c, rfl⟩ := h.slice
  have HB0 := hide hb0
  have H0 := hide h0
  have HC := hide c0
  clear hb0 h0 c0 h
  go_enter Tryd.func35, Tryd.ntmps35
  go_wp2
  have hs1 : (w.alloc (.cells #[.int .i64 regs, .slice ao P.length c] 49)).heap.size = w.heap.size + 1 := by simp
  obtain ⟨w1, hw1⟩ : ∃ w1, w.alloc (.cells #[.int .i64 regs, .slice ao P.length c] 49) = w1 := ⟨_, rfl⟩
  rw [hw1] at HB0 H0 HC hs1
  rw [hw1]
  clear hw1
  go_loopw [5, 6, 7, 8] (fun s n t i wr => LdR w1 P s n t i wr) (fun _ _ _ i _ => P.length - (intOf i).toNat)
  case atStart => exact ⟨0, Nat.zero_le _, rfl, by rw [ldTo_zero]; rfl, by rw [ldTo_zero]; rfl, by rw [ldTo_zero], Below.refl _ _⟩
  case round =>
    rename World => wo
    obtain ⟨k, hk, rfl, rfl, rfl, rfl, hbo⟩ := hrel
    have cv : wo.cell? ⟨w.heap.size, 1, none⟩ = some (.slice ao P.length c) := (hbo.cell (p := ⟨w.heap.size, 1, none⟩) (by show w.heap.size < _; omega)).trans HC.out.2
    obtain ⟨b1, b2⟩ := ldTo_ok P k hk
    by_cases hlt : k < P.length
    · have hlt' : (k : Int) < (P.length : Int) := by omega
      rcases (H0.out.mono hbo).cases with ⟨e, _⟩ | ⟨pb, off, cc, e, _, hcells⟩
      · rw [e] at hlt; exact absurd hlt (by simp)
      obtain ⟨rfl, rfl⟩ : ao = some ⟨pb, off, none⟩ ∧ c = cc := by simpa using e
      obtain ⟨s0, s1, s2, s3⟩ := hcells k hlt
      have hk8' := hk8 _ (List.getElem_mem hlt)
      have hnx := ldTo_next hlt
      obtain ⟨S, m, t, hs⟩ : ∃ S m t, ldTo P k = (S, m, t) := ⟨_, _, _, rfl⟩
      rw [hs] at b1 b2 hnx ⊢
      simp only at b1 b2 ⊢
      have HB := hide (And.intro hbo (And.intro hnx hk8))
      clear e hcells hbo hnx hs
      by_cases hk0 : P[k].k = 0
      · rw [hk0] at s0
        by_cases hb0 : 0 ≤ P[k].b
        · by_cases hb64 : P[k].b < 64
          · obtain ⟨b, hb⟩ : ∃ b : Nat, P[k].b = (b : Int) := ⟨P[k].b.toNat, by omega⟩
            have hb64' : b < 64 := by omega
            have HE := hide (ldF_yes (s := (S, m, t)) hk0 hb hb64')
            have hbit := bit_u64 S b b1
            have hsl := shl_u64 b hb64'
            have hor : bits .or .u64 (S : Int) ((2 : Int) ^ b) = ((S ||| 2 ^ b : Nat) : Int) := by
              have := bits_or_u64_nat S (2 ^ b) b1 (pow_lt64 hb64')
              rw [Int.natCast_pow] at this
              exact this
            have htb : ((S : Int) / 2 ^ b % 2 == 1) = S.testBit b := by
              have e : (S : Int) / 2 ^ b % 2 = ((S / 2 ^ b % 2 : Nat) : Int) := by simp
              rw [e, Nat.testBit_eq_decide_div_mod_eq]
              generalize S / 2 ^ b % 2 = q
              by_cases hq : q = 1
              · subst hq; rfl
              · have : ¬ ((q : Int)) = 1 := by omega
                simp [hq, this]
            have HOR := hide (And.intro hor htb)
            rw [hb] at s2
            clear hb64 hb0 hor htb
            cases t with
            | true =>
              go_wp2
              obtain ⟨hbo, hnx, _⟩ := HB.out
              have he := HE.out
              obtain ⟨hor, htb⟩ := HOR.out
              rw [hor]
              go_roundw
              case rel => exact ⟨k + 1, by omega, by go_num, by rw [hnx, he], by rw [hnx, he]; go_num, by rw [hnx, he]; rfl, hbo.alloc (hbo.size) _⟩
              case measure => simp [intOf]; omega
            | false =>
              go_wp2
              obtain ⟨hbo, hnx, _⟩ := HB.out
              have he := HE.out
              obtain ⟨hor, htb⟩ := HOR.out
              rw [hor, htb]
              go_roundw
              case rel => exact ⟨k + 1, by omega, by go_num, by rw [hnx, he], by rw [hnx, he]; go_num, by rw [hnx, he]; rfl, hbo.alloc (hbo.size) _⟩
              case measure => simp [intOf]; omega
          · have HE := hide (ldF_no (s := (S, m, t)) (t := P[k]) (fun h => hb64 h.2.2))
            go_wp2
            obtain ⟨hbo, hnx, _⟩ := HB.out
            have he := HE.out
            go_roundw
            case rel => exact ⟨k + 1, by omega, by go_num, by rw [hnx, he], by rw [hnx, he], by rw [hnx, he], hbo.alloc (hbo.size) _⟩
            case measure => simp [intOf]; omega
        · have HE := hide (ldF_no (s := (S, m, t)) (t := P[k]) (fun h => hb0 h.2.1))
          go_wp2
          obtain ⟨hbo, hnx, _⟩ := HB.out
          have he := HE.out
          go_roundw
          case rel => exact ⟨k + 1, by omega, by go_num, by rw [hnx, he], by rw [hnx, he], by rw [hnx, he], hbo.alloc (hbo.size) _⟩
          case measure => simp [intOf]; omega
      · have HE := hide (ldF_no (s := (S, m, t)) (t := P[k]) (fun h => hk0 h.1))
        have hne : ((P[k].k : Nat) : Int) ≠ 0 := by omega
        go_wp2
        obtain ⟨hbo, hnx, _⟩ := HB.out
        have he := HE.out
        go_roundw
        case rel => exact ⟨k + 1, by omega, by go_num, by rw [hnx, he], by rw [hnx, he], by rw [hnx, he], hbo.alloc (hbo.size) _⟩
        case measure => simp [intOf]; omega
    · obtain rfl : k = P.length := by omega
      have hlt' : ¬ ((P.length : Int)) < (P.length : Int) := by omega
      have HBO := hide hbo
      have HALL := hide (ldTo_all P)
      clear hbo
      go_wp2
      refine bodyPost_ret (v := .tuple #[.int .u64 ((ldTo P P.length).1 : Int), .int .i64 ((ldTo P P.length).2.1 : Int), .bool (ldTo P P.length).2.2]) (by simp [results, Tryd.results35]) rfl ?_
      rw [← HALL.out]
      exact ⟨rfl, HB0.out.trans (HBO.out.mono (by omega))⟩
end Go.Proofs.YtbgiechfhfeaeaaDoor
/-
  The law Checks: its walk.
-/
namespace Go.Proofs.YtbgiechfhfeaeaaDoor
open Go.RowKit Go.Deep

set_option maxRecDepth 100000 in
set_option maxHeartbeats 1000000 in
theorem scheck_any (regs shards : Int) (v : Value) (P : List St) (w : World) (h : Ps .u8 w v P) :
    Calls Tryd.prog 23 #[.agg #[.int .i64 regs, v], .int .i64 shards] w fun r w' => ChPost regs P shards w r w' := by
  have hb0 : Below w.heap.size w (w.alloc (.cells #[.int .i64 regs, v] 49)) := (Below.refl _ _).alloc (Nat.le_refl _) _
  have h0 := h.mono hb0
  obtain ⟨ao, c, rfl⟩ := h.slice
  clear h
  go_enter Tryd.func23, Tryd.ntmps23
  go_wp2_with fail
  refine (check_any regs shards _ P _ h0).mono ?_
  rintro r w1 ⟨h1, h2, hb1⟩
  rw [nblk_alloc] at hb1
  have hbw := hb0.trans (hb1.mono (by omega))
  by_cases hp : okProg regs P shards
  · obtain rfl := h1 hp
    have HP := hide hp
    clear h1 h2 hp
    go_wp2
    go_ret
    exact ⟨fun _ => rfl, fun h => absurd HP.out h, hbw⟩
  · obtain rfl := h2 hp
    have HP := hide hp
    clear h1 h2 hp
    go_wp2
    go_ret
    exact ⟨fun h => absurd h HP.out, fun _ => rfl, hbw⟩
set_option maxRecDepth 100000 in
set_option maxHeartbeats 1000000 in
theorem checks_big (regs shards : Int) (ao : Option Addr) (len cap : Nat) (w : World) (hbig : 5000 < len) :
    Calls Tryd.prog 6 #[.agg #[.int .i64 regs, .slice ao len cap], .int .i64 shards] w fun e w' => e = .returned (.bool true) ∧ Below w.heap.size w w' := by
  go_enter Tryd.func6, Tryd.ntmps6
  have hb2 : (5000 : Int) < (len : Int) := by omega
  go_wp2
  go_ret
  exact ⟨rfl, (Below.refl _ _).alloc (Nat.le_refl _) _⟩
set_option maxRecDepth 100000 in
set_option maxHeartbeats 4000000 in
theorem checks_fit (regs shards : Int) (v : Value) (P : List St) (w : World) (h : Ps .u8 w v P) (hl : P.length ≤ 5000) (hP : ∀ s ∈ P, okInts s) (hg : globalLaid w) :
    Calls Tryd.prog 6 #[.agg #[.int .i64 regs, v], .int .i64 shards] w fun e w' => e = .returned (.bool true) ∧ Below w.heap.size w w' := by
  have hlt0 : 0 < w.heap.size := block_lt_of_cell hg
  have hb0 : Below w.heap.size w (w.alloc (.cells #[.int .i64 regs, v] 49)) := (Below.refl _ _).alloc (Nat.le_refl _) _
  have hP2 : ∀ s ∈ P, s.k < 256 := fun s hs => (hP s hs).1
  have HP := hide hP2
  have H := hide h
  have h0 := h.mono hb0
  obtain ⟨ao, c, rfl⟩ := h.slice
  clear h hP hP2
  have hlI : ¬ (5000 : Int) < (P.length : Int) := by omega
  go_enter Tryd.func6, Tryd.ntmps6
  go_wp2_with fail
  refine (scheck_any regs shards _ P _ h0).mono ?_
  rintro r w1 ⟨h1, h2, hb1⟩
  rw [nblk_alloc] at hb1
  obtain ⟨p0, p1⟩ := box2 hb1 rfl
  have hs1 := hb1.size
  rw [nblk_alloc] at hs1
  have hbw1 := hb0.trans (hb1.mono (by omega))
  have hg1 : globalLaid w1 := by
    unfold globalLaid at *
    rw [hbw1.cell hlt0]; exact hg
  by_cases hp : okProg regs P shards
  · obtain rfl := h1 hp
    have HPR := hide hp
    clear h1 h2 hp hb1 h0 hb0
    go_wp2_with fail
    refine (tell_nil _).mono ?_
    rintro e w2 ⟨rfl, hb2⟩
    have hs2 := hb2.size
    have q0 := (hb2.cell (block_lt_of_cell p0)).trans p0
    have q1 := (hb2.cell (block_lt_of_cell p1)).trans p1
    have hbw2 := hbw1.trans (hb2.mono (by omega))
    clear hb2 p0 p1 hbw1
    go_wp2_with fail
    refine (program_any regs _ P _ (H.out.mono hbw2) hl HP.out).mono ?_
    rintro e w3 ⟨v3, rfl, hv3, hb3⟩
    have hs3 := hb3.size
    have hbw3 := hbw2.trans (hb3.mono (by omega))
    obtain ⟨a3, c3, rfl⟩ := hv3.slice
    have H3 := hide hv3
    have hbw4 := hbw3.alloc (by omega) (.cells #[.int .i64 regs, .slice a3 P.length c3] 53)
    clear hv3 q0 q1 hb3 hbw2
    go_wp2_with fail
    refine (rcheck_any regs shards _ P _ (H3.out.mono ((Below.refl _ _).alloc (Nat.le_refl _) _))).mono ?_
    rintro e w5 ⟨h5, _, hb5⟩
    obtain rfl := h5 HPR.out
    rw [nblk_alloc] at hb5
    have hbw5 := hbw4.trans (hb5.mono (by omega))
    clear h5 hb5
    go_wp2_with (go_at_call 15; refine (num_any _ _).mono ?_; rintro e w' ⟨rfl, rfl⟩)
    go_ret
    exact ⟨rfl, hbw5⟩
  · obtain rfl := h2 hp
    have HPR := hide hp
    clear h1 h2 hp hb1 h0 hb0
    go_wp2_with fail
    refine (tell_errno 4 _ hg1).mono ?_
    rintro e w2 ⟨rfl, hb2⟩
    have hs2 := hb2.size
    have q0 := (hb2.cell (block_lt_of_cell p0)).trans p0
    have q1 := (hb2.cell (block_lt_of_cell p1)).trans p1
    have hbw2 := hbw1.trans (hb2.mono (by omega))
    clear hb2 p0 p1 hbw1
    go_wp2_with fail
    refine (program_any regs _ P _ (H.out.mono hbw2) hl HP.out).mono ?_
    rintro e w3 ⟨v3, rfl, hv3, hb3⟩
    have hs3 := hb3.size
    have hbw3 := hbw2.trans (hb3.mono (by omega))
    obtain ⟨a3, c3, rfl⟩ := hv3.slice
    have H3 := hide hv3
    have hbw4 := hbw3.alloc (by omega) (.cells #[.int .i64 regs, .slice a3 P.length c3] 53)
    clear hv3 q0 q1 hb3 hbw2
    go_wp2_with fail
    refine (rcheck_any regs shards _ P _ (H3.out.mono ((Below.refl _ _).alloc (Nat.le_refl _) _))).mono ?_
    rintro e w5 ⟨_, h5, hb5⟩
    obtain rfl := h5 HPR.out
    rw [nblk_alloc] at hb5
    have hbw5 := hbw4.trans (hb5.mono (by omega))
    clear h5 hb5
    go_wp2_with (go_at_call 15; refine (num_any _ _).mono ?_; rintro e w' ⟨rfl, rfl⟩)
    go_ret
    exact ⟨rfl, hbw5⟩
end Go.Proofs.YtbgiechfhfeaeaaDoor
