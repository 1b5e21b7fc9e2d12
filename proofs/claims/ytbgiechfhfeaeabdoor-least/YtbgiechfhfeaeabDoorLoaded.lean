/-
  The law's word for what a program loads.
-/
import Derived.Test.YtbgiechfhfeaeabDoorPart17
import Derived.Laws.BitsAllLaws
namespace Go.Proofs.YtbgiechfhfeaeabDoor
open Go.RowKit Go.Deep Gf

def ldTo (P : List St) (k : Nat) : Nat × Nat × Bool := (P.take k).foldl ldF (0, 0, false)
theorem ldTo_zero (P : List St) : ldTo P 0 = (0, 0, false) := by unfold ldTo; simp
theorem ldTo_next {P : List St} {k : Nat} (hk : k < P.length) : ldTo P (k + 1) = ldF (ldTo P k) P[k] := by
  unfold ldTo
  rw [List.take_succ_eq_append_getElem hk, List.foldl_append]; rfl
theorem ldTo_all (P : List St) : ldTo P P.length = ldAll P := by unfold ldTo ldAll; rw [List.take_length]
theorem ldF_yes {s : Nat × Nat × Bool} {t : St} {b : Nat} (hk : t.k = 0) (hb : t.b = (b : Int)) (h : b < 64) : ldF s t = (s.1 ||| 2 ^ b, s.2.1 + 1, s.2.2 || s.1.testBit b) := by
  unfold ldF
  rw [if_pos ⟨hk, by omega, by omega⟩, hb]; rfl
theorem ldF_no {s : Nat × Nat × Bool} {t : St} (h : ¬ (t.k = 0 ∧ 0 ≤ t.b ∧ t.b < 64)) : ldF s t = s := by unfold ldF; rw [if_neg h]
theorem or_lt64 {a b : Nat} (ha : a < 18446744073709551616) (hb : b < 64) : a ||| 2 ^ b < 18446744073709551616 := by
  have h1 : 2 ^ b < 2 ^ 64 := Nat.pow_lt_pow_right (by decide) hb
  exact Nat.or_lt_two_pow (n := 64) ha h1
theorem ldTo_ok (P : List St) : ∀ k, k ≤ P.length → (ldTo P k).1 < 18446744073709551616 ∧ (ldTo P k).2.1 ≤ k
  | 0, _ => by rw [ldTo_zero]; exact ⟨by decide, Nat.le_refl _⟩
  | k + 1, h => by
    obtain ⟨h1, h2⟩ := ldTo_ok P k (by omega)
    rw [ldTo_next (show k < P.length by omega)]
    unfold ldF
    split
    · rename_i hc
      exact ⟨or_lt64 h1 (by omega), by show _ + 1 ≤ k + 1; omega⟩
    · exact ⟨h1, by omega⟩
theorem shl_u64 (b : Nat) (h : b < 64) : IntKind.u64.wrap ((2 : Int) ^ b) = ((2 ^ b : Nat) : Int) := by
  have h1 := pow_lt64 h
  have e : ((2 : Int) ^ b) = ((2 ^ b : Nat) : Int) := by rw [Int.natCast_pow]; rfl
  rw [e, IntKind.wrap_u64]
  generalize 2 ^ b = q at h1
  omega
attribute [local go_sem] Oper.semAt_some
def LdR (w : World) (P : List St) (s n t i : Value) (wr : World) : Prop := ∃ k : Nat, k ≤ P.length ∧ i = .int .i64 (k : Int) ∧ s = .int .u64 ((ldTo P k).1 : Int) ∧ n = .int .i64 ((ldTo P k).2.1 : Int) ∧ t = .bool (ldTo P k).2.2 ∧ Below w.heap.size w wr
set_option maxRecDepth 100000 in
set_option maxHeartbeats 4000000 in
theorem loaded_any (regs : Int) (v : Value) (P : List St) (w : World) (h : Ps .u8 w v P) (hl : P.length ≤ 5000) (hk8 : ∀ t ∈ P, t.k < 256) :
    Calls Tryd.prog 6 #[.agg #[.int .i64 regs, v]] w fun e w' => e = .returned (.tuple #[.int .u64 ((ldAll P).1 : Int), .int .i64 ((ldAll P).2.1 : Int), .bool (ldAll P).2.2]) ∧ Below w.heap.size w w' := by
  have hb0 : Below w.heap.size w (w.alloc (.cells #[.int .i64 regs, v] 27)) := (Below.refl _ _).alloc (Nat.le_refl _) _
  have h0 := h.mono hb0
  have c0 := (box2 (w := w) (n := w.heap.size) (x := .int .i64 regs) (y := v) (t := 27) (w' := w.alloc (.cells #[.int .i64 regs, v] 27)) (by rw [← nblk_alloc w (.cells #[.int .i64 regs, v] 27)]; exact Below.refl _ _) rfl)
  obtain ⟨ao, c, rfl⟩ := h.slice
  have HB0 := hide hb0
  have H0 := hide h0
  have HC := hide c0
  clear hb0 h0 c0 h
  go_enter Tryd.func6, Tryd.ntmps6
  go_wp2
  have hs1 : (w.alloc (.cells #[.int .i64 regs, .slice ao P.length c] 27)).heap.size = w.heap.size + 1 := by simp
  obtain ⟨w1, hw1⟩ : ∃ w1, w.alloc (.cells #[.int .i64 regs, .slice ao P.length c] 27) = w1 := ⟨_, rfl⟩
  rw [hw1] at HB0 H0 HC hs1
  rw [hw1]
  clear hw1
  go_loopw [5, 6, 7, 8] (fun s n t i wr => LdR w1 P s n t i wr) (fun _ _ _ i _ => P.length - (intOf i).toNat)
  case atStart => exact ⟨0, Nat.zero_le _, rfl, by rw [ldTo_zero]; rfl, by rw [ldTo_zero]; rfl, by rw [ldTo_zero], Below.refl _ _⟩
  case round =>
    rename World => wo
    obtain ⟨k, hk, rfl, rfl, rfl, rfl, hbo⟩ := hrel
    have cv : wo.cell? ⟨w.heap.size, 1, none⟩ = some (.slice ao P.length c) := (hbo.cell (p := ⟨w.heap.size, 1, none⟩) (by show w.heap.size < _; omega)).trans HC.out.2
    obtain ⟨b1, b2⟩ := ldTo_ok P k hk
    by_cases hlt : k < P.length
    · have hlt' : (k : Int) < (P.length : Int) := by omega
      rcases (H0.out.mono hbo).cases with ⟨e, _⟩ | ⟨pb, off, cc, e, _, hcells⟩
      · rw [e] at hlt; exact absurd hlt (by simp)
      obtain ⟨rfl, rfl⟩ : ao = some ⟨pb, off, none⟩ ∧ c = cc := by simpa using e
      obtain ⟨s0, s1, s2, s3⟩ := hcells k hlt
      have hk8' := hk8 _ (List.getElem_mem hlt)
      have hnx := ldTo_next hlt
      obtain ⟨S, m, t, hs⟩ : ∃ S m t, ldTo P k = (S, m, t) := ⟨_, _, _, rfl⟩
      rw [hs] at b1 b2 hnx ⊢
      simp only at b1 b2 ⊢
      have HB := hide (And.intro hbo (And.intro hnx hk8))
      clear e hcells hbo hnx hs
      by_cases hk0 : P[k].k = 0
      · rw [hk0] at s0
        by_cases hb0 : 0 ≤ P[k].b
        · by_cases hb64 : P[k].b < 64
          · obtain ⟨b, hb⟩ : ∃ b : Nat, P[k].b = (b : Int) := ⟨P[k].b.toNat, by omega⟩
            have hb64' : b < 64 := by omega
            have HE := hide (ldF_yes (s := (S, m, t)) hk0 hb hb64')
            have hbit := bit_u64 S b b1
            have hsl := shl_u64 b hb64'
            have hor : bits .or .u64 (S : Int) ((2 : Int) ^ b) = ((S ||| 2 ^ b : Nat) : Int) := by
              have := bits_or_u64_nat S (2 ^ b) b1 (pow_lt64 hb64')
              rw [Int.natCast_pow] at this
              exact this
            have htb : ((S : Int) / 2 ^ b % 2 == 1) = S.testBit b := by
              have e : (S : Int) / 2 ^ b % 2 = ((S / 2 ^ b % 2 : Nat) : Int) := by simp
              rw [e, Nat.testBit_eq_decide_div_mod_eq]
              generalize S / 2 ^ b % 2 = q
              by_cases hq : q = 1
              · subst hq; rfl
              · have : ¬ ((q : Int)) = 1 := by omega
                simp [hq, this]
            have HOR := hide (And.intro hor htb)
            rw [hb] at s2
            clear hb64 hb0 hor htb
            cases t with
            | true =>
              go_wp2
              obtain ⟨hbo, hnx, _⟩ := HB.out
              have he := HE.out
              obtain ⟨hor, htb⟩ := HOR.out
              rw [hor]
              go_roundw
              case rel => exact ⟨k + 1, by omega, by go_num, by rw [hnx, he], by rw [hnx, he]; go_num, by rw [hnx, he]; rfl, hbo.alloc (hbo.size) _⟩
              case measure => simp [intOf]; omega
            | false =>
              go_wp2
              obtain ⟨hbo, hnx, _⟩ := HB.out
              have he := HE.out
              obtain ⟨hor, htb⟩ := HOR.out
              rw [hor, htb]
              go_roundw
              case rel => exact ⟨k + 1, by omega, by go_num, by rw [hnx, he], by rw [hnx, he]; go_num, by rw [hnx, he]; rfl, hbo.alloc (hbo.size) _⟩
              case measure => simp [intOf]; omega
          · have HE := hide (ldF_no (s := (S, m, t)) (t := P[k]) (fun h => hb64 h.2.2))
            go_wp2
            obtain ⟨hbo, hnx, _⟩ := HB.out
            have he := HE.out
            go_roundw
            case rel => exact ⟨k + 1, by omega, by go_num, by rw [hnx, he], by rw [hnx, he], by rw [hnx, he], hbo.alloc (hbo.size) _⟩
            case measure => simp [intOf]; omega
        · have HE := hide (ldF_no (s := (S, m, t)) (t := P[k]) (fun h => hb0 h.2.1))
          go_wp2
          obtain ⟨hbo, hnx, _⟩ := HB.out
          have he := HE.out
          go_roundw
          case rel => exact ⟨k + 1, by omega, by go_num, by rw [hnx, he], by rw [hnx, he], by rw [hnx, he], hbo.alloc (hbo.size) _⟩
          case measure => simp [intOf]; omega
      · have HE := hide (ldF_no (s := (S, m, t)) (t := P[k]) (fun h => hk0 h.1))
        have hne : ((P[k].k : Nat) : Int) ≠ 0 := by omega
        go_wp2
        obtain ⟨hbo, hnx, _⟩ := HB.out
        have he := HE.out
        go_roundw
        case rel => exact ⟨k + 1, by omega, by go_num, by rw [hnx, he], by rw [hnx, he], by rw [hnx, he], hbo.alloc (hbo.size) _⟩
        case measure => simp [intOf]; omega
    · obtain rfl : k = P.length := by omega
      have hlt' : ¬ ((P.length : Int)) < (P.length : Int) := by omega
      have HBO := hide hbo
      have HALL := hide (ldTo_all P)
      clear hbo
      go_wp2
      refine bodyPost_ret (v := .tuple #[.int .u64 ((ldTo P P.length).1 : Int), .int .i64 ((ldTo P P.length).2.1 : Int), .bool (ldTo P P.length).2.2]) (by simp [results, Tryd.results6]) rfl ?_
      rw [← HALL.out]
      exact ⟨rfl, HB0.out.trans (HBO.out.mono (by omega))⟩
end Go.Proofs.YtbgiechfhfeaeabDoor
