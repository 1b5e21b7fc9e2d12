import Derived.Test.YthhommjlomphdabDoorPart16
import Derived.Test.YthhommjlomphdabDoorPart15
import Derived.Laws.BitsAllLaws
/-
  How few shards do: reckoning.
-/
namespace Go.Proofs.YthhommjlomphdabDoor
open Go.RowKit Go.Deep Gf

/-- the rows of a set -/
def selTo (M : List (List Nat)) (s k : Nat) : List (List Nat) := ((List.range k).filter (fun i => s.testBit i)).map (fun i => M.getD i [])
theorem sel_zero (M : List (List Nat)) (s : Nat) : selTo M s 0 = [] := rfl
theorem sel_in (M : List (List Nat)) (s k : Nat) (h : s.testBit k = true) : selTo M s (k + 1) = selTo M s k ++ [M.getD k []] := by
  simp [selTo, List.range_succ, h]
theorem sel_out (M : List (List Nat)) (s k : Nat) (h : s.testBit k = false) : selTo M s (k + 1) = selTo M s k := by
  simp [selTo, List.range_succ, h]
theorem sel_len (M : List (List Nat)) (s k : Nat) : (selTo M s k).length ≤ k := by
  unfold selTo
  rw [List.length_map]
  exact Nat.le_trans (List.length_filter_le _ _) (by simp)
theorem sel_mem (M : List (List Nat)) (s k : Nat) (hk : k ≤ M.length) : ∀ l ∈ selTo M s k, l ∈ M := by
  intro l hl
  unfold selTo at hl
  obtain ⟨i, hi, rfl⟩ := List.mem_map.1 hl
  have h1 := List.mem_range.1 (List.mem_filter.1 hi).1
  have h2 : i < M.length := by omega
  have e : M.getD i [] = M[i] := by simp [h2]
  rw [e]; exact List.getElem_mem h2
theorem sel_rem (M : List (List Nat)) (s n : Nat) : Rem (selTo M s n) 0 = Sel (mf M) n (fun i => s.testBit i = true) := by
  funext v
  apply propext
  unfold selTo
  rw [rem_map]
  unfold Sel
  constructor
  · rintro ⟨i, hi, rfl⟩
    obtain ⟨h1, h2⟩ := List.mem_filter.1 hi
    exact ⟨i, List.mem_range.1 h1, h2, rfl⟩
  · rintro ⟨i, hi, hm, rfl⟩
    exact ⟨i, List.mem_filter.2 ⟨List.mem_range.2 hi, hm⟩, rfl⟩
/-- the rows of a set are made of another's -/
def Made (M : List (List Nat)) (n s gone : Nat) : Prop := ∀ i, i < n → gone.testBit i = true → Span (Sel (mf M) n (fun i => s.testBit i = true)) (mf M i)
theorem made_rank {M : List (List Nat)} {n s gone a b : Nat} (hb : ∀ l ∈ M, ∀ x ∈ l, x < 256) (hl : ∀ l ∈ M, l.length ≤ 64) (hn : n ≤ M.length) (h1 : RankIs (selTo M s n) a) (h2 : RankIs (selTo M s n ++ selTo M gone n) b) : a = b ↔ Made M n s gone := by
  rw [rank_same (fun l hx => hb l (sel_mem M s n hn l hx)) (fun l hx => hb l (sel_mem M gone n hn l hx)) (fun l hx => hl l (sel_mem M s n hn l hx)) (fun l hx => hl l (sel_mem M gone n hn l hx)) h1 h2, sel_rem]
  unfold Made
  constructor
  · intro h i hi hg
    exact h (M.getD i []) (by
      unfold selTo
      exact List.mem_map.2 ⟨i, List.mem_filter.2 ⟨List.mem_range.2 hi, hg⟩, rfl⟩)
  · intro h l hl
    unfold selTo at hl
    obtain ⟨i, hi, rfl⟩ := List.mem_map.1 hl
    obtain ⟨h1, h2⟩ := List.mem_filter.1 hi
    exact h i (List.mem_range.1 h1) h2
theorem sel_fit (D L G s t : Nat) (hD : D ≤ 12) (hL : L ≤ 4) (hG : G ≤ 4) : FitG (selTo (matL D L G) s (D + L + G)) ∧ FitG (selTo (matL D L G) s (D + L + G) ++ selTo (matL D L G) t (D + L + G)) := by
  have h1 := sel_len (matL D L G) s (D + L + G)
  have h2 := sel_len (matL D L G) t (D + L + G)
  have hm := mat_len D L G
  have hr : ∀ u, ∀ l ∈ selTo (matL D L G) u (D + L + G), l.length ≤ 64 := fun u l hl => by
    rw [mat_row D L G l (sel_mem _ _ _ (by omega) l hl)]; omega
  refine ⟨⟨by omega, fun i hi => hr s _ (List.getElem_mem hi)⟩, by rw [List.length_append]; omega, fun i hi => ?_⟩
  rcases List.mem_append.1 (List.getElem_mem hi) with h | h
  · exact hr _ _ h
  · exact hr _ _ h
/-- how many a set has -/
def popN (s : Nat) : Nat := cp (fun i => s.testBit i) 16
theorem pop_step {s j : Nat} : cp (fun i => s.testBit i) (j + 1) = cp (fun i => s.testBit i) j + s / 2 ^ j % 2 := by
  show cp (fun i => s.testBit i) j + (if s.testBit j = true then 1 else 0) = _
  congr 1
  rw [Nat.testBit_eq_decide_div_mod_eq]
  have : s / 2 ^ j % 2 < 2 := Nat.mod_lt _ (by decide)
  generalize s / 2 ^ j % 2 = q at this
  by_cases h : q = 1
  · subst h; rfl
  · have : q = 0 := by omega
    subst this; rfl
theorem pop_end {s j : Nat} (hj : j ≤ 16) (h : s / 2 ^ j = 0) : cp (fun i => s.testBit i) j = popN s := by
  unfold popN
  obtain ⟨d, hd⟩ := Nat.exists_eq_add_of_le hj
  rw [hd, cp_add]
  have : ∀ e, cp (fun i => s.testBit (j + i)) e = 0 := by
    intro e
    induction e with
    | zero => rfl
    | succ e ih =>
      show cp _ e + (if s.testBit (j + e) = true then 1 else 0) = 0
      have hb : s.testBit (j + e) = false := by
        rw [Nat.testBit_eq_decide_div_mod_eq, Nat.pow_add, ← Nat.div_div_eq_div_mul, h]
        simp
      rw [ih, hb]; rfl
  rw [this]; omega
theorem and_none {s g : Nat} (h : s &&& g = 0) {i : Nat} (hg : g.testBit i = true) : s.testBit i = false := by
  have := congrArg (fun x => Nat.testBit x i) h
  simp only [Nat.testBit_and, hg, Bool.and_true, Nat.zero_testBit] at this
  exact this
/-- no set that does is smaller -/
theorem least_low {D L G lost : Nat} (hD : D ≤ 12) (hL : L ≤ 4) (hG : G ≤ 4) (h16 : D + L + G ≤ 16) {C : Ck} (hC : tells (cks D L G) (mems (goneN (D + L + G) lost)) = some C) {s : Nat} (hs : s &&& goneN (D + L + G) lost = 0) (hm : Made (matL D L G) (D + L + G) s (goneN (D + L + G) lost)) : cntOf D L G lost C ≤ popN s := by
  refine Nat.le_trans (cntOf_le hD hL hG h16 hC (fun i => s.testBit i) (fun i hi => and_none hs (mem_mems.1 hi).2) (fun i hi => hm i ((mem_gone h16).1 hi).1 (mem_mems.1 hi).2)) ?_
  rw [mems_cp]
  exact cp_sub 16 (fun i _ h => by rw [Bool.and_eq_true] at h; exact h.2)
/-- the set that is loaded does -/
theorem least_up {D L G lost : Nat} (hD : D ≤ 12) (hG : G ≤ 4) (h16 : D + L + G ≤ 16) {C : Ck} (hC : tells (cks D L G) (mems (goneN (D + L + G) lost)) = some C) : ∃ S, S < 2 ^ (D + L + G) ∧ S &&& goneN (D + L + G) lost = 0 ∧ popN S = cntOf D L G lost C ∧ Made (matL D L G) (D + L + G) S (goneN (D + L + G) lost) := by
  obtain ⟨S, _, hbit, _⟩ := ld_all (fewestS 8 C (keptN (D + L + G) lost)).1 (goneN (D + L + G) lost) (keptN (D + L + G) lost)
  have e : D + (L + G) = D + L + G := by omega
  refine ⟨S, ?_, ?_, ?_, ?_⟩
  · refine Nat.lt_pow_two_of_testBit S (fun j hj => ?_)
    rw [hbit j]
    have : j ∉ mems (keptN (D + L + G) lost) := fun h => by have := ((mem_kept h16).1 h).1; omega
    simp [this]
  · apply Nat.eq_of_testBit_eq
    intro i
    rw [Nat.testBit_and, hbit, goneN_bit, Nat.zero_testBit]
    by_cases hk : i ∈ mems (keptN (D + L + G) lost)
    · simp [((mem_kept h16).1 hk).2]
    · simp [hk]
  · unfold popN cntOf cntR
    rw [mems_cp]
    exact cp_congr 16 (fun i hi => by
      rw [hbit]
      have : decide (i ∈ mems (keptN (D + L + G) lost)) = (keptN (D + L + G) lost).testBit i := by
        rw [Bool.eq_iff_iff, decide_eq_true_iff, mem_mems]
        exact ⟨fun h => h.2, fun h => ⟨hi, h⟩⟩
      rw [this])
  · intro i hi hg
    obtain ⟨hp, _⟩ := plan_of hD hG hC
    have hc := mat_code D L G hD hG
    have := hp.tells hc (fun i hi => by rw [e]; exact ((mem_gone h16).1 hi).1) i (mem_mems.2 ⟨by omega, hg⟩)
    rw [e] at this
    refine Span.sub (fun r hr => ?_) (fun r hr => ?_) this
    · obtain ⟨j, _, _, rfl⟩ := hr; exact hc.byt j
    · obtain ⟨j, hj, ⟨h1, h2⟩, rfl⟩ := hr
      refine Span.mem (hc.byt j) ⟨j, hj, ?_, rfl⟩
      show S.testBit j = true
      rw [hbit, h2]
      have : j ∈ mems (keptN (D + L + G) lost) := (mem_kept h16).2 ⟨hj, by
        cases hb : lost.testBit j
        · rfl
        · exact absurd ((mem_gone h16).2 ⟨hj, hb⟩) h1⟩
      simp [this]
end Go.Proofs.YthhommjlomphdabDoor
/-
  The law's word for what a program loads.
-/
namespace Go.Proofs.YthhommjlomphdabDoor
open Go.RowKit Go.Deep Gf

def ldTo (P : List St) (k : Nat) : Nat × Nat × Bool := (P.take k).foldl ldF (0, 0, false)
theorem ldTo_zero (P : List St) : ldTo P 0 = (0, 0, false) := by unfold ldTo; simp
theorem ldTo_next {P : List St} {k : Nat} (hk : k < P.length) : ldTo P (k + 1) = ldF (ldTo P k) P[k] := by
  unfold ldTo
  rw [List.take_succ_eq_append_getElem hk, List.foldl_append]; rfl
theorem ldTo_all (P : List St) : ldTo P P.length = ldAll P := by unfold ldTo ldAll; rw [List.take_length]
theorem ldF_yes {s : Nat × Nat × Bool} {t : St} {b : Nat} (hk : t.k = 0) (hb : t.b = (b : Int)) (h : b < 64) : ldF s t = (s.1 ||| 2 ^ b, s.2.1 + 1, s.2.2 || s.1.testBit b) := by
  unfold ldF
  rw [if_pos ⟨hk, by omega, by omega⟩, hb]; rfl
theorem ldF_no {s : Nat × Nat × Bool} {t : St} (h : ¬ (t.k = 0 ∧ 0 ≤ t.b ∧ t.b < 64)) : ldF s t = s := by unfold ldF; rw [if_neg h]
theorem or_lt64 {a b : Nat} (ha : a < 18446744073709551616) (hb : b < 64) : a ||| 2 ^ b < 18446744073709551616 := by
  have h1 : 2 ^ b < 2 ^ 64 := Nat.pow_lt_pow_right (by decide) hb
  exact Nat.or_lt_two_pow (n := 64) ha h1
theorem ldTo_ok (P : List St) : ∀ k, k ≤ P.length → (ldTo P k).1 < 18446744073709551616 ∧ (ldTo P k).2.1 ≤ k
  | 0, _ => by rw [ldTo_zero]; exact ⟨by decide, Nat.le_refl _⟩
  | k + 1, h => by
    obtain ⟨h1, h2⟩ := ldTo_ok P k (by omega)
    rw [ldTo_next (show k < P.length by omega)]
    unfold ldF
    split
    · rename_i hc
      exact ⟨or_lt64 h1 (by omega), by show _ + 1 ≤ k + 1; omega⟩
    · exact ⟨h1, by omega⟩
theorem shl_u64 (b : Nat) (h : b < 64) : IntKind.u64.wrap ((2 : Int) ^ b) = ((2 ^ b : Nat) : Int) := by
  have h1 := pow_lt64 h
  have e : ((2 : Int) ^ b) = ((2 ^ b : Nat) : Int) := by rw [Int.natCast_pow]; rfl
  rw [e, IntKind.wrap_u64]
  generalize 2 ^ b = q at h1
  omega
attribute [local go_sem] Oper.semAt_some
def LdR (w : World) (P : List St) (s n t i : Value) (wr : World) : Prop := ∃ k : Nat, k ≤ P.length ∧ i = .int .i64 (k : Int) ∧ s = .int .u64 ((ldTo P k).1 : Int) ∧ n = .int .i64 ((ldTo P k).2.1 : Int) ∧ t = .bool (ldTo P k).2.2 ∧ Below w.heap.size w wr
set_option maxRecDepth 100000 in
set_option maxHeartbeats 4000000 in
theorem loaded_any (regs : Int) (v : Value) (P : List St) (w : World) (h : Ps .u8 w v P) (hl : P.length ≤ 5000) (hk8 : ∀ t ∈ P, t.k < 256) :
    Calls Tryd.prog 6 #[.agg #[.int .i64 regs, v]] w fun e w' => e = .returned (.tuple #[.int .u64 ((ldAll P).1 : Int), .int .i64 ((ldAll P).2.1 : Int), .bool (ldAll P).2.2]) ∧ Below w.heap.size w w' := by
  have hb0 : Below w.heap.size w (w.alloc (.cells #[.int .i64 regs, v] 27)) := (Below.refl _ _).alloc (Nat.le_refl _) _
  have h0 := h.mono hb0
  have c0 := (box2 (w := w) (n := w.heap.size) (x := .int .i64 regs) (y := v) (t := 27) (w' := w.alloc (.cells #[.int .i64 regs, v] 27)) (by rw [← nblk_alloc w (.cells #[.int .i64 regs, v] 27)]; exact Below.refl _ _) rfl)
  obtain ⟨ao, c, rfl⟩ := h.slice
  have HB0 := hide hb0
  have H0 := hide h0
  have HC := hide c0
  clear hb0 h0 c0 h
  go_enter Tryd.func6, Tryd.ntmps6
  go_wp2
  have hs1 : (w.alloc (.cells #[.int .i64 regs, .slice ao P.length c] 27)).heap.size = w.heap.size + 1 := by simp
  obtain ⟨w1, hw1⟩ : ∃ w1, w.alloc (.cells #[.int .i64 regs, .slice ao P.length c] 27) = w1 := ⟨_, rfl⟩
  rw [hw1] at HB0 H0 HC hs1
  rw [hw1]
  clear hw1
  go_loopw [5, 6, 7, 8] (fun s n t i wr => LdR w1 P s n t i wr) (fun _ _ _ i _ => P.length - (intOf i).toNat)
  case atStart => exact ⟨0, Nat.zero_le _, rfl, by rw [ldTo_zero]; rfl, by rw [ldTo_zero]; rfl, by rw [ldTo_zero], Below.refl _ _⟩
  case round =>
    rename World => wo
    obtain ⟨k, hk, rfl, rfl, rfl, rfl, hbo⟩ := hrel
    have cv : wo.cell? ⟨w.heap.size, 1, none⟩ = some (.slice ao P.length c) := (hbo.cell (p := ⟨w.heap.size, 1, none⟩) (by show w.heap.size < _; omega)).trans HC.out.2
    obtain ⟨b1, b2⟩ := ldTo_ok P k hk
    by_cases hlt : k < P.length
    · have hlt' : (k : Int) < (P.length : Int) := by omega
      rcases (H0.out.mono hbo).cases with ⟨e, _⟩ | ⟨pb, off, cc, e, _, hcells⟩
      · rw [e] at hlt; exact absurd hlt (by simp)
      obtain ⟨rfl, rfl⟩ : ao = some ⟨pb, off, none⟩ ∧ c = cc := by simpa using e
      obtain ⟨s0, s1, s2, s3⟩ := hcells k hlt
      have hk8' := hk8 _ (List.getElem_mem hlt)
      have hnx := ldTo_next hlt
      obtain ⟨S, m, t, hs⟩ : ∃ S m t, ldTo P k = (S, m, t) := ⟨_, _, _, rfl⟩
      rw [hs] at b1 b2 hnx ⊢
      simp only at b1 b2 ⊢
      have HB := hide (And.intro hbo (And.intro hnx hk8))
      clear e hcells hbo hnx hs
      by_cases hk0 : P[k].k = 0
      · rw [hk0] at s0
        by_cases hb0 : 0 ≤ P[k].b
        · by_cases hb64 : P[k].b < 64
          · obtain ⟨b, hb⟩ : ∃ b : Nat, P[k].b = (b : Int) := ⟨P[k].b.toNat, by omega⟩
            have hb64' : b < 64 := by omega
            have HE := hide (ldF_yes (s := (S, m, t)) hk0 hb hb64')
            have hbit := bit_u64 S b b1
            have hsl := shl_u64 b hb64'
            have hor : bits .or .u64 (S : Int) ((2 : Int) ^ b) = ((S ||| 2 ^ b : Nat) : Int) := by
              have := bits_or_u64_nat S (2 ^ b) b1 (pow_lt64 hb64')
              rw [Int.natCast_pow] at this
              exact this
            have htb : ((S : Int) / 2 ^ b % 2 == 1) = S.testBit b := by
              have e : (S : Int) / 2 ^ b % 2 = ((S / 2 ^ b % 2 : Nat) : Int) := by simp
              rw [e, Nat.testBit_eq_decide_div_mod_eq]
              generalize S / 2 ^ b % 2 = q
              by_cases hq : q = 1
              · subst hq; rfl
              · have : ¬ ((q : Int)) = 1 := by omega
                simp [hq, this]
            have HOR := hide (And.intro hor htb)
            rw [hb] at s2
            clear hb64 hb0 hor htb
            cases t with
            | true =>
              go_wp2
              obtain ⟨hbo, hnx, _⟩ := HB.out
              have he := HE.out
              obtain ⟨hor, htb⟩ := HOR.out
              rw [hor]
              go_roundw
              case rel => exact ⟨k + 1, by omega, by go_num, by rw [hnx, he], by rw [hnx, he]; go_num, by rw [hnx, he]; rfl, hbo.alloc (hbo.size) _⟩
              case measure => simp [intOf]; omega
            | false =>
              go_wp2
              obtain ⟨hbo, hnx, _⟩ := HB.out
              have he := HE.out
              obtain ⟨hor, htb⟩ := HOR.out
              rw [hor, htb]
              go_roundw
              case rel => exact ⟨k + 1, by omega, by go_num, by rw [hnx, he], by rw [hnx, he]; go_num, by rw [hnx, he]; rfl, hbo.alloc (hbo.size) _⟩
              case measure => simp [intOf]; omega
          · have HE := hide (ldF_no (s := (S, m, t)) (t := P[k]) (fun h => hb64 h.2.2))
            go_wp2
            obtain ⟨hbo, hnx, _⟩ := HB.out
            have he := HE.out
            go_roundw
            case rel => exact ⟨k + 1, by omega, by go_num, by rw [hnx, he], by rw [hnx, he], by rw [hnx, he], hbo.alloc (hbo.size) _⟩
            case measure => simp [intOf]; omega
        · have HE := hide (ldF_no (s := (S, m, t)) (t := P[k]) (fun h => hb0 h.2.1))
          go_wp2
          obtain ⟨hbo, hnx, _⟩ := HB.out
          have he := HE.out
          go_roundw
          case rel => exact ⟨k + 1, by omega, by go_num, by rw [hnx, he], by rw [hnx, he], by rw [hnx, he], hbo.alloc (hbo.size) _⟩
          case measure => simp [intOf]; omega
      · have HE := hide (ldF_no (s := (S, m, t)) (t := P[k]) (fun h => hk0 h.1))
        have hne : ((P[k].k : Nat) : Int) ≠ 0 := by omega
        go_wp2
        obtain ⟨hbo, hnx, _⟩ := HB.out
        have he := HE.out
        go_roundw
        case rel => exact ⟨k + 1, by omega, by go_num, by rw [hnx, he], by rw [hnx, he], by rw [hnx, he], hbo.alloc (hbo.size) _⟩
        case measure => simp [intOf]; omega
    · obtain rfl : k = P.length := by omega
      have hlt' : ¬ ((P.length : Int)) < (P.length : Int) := by omega
      have HBO := hide hbo
      have HALL := hide (ldTo_all P)
      clear hbo
      go_wp2
      refine bodyPost_ret (v := .tuple #[.int .u64 ((ldTo P P.length).1 : Int), .int .i64 ((ldTo P P.length).2.1 : Int), .bool (ldTo P P.length).2.2]) (by simp [results, Tryd.results6]) rfl ?_
      rw [← HALL.out]
      exact ⟨rfl, HB0.out.trans (HBO.out.mono (by omega))⟩
end Go.Proofs.YthhommjlomphdabDoor
