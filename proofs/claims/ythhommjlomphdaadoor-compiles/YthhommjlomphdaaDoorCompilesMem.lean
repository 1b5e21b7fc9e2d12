/-
  What the law on programs that repair lays: rows of bytes, the shards that are given.
-/
import Derived.Test.YthhommjlomphdaaDoorCompilesMath
import Derived.Test.YthhommjlomphdaaDoorPart05
import Derived.Test.YthhommjlomphdaaDoorPart08
import Derived.Test.YthhommjlomphdaaDoorRefRun
import Derived.Test.YthhommjlomphdaaDoorPart19
namespace Go.Proofs.YthhommjlomphdaaDoor
open Go.RowKit Go.Deep Gf

def bvs (l : List Nat) : List Value := l.map fun x => Value.int .u8 ((x : Nat) : Int)
theorem bvs_snoc (l : List Nat) (x : Nat) : bvs (l ++ [x]) = bvs l ++ [.int .u8 (x : Int)] := by simp [bvs]
theorem own_bytes {w : World} {base n : Nat} {v : Value} {l : List Nat} (h : w.ownsRow base 5 1 v n (bvs l)) (hx : ∀ x ∈ l, x < 256) (hc : l.length ≤ 140737488355328) : Bs w v l := by
  have hn : n = l.length := by have := h.1; simp [bvs] at this; omega
  subst hn
  rcases h.2 with ⟨h0, h1⟩ | ⟨g, cap, cur, e1, e2, e3, e4, e5, e6, e7⟩
  · have : l = [] := List.eq_nil_of_length_eq_zero h1
    subst this
    exact ⟨none, 0, h0, by simp, by simp, by simp, fun h => absurd rfl h⟩
  · subst e1
    refine ⟨some ⟨g, 0, none⟩, cap, rfl, e4, hc, hx, fun _ => ⟨g, 0, rfl, fun k hk => ?_⟩⟩
    rw [Nat.zero_add, h.cellAt k (by omega)]
    simp [bvs, hk]
/-- two lists of other types lie in other blocks -/
theorem own_apart {w : World} {b1 b2 s1 s2 n1 n2 : Nat} {e1 e2 : TypeId} {v u : Value} {xs ys : List Value} (h : w.ownsRow b1 e1 s1 v n1 xs) (k : w.ownsRow b2 e2 s2 u n2 ys) (hne : e1 ≠ e2) : v.ownBlock = none ∨ v.ownBlock ≠ u.ownBlock := by
  rcases h.2 with ⟨h0, _⟩ | ⟨g, cap, cur, q1, q2, q3, _⟩
  · rw [h0]; exact .inl rfl
  · refine .inr fun e => ?_
    rw [q1] at e
    rcases k.2 with ⟨k0, _⟩ | ⟨g', cap', cur', p1, p2, p3, _⟩
    · rw [k0] at e; simp [Value.ownBlock] at e
    · rw [p1] at e
      simp [Value.ownBlock] at e
      subst e
      rw [q3] at p3
      simp at p3
      exact hne p3.2
theorem byte_bytes : (5 : TypeId) ≠ 44 := by decide
theorem bytes_bool : (44 : TypeId) ≠ 4 := by decide
theorem bool_bytes : (4 : TypeId) ≠ 44 := by decide
/-- a row under way -/
def Row9 (base : Nat) (w : World) (v : Value) (n : Nat) : Prop := ∃ l : List Nat, l.length = n ∧ (∀ x ∈ l, x < 256) ∧ w.ownsRow base 5 1 v n (bvs l)
/-- rows that the call made -/
def Rw (w0 w : World) (v : Value) (K : List (List Nat)) : Prop :=
  ∃ xs : List Value, xs.length = K.length ∧ (∀ i (h : i < xs.length) (h' : i < K.length), w.ownsRow w0.heap.size 5 1 xs[i] 9 (bvs K[i])) ∧ (∀ l ∈ K, l.length = 9 ∧ ∀ x ∈ l, x < 256) ∧ w.ownsRow w0.heap.size 44 1 v xs.length xs ∧ Below w0.heap.size w0 w
theorem Rw.nil (w : World) : Rw w w (.slice none 0 0) [] := ⟨[], rfl, fun i h => absurd h (by simp), fun l h => absurd h (by simp), World.ownsRow_nil _ _ _ _, Below.refl _ _⟩
theorem Rw.next {w0 w w' : World} {v : Value} {K : List (List Nat)} (h : Rw w0 w v K) (hb : Below w.heap.size w w') : Rw w0 w' v K := by
  obtain ⟨xs, h1, h2, h3, h4, h5⟩ := h
  exact ⟨xs, h1, fun i a b => ownsRow_below (h2 i a b) hb, h3, ownsRow_below h4 hb, h5.trans (hb.mono h5.size)⟩
theorem Rw.bel {w0 w : World} {v : Value} {K : List (List Nat)} (h : Rw w0 w v K) : Below w0.heap.size w0 w := by
  obtain ⟨xs, h1, h2, h3, h4, h5⟩ := h; exact h5
theorem Rw.nine {w0 w : World} {v : Value} {K : List (List Nat)} (h : Rw w0 w v K) : ∀ l ∈ K, l.length = 9 ∧ ∀ x ∈ l, x < 256 := by
  obtain ⟨xs, h1, h2, h3, h4, h5⟩ := h; exact h3
theorem Rw.rd {w0 w : World} {v : Value} {K : List (List Nat)} (h : Rw w0 w v K) (hl : K.length ≤ 100000) : Rd w v K := by
  obtain ⟨xs, hlen, hB, h9, hown, hb⟩ := h
  rcases hown.2 with ⟨h0, h1⟩ | ⟨g, cap, cur, e1, e2, e3, e4, e5, e6, e7⟩
  · have : K = [] := List.eq_nil_of_length_eq_zero (by omega)
    subst this
    exact ⟨none, 0, h0, by simp, fun h => absurd rfl h⟩
  · refine ⟨some ⟨g, 0, none⟩, cap, by rw [e1, hlen], by omega, fun _ => ⟨g, 0, rfl, fun i hi => ?_⟩⟩
    have hix : i < xs.length := by omega
    have := hown.cells (g := g) (by rw [e1]; rfl) i xs[i] (by simp [hix])
    rw [add0] at this
    obtain ⟨q1, q2⟩ := h9 _ (List.getElem_mem hi)
    exact ⟨xs[i], by rw [Nat.zero_add]; exact this, own_bytes (hB i hix hi) q2 (by omega)⟩
theorem Rw.push {w0 w w1 w2 : World} {v v' u : Value} {K : List (List Nat)} {l : List Nat} {o : Obj} {xs : List Value} (hlen : xs.length = K.length) (hB : ∀ i (h : i < xs.length) (h' : i < K.length), w.ownsRow w0.heap.size 5 1 xs[i] 9 (bvs K[i])) (h9 : ∀ l ∈ K, l.length = 9 ∧ ∀ x ∈ l, x < 256)
    (hown : w.ownsRow w0.heap.size 44 1 v xs.length xs) (hb : Below w0.heap.size w0 w) (hw : w1 = w.alloc o) (hu : w.ownsRow w0.heap.size 5 1 u 9 (bvs l)) (hl : l.length = 9 ∧ ∀ x ∈ l, x < 256)
    (hg : w1.grownBy w2 v.ownBlock) (hown' : w2.ownsRow w0.heap.size 44 1 v' (xs.length + 1) (xs ++ [u])) : Rw w0 w2 v' (K ++ [l]) := by
  subst hw
  have ha := (Below.refl w.heap.size w).alloc (Nat.le_refl _) o
  have keep : ∀ {x : Value} {ys : List Value}, w.ownsRow w0.heap.size 5 1 x 9 ys → w2.ownsRow w0.heap.size 5 1 x 9 ys := fun hx => (ownsRow_below hx ha).kept hg (own_apart hx hown byte_bytes)
  refine ⟨xs ++ [u], by simp [hlen], fun i h h' => ?_, fun r hr => ?_, by simpa using hown', (hb.alloc hb.size o).grown hg (by rw [nblk_alloc]; have := hb.size; omega) fun k hk => (hown.lt k hk).1⟩
  · by_cases hi : i < xs.length
    · rw [List.getElem_append_left hi, List.getElem_append_left (by omega)]
      exact keep (hB i hi (by omega))
    · have e : i = xs.length := by simp at h; omega
      subst e
      rw [List.getElem_append_right (Nat.le_refl _), List.getElem_append_right (by omega)]
      simpa [hlen] using keep hu
  · rcases List.mem_append.1 hr with h | h
    · exact h9 r h
    · rw [List.mem_singleton.1 h]; exact hl
theorem Row9.push {base n x : Nat} {w2 : World} {v' : Value} {l : List Nat} (hl : l.length = n) (hx : ∀ x ∈ l, x < 256) (hx2 : x < 256) (hown : w2.ownsRow base 5 1 v' (n + 1) (bvs l ++ [.int .u8 (x : Int)])) : Row9 base w2 v' (n + 1) := by
  refine ⟨l ++ [x], by simp [hl], fun y hy => ?_, by rw [bvs_snoc]; exact hown⟩
  rcases List.mem_append.1 hy with h | h
  · exact hx y h
  · rw [List.mem_singleton.1 h]; exact hx2
theorem Row9.slice {base n : Nat} {w : World} {v : Value} (h : Row9 base w v n) (hn : 0 < n) : ∃ g cap, v = .slice (some ⟨g, 0, none⟩) n cap := by
  obtain ⟨l, _, _, ho⟩ := h
  rcases ho.2 with ⟨_, h1⟩ | ⟨g, cap, cur, e1, _⟩
  · omega
  · exact ⟨g, cap, e1⟩
theorem row_start (wo : World) {c1 c2 c3 : Nat} (h1 : c1 < 256) (h2 : c2 < 256) (h3 : c3 < 256) : Row9 wo.heap.size (wo.alloc (.cells #[.int .u8 (c1 : Int), .int .u8 (c2 : Int), .int .u8 (c3 : Int)] 5)) (.slice (some ⟨wo.heap.size, 0, none⟩) 3 3) (3 + 0) := by
  refine ⟨[c1, c2, c3], rfl, fun x hx => ?_, ?_⟩
  · simp at hx
    rcases hx with rfl | rfl | rfl
    · exact h1
    · exact h2
    · exact h3
  · have := World.ownsRow_lit (e := 5) (size := 1) (base := wo.heap.size) wo #[.int .u8 (c1 : Int), .int .u8 (c2 : Int), .int .u8 (c3 : Int)] 3 (Nat.le_refl _) (by unfold maxLen; omega) rfl
    simpa [bvs] using this
def CvR (wo : World) (bv kv : Value) (wr : World) : Prop := ∃ k : Nat, k ≤ 6 ∧ kv = .int .i64 (k : Int) ∧ Row9 wo.heap.size wr bv (3 + k) ∧ Below wo.heap.size wo wr
def CvR3 (wo : World) (bv kv : Value) (wr : World) : Prop := ∃ n : Nat, n ≤ 9 ∧ kv = .int .i64 (n : Int) ∧ Row9 wo.heap.size wr bv n ∧ Below wo.heap.size wo wr
def CdR (w0 : World) (D : Nat) (dv iv : Value) (wr : World) : Prop := ∃ K : List (List Nat), K.length ≤ D ∧ iv = .int .i64 (K.length : Int) ∧ Rw w0 wr dv K
theorem byte_at (z : Int) : ∃ x : Nat, x < 256 ∧ IntKind.u8.wrap z = (x : Int) := by
  refine ⟨(IntKind.u8.wrap z).toNat, ?_, ?_⟩ <;> (rw [IntKind.wrap_u8]; omega)
theorem byte_mod (z : Int) : ∃ x : Nat, x < 256 ∧ z % 256 = (x : Int) := ⟨(z % 256).toNat, by omega, by omega⟩
/-! ### which shards are given -/
theorem goneV_bit (lost i : Nat) : goneV lost i = lost.testBit i := by unfold goneV; rw [Nat.testBit_eq_decide_div_mod_eq]
theorem has_is (s k : Nat) (hs : s < 18446744073709551616) (hk : k ≤ 64) (w : World) :
    Calls Tryd.prog 26 #[.int .u64 s, .int .i64 k] w fun e w' => e = .returned (.bool (s.testBit k)) ∧ w' = w := by
  refine (has_any s k hs hk w).mono ?_
  rintro e w' ⟨rfl, rfl⟩
  refine ⟨?_, rfl⟩
  rw [Nat.testBit_eq_decide_div_mod_eq]
  generalize s / 2 ^ k % 2 = q
  by_cases h : q = 1
  · subst h; rfl
  · have : ¬ ((q : Int)) = 1 := by omega
    simp [h, this]
def bls (lost k : Nat) : List Value := (List.range k).map fun i => .bool (lost.testBit i)
theorem bls_succ (lost k : Nat) : bls lost (k + 1) = bls lost k ++ [.bool (lost.testBit k)] := by simp [bls, List.range_succ]
theorem gn_own {w : World} {base : Nat} {v : Value} {N lost : Nat} (h : w.ownsRow base 4 1 v N (bls lost N)) : Gn w v N lost := by
  rcases h.2 with ⟨h0, h1⟩ | ⟨g, cap, cur, e1, _⟩
  · exact ⟨none, 0, by rw [h0, h1], fun i hi => by omega⟩
  · refine ⟨_, cap, e1, fun i hi => ⟨g, rfl, ?_⟩⟩
    rw [e1] at h
    rw [h.cellAt i (by omega), goneV_bit]
    simp [bls, hi]
/-- the first k of the shards that are given -/
def inTo (S : List (List Nat)) (lost k : Nat) : List (List Nat) := (List.range k).map (fun i => if lost.testBit i = true then [] else S.getD i [])
theorem inTo_all (S : List (List Nat)) (lost : Nat) : inTo S lost S.length = inL S lost := rfl
theorem inTo_len (S : List (List Nat)) (lost k : Nat) : (inTo S lost k).length = k := by simp [inTo]
theorem inTo_gone (S : List (List Nat)) {lost k : Nat} (h : lost.testBit k = true) : inTo S lost (k + 1) = inTo S lost k ++ [[]] := by simp [inTo, List.range_succ, h]
theorem inTo_here (S : List (List Nat)) {lost k : Nat} (h : lost.testBit k = false) : inTo S lost (k + 1) = inTo S lost k ++ [S.getD k []] := by simp [inTo, List.range_succ, h]
theorem bs_none (w : World) : Bs w (.slice none 0 0) [] := ⟨none, 0, rfl, by simp, by simp, by simp, fun h => absurd rfl h⟩
def InR (w : World) (S : List (List Nat)) (lost : Nat) (nv iv kv : Value) (wr : World) : Prop := ∃ k : Nat, k ≤ S.length ∧ kv = .int .i64 (k : Int) ∧ wr.ownsRow w.heap.size 4 1 nv k (bls lost k) ∧ Rl w wr iv (inTo S lost k)
/-! ### the place of a lost shard among the outputs -/
def atN (lost k : Nat) : Nat := ((List.range k).filter (fun i => lost.testBit i)).length
theorem atN_in {lost k : Nat} (h : lost.testBit k = true) : atN lost (k + 1) = atN lost k + 1 := by simp [atN, List.range_succ, h]
theorem atN_out {lost k : Nat} (h : lost.testBit k = false) : atN lost (k + 1) = atN lost k := by simp [atN, List.range_succ, h]
theorem range_at (p : Nat → Bool) {k : Nat} (hp : p k = true) : ∀ n, k < n → ∃ h : ((List.range k).filter p).length < ((List.range n).filter p).length, ((List.range n).filter p)[((List.range k).filter p).length] = k
  | 0, h => absurd h (by omega)
  | n + 1, h => by
    have e : (List.range (n + 1)).filter p = (List.range n).filter p ++ (if p n = true then [n] else []) := by
      rw [List.range_succ, List.filter_append]
      cases hn : p n <;> simp [hn]
    by_cases hk : k < n
    · obtain ⟨h1, h2⟩ := range_at p hp n hk
      have h3 : ((List.range k).filter p).length < ((List.range (n + 1)).filter p).length := by rw [e, List.length_append]; omega
      refine ⟨h3, ?_⟩
      simp only [e]
      rw [List.getElem_append_left h1]; exact h2
    · have : k = n := by omega
      subst this
      rw [if_pos hp] at e
      have h3 : ((List.range k).filter p).length < ((List.range (k + 1)).filter p).length := by rw [e, List.length_append]; simp
      refine ⟨h3, ?_⟩
      simp only [e]
      rw [List.getElem_append_right (Nat.le_refl _)]; simp
theorem mems_range {n lost : Nat} (h : n ≤ 16) : mems (goneN n lost) = (List.range n).filter (fun i => lost.testBit i) := by
  unfold mems
  obtain ⟨d, hd⟩ := Nat.exists_eq_add_of_le h
  rw [hd, List.range_add, List.filter_append]
  have h1 : (List.range n).filter (fun i => (goneN n lost).testBit i) = (List.range n).filter (fun i => lost.testBit i) := by
    apply List.filter_congr
    intro i hi
    rw [goneN_bit, decide_eq_true (List.mem_range.1 hi), Bool.and_true]
  have h2 : ((List.range d).map (fun x => n + x)).filter (fun i => (goneN n lost).testBit i) = [] := by
    rw [List.filter_eq_nil_iff]
    intro i hi
    obtain ⟨j, _, rfl⟩ := List.mem_map.1 hi
    rw [goneN_bit, decide_eq_false (by omega)]
    simp
  rw [h1, h2, List.append_nil]
theorem at_gone {n lost k : Nat} (h : n ≤ 16) (hk : k < n) (hb : lost.testBit k = true) : ∃ h : atN lost k < (mems (goneN n lost)).length, (mems (goneN n lost))[atN lost k] = k := by
  have := range_at (fun i => lost.testBit i) hb n hk
  simp only [mems_range h]
  exact this
theorem at_all {n lost : Nat} (h : n ≤ 16) : atN lost n = (mems (goneN n lost)).length := by rw [mems_range h]; rfl
theorem atN_le (lost k : Nat) : atN lost k ≤ k := Nat.le_trans (List.length_filter_le _ _) (by simp)
theorem below_drewN (w : World) (m : Nat) : Below w.heap.size w (w.drewN m) := by
  have h := Below.refl w.heap.size w
  exact ⟨h.os, h.tape, h.output, h.size, h.block⟩
/-! ### the program, and what it puts out -/
theorem cmp_ints {D L G lost : Nat} {C : Ck} (hD : D ≤ 12) (hG : G ≤ 4) (h16 : D + L + G ≤ 16) (hC : tells (cks D L G) (mems (goneN (D + L + G) lost)) = some C) : ∀ s ∈ cmpP D L G lost C, okInts s := by
  intro s hs
  have hp := (plan_of hD hG hC).1
  have h1 := hp.le
  have h2 := hp.most
  rcases wr_mem hs with ⟨i, hi, rfl⟩ | ⟨i, _, r, hr, rfl⟩ | ⟨j, hj, rfl⟩
  · have := ((mem_kept h16).1 hi).1
    exact ⟨by show 0 < 256; decide, by show -9223372036854775808 ≤ (0 : Int); omega, by show (0 : Int) ≤ 9223372036854775807; omega, by show -9223372036854775808 ≤ (i : Int); omega, by show (i : Int) ≤ 9223372036854775807; omega, by show 0 < 256; decide⟩
  · exact ⟨by show 1 < 256; decide, by show -9223372036854775808 ≤ (1 : Int) + (r : Int); omega, by show (1 : Int) + (r : Int) ≤ 9223372036854775807; omega, by show -9223372036854775808 ≤ (0 : Int); omega, by show (0 : Int) ≤ 9223372036854775807; omega, hp.byt r i⟩
  · have hm : (mems (goneN (D + L + G) lost)).length ≤ 16 := Nat.le_trans (List.length_filter_le _ _) (by simp)
    have hg := ((mem_gone h16).1 (List.getElem_mem hj)).1
    generalize (mems (goneN (D + L + G) lost))[j] = y at hg
    exact ⟨by show 2 < 256; decide, by show -9223372036854775808 ≤ (j : Int) + 1; omega, by show (j : Int) + 1 ≤ 9223372036854775807; omega, by show -9223372036854775808 ≤ (y : Int); omega, by show (y : Int) ≤ 9223372036854775807; omega, by show 0 < 256; decide⟩
theorem cmp_ok {D L G lost : Nat} {C : Ck} (hD : D ≤ 12) (hL : L ≤ 4) (hG : G ≤ 4) (h16 : D + L + G ≤ 16) (hC : tells (cks D L G) (mems (goneN (D + L + G) lost)) = some C) : okProg (1 + ((mems (goneN (D + L + G) lost)).length : Int)) (cmpP D L G lost C) ((D + L + G : Nat) : Int) := by
  have hp := (plan_of hD hG hC).1
  have h1 := hp.le
  have h2 := hp.most
  exact wr_ok hp.told (by omega) (fun i hi => ((mem_kept h16).1 hi).1) (fun i hi => ((mem_gone h16).1 hi).1)
theorem Outs.form {t : TypeId} {w : World} {base : Nat} {v : Value} {O : List (Int × Nat × Nat × List Nat)} (h : Outs t w base v O) : ∃ a c, v = .slice a O.length c ∧ ∀ i (hi : i < O.length), ∃ g, a = some ⟨g, 0, none⟩ ∧ w.cell? ⟨g, i * 2, none⟩ = some (.int .i64 O[i].1) ∧ w.cell? ⟨g, i * 2 + 1, none⟩ = some (hdr O[i].2) ∧ Bs w (hdr O[i].2) (O[i].2.2.2.take O[i].2.2.1) := by
  rcases h.cases with ⟨rfl, rfl⟩ | ⟨g, cap, rfl, hc⟩
  · exact ⟨none, 0, rfl, fun i hi => absurd hi (by simp)⟩
  · refine ⟨_, cap, rfl, fun i hi => ⟨g, rfl, (hc i hi).1, (hc i hi).2, ?_⟩⟩
    obtain ⟨_, q2, q3, q4, q5⟩ := h.row _ (List.getElem_mem hi)
    exact Bs.of_row q2 q3 q4.1 q5
/-- what is put out for a shard that is lost -/
theorem outs_at {n lost q : Nat} {S : List (List Nat)} {O : List (Int × List Nat)} {O8 : List (Int × Nat × Nat × List Nat)} (hn : n ≤ 16) (h8 : O8.map (fun q => (q.1, q.2.2.2.take q.2.2.1)) = O) (hl : O.length = (mems (goneN n lost)).length)
    (hk : ∀ k (hk : k < O.length) (hk' : k < (mems (goneN n lost)).length), O[k].1 = (((mems (goneN n lost))[k] : Nat) : Int) ∧ (0 < q → O[k].2 = S.getD (mems (goneN n lost))[k] [])) : O8.length = (mems (goneN n lost)).length ∧ ∀ i, i < n → lost.testBit i = true → ∃ h : atN lost i < O8.length, O8[atN lost i].1 = (i : Int) ∧ (0 < q → O8[atN lost i].2.2.2.take O8[atN lost i].2.2.1 = S.getD i []) := by
  have e : O8.length = O.length := by rw [← h8, List.length_map]
  refine ⟨e.trans hl, fun i hi hb => ?_⟩
  obtain ⟨h1, h2⟩ := at_gone hn hi hb
  have h3 : atN lost i < O8.length := by omega
  have h4 : atN lost i < O.length := by omega
  obtain ⟨k1, k2⟩ := hk _ h4 h1
  rw [h2] at k1 k2
  have e2 : O[atN lost i] = (O8[atN lost i].1, O8[atN lost i].2.2.2.take O8[atN lost i].2.2.1) := by
    simp only [← h8, List.getElem_map]
  rw [e2] at k1 k2
  exact ⟨h3, k1, k2⟩
def AtR (w : World) (n lost : Nat) (av iv : Value) (wr : World) : Prop := ∃ i : Nat, i ≤ n ∧ iv = .int .i64 (i : Int) ∧ av = .int .i64 ((atN lost i : Nat) : Int) ∧ Below w.heap.size w wr
/-! ### the same bytes, or others -/
set_option maxRecDepth 100000 in
set_option maxHeartbeats 2000000 in
theorem same_some (va vb : Value) (la lb : List Nat) (w : World) (ha : Bs w va la) (hb : Bs w vb lb) :
    Calls Tryd.prog 32 #[va, vb] w fun e w' => (∃ b : Bool, e = .returned (.bool b) ∧ (la = lb → b = true)) ∧ Below w.heap.size w w' := by
  by_cases he : la = lb
  · subst he
    refine (same_eq va vb la w ha hb).mono ?_
    rintro e w' ⟨rfl, m, rfl⟩
    exact ⟨⟨true, rfl, fun _ => rfl⟩, below_drewN w m⟩
  · obtain ⟨ao, ca, rfl, _, hma, hx, hA⟩ := ha
    obtain ⟨bo, cb, rfl, _, hmb, _, hB⟩ := hb
    by_cases hlen : la.length = lb.length
    · have hne : la ≠ [] := fun e => by
        rw [e] at hlen
        exact he (e.trans (List.eq_nil_of_length_eq_zero hlen.symm).symm)
      obtain ⟨b, off, rfl, hA2⟩ := hA hne
      obtain ⟨b', off', rfl, hB2⟩ := hB (fun e => by rw [e] at hlen; exact hne (List.eq_nil_of_length_eq_zero hlen))
      rw [← hlen] at hB2 ⊢
      have HE := hide he
      clear hA hB hlen hne he hmb
      have hnn : (((la.length : Nat) : Int) != ((la.length : Nat) : Int)) = false := by simp
      go_enter Tryd.func32, Tryd.ntmps32
      go_wp2
      go_loopw [5] (fun i wr => SameR w la.length i wr) (fun i _ => la.length - (intOf i).toNat)
      case atStart => exact ⟨0, 0, Nat.zero_le _, rfl, rfl⟩
      case round =>
        obtain ⟨k, m, hk, rfl, rfl⟩ := hrel
        by_cases hlt : k < la.length
        · have c1 := hA2 k hlt
          have c2 := hB2 k hlt
          generalize la.getD k 0 = x at c1
          generalize lb.getD k 0 = y at c2
          clear hA2 hB2
          by_cases hxy : x = y
          · subst hxy
            have hx2 : (((x : Nat) : Int) != ((x : Nat) : Int)) = false := by simp
            go_wp2
            go_quiet (fail)
            go_wp2
            go_roundw
            case rel => exact ⟨k + 1, _, by omega, by go_num, rfl⟩
            case measure => simp [intOf]; omega
          · have hx2 : (((x : Nat) : Int) != ((y : Nat) : Int)) = true := by simp; omega
            go_wp2
            go_quiet (fail)
            go_wp2
            go_ret
            exact ⟨⟨false, rfl, fun e => absurd e HE.out⟩, (below_drewN w _).trans ((below_drewN _ _).mono (Nat.le_refl _))⟩
        · go_wp2
          go_ret
          exact ⟨⟨true, rfl, fun _ => rfl⟩, below_drewN w _⟩
    · have hlen' : ((la.length : Nat) : Int) ≠ ((lb.length : Nat) : Int) := by omega
      have HE := hide he
      clear hA hB he
      go_enter Tryd.func32, Tryd.ntmps32
      go_wp2
      go_ret
      exact ⟨⟨false, rfl, fun e => absurd e HE.out⟩, Below.refl _ _⟩
end Go.Proofs.YthhommjlomphdaaDoor
