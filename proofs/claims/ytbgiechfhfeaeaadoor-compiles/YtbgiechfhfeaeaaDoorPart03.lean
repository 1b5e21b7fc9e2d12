import Derived.Test.YtbgiechfhfeaeaaDoorRows
import Derived.WalkKit
import Derived.ProofKit
import Derived.OpenShut
import Derived.WalkSpells
import Derived.Deep.OwnRows
import Derived.Deep.Slices
import Derived.Deep.Matrix
import Derived.Test.YtbgiechfhfeaeaaDoorPart01
import Derived.Laws.BitsLemmas
/-
  Memory that a call makes: rows of bytes, and lists of such rows.
-/
namespace Go.Proofs.YtbgiechfhfeaeaaDoor
open Go.RowKit Go.Deep

theorem wrap64_nat {n : Nat} (h : n ≤ 1000000000000) : wrap64 (n : Int) = (n : Int) := by unfold wrap64; omega
/-- a byte -/
def vb (l : List Nat) (i : Nat) : Value := .int .u8 ((l.getD i 0 : Nat) : Int)
/-- block b is a row of just these bytes -/
def Brow (w : World) (b : Nat) (l : List Nat) : Prop := w.rowIs b 5 l.length (vb l)
/-- a slice's value: its block, how long it is, and all the bytes of the block -/
def hdr (p : Nat × Nat × List Nat) : Value := .slice (some ⟨p.1, 0, none⟩) p.2.1 p.2.2.length
/-- a list of rows that the call has made -/
structure Tab (w : World) (base : Nat) (v : Value) (L : List (Nat × Nat × List Nat)) : Prop where
  own : w.ownsRow base 44 1 v L.length (L.map hdr)
  row : ∀ p ∈ L, base ≤ p.1 ∧ Brow w p.1 p.2.2 ∧ p.2.1 ≤ p.2.2.length ∧ (p.2.1 ≤ 140737488355328 ∧ p.2.2.length ≤ 9223372036854775807) ∧ ∀ x ∈ p.2.2, x < 256
  nodup : (L.map (fun p => p.1)).Nodup

theorem getD_lt {l : List Nat} (h : ∀ x ∈ l, x < 256) (i : Nat) : l.getD i 0 < 256 := by
  by_cases hi : i < l.length
  · have e : l.getD i 0 = l[i] := by simp [hi]
    rw [e]; exact h _ (List.getElem_mem hi)
  · have e : l.getD i 0 = 0 := by simp [List.getElem?_eq_none (show l.length ≤ i by omega)]
    rw [e]; decide

theorem Brow.below {w w' : World} {b : Nat} {l : List Nat} (h : Brow w b l) (hb : Below w.heap.size w w') : Brow w' b l :=
  World.rowIs.of_block h (hb.block b h.lt)
theorem Brow.cell {w : World} {b : Nat} {l : List Nat} (h : Brow w b l) (i : Nat) (hi : i < l.length) : w.cell? ⟨b, i, none⟩ = some (.int .u8 ((l.getD i 0 : Nat) : Int)) :=
  World.rowIs.cell h hi
theorem Brow.frozen {w : World} {b : Nat} {l : List Nat} (h : Brow w b l) (i : Nat) : w.frozen? ⟨b, i, none⟩ = false := World.rowIs.frozen h i
theorem Brow.set {w : World} {b : Nat} {l : List Nat} (h : Brow w b l) (i x : Nat) : Brow (w.setCell ⟨b, i, none⟩ (.int .u8 (x : Int))) b (l.set i x) := by
  have h1 := World.rowIs.set h i (.int .u8 (x : Int))
  unfold Brow
  rw [List.length_set]
  refine h1.congr fun j hj => ?_
  unfold vb
  by_cases e : j = i
  · subst e
    simp [hj]
  · simp only [if_neg e]
    rw [List.getD_eq_getElem?_getD, List.getD_eq_getElem?_getD, List.getElem?_set_ne (fun h => e h.symm)]
theorem Brow.other {w : World} {b : Nat} {l : List Nat} (h : Brow w b l) {a : Addr} (ha : b ≠ a.block) (v : Value) : Brow (w.setCell a v) b l := World.rowIs.setOther h ha v
theorem Brow.alloc {w : World} {b : Nat} {l : List Nat} (h : Brow w b l) (o : Obj) : Brow (w.alloc o) b l := World.rowIs.alloc h o
theorem Brow.lt {w : World} {b : Nat} {l : List Nat} (h : Brow w b l) : b < w.heap.size := World.rowIs.lt h
theorem Brow.grown {w w' : World} {b : Nat} {l : List Nat} {row : Option Nat} (h : Brow w b l) (hg : w.grownBy w' row) (hne : some b ≠ row) : Brow w' b l :=
  World.rowIs.of_block h (hg.block b h.lt hne)
/-- a made row: all 0 -/
theorem Brow.made (w : World) (n : Nat) : Brow (w.alloc (.cells (madeCells #[.int .u8 0] n) 5)) w.heap.size (List.replicate n 0) := by
  have h := World.rowIs_made w (.int .u8 0) n 5
  unfold Brow
  rw [List.length_replicate]
  refine h.congr fun i hi => ?_
  simp [vb, hi]

theorem ownsRow_below {w w' : World} {base : Nat} {e : TypeId} {size : Nat} {v : Value} {n : Nat} {xs : List Value} (h : w.ownsRow base e size v n xs) (hb : Below w.heap.size w w') : w'.ownsRow base e size v n xs := by
  refine ⟨h.1, ?_⟩
  rcases h.2 with h0 | ⟨g, cap, cur, e1, e2, e3, e4⟩
  · exact .inl h0
  · refine .inr ⟨g, cap, cur, e1, e2, ?_, e4⟩
    obtain ⟨hlt, _⟩ := Array.getElem?_eq_some_iff.1 e3
    rw [hb.block g hlt]; exact e3
theorem ownsRow_weaken {w : World} {base base' : Nat} {e : TypeId} {size : Nat} {v : Value} {n : Nat} {xs : List Value} (h : w.ownsRow base e size v n xs) (hb : base' ≤ base) : w.ownsRow base' e size v n xs := by
  refine ⟨h.1, ?_⟩
  rcases h.2 with h0 | ⟨g, cap, cur, e1, e2, e3⟩
  · exact .inl h0
  · exact .inr ⟨g, cap, cur, e1, by omega, e3⟩
/-- a list's own block is none of bytes -/
theorem own_ne {w : World} {base : Nat} {v : Value} {n : Nat} {xs : List Value} (h : w.ownsRow base 44 1 v n xs) {b : Nat} {l : List Nat} (hb : Brow w b l) : v.ownBlock ≠ some b := by
  intro e
  rcases h.2 with ⟨h0, _⟩ | ⟨g, cap, cur, e1, e2, e3, e4⟩
  · rw [h0] at e; simp [Value.ownBlock] at e
  · rw [e1] at e
    simp [Value.ownBlock] at e
    subst e
    obtain ⟨c, hc, _⟩ := hb
    rw [hc] at e3
    simp at e3

theorem Tab.weaken {w : World} {base base' : Nat} {v : Value} {L : List (Nat × Nat × List Nat)} (h : Tab w base v L) (hb : base' ≤ base) : Tab w base' v L :=
  ⟨ownsRow_weaken h.own hb, fun p hp => by obtain ⟨a, b⟩ := h.row p hp; exact ⟨by omega, b⟩, h.nodup⟩
theorem Tab.nil (w : World) (base : Nat) : Tab w base (.slice none 0 0) [] :=
  ⟨World.ownsRow_nil _ _ _ _, fun p hp => by simp at hp, by simp⟩
theorem Tab.below {w w' : World} {base : Nat} {v : Value} {L : List (Nat × Nat × List Nat)} (h : Tab w base v L) (hb : Below w.heap.size w w') : Tab w' base v L :=
  ⟨ownsRow_below h.own hb, fun p hp => by obtain ⟨a, b, c⟩ := h.row p hp; exact ⟨a, b.below hb, c⟩, h.nodup⟩
theorem Tab.alloc {w : World} {base : Nat} {v : Value} {L : List (Nat × Nat × List Nat)} (h : Tab w base v L) (o : Obj) : Tab (w.alloc o) base v L :=
  h.below ((Below.refl _ _).alloc (Nat.le_refl _) _)
/-- behind an append of one row -/
theorem Tab.push {w w' : World} {base : Nat} {v v' : Value} {L : List (Nat × Nat × List Nat)} {p : Nat × Nat × List Nat} (h : Tab w base v L) (hg : w.grownBy w' v.ownBlock) (hown : w'.ownsRow base 44 1 v' (L.length + 1) (L.map hdr ++ [hdr p]))
    (hp : base ≤ p.1 ∧ Brow w p.1 p.2.2 ∧ p.2.1 ≤ p.2.2.length ∧ (p.2.1 ≤ 140737488355328 ∧ p.2.2.length ≤ 9223372036854775807) ∧ ∀ x ∈ p.2.2, x < 256) (hne : ∀ q ∈ L, q.1 ≠ p.1) : Tab w' base v' (L ++ [p]) := by
  refine ⟨by simpa using hown, fun q hq => ?_, ?_⟩
  · rcases List.mem_append.1 hq with hq | hq
    · obtain ⟨a, b, c⟩ := h.row q hq
      exact ⟨a, b.grown hg (fun e => own_ne h.own b e.symm), c⟩
    · simp at hq; subst hq
      exact ⟨hp.1, hp.2.1.grown hg (fun e => own_ne h.own hp.2.1 e.symm), hp.2.2⟩
  · rw [List.map_append, List.nodup_append]
    refine ⟨h.nodup, by simp, ?_⟩
    intro a ha b hb
    obtain ⟨q, hq, rfl⟩ := List.mem_map.1 ha
    simp at hb
    subst hb
    exact hne q hq
theorem add0 (g i : Nat) : (⟨g, 0, none⟩ : Addr).add i = ⟨g, i, none⟩ := by
  unfold Addr.add
  split
  · rename_i h; simp_all
  · simp
theorem Tab.shape {w : World} {base : Nat} {v : Value} {L : List (Nat × Nat × List Nat)} (h : Tab w base v L) : (v = .slice none 0 0 ∧ L = []) ∨ ∃ g cap, v = .slice (some ⟨g, 0, none⟩) L.length cap ∧ base ≤ g ∧ L.length ≤ cap ∧ cap ≤ maxLen ∧ g < w.heap.size ∧ (∀ i (hi : i < L.length), w.cell? ⟨g, i, none⟩ = some (hdr L[i])) ∧ (∀ i, w.frozen? ⟨g, i, none⟩ = false) ∧ ∀ p ∈ L, p.1 ≠ g := by
  rcases h.own.2 with ⟨h0, h1⟩ | ⟨g, cap, cur, e1, e2, e3, e4, e5, e6, e7⟩
  · exact .inl ⟨h0, List.eq_nil_of_length_eq_zero h1⟩
  · obtain ⟨hlt, _⟩ := Array.getElem?_eq_some_iff.1 e3
    refine .inr ⟨g, cap, e1, e2, e4, e5, hlt, fun i hi => ?_, fun i => ?_, fun p hp e => ?_⟩
    · have := h.own.cells (g := g) (by rw [e1]; rfl) i (hdr L[i]) (by simp [hi])
      rw [add0] at this
      exact this
    · simp [World.frozen?, e3]
    · have := own_ne h.own (h.row p hp).2.1
      rw [e1] at this
      exact this (by rw [e]; rfl)

theorem Tryd.infoByte : (Tryd.prog.info? 5).map (fun i => (i.zero, i.size, i.bytes)) = some (some (.int .u8 0), 1, 1) := by kernel_rfl
theorem Tryd.infoBytes : (Tryd.prog.info? 44).map (fun i => (i.zero, i.size, i.bytes)) = some (some (.slice none 0 0), 1, 24) := by kernel_rfl
/-- make([]byte, n) -/
theorem wpList_mk (w : World) {ops : Array Oper} {rest : List Oper} {o : Oper} {a : Act} {Q : Exit → Act → World → Prop}
    (hg : o.guard = none) (l c : Operand) (hop : o.op = Op.makeSlice 44 l c) (C : Int) (n : Nat) (hl : a.eval l = .int .i64 C) (hc : a.eval c = .int .i64 C) (hC : C = (n : Int)) (hn : n ≤ 140737488355328)
    (hK : ∀ w', Brow w' w.heap.size (List.replicate n 0) → Below w.heap.size w w' → w'.heap.size = w.heap.size + 1 → wpList Tryd.prog ops Q rest (a.put o.dst (.slice (some ⟨w.heap.size, 0, none⟩) n n)) w') :
    wpList Tryd.prog ops Q (o :: rest) a w := by
  refine wpList_plain hg fun K hK' => ?_
  have hrun := run_make_row' (P := Tryd.prog) 44 5 (.int .u8 0) 1 Tryd.underlying44 Tryd.infoByte rfl .i64 .i64 n (by omega) (by omega) w
  subst hC
  unfold Oper.wp
  simp [execOp, hop, hl, hc, hrun, Result.andThen]
  exact hK' _ _ (hK _ (Brow.made w n) ((Below.refl _ _).alloc (Nat.le_refl _) _) (nblk_alloc _ _))
end Go.Proofs.YtbgiechfhfeaeaaDoor
/-
  Params: whether they are right; the program's word and the document's.
-/
namespace Go.Proofs.YtbgiechfhfeaeaaDoor
open Go.RowKit Go.Deep

/-- params that are right -/
def rightB (D L G : Int) : Bool := decide (1 ≤ D ∧ D ≤ 12 ∧ 1 ≤ L ∧ L ≤ 4 ∧ 0 ≤ G ∧ G ≤ 4 ∧ D % L = 0 ∧ D + L + G ≤ 16)
theorem ret_bool {a b : Bool} (h : a = b) : Ending.returned (.bool a) = .returned (.bool b) := by rw [h]
def pv (D L G : Int) : Value := .agg #[.int .i64 D, .int .i64 L, .int .i64 G]

set_option maxRecDepth 100000 in
set_option maxHeartbeats 1000000 in
theorem shards_any (D L G : Int) (w : World) (h1 : 0 ≤ D ∧ D ≤ 100) (h2 : 0 ≤ L ∧ L ≤ 100) (h3 : 0 ≤ G ∧ G ≤ 100) :
    Calls Tryd.prog 53 #[.agg #[.int .i64 D, .int .i64 L, .int .i64 G]] w fun e w' => e = .returned (.int .i64 (D + L + G)) ∧ Below w.heap.size w w' := by
  obtain ⟨a1, a2⟩ := h1
  obtain ⟨b1, b2⟩ := h2
  obtain ⟨c1, c2⟩ := h3
  go_enter Tryd.func53, Tryd.ntmps53
  go_wp2
  go_ret
  exact ⟨rfl, (Below.refl _ _).alloc (Nat.le_refl _) _⟩

set_option maxRecDepth 100000 in
set_option maxHeartbeats 1000000 in
theorem right_any (D L G : Int) (w : World) :
    Calls Tryd.prog 52 #[.agg #[.int .i64 D, .int .i64 L, .int .i64 G]] w fun e w' => e = .returned (.bool (rightB D L G)) ∧ Below w.heap.size w w' := by
  go_enter Tryd.func52, Tryd.ntmps52
  go_wp2_with (go_at_call 53; refine (shards_any D L G _ (by omega) (by omega) (by omega)).mono ?_; rintro e w' ⟨rfl, hb⟩)
  all_goals go_ret
  · refine ⟨ret_bool (b := rightB D L G) ?_, ((Below.refl _ _).alloc (Nat.le_refl _) _).trans (hb.mono (by simp))⟩
    unfold rightB
    rw [decide_eq_decide]
    constructor
    · intro h; exact ⟨by omega, by omega, by omega, by omega, by omega, by omega, by assumption, h⟩
    · intro h; exact h.2.2.2.2.2.2.2
  all_goals
    refine ⟨ret_bool (b := rightB D L G) ?_, (Below.refl _ _).alloc (Nat.le_refl _) _⟩
    unfold rightB
    symm
    rw [decide_eq_false_iff_not]
    intro h
    omega

set_option maxRecDepth 100000 in
set_option maxHeartbeats 1000000 in
theorem rshards_any (D L G : Int) (w : World) (h1 : 0 ≤ D ∧ D ≤ 100) (h2 : 0 ≤ L ∧ L ≤ 100) (h3 : 0 ≤ G ∧ G ≤ 100) :
    Calls Tryd.prog 22 #[.agg #[.int .i64 D, .int .i64 L, .int .i64 G]] w fun e w' => e = .returned (.int .i64 (D + L + G)) ∧ Below w.heap.size w w' := by
  obtain ⟨a1, a2⟩ := h1
  obtain ⟨b1, b2⟩ := h2
  obtain ⟨c1, c2⟩ := h3
  go_enter Tryd.func22, Tryd.ntmps22
  go_wp2
  go_ret
  exact ⟨rfl, (Below.refl _ _).alloc (Nat.le_refl _) _⟩

set_option maxRecDepth 100000 in
set_option maxHeartbeats 1000000 in
theorem rright_any (D L G : Int) (w : World) :
    Calls Tryd.prog 21 #[.agg #[.int .i64 D, .int .i64 L, .int .i64 G]] w fun e w' => e = .returned (.bool (rightB D L G)) ∧ Below w.heap.size w w' := by
  go_enter Tryd.func21, Tryd.ntmps21
  go_wp2
  all_goals go_ret
  rotate_left
  · refine ⟨ret_bool (b := rightB D L G) ?_, (Below.refl _ _).alloc (Nat.le_refl _) _⟩
    unfold rightB
    rw [decide_eq_decide]
    constructor
    · intro h; exact ⟨by omega, by omega, by omega, by omega, by omega, by omega, by assumption, h⟩
    · intro h; exact h.2.2.2.2.2.2.2
  all_goals
    refine ⟨ret_bool (b := rightB D L G) ?_, (Below.refl _ _).alloc (Nat.le_refl _) _⟩
    unfold rightB
    symm
    rw [decide_eq_false_iff_not]
    intro h
    omega

set_option maxRecDepth 100000 in
set_option maxHeartbeats 1000000 in
theorem theirs_any (D L G : Int) (w : World) :
    Calls Tryd.prog 12 #[.agg #[.int .i64 D, .int .i64 L, .int .i64 G]] w fun e w' => e = .returned (.agg #[.int .i64 D, .int .i64 L, .int .i64 G]) ∧ Below w.heap.size w w' := by
  go_enter Tryd.func12, Tryd.ntmps12
  go_wp2
  exact bodyPost_ret (v := .agg #[.int .i64 D, .int .i64 L, .int .i64 G]) (by simp [results, Tryd.results12, go_sem]) rfl ⟨rfl, ((Below.refl _ _).alloc (Nat.le_refl _) _).alloc (by simp) _⟩
end Go.Proofs.YtbgiechfhfeaeaaDoor
/-
  The walks of Mul and Inv, the program's and the document's.
-/
namespace Go.Proofs.YtbgiechfhfeaeaaDoor
open Go.RowKit Gf

theorem hide {p : Prop} (h : p) : Hid p := h
theorem ret_int {k : IntKind} {a b : Int} (h : a = b) : Ending.returned (.int k a) = .returned (.int k b) := by rw [h]
theorem u8_and (a b : Nat) (ha : a < 256) (hb : b < 256) : bits .and .u8 (a : Int) (b : Int) = ((a &&& b : Nat) : Int) :=
  (bits_nat .u8 8 (by decide) wraps_u8 a b ha hb).1
theorem u8_xor (a b : Nat) (ha : a < 256) (hb : b < 256) : bits .xor .u8 (a : Int) (b : Int) = ((a ^^^ b : Nat) : Int) := by
  have ha' : a % 2 ^ IntKind.u8.bits = a := Nat.mod_eq_of_lt ha
  have hb' : b % 2 ^ IntKind.u8.bits = b := Nat.mod_eq_of_lt hb
  simp only [bits, BitVec.ofInt_natCast, BitVec.toNat_xor, BitVec.toNat_ofNat, ha', hb']
  have := xlt ha hb
  exact wraps_u8 _ (Int.natCast_nonneg _) (by omega)
theorem wraps_i64 (n : Int) (h₀ : 0 ≤ n) (h₁ : n < 2 ^ 62) : IntKind.i64.wrap n = n := by rw [IntKind.wrap_i64]; omega
theorem i64_and (a b : Nat) (ha : a < 2 ^ 62) (hb : b < 2 ^ 62) : bits .and .i64 (a : Int) (b : Int) = ((a &&& b : Nat) : Int) :=
  (bits_nat .i64 62 (by decide) wraps_i64 a b ha hb).1
theorem i64_xor (a b : Nat) (ha : a < 2 ^ 62) (hb : b < 2 ^ 62) : bits .xor .i64 (a : Int) (b : Int) = ((a ^^^ b : Nat) : Int) := by
  have hp : (2 : Nat) ^ 62 < 2 ^ IntKind.i64.bits := by decide
  have ha' : a % 2 ^ IntKind.i64.bits = a := Nat.mod_eq_of_lt (Nat.lt_trans ha hp)
  have hb' : b % 2 ^ IntKind.i64.bits = b := Nat.mod_eq_of_lt (Nat.lt_trans hb hp)
  simp only [bits, BitVec.ofInt_natCast, BitVec.toNat_xor, BitVec.toNat_ofNat, ha', hb']
  have := Nat.xor_lt_two_pow (n := 62) ha hb
  exact wraps_i64 _ (Int.natCast_nonneg _) (by exact_mod_cast this)
theorem and128 : ∀ a, a < 256 → ((a &&& 128 = 0) ↔ a < 128) := by decide +kernel
theorem test128 (a : Nat) (h : a < 256) : (bits .and .u8 (a : Int) 128 != 0) = decide (128 ≤ a) := by
  have e := u8_and a 128 h (by decide)
  rw [show ((128 : Nat) : Int) = 128 from rfl] at e
  rw [e]
  have := and128 a h
  rw [Bool.eq_iff_iff]
  simp
  omega
theorem and1 (a : Nat) : a &&& 1 = a % 2 := Nat.and_one_is_mod a
theorem test1 (a : Nat) (h : a < 256) : (bits .and .u8 (a : Int) 1 != 0) = decide (a % 2 = 1) := by
  have e := u8_and a 1 h (by decide)
  rw [show ((1 : Nat) : Int) = 1 from rfl] at e
  rw [e, and1]
  rw [Bool.eq_iff_iff]
  simp
  omega

theorem tx_hi {a : Nat} (h : a < 256) (ht : 128 ≤ a) : bits .xor .u8 ((a : Int) * 2 % 256) 29 = (tx a : Int) := by
  have e : ((a : Int) * 2 % 256) = ((2 * a - 256 : Nat) : Int) := by omega
  rw [e, show (29 : Int) = ((29 : Nat) : Int) from rfl, u8_xor _ _ (by omega) (by decide)]
  unfold tx; rw [if_neg (by omega)]
theorem tx_lo {a : Nat} (ht : a < 128) : (a : Int) * 2 = (tx a : Int) := by
  unfold tx; rw [if_pos ht]; omega
set_option maxRecDepth 100000 in
theorem timesX_any (a : Nat) (h : a < 256) (w : World) :
    Calls Tryd.prog 101 #[.int .u8 a] w fun e w' => e = .returned (.int .u8 (tx a)) ∧ w' = w := by
  have ht := test128 a h
  by_cases hc : 128 ≤ a
  · rw [decide_eq_true hc] at ht
    go_enter Tryd.func101, Tryd.ntmps101
    go_wp2
    go_ret
    exact ⟨ret_int (tx_hi h hc), rfl⟩
  · rw [decide_eq_false hc] at ht
    go_enter Tryd.func101, Tryd.ntmps101
    go_wp2
    go_ret
    exact ⟨ret_int (tx_lo (by omega)), rfl⟩

theorem gmf_zero (n : Nat) : ∀ a p, gmf n a 0 p = p := by
  induction n with
  | zero => intro a p; rfl
  | succ n ih => intro a p; simp only [gmf]; exact ih _ _
set_option maxRecDepth 100000 in
set_option maxHeartbeats 1000000 in
theorem mul_any (a b : Nat) (ha : a < 256) (hb : b < 256) (w : World) :
    Calls Tryd.prog 96 #[.int .u8 a, .int .u8 b] w fun e w' => e = .returned (.int .u8 (gm a b)) ∧ w' = w := by
  go_enter Tryd.func96, Tryd.ntmps96
  go_wp2
  go_loop [0, 1, 5] (fun s t u => ∃ n x y z : Nat, x < 256 ∧ y < 256 ∧ z < 256 ∧ y < 2 ^ n ∧ Hid (gmf n x y z = gm a b) ∧ s = .int .u8 x ∧ t = .int .u8 y ∧ u = .int .u8 z) (fun _ t _ => (intOf t).toNat)
  case atStart => exact ⟨8, a, b, 0, ha, hb, by decide, hb, rfl, rfl, rfl, rfl⟩
  case round =>
    obtain ⟨n, x, y, z, hx, hy, hz, hn, hg, rfl, rfl, rfl⟩ := hrel
    by_cases hy0 : y = 0
    · subst hy0
      go_wp2
      go_ret
      exact ⟨ret_int (by rw [← hg.out, gmf_zero]), rfl⟩
    · have hyn : ((y : Int) != 0) = true := by rw [bne_iff_ne]; omega
      have ht := test1 y hy
      cases n with
      | zero => exact absurd hn (by simp; omega)
      | succ n =>
      have hn2 : y / 2 < 2 ^ n := by rw [Nat.pow_succ] at hn; omega
      by_cases hc : y % 2 = 1
      · rw [decide_eq_true hc] at ht
        have hg2 : Hid (gmf n (tx x) (y / 2) (z ^^^ x) = gm a b) := by have := hg.out; simp only [gmf] at this; rw [if_pos hc] at this; exact this
        have hxz := u8_xor z x hz hx
        go_wp2_with (go_at_call 101; refine (timesX_any _ hx _).mono ?_; rintro e w' ⟨rfl, rfl⟩)
        go_round
        case rel => exact ⟨n, tx x, y / 2, z ^^^ x, tx_lt hx, by omega, xlt hz hx, hn2, hg2, rfl, by go_num, rfl⟩
        case measure => simp [intOf]; omega
      · rw [decide_eq_false hc] at ht
        have hg2 : Hid (gmf n (tx x) (y / 2) z = gm a b) := by have := hg.out; simp only [gmf] at this; rw [if_neg hc] at this; exact this
        go_wp2_with (go_at_call 101; refine (timesX_any _ hx _).mono ?_; rintro e w' ⟨rfl, rfl⟩)
        go_round
        case rel => exact ⟨n, tx x, y / 2, z, tx_lt hx, by omega, hz, hn2, hg2, rfl, by go_num, rfl⟩
        case measure => simp [intOf]; omega

theorem gif_step (n p v : Nat) : gif (n + 1) p v = gif n (gm p p) (gm v (gm p p)) := rfl
set_option maxRecDepth 100000 in
set_option maxHeartbeats 1000000 in
theorem inv_any (a : Nat) (ha : a < 256) (w : World) :
    Calls Tryd.prog 78 #[.int .u8 a] w fun e w' => e = .returned (.int .u8 (gi a)) ∧ w' = w := by
  go_enter Tryd.func78, Tryd.ntmps78
  go_wp2
  go_loop [3, 4, 6] (fun s t u => ∃ k p v : Nat, k ≤ 7 ∧ p < 256 ∧ v < 256 ∧ Hid (gif (7 - k) p v = gi a) ∧ s = .int .u8 v ∧ t = .int .u8 p ∧ u = .int .i64 k) (fun _ _ u => 7 - (intOf u).toNat)
  case atStart => exact ⟨0, a, 1, by decide, ha, by decide, rfl, rfl, rfl, rfl⟩
  case round =>
    obtain ⟨k, p, v, hk, hp, hv, hg, rfl, rfl, rfl⟩ := hrel
    by_cases hlt : k < 7
    · have hg2 : Hid (gif (7 - (k + 1)) (gm p p) (gm v (gm p p)) = gi a) := by
        have := hg.out; rw [show 7 - k = (7 - (k + 1)) + 1 from by omega, gif_step] at this; exact this
      go_wp2_with fail
      refine (mul_any p p hp hp _).mono ?_
      rintro e w' ⟨rfl, rfl⟩
      go_wp2_with fail
      refine (mul_any v (gm p p) hv (gm_lt _ hp) _).mono ?_
      rintro e w' ⟨rfl, rfl⟩
      go_wp2_with fail
      go_round
      case rel => exact ⟨k + 1, gm p p, gm v (gm p p), by omega, gm_lt _ hp, gm_lt _ hv, hg2, rfl, rfl, by go_num⟩
      case measure => simp [intOf]; omega
    · have hk7 : k = 7 := by omega
      subst hk7
      go_wp2
      go_ret
      exact ⟨ret_int (by rw [← hg.out]; rfl), rfl⟩
end Go.Proofs.YtbgiechfhfeaeaaDoor
