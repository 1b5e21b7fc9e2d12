import Derived.Test.YtpaemkanfnddoaaGreatDoorM13
import Derived.Lib.TrailingZeros
import Derived.Laws.BitsAllLaws
import Derived.RangeFuncNested
import Derived.RangeFuncBound
import Derived.RangeFuncLeaves
import Derived.Shelf.Abstract
import Derived.Shelf.RegionOpen
import Derived.OwnWalkIn
import Derived.TacticsInMore
import Derived.LoopNIn
import Derived.LoopIn
import Derived.Test.YtpaemkanfnddoaaGreatDoorM08
set_option maxRecDepth 100000
set_option maxHeartbeats 8000000
namespace Go.Proofs.YtpaemkanfnddoaaGreatDoor
open Go.RowKit
variable {args : Array Value} {R R' : Ending → World → Prop} {F : Foot} {f : FuncId} {B x n m l s b v p D L G ps ho : Nat} {P : Program} {w w' Z : World}
section
open Gf
def tabLaid (w : World) : Prop := ∀ j, j < 64 → w.cell? ⟨1, j, none⟩ = some (.int .u8 ((Lib.deBruijn64tab.getD j 0 : Nat) : Int))
theorem tabLaid.mono (h : tabLaid w) (hB : 1 < B) (hb : Below B w w') : tabLaid w' := fun j hj => (hb.cell (p := ⟨1, j, none⟩) hB).trans (h j hj)
theorem tz_key (x a : Nat) (hx : x < 18446744073709551616) (h1 : x ≠ 0) (h0 : x &&& (18446744073709551616 - x) = a) :
 IntKind.u64.wrap (bits BinOp.and IntKind.u64 (x : Int) (IntKind.u64.wrap (-(x : Int))) * 285870213051353865) / 288230376151711744 = ((a * 285870213051353865 % 18446744073709551616 / 288230376151711744 : Nat) : Int) := by
 have e1 : IntKind.u64.wrap (-(x : Int)) = ((18446744073709551616 - x : Nat) : Int) := by rw [IntKind.wrap_u64]; omega
 rw [e1, bits_and_u64_nat x _ hx (by omega), h0, IntKind.wrap_u64]
 omega
def low (x : Nat) : Nat := Lib.ctzFrom 64 x
theorem low_spec (h0 : x ≠ 0) (hx : x < 65536) : ∃ m, x = 2 ^ low x * (2 * m + 1) ∧ low x < 64 := Lib.ctzFrom_spec 64 x (by omega) (by omega)
theorem tz_core (x k idx : Nat) (w : World) (h1 : ((x : Int) == 0) = false)
 (key : IntKind.u64.wrap (bits BinOp.and IntKind.u64 (x : Int) (IntKind.u64.wrap (-(x : Int))) * 285870213051353865) / 288230376151711744 = (idx : Int))
 (hi : idx < 64) (hk : k < 64) (h0 : w.cell? ⟨1, idx, none⟩ = some (.int .u8 k)) :
 Calls Tryz.prog 138 #[.int .u64 x] w fun e w' => e = .returned (.int .i64 k) ∧ w' = w := by
 go_enter Tryz.func138, Tryz.ntmps138
 go_wp2_with (simp only [key])
 go_ret
 exact ⟨rfl, rfl⟩
theorem tz_any (x : Nat) (h0 : x ≠ 0) (hx : x < 65536) (w : World) (hT : tabLaid w) :
 Calls Tryz.prog 138 #[.int .u64 x] w fun e w' => e = .returned (.int .i64 (low x)) ∧ w' = w := by
 obtain ⟨m, hm, hk⟩ := low_spec h0 hx
 have h2 : x &&& (18446744073709551616 - x) = 2 ^ low x := by
  have := Lib.and_neg 64 (low x) m (by rw [← hm]; omega)
  rw [← hm] at this; exact this
 obtain ⟨hi, h3⟩ := Lib.deBruijn64_at _ hk
 have h1 := hT _ hi
 rw [h3] at h1
 exact tz_core x _ _ w (by simp; omega) (tz_key x _ (by omega) h0 h2) hi hk h1
theorem low_and (h0 : x ≠ 0) (hx : x < 65536) : x &&& (x - 1) = behindN x (low x) := by
 obtain ⟨m, hm, _⟩ := low_spec h0 hx
 generalize low x = k at hm
 have hp : 0 < 2 ^ k := Nat.two_pow_pos k
 have h2 : 2 ^ (k + 1) = 2 * 2 ^ k := by rw [Nat.pow_succ]; omega
 have e1 : x = 2 ^ (k + 1) * m + 2 ^ k := by rw [hm, h2, Nat.mul_add, Nat.mul_one, Nat.mul_comm 2 (2 ^ k), Nat.mul_assoc]
 have e2 : x - 1 = 2 ^ (k + 1) * m + (2 ^ k - 1) := by omega
 apply Nat.eq_of_testBit_eq
 intro j
 rw [Nat.testBit_and, e2, behindN_bit]
 have e3 := Nat.testBit_two_pow_mul_add m (i := k + 1) (b := 2 ^ k) (by omega) j
 have e4 := Nat.testBit_two_pow_mul_add m (i := k + 1) (b := 2 ^ k - 1) (by omega) j
 rw [e4, e1, e3]
 by_cases hj : j < k + 1
 · rw [if_pos hj, if_pos hj, Nat.testBit_two_pow, Nat.testBit_two_pow_sub_one]
   have h1 : decide (k < j) = false := by simp; omega
   rw [h1, Bool.false_and]
   by_cases e : k = j
   · simp [e]
   · simp [e]
 · rw [if_neg hj, if_neg hj]
   have h1 : decide (k < j) = true := by simp; omega
   rw [h1, Bool.true_and, Bool.and_self]
theorem low_bit (h0 : x ≠ 0) (hx : x < 65536) : x.testBit (low x) = true ∧ ∀ j, j < low x → x.testBit j = false := by
 obtain ⟨m, hm, _⟩ := low_spec h0 hx
 generalize low x = k at hm
 have hp : 0 < 2 ^ k := Nat.two_pow_pos k
 have h1 : 2 ^ (k + 1) = 2 * 2 ^ k := by rw [Nat.pow_succ]; omega
 have e1 : x = 2 ^ (k + 1) * m + 2 ^ k := by rw [hm, h1, Nat.mul_add, Nat.mul_one, Nat.mul_comm 2 (2 ^ k), Nat.mul_assoc]
 have e3 := fun j => Nat.testBit_two_pow_mul_add m (i := k + 1) (b := 2 ^ k) (by omega) j
 constructor
 · rw [e1, e3, if_pos (by omega), Nat.testBit_two_pow_self]
 · intro j hj
   rw [e1, e3, if_pos (by omega), Nat.testBit_two_pow]
   simp; omega
theorem low_lt (h0 : x ≠ 0) (hx : x < 65536) : low x < 16 := by
 refine Nat.lt_of_not_le fun h => ?_
 have := Nat.testBit_lt_two_pow (x := x) (i := low x) (Nat.lt_of_lt_of_le hx (Nat.pow_le_pow_right (n := 2) (by decide) h))
 rw [(low_bit h0 hx).1] at this; cases this
theorem mems_low (h0 : x ≠ 0) (hx : x < 65536) : mems x = low x :: mems (behindN x (low x)) := by
 have hm : low x ∈ mems x := mem_mems.2 ⟨low_lt h0 hx, (low_bit h0 hx).1⟩
 obtain ⟨pre, R, e⟩ := List.append_of_mem hm
 rw [mems_behind e]
 have hs := mems_sorted x
 rw [e] at hs
 cases pre with
 | nil => exact e
 | cons a pre =>
  have h1 := (List.pairwise_append.1 hs).2.2 a (by simp) (low x) (by simp)
  have h2 := (mem_mems.1 (show a ∈ mems x by rw [e]; simp)).2
  rw [(low_bit h0 hx).2 a h1] at h2; cases h2
theorem behind_lt (x k : Nat) (hx : x < 65536) : behindN x k < 65536 := by
 unfold behindN; exact Nat.lt_of_le_of_lt (Nat.div_mul_le_self _ _) hx
theorem mems_zero : mems 0 = [] := by decide
end
section
open Gf
theorem pow_lt64 {k : Nat} (h : k < 64) : 2 ^ k < 18446744073709551616 := Nat.lt_of_lt_of_le (Nat.pow_lt_pow_right (by decide) h) (Nat.le_refl _)
theorem first_key (k : Nat) (h : k ≤ 16) : IntKind.u64.wrap (IntKind.u64.wrap (2 ^ k) - 1) = ((2 ^ k - 1 : Nat) : Int) := by
 have h1 := pow_lt64 (k := k) (by omega)
 have h2 : 0 < 2 ^ k := Nat.two_pow_pos k
 have e : ((2 : Int) ^ k) = ((2 ^ k : Nat) : Int) := by rw [Int.natCast_pow]; rfl
 rw [e, IntKind.wrap_u64, IntKind.wrap_u64]
 omega
theorem first_any (k : Nat) (hk : k ≤ 16) (w : World) :
 Calls Tryz.prog 97 #[.int .i64 k] w fun e w' => e = .returned (.int .u64 ((2 ^ k - 1 : Nat) : Int)) ∧ w' = w := by
 have key := first_key k hk
 go_enter Tryz.func97, Tryz.ntmps97
 go_wp2
 go_ret
 exact ⟨rfl, rfl⟩
theorem and_u64 (a b : Nat) (ha : a < 18446744073709551616) (hb : b < 18446744073709551616) : bits .and .u64 (a : Int) (b : Int) = ((a &&& b : Nat) : Int) := bits_and_u64_nat a b ha hb
theorem behind_key (x k : Nat) (hx : x < 65536) (hk : k ≤ 16) : bits .andNot .u64 (x : Int) ((2 ^ k - 1 : Nat) : Int) = ((x / 2 ^ k * 2 ^ k : Nat) : Int) := by
 have h1 := pow_lt64 (k := k) (by omega)
 have h2 : 0 < 2 ^ k := Nat.two_pow_pos k
 have h := u64_andNot_nat x (2 ^ k - 1) (by omega) (by omega)
 rw [h]
 congr 1
 apply Nat.eq_of_testBit_eq
 intro j
 rw [Nat.testBit_and, Nat.testBit_mul_two_pow, show 18446744073709551615 - (2 ^ k - 1) = 2 ^ 64 - (2 ^ k - 1 + 1) by omega, Nat.testBit_two_pow_sub_succ (by omega), Nat.testBit_two_pow_sub_one, Nat.testBit_div_two_pow]
 by_cases hj : k ≤ j
 · rw [show j - k + k = j by omega]
   by_cases h0 : j < 64
   · simp [hj, h0, show ¬ j < k by omega]
   · have : x.testBit j = false := Nat.testBit_lt_two_pow (Nat.lt_of_lt_of_le hx (Nat.pow_le_pow_right (n := 2) (i := 16) (by decide) (by omega)))
     simp [this]
 · simp [hj, show j < k by omega]
end
section
open Go.Shelf
theorem Below.putObj' {a : World} (h : Below B a w) {l : Nat} (hp : B ≤ l) (hl : l < w.heap.size) (o : Obj) : Below B a (w.putObj l o) :=
 h.grown (grownBy_putObj' w l o) (by omega) (fun k e => by cases e; exact hp)
theorem at_wide (h : Calls P f args w R) (k : ∀ e w', R e w' → R' e w') :
 Fence.wide.fn f ∧ (Fence.wide.depth.isSome = true → 1 ≤ n) ∧ CallsIn Fence.wide m P f args w R' :=
 ⟨trivial, fun h => (by cases h), callsIn_wide.2 (h.mono k)⟩
theorem at_round (h : Calls P f args w R) (k : ∀ e w', R e w' → R' e w') :
 (Fence.wide.inRound l).fn f ∧ ((Fence.wide.inRound l).depth.isSome = true → 1 ≤ n) ∧ CallsIn (Fence.wide.inRound l) m P f args w R' :=
 ⟨trivial, fun h => (by cases h), CallsIn.inRound l (callsIn_wide.2 (h.mono k))⟩
theorem room_none (k : Nat) : Fence.wide.room k := fun d h => by cases h
theorem round_any {m' : Nat} {tmps : Array Value} {assign body : Code} (h : RoundIn Fence.wide m P l f tmps assign body w R) : RoundIn Fence.wide m' P l f tmps assign body w R := ⟨h.1, fun c cs _ => h.2 c cs (room_none _)⟩
end
section
open Go.Shelf Gf
attribute [local go_sem] Oper.semAt_some
theorem behind_small {q : Nat} (h0 : q ≠ 0) (hq : q < 65536) : behindN q (low q) < q := by
 refine Nat.lt_of_le_of_ne (Nat.div_mul_le_self _ _) fun e => ?_
 have h1 := behindN_bit q (low q) (low q)
 rw [e, (low_bit h0 hq).1] at h1
 simp at h1
theorem members_any (s : Nat) (w : World) :
 Calls Tryz.prog 113 #[.int .u64 s] w fun e w' => e = .returned (.func (.func 137) #[] #[.pointer (some ⟨w.heap.size, 0, none⟩)]) ∧ w' = w.alloc (.cells #[.int .u64 s] 115) := by
 go_enter Tryz.func113, Tryz.ntmps113
 go_wp2
 go_ret
 exact ⟨rfl, rfl⟩
def KpT (W W' : World) : Prop := tabLaid W → tabLaid W'
theorem kpT_t {A B C : World} (h : KpT A B) (k : KpT B C) : KpT A C := fun x => k (h x)
theorem kpT_b (hw : 3 ≤ w.heap.size) (W : World) (l : Nat) (o o' : Obj) (hl : w.heap.size ≤ l) (h : W.heap[l]? = some o) (_ : o.isCells = false) (_ : o.isWalk = false) : KpT W (W.putObj l o') := fun hT =>
 hT.mono (B := 3) (by decide) (Below.putObj' (Below.refl _ W) (by omega) (Array.getElem?_eq_some_iff.1 h).1 _)
end
section
open Go.Shelf Gf
attribute [local go_sem] Oper.semAt_some
abbrev Mb (s : Nat) := { x : Nat // x < 16 ∧ s.testBit x = true }
def encMb {s : Nat} (x : Mb s) : Array Value := #[.int .i64 (x.1 : Int)]
def preM {s : Nat} (pre : List (Mb s)) : List Nat := pre.map (·.1)
theorem preM_snoc (pre : List (Mb s)) (x : Mb s) : preM (pre ++ [x]) = preM pre ++ [x.1] := by unfold preM; simp
theorem mems_all (h : n ≤ 16) : mems (2 ^ n - 1) = List.range n := by
 have : ∀ k : Fin 17, mems (2 ^ k.1 - 1) = List.range k.1 := by decide
 exact this ⟨n, by omega⟩
theorem members1_mb (n : Nat) (l Bs s : Nat) (hs : s < 65536) (J Jx : List (Mb s) → World → Prop)
 (hY : ∀ pre x W, J pre W → pre.length < (mems s).length → YieldAt Fence.wide (n - 1) Tryz.prog l (encMb x) W fun e W' =>
  (e = .returned (.bool true) ∧ J (pre ++ [x]) W' ∧ (tabLaid W → tabLaid W')) ∨ (e = .returned (.bool false) ∧ Jx (pre ++ [x]) W'))
 (W : World) (hB : W.cell? ⟨Bs, 0, none⟩ = some (.int .u64 s)) (hT : tabLaid W) (h0 : J [] W) :
 CallsIn Fence.wide n Tryz.prog 137 #[.func (.yield l) #[] #[], .pointer (some ⟨Bs, 0, none⟩)] W fun e W' => (∃ v, e = .returned v) ∧
  ((∃ ys, ys.map (·.1) = mems s ∧ J ys W') ∨ (∃ pre, pre.map (·.1) <+: mems s ∧ Jx pre W')) := by
 refine callsIn_of_wp Tryz.func137 rfl trivial ?_ rfl
 simp only [Tryz.ntmps137, List.size_toArray, List.length_cons, List.length_nil, Nat.reduceAdd, Nat.reduceSub, Array.replicate_succ, Array.replicate_zero, List.push_toArray, List.append_toArray, List.nil_append, List.cons_append]
 gi_wp2
 gi_loopw [3] (fun p wr => ∃ (pre : List (Mb s)) (q : Nat), p = .int .u64 q ∧ q < 65536 ∧ mems s = pre.map (·.1) ++ mems q ∧ J pre wr ∧ tabLaid wr)
  (fun p _ => (intOf p).toNat)
 case atStart =>
  exact ⟨[], s, rfl, hs, rfl, h0, hT⟩
 case round =>
  obtain ⟨pre, q, rfl, hq, hx, h4, h5⟩ := hrel
  by_cases h1 : q = 0
  · subst h1
    gi_wp2
    go_end0
    exact ⟨⟨_, rfl⟩, .inl ⟨pre, by rw [hx, mems_zero, List.append_nil], h4⟩⟩
  · have h8 : ((q : Int) != 0) = true := by simp; omega
    have h9 := low_lt h1 hq
    have h2 : low q < 16 ∧ s.testBit (low q) = true := mem_mems.1 (by rw [hx, mems_low h1 hq]; simp)
    obtain ⟨fn, tmps, assign, body, hy, hR⟩ := hY pre ⟨low q, h2⟩ wr h4 (by rw [hx, mems_low h1 hq]; simp)
    unfold encMb at hy
    gi_wp2
    refine at_wide (tz_any q h1 hq wr h5) ?_
    rintro e w' ⟨rfl, rfl⟩
    gi_wp2
    refine ⟨fun h => (by cases h), hR.mono ?_⟩
    rintro e W3 (⟨rfl, h6, h7⟩ | ⟨rfl, h3⟩)
    · have hw : IntKind.u64.wrap ((q : Int) - 1) = ((q - 1 : Nat) : Int) := by rw [IntKind.wrap_u64]; omega
      have ha := and_u64 q (q - 1) (by omega) (by omega)
      rw [low_and h1 hq] at ha
      gi_wp2
      go_roundw
      case rel => exact ⟨pre ++ [⟨low q, h2⟩], behindN q (low q), rfl, behind_lt _ _ hq, by rw [hx, mems_low h1 hq]; simp, h6, h7 h5⟩
      case measure => have := behind_small h1 hq; simp only [intOf]; omega
    · gi_wp2
      refine bodyPost_ret (results_none rfl _ _ _) rfl ?_
      exact ⟨⟨_, rfl⟩, .inr ⟨pre ++ [⟨low q, h2⟩], by rw [hx, mems_low h1 hq]; simp, h3⟩⟩
theorem members_mb (n Bs s : Nat) (hs : s < 65536) (w : World) (hB : Bs < w.heap.size) (hc : w.cell? ⟨Bs, 0, none⟩ = some (.int .u64 s)) (h2 : 3 ≤ w.heap.size) (hT : tabLaid w) :
 SeqStopsK Fence.wide n Tryz.prog 137 #[.pointer (some ⟨Bs, 0, none⟩)] (encMb (s := s)) KpT (fun ys => ys.map (·.1) = mems s) (fun pre => pre.map (·.1) <+: mems s) (mems s).length w := fun l J Jx W hW _ _ hY h0 =>
 members1_mb n l Bs s hs J Jx hY W ((hW.cell (p := ⟨Bs, 0, none⟩) hB).trans hc) (hT.mono (by omega) hW) h0
end
section
open Go.Deep
def rightB (D L G : Int) : Bool := decide (1 ≤ D ∧ D ≤ 12 ∧ 1 ≤ L ∧ L ≤ 4 ∧ 0 ≤ G ∧ G ≤ 4 ∧ D % L = 0 ∧ D + L + G ≤ 16)
theorem ret_bool {a b : Bool} (h : a = b) : Ending.returned (.bool a) = .returned (.bool b) := by rw [h]
theorem shards_any (D L G : Int) (w : World) (h1 : 0 ≤ D ∧ D ≤ 100) (h2 : 0 ≤ L ∧ L ≤ 100) (h3 : 0 ≤ G ∧ G ≤ 100) :
 Calls Tryz.prog 10 #[.agg #[.int .i64 D, .int .i64 L, .int .i64 G]] w fun e w' => e = .returned (.int .i64 (D + L + G)) ∧ Below w.heap.size w w' := by
 obtain ⟨a1, a2⟩ := h1
 obtain ⟨b1, b2⟩ := h2
 obtain ⟨c1, c2⟩ := h3
 go_enter Tryz.func10, Tryz.ntmps10
 go_wp2
 go_ret
 exact ⟨rfl, (Below.refl _ _).alloc (Nat.le_refl _) _⟩
theorem right_any (D L G : Int) (w : World) :
 Calls Tryz.prog 51 #[.agg #[.int .i64 D, .int .i64 L, .int .i64 G]] w fun e w' => e = .returned (.bool (rightB D L G)) ∧ Below w.heap.size w w' := by
 go_enter Tryz.func51, Tryz.ntmps51
 go_wp2_with (go_at_call 10; refine (shards_any D L G _ (by omega) (by omega) (by omega)).mono ?_; rintro e w' ⟨rfl, hb⟩)
 all_goals go_ret
 · refine ⟨ret_bool (b := rightB D L G) ?_, ((Below.refl _ _).alloc (Nat.le_refl _) _).trans (hb.mono (by simp))⟩
   unfold rightB
   rw [decide_eq_decide]
   constructor
   · intro h; exact ⟨by omega, by omega, by omega, by omega, by omega, by omega, by assumption, h⟩
   · intro h; exact h.2.2.2.2.2.2.2
 all_goals
  refine ⟨ret_bool (b := rightB D L G) ?_, (Below.refl _ _).alloc (Nat.le_refl _) _⟩
  unfold rightB
  symm
  rw [decide_eq_false_iff_not]
  intro h
  omega
end
section
open Go.Shelf Go.Deep Gf
attribute [local go_sem] Oper.semAt_some
def Arr.putAt (A : Arr) (ds : List Nat) (b : Nat) (f : Nat → List Nat) : Arr := { A with blk := fun i m => if i ∈ ds ∧ m = b then f i else A.blk i m, bad := fun i m => if i ∈ ds ∧ m = b then false else A.bad i m }
theorem putAt_nil (A : Arr) (b : Nat) (f : Nat → List Nat) : A.putAt [] b f = A := by simp [Arr.putAt]
theorem putAt_snoc (A : Arr) (ds : List Nat) (d b : Nat) (f : Nat → List Nat) : ((A.putAt ds b f).setBlk d b (f d)).setBad d b false = A.putAt (ds ++ [d]) b f := by
 unfold Arr.putAt Arr.setBlk Arr.setBad
 congr 1
 · funext i m
   simp only [List.mem_append, List.mem_singleton]
   by_cases e : i = d ∧ m = b
   · obtain ⟨rfl, rfl⟩ := e
     rw [if_pos ⟨rfl, rfl⟩, if_pos ⟨.inr rfl, rfl⟩]
   · rw [if_neg e]
     by_cases e2 : i ∈ ds ∧ m = b
     · rw [if_pos e2, if_pos ⟨.inl e2.1, e2.2⟩]
     · rw [if_neg e2, if_neg (fun q => q.1.elim (fun h => e2 ⟨h, q.2⟩) (fun h => e ⟨h, q.2⟩))]
 · funext i m
   simp only [List.mem_append, List.mem_singleton]
   by_cases e : i = d ∧ m = b
   · obtain ⟨rfl, rfl⟩ := e
     rw [if_pos ⟨rfl, rfl⟩, if_pos ⟨.inr rfl, rfl⟩]
   · rw [if_neg e]
     by_cases e2 : i ∈ ds ∧ m = b
     · rw [if_pos e2, if_pos ⟨.inl e2.1, e2.2⟩]
     · rw [if_neg e2, if_neg (fun q => q.1.elim (fun h => e2 ⟨h, q.2⟩) (fun h => e ⟨h, q.2⟩))]
theorem Arr.fit.putAt {A : Arr} (h : A.fit) (ds : List Nat) (b : Nat) (f : Nat → List Nat) (hf : ∀ i, i ∈ ds → (f i).length = 64 ∧ ∀ x ∈ f i, x < 256) : (A.putAt ds b f).fit := by
 refine ⟨h.n, h.nb, fun k m => ?_, fun k m => ?_⟩
 · show (if k ∈ ds ∧ m = b then f k else A.blk k m).length = 64
   split
   · rename_i q; exact (hf k q.1).1
   · exact h.len k m
 · show ∀ x ∈ (if k ∈ ds ∧ m = b then f k else A.blk k m), x < 256
   split
   · rename_i q; exact (hf k q.1).2
   · exact h.byt k m
theorem tabLaid.keep (h : tabLaid w) (e : w'.heap[1]? = w.heap[1]?) : tabLaid w' := fun j hj => by
 rw [← h j hj]
 unfold World.cell?
 rw [e]
theorem tabLaid.lt (h : tabLaid w) : 1 < w.heap.size := block_lt_of_cell (h 0 (by decide))
theorem hvLaid.keep (h : hvLaid w) (e : w'.heap[2]? = w.heap[2]?) : hvLaid w' := fun j hj => by
 rw [← h j hj]
 unfold World.cell?
 rw [e]
structure Vol (w : World) (v p D L G ps ho : Nat) (A : Arr) (F : Foot) : Prop where
 vol : VolAt w v p D L G ps ho
 arr : ArrAt w p A F
 laid : hvLaid w
 tab : tabLaid w
 room : 3 ≤ w.heap.size
structure Free (F : Foot) (p n v : Nat) : Prop where
 v : ¬ F.has p n v
 g : ¬ F.has p n 2
 t : ¬ F.has p n 1
theorem Vol.below {A : Arr} (h : Vol w v p D L G ps ho A F) {B : Nat} (hb : Below B w w') (hB : w.heap.size ≤ B) : Vol w' v p D L G ps ho A F :=
 ⟨h.vol.keep (hb.block _ (Nat.lt_of_lt_of_le h.vol.lt hB)), h.arr.below hb hB, h.laid.below hb (Nat.lt_of_lt_of_le h.laid.lt hB), h.tab.keep (hb.block _ (Nat.lt_of_lt_of_le h.tab.lt hB)), Nat.le_trans h.room hb.size⟩
theorem Vol.turn {A A' : Arr} (h : Vol w v p D L G ps ho A F) (hF : Free F p n v) (hO : Outside (F.has p n) w w') (hA : ArrAt w' p A' F) : Vol w' v p D L G ps ho A' F :=
 ⟨h.vol.keep (hO.block _ h.vol.lt hF.v), hA, h.laid.keep (hO.block _ h.laid.lt hF.g), h.tab.keep (hO.block _ h.tab.lt hF.t), Nat.le_trans h.room hO.size⟩
theorem end_cell {fn : Func} {D' t8 : Nat} {ty : TypeId} {x : Value} {a : Act} (hr : fn.results = #[.cell t8 ty]) (hd : a.defers = [{ target := .collected D', args := #[] }]) (h8 : a.tmps.getD t8 undef = .pointer (some ⟨b, 0, none⟩))
 (hl : ∀ w, w.heap[b]? = Z.heap[b]? → (loadVar ty ⟨b, 0, none⟩).run Tryz.prog w = .ok x w) (hK : Z.heap[D']? = some (.deferred (some []))) (hD : b ≠ D')
 (hR : R (.returned x) (Z.putObj D' (.deferred none))) : bodyPostM Fence.wide n Tryz.prog fn R .ret a Z := by
 obtain ⟨tm, df⟩ := a
 simp only at hd h8
 subst hd
 refine ⟨by simp, .inl ⟨_, _, rfl, run_takeDeferred hK, ?_⟩⟩
 have c0 := hl (Z.putObj D' (.deferred none)) (World.putObj_heap_other hD)
 refine ⟨x, ?_, hR⟩
 have h0 : tm[t8]?.getD undef = .pointer (some ⟨b, 0, none⟩) := by simpa using h8
 simp [results, hr, asAddr, h0, c0]
theorem load_set (h : Boxed Z b 115 (.int .u64 s)) (w : World) (e : w.heap[b]? = Z.heap[b]?) : (loadVar 115 ⟨b, 0, none⟩).run Tryz.prog w = .ok (.int .u64 s) w := by
 have hc : w.cell? ⟨b, 0, none⟩ = some (.int .u64 s) := (show Boxed w b 115 (.int .u64 s) from e.trans h).cell
 simp [go_sem, hc]
structure WcI (w : World) (v p b : Nat) (r : Rec) (A : Arr) (F : Foot) (B S : Nat) (pre : List (Mb S)) (X : World) : Prop where
 b0 : Boxed X w.heap.size 104 (.pointer (some ⟨v, 0, none⟩))
 b1 : Boxed X (w.heap.size + 1) 3 (.int .i64 b)
 b2 : Boxed X (w.heap.size + 1 + 1) 202 (recV r)
 b3 : Boxed X (w.heap.size + 1 + 1 + 1) 115 (.int .u64 0)
 arr : ArrAt X p (A.putAt (preM pre) b (fun _ => r.blk)) F
 out : Outside (F.has p A.n) w X
 size : B ≤ X.heap.size
theorem WcI.own {r : Rec} {A : Arr} {S : Nat} (hB : w.heap.size + 4 ≤ B) (hF : ∀ k, F.has p A.n k → k < w.heap.size) : OwnFrom B (WcI w v p b r A F B S) := by
 rintro pre X Y row ⟨h0, h1, h2, h3, h4, h5, h6⟩ hg hr
 have hk : ∀ k, k < w.heap.size + 4 → Y.heap[k]? = X.heap[k]? := fun k hk => hg.block k (by omega) (fun e => by have := (hr k e.symm).1; omega)
 exact ⟨(hk _ (by omega)).trans h0, (hk _ (by omega)).trans h1, (hk _ (by omega)).trans h2, (hk _ (by omega)).trans h3, h4.keep fun k h7 => hk k (by have := hF k h7; omega), h5.later (T := fun k => w.heap.size ≤ k) ⟨hg.os, hg.tape, hg.output, hg.size, fun k h8 h9 => hk k (by omega)⟩ (fun k h8 h9 => by omega), Nat.le_trans h6 hg.size⟩
theorem writeCopies_ok {A : Arr} (hV : Vol w v p D L G ps ho A F) (hF : Free F p A.n v) (hf : A.fit) (b S : Nat) (hb : b < A.nb) (hS : S < 65536) (k7 : ∀ i, i ∈ mems S → i < A.n) (hw : A.wait < 0) (hl : ∀ i, i ∈ mems S → A.lost i = false)
 (r : Rec) (hr : r.ok) (hm : Makes r) :
 Calls Tryz.prog 106 #[.pointer (some ⟨v, 0, none⟩), .int .i64 b, recV r, .int .u64 S] w fun e w' => e = .returned (.int .u64 0) ∧ ArrAt w' p (A.putAt (mems S) b (fun _ => r.blk)) F ∧ Outside (F.has p A.n) w w' := by
 obtain ⟨n, HN⟩ : ∃ n : Nat, Hid (9 ≤ n) := ⟨9, Nat.le_refl _⟩
 obtain ⟨rv, h9⟩ : ∃ rv, recV r = rv := ⟨_, rfl⟩
 have k8 : ∃ ty rx, rv = .iface ty rx := by cases r <;> exact ⟨_, _, h9.symm⟩
 obtain ⟨ty, rx, rfl⟩ := k8
 rw [h9]
 have HR := hide h9
 clear h9
 have hh : ∀ k, F.has p A.n k → k < w.heap.size := fun k hk => hV.arr.has_lt hk
 have k9 := blk_len hr
 have ka := blk_lt hr
 refine (callsIn_wide (n := n)).1 ?_
 refine callsIn_of_wp_marks Tryz.func106 rfl trivial ?_ rfl
 simp only [Tryz.ntmps106, List.size_toArray, List.length_cons, List.length_nil, Nat.reduceAdd, Nat.reduceSub, Array.replicate_succ, Array.replicate_zero, List.push_toArray, List.append_toArray, List.nil_append, List.cons_append]
 gi_wp2
 obtain ⟨w4, h6⟩ : ∃ w4, (((w.alloc (.cells #[.pointer (some ⟨v, 0, none⟩)] 104)).alloc (.cells #[.int .i64 (b : Int)] 3)).alloc (.cells #[.iface ty rx] 202)).alloc (.cells #[.int .u64 0] 115) = w4 := ⟨_, rfl⟩
 have h0 : Boxed w4 w.heap.size 104 (.pointer (some ⟨v, 0, none⟩)) := by rw [← h6]; exact (((Boxed.new w _ _).alloc _).alloc _).alloc _
 have h1 : Boxed w4 (w.heap.size + 1) 3 (.int .i64 b) := by
  rw [← h6]
  have := Boxed.new (w.alloc (.cells #[.pointer (some ⟨v, 0, none⟩)] 104)) 3 (.int .i64 b)
  rw [World.size_alloc] at this
  exact (this.alloc _).alloc _
 have h2 : Boxed w4 (w.heap.size + 1 + 1) 202 (recV r) := by
  rw [← h6, HR.out]
  have := Boxed.new ((w.alloc (.cells #[.pointer (some ⟨v, 0, none⟩)] 104)).alloc (.cells #[.int .i64 (b : Int)] 3)) 202 (.iface ty rx)
  rw [World.size_alloc, World.size_alloc] at this
  exact this.alloc _
 have h3 : Boxed w4 (w.heap.size + 1 + 1 + 1) 115 (.int .u64 0) := by
  rw [← h6]
  have := Boxed.new (((w.alloc (.cells #[.pointer (some ⟨v, 0, none⟩)] 104)).alloc (.cells #[.int .i64 (b : Int)] 3)).alloc (.cells #[.iface ty rx] 202)) 115 (.int .u64 0)
  rw [World.size_alloc, World.size_alloc, World.size_alloc] at this
  exact this
 have hj : w4.heap.size = w.heap.size + 4 := by rw [← h6]; simp
 have hq : Below w.heap.size w w4 := by rw [← h6]; exact ((((Below.refl _ w).alloc (Nat.le_refl _) _).alloc (by simp) _).alloc (by simp; omega) _).alloc (by simp; omega) _
 rw [h6]
 clear h6
 refine at_wide (members_any S w4) ?_
 rintro e w' ⟨rfl, rfl⟩
 have hs : (w4.alloc (.cells #[.int .u64 (S : Int)] 115)).heap.size = w4.heap.size + 1 := by simp
 have hy : (w4.alloc (.cells #[.int .u64 (S : Int)] 115)).cell? ⟨w4.heap.size, 0, none⟩ = some (.int .u64 (S : Int)) := (Boxed.new w4 115 (.int .u64 (S : Int))).cell
 have ha : Below w.heap.size w (w4.alloc (.cells #[.int .u64 (S : Int)] 115)) := hq.alloc (by omega) _
 have hz : WcI w v p b r A F (w4.heap.size + 1) S [] (w4.alloc (.cells #[.int .u64 (S : Int)] 115)) :=
  ⟨h0.alloc _, h1.alloc _, h2.alloc _, h3.alloc _, by rw [show preM ([] : List (Mb S)) = [] from rfl, putAt_nil]; exact hV.arr.below ha (Nat.le_refl _), Outside.of_all ha _, by omega⟩
 obtain ⟨w6, k0⟩ : ∃ w6, w4.alloc (.cells #[.int .u64 (S : Int)] 115) = w6 := ⟨_, rfl⟩
 have k5 := hide hy
 have hc := hide2 hz ha
 have kb := hide hj
 clear hy hz h0 h1 h2 h3 hq ha hj
 gi_wp2
 obtain ⟨hj, kc⟩ : w.heap.size + 4 ≤ w4.heap.size ∧ w4.heap.size ≤ w.heap.size + 4 := by have := kb.out; omega
 rw [k0] at hs k5 hc
 clear k0
 rw [← hs] at hc
 refine wpIn_rangeFunc_ownG rfl (by have := HN.out; omega) (gf := 137) (lb := #[.pointer (some ⟨w4.heap.size, 0, none⟩)]) rfl trivial (enters_of Tryz.func137 (by kernel_rfl) rfl)
  (members_mb (n - 1) w4.heap.size S hS w6 (by omega) k5.out (by have := hV.room; omega) (hV.tab.mono (by exact hV.tab.lt) hc.out.2)) (fun h k => kpT_t h k) (kpT_b (by have := hV.room; omega)) (Below.refl _ _) (fun _ => rfl)
  (WcI w v p b r A F w6.heap.size S) (fun _ _ _ => False) (WcI.own (by omega) hh) (fun _ _ _ _ _ h _ _ => h.elim) hc.out.1
  (fun x => { tmps := #[.pointer (some ⟨v, 0, none⟩), .int .i64 (b : Int), .iface ty rx, .int .u64 (S : Int), .pointer (some ⟨w.heap.size, 0, none⟩), .pointer (some ⟨w.heap.size + 1, 0, none⟩), .pointer (some ⟨w.heap.size + 1 + 1, 0, none⟩), undef, .pointer (some ⟨w.heap.size + 1 + 1 + 1, 0, none⟩), .int .i64 (x.1 : Int), .int .u64 (S : Int), .func (.func 137) #[] #[.pointer (some ⟨w4.heap.size, 0, none⟩)], .int .i64 (x.1 : Int), undef, undef, undef, undef, undef, undef, undef, undef, undef, undef], defers := [] }) ?assign ?body ?done ?stop
 case assign =>
  intro l2 x X Kk hK
  unfold encMb
  gi_wp2
  exact hK
 case body =>
  rintro l2 pre x X hi hn
  have k6 : x.1 ∈ mems S := mem_mems.2 x.2
  have he := hV.turn hF hi.out hi.arr
  have h5 := volWrite_ok he.vol he.arr (hf.putAt _ _ _ fun _ _ => ⟨k9, ka⟩) x.1 b (k7 _ k6) hb hw (hl _ k6) r hr hm he.laid hF.g hF.v
  rw [putAt_snoc, HR.out] at h5
  have c0 := hi.b0.cell
  have c1 := hi.b1.cell
  have c2 := hi.b2.cell
  rw [HR.out] at c2
  have HI := hide hi
  clear hi hn he
  gi_wp2
  refine at_round h5 ?_
  clear h5
  rintro e w2 ⟨rfl, hg, h8⟩
  have h7 : ∀ k, w.heap.size ≤ k → k < X.heap.size → w2.heap[k]? = X.heap[k]? := fun k hk kd => h8.block k kd (fun q => by have := hh k q; omega)
  have h4 := HI.out.b3.lt
  have H2 := hide3 hg h8 h7
  clear hg h8 h7
  gi_wp2
  obtain ⟨hg, h8, h7⟩ := H2.out
  have hi := HI.out
  have hO : Outside (F.has p A.n) w w2 := hi.out.trans h8
  refine ⟨⟨h8.size, fun k o hk ho _ => (h7 k (by omega) (Array.getElem?_eq_some_iff.1 ho).1).trans ho⟩, fun _ => hV.tab.keep (hO.block _ hV.tab.lt hF.t), ?_⟩
  exact ⟨(h7 _ (by omega) (by omega)).trans hi.b0, (h7 _ (by omega) (by omega)).trans hi.b1, (h7 _ (by omega) (by omega)).trans hi.b2, (h7 _ (by omega) (by omega)).trans hi.b3, by rw [preM_snoc]; exact hg, hO, Nat.le_trans hi.size h8.size⟩
 case done =>
  rintro D' xs X ke kf hi hK
  have c3 := hi.b3.cell
  have f3 := hi.b3.frozen
  have HI := hide2 hi hK
  clear hi hK
  gi_wp2
  obtain ⟨hi, hK⟩ := HI.out
  have hp : preM xs = mems S := kf
  have kg := hi.b3.set (.int .u64 0)
  have kh := KeepsOthers.setCell X ⟨w.heap.size + 1 + 1 + 1, 0, none⟩ (.int .u64 0)
  have ki := kh.same D' _ hK rfl
  have km := (Array.getElem?_eq_some_iff.1 hK).1
  refine end_cell (b := w.heap.size + 1 + 1 + 1) (t8 := 8) Tryz.results106 rfl rfl (load_set (s := 0) kg) ki (by omega) ⟨rfl, ?_, ?_⟩
  · have h4 := hi.arr
    rw [hp] at h4
    exact h4.keep fun k hk => by have := hh k hk; exact (World.putObj_heap_other (by omega)).trans (blk_setCell_other _ _ _ _ (by show k ≠ w.heap.size + 1 + 1 + 1; omega))
  · exact hi.out.later (T := fun k => w.heap.size ≤ k) ⟨rfl, rfl, rfl, by simp [World.setCell, World.putObj], fun k _ kj => (World.putObj_heap_other (by omega)).trans (blk_setCell_other _ _ _ _ (by show k ≠ w.heap.size + 1 + 1 + 1; omega))⟩ (fun k kn kj => by omega)
 case stop =>
  rintro D' cc pre X ke kk hx hK
  exact hx.elim
end
section
open Go.Deep Gf
theorem volAll_any (h : VolAt w v p D L G ps ho) (hD : D ≤ 12) (hL : L ≤ 4) (hG : G ≤ 4) (h1 : D + L + G ≤ 16) : Calls Tryz.prog 107 #[.pointer (some ⟨v, 0, none⟩)] w fun e w' => e = .returned (.int .u64 ((2 ^ (D + L + G) - 1 : Nat) : Int)) ∧ Below w.heap.size w w' := by
 obtain ⟨_, c1, c2, c3, _⟩ := h.cells
 obtain ⟨m, hm⟩ : ∃ m, D + L + G = m := ⟨_, rfl⟩
 obtain ⟨q, hq⟩ : ∃ q, ((2 ^ m - 1 : Nat) : Int) = q := ⟨_, rfl⟩
 rw [hm, hq]
 have HQ := hide hq
 clear hq
 go_enter Tryz.func107, Tryz.ntmps107
 go_wp2_with fail
 refine (shards_any (D : Int) (L : Int) (G : Int) w ⟨by omega, by omega⟩ ⟨by omega, by omega⟩ ⟨by omega, by omega⟩).mono ?_
 rintro e w5 ⟨rfl, h0⟩
 rw [show ((D : Int) + (L : Int) + (G : Int)) = (m : Int) by omega]
 have H := hide h0
 clear h0
 go_wp2_with fail
 refine (first_any m (by omega) w5).mono ?_
 rw [HQ.out]
 rintro e w6 ⟨rfl, rfl⟩
 go_wp2
 go_ret
 exact ⟨rfl, H.out⟩
def Arr.readTo (A : Arr) (k : Nat) : Arr := { A with reads := fun i => if i < k then wrap64 (A.reads i + 1) else A.reads i }
theorem readTo_zero (A : Arr) : A.readTo 0 = A := by simp [Arr.readTo]
theorem readTo_succ (A : Arr) (k : Nat) : (A.readTo k).setReads k (wrap64 ((A.readTo k).reads k + 1)) = A.readTo (k + 1) := by
 unfold Arr.readTo Arr.setReads
 congr 1
 funext i
 simp only
 by_cases e : i = k
 · subst e
   rw [if_pos rfl, if_neg (Nat.lt_irrefl i), if_pos (Nat.lt_succ_self i)]
 · rw [if_neg e]
   by_cases e2 : i < k
   · rw [if_pos e2, if_pos (by omega)]
   · rw [if_neg e2, if_neg (by omega)]
theorem Arr.fit.readTo {A : Arr} (h : A.fit) (k : Nat) : (A.readTo k).fit := ⟨h.n, h.nb, h.len, h.byt⟩
theorem Tryz.infoRecord : (Tryz.prog.info? 202).map (fun i => (i.zero, i.size, i.bytes)) = some (some .nilIface, 1, 16) := by kernel_rfl
theorem wpList_mkRecs (w : World) {ops : Array Oper} {rest : List Oper} {o : Oper} {a : Act} {Q : Exit → Act → World → Prop}
 (hg : o.guard = none) (l c : Operand) (h1 : o.op = Op.makeSlice 161 l c) (C : Int) (n : Nat) (hl : a.eval l = .int .i64 C) (hc : a.eval c = .int .i64 C) (hC : C = (n : Int)) (hn : n ≤ 1000000)
 (hK : ∀ w', w'.rowIs w.heap.size 202 n (fun _ => .nilIface) → Below w.heap.size w w' → w'.heap.size = w.heap.size + 1 → wpList Tryz.prog ops Q rest (a.put o.dst (.slice (some ⟨w.heap.size, 0, none⟩) n n)) w') :
 wpList Tryz.prog ops Q (o :: rest) a w := by
 refine wpList_plain hg fun K h2 => ?_
 have h0 := run_make_row' (P := Tryz.prog) 161 202 .nilIface 16 Tryz.underlying161 Tryz.infoRecord rfl .i64 .i64 n (by omega) (by omega) w
 subst hC
 unfold Oper.wp
 simp [execOp, h1, hl, hc, h0, Result.andThen]
 exact h2 _ _ (hK _ (World.rowIs_made w _ n _) ((Below.refl _ _).alloc (Nat.le_refl _) _) (nblk_alloc _ _))
theorem recV_iface (r : Rec) : ∃ ty x, recV r = .iface ty x := by cases r <;> exact ⟨_, _, rfl⟩
def rcF (r : Nat → Rec) (k i : Nat) : Value := if i < k then recV (r i) else .nilIface
def RrR (w1 : World) (g p N : Nat) (A : Arr) (F : Foot) (r : Nat → Rec) (i : Value) (wr : World) : Prop := ∃ k : Nat, k ≤ N ∧ i = .int .i64 k ∧ ArrAt wr p (A.readTo k) F ∧ Outside (fun j => j = g ∨ F.has p A.n j) w1 wr ∧ wr.rowIs g 202 N (rcF r k)
def RrPost (w : World) (p : Nat) (A : Arr) (F : Foot) (r : Nat → Rec) (e : Ending) (w' : World) : Prop := ∃ g, e = .returned (.slice (some ⟨g, 0, none⟩) A.n A.n) ∧ w.heap.size ≤ g ∧ w'.rowIs g 202 A.n (fun i => recV (r i)) ∧ ArrAt w' p (A.readTo A.n) F ∧ Outside (F.has p A.n) w w'
theorem readCopies_ok {A : Arr} (hP : Vol w v p D L G ps ho A F) (h6 : Free F p A.n v) (hf : A.fit) (b : Nat) (hn : A.n = D + L + G) (hD : D ≤ 12) (hL : L ≤ 4) (hG : G ≤ 4) (hb : b < A.nb) (hw : A.wait ≠ 0) (hl : ∀ d, A.lost d = false) (h7 : ∀ d, A.bad d b = false)
 (r : Nat → Rec) (hr : ∀ i, (r i).ok) (hm : ∀ i, Makes (r i)) (he : ∀ i, i < A.n → A.blk i b = (r i).blk) :
 Calls Tryz.prog 77 #[.pointer (some ⟨v, 0, none⟩), .int .i64 b] w fun e w' => RrPost w p A F r e w' := by
 obtain ⟨_, c1, c2, c3, _⟩ := hP.vol.cells
 have hN : ((D : Int) + (L : Int) + (G : Int)) = ((A.n : Nat) : Int) := by omega
 have ka : A.n ≤ 1000 := hf.n
 go_enter Tryz.func77, Tryz.ntmps77
 go_wp2_with fail
 refine (shards_any (D : Int) (L : Int) (G : Int) w ⟨by omega, by omega⟩ ⟨by omega, by omega⟩ ⟨by omega, by omega⟩).mono ?_
 rintro e w5 ⟨rfl, ha⟩
 rw [hN]
 clear hN hn
 simp only []
 go_wp2_with (at_make; refine wpList_mkRecs _ rfl (.tmp 13) (.tmp 13) rfl _ A.n rfl rfl rfl (by omega) ?_; intro w6 h3 hc kb)
 have h1 : Below w.heap.size w w5 := ha
 have h2 : Below w.heap.size w w6 := h1.trans (hc.mono h1.size)
 have k6 : w.heap.size ≤ w5.heap.size := h1.size
 have hg : ¬ F.has p A.n w5.heap.size := fun q => by have := hP.arr.has_lt q; omega
 have h4 := hP.below h2 (Nat.le_refl _)
 have k7 : v ≠ w5.heap.size := fun e => by have := hP.vol.lt; omega
 have k8 : 2 ≠ w5.heap.size := fun e => by have := hP.laid.lt; omega
 have hh : ArrAt w6 p (A.readTo 0) F := by rw [readTo_zero]; exact h4.arr
 have hp : w6.rowIs w5.heap.size 202 A.n (rcF r 0) := h3.congr fun i hi => by unfold rcF; rw [if_neg (by omega)]
 clear h3 ha h1 hc hP c1 c2 c3
 go_loopw [17] (fun i wr => RrR w6 w5.heap.size p A.n A F r i wr) (fun i _ => A.n - (intOf i).toNat)
 case atStart => exact ⟨0, Nat.zero_le _, rfl, hh, Outside.refl _ _, hp⟩
 case round =>
  clear hh hp
  obtain ⟨k, hk, rfl, hA, hO, hR⟩ := hrel
  by_cases h8 : k < A.n
  · have hq : VolAt wr v p D L G ps ho := h4.vol.keep (hO.block _ h4.vol.lt (fun q => q.elim k7 h6.v))
    have hy : hvLaid wr := h4.laid.keep (hO.block _ h4.laid.lt (fun q => q.elim k8 h6.g))
    have h0 := volRead_ok hq hA (hf.readTo k) k b h8 hb hw (hl k) (h7 k) (r k) (hr k) (hm k) (he k h8) hy h6.g
    rw [readTo_succ] at h0
    obtain ⟨ty, x, hx⟩ := recV_iface (r k)
    rw [hx] at h0
    have H := hide3 hO hR h0
    clear hq hy h0 hA hO hR
    go_wp2_with fail
    refine H.out.2.2.mono ?_
    rintro e w7 ⟨rfl, hz, h9⟩
    have h5 : w7.rowIs w5.heap.size 202 A.n (rcF r k) := H.out.2.1.of_block (h9.block w5.heap.size H.out.2.1.lt hg)
    have cS := h5.cell (i := k) h8
    have fS := h5.frozen k
    have kc : ((k : Nat) : Int).toNat = k := by omega
    have H7 := hide3 hz (H.out.1.trans (h9.mono fun _ _ q => .inr q)) h5
    clear hz h9 H h5
    go_wp2
    refine ⟨⟨k + 1, by omega, by go_num, H7.out.1.keep fun j hj => blk_setCell_other _ _ _ _ (fun e => hg (by have e' : j = w5.heap.size := e; rwa [e'] at hj)), H7.out.2.1.trans (Outside.setCell _ _ _ (.inl rfl)), (H7.out.2.2.set k _).congr fun i hi => ?_⟩, by simp [intOf]; omega⟩
    unfold rcF
    by_cases e : i = k
    · subst e
      rw [if_pos rfl, if_pos (by omega), hx]
    · rw [if_neg e]
      by_cases e2 : i < k
      · rw [if_pos e2, if_pos (by omega)]
      · rw [if_neg e2, if_neg (by omega)]
  · have k9 : k = A.n := by omega
    subst k9
    have k0 : Outside (F.has p A.n) w wr := (hO.mono (T := fun j => j = w5.heap.size ∨ F.has p A.n j) fun _ _ q => q) |> fun h => ⟨h.os.trans h2.os, h.tape.trans h2.tape, h.output.trans h2.output, Nat.le_trans h2.size h.size, fun j hj hs => (h.block j (Nat.lt_of_lt_of_le hj h2.size) (fun q => q.elim (fun e => by omega) hs)).trans (h2.block j hj)⟩
    have k5 : wr.rowIs w5.heap.size 202 A.n (fun i => recV (r i)) := hR.congr fun i hi => by unfold rcF; rw [if_pos hi]
    have H := hide3 hA k0 k5
    clear hA hO k0 hR k5
    go_wp2
    go_ret
    exact ⟨_, rfl, k6, H.out.2.2, H.out.1, H.out.2.1⟩
end
end Go.Proofs.YtpaemkanfnddoaaGreatDoor
