/-
  The shards of a set, one after another: the program's iterator, and its contract.
-/
import Derived.Test.YtbgiechfhfeaeaaDoorPart14
import Derived.Test.YtbgiechfhfeaeaaDoorPart13
namespace Go.Proofs.YtbgiechfhfeaeaaDoor
open Go.RowKit Go.Shelf Gf

attribute [local go_sem] Oper.semAt_some
theorem behind_small {q : Nat} (h0 : q ≠ 0) (hq : q < 65536) : behindN q (low q) < q := by
  refine Nat.lt_of_le_of_ne (Nat.div_mul_le_self _ _) fun e => ?_
  have h1 := behindN_bit q (low q) (low q)
  rw [e, (low_bit h0 hq).1] at h1
  simp at h1
/-- a shard -/
abbrev Sh := { x : Nat // x < 16 }
def encSh (x : Sh) : Array Value := #[.int .i64 (x.1 : Int)]
/-- the shards of a set, as such -/
def shs (s : Nat) : List Sh := (mems s).filterMap (fun i => if h : i < 16 then some ⟨i, h⟩ else none)
theorem shs_val (s : Nat) : (shs s).map (·.1) = mems s := by
  unfold shs
  have h : ∀ L : List Nat, (∀ i ∈ L, i < 16) → (L.filterMap (fun i => if h : i < 16 then some (⟨i, h⟩ : Sh) else none)).map (·.1) = L := by
    intro L
    induction L with
    | nil => intro _; rfl
    | cons a L ih =>
      intro hL
      have ha := hL a List.mem_cons_self
      rw [List.filterMap_cons_some (b := (⟨a, ha⟩ : Sh)) (by simp [ha]), List.map_cons, ih (fun i hi => hL i (List.mem_cons_of_mem _ hi))]
  exact h _ (fun i hi => (mem_mems.1 hi).1)
set_option maxHeartbeats 1000000 in
/-- s.members(): the set lies in a block of its own -/
theorem members_any (s : Nat) (w : World) :
    Calls Tryd.prog 74 #[.int .u64 s] w fun e w' => e = .returned (.func (.func 87) #[] #[.pointer (some ⟨w.heap.size, 0, none⟩)]) ∧ w' = w.alloc (.cells #[.int .u64 s] 122) := by
  go_enter Tryd.func74, Tryd.ntmps74
  go_wp2
  go_ret
  exact ⟨rfl, rfl⟩
set_option maxRecDepth 100000 in
set_option maxHeartbeats 1000000 in
theorem members1_in (n : Nat) (l Bs s : Nat) (hs : s < 65536) (J Jx : List Sh → World → Prop)
    (hY : ∀ pre x W, J pre W → pre.length < (mems s).length → YieldAt Fence.wide (n - 1) Tryd.prog l (encSh x) W fun e W' =>
      (e = .returned (.bool true) ∧ J (pre ++ [x]) W' ∧ (tabLaid W → tabLaid W')) ∨ (e = .returned (.bool false) ∧ Jx (pre ++ [x]) W'))
    (W : World) (hB : W.cell? ⟨Bs, 0, none⟩ = some (.int .u64 s)) (hT : tabLaid W) (h0 : J [] W) :
    CallsIn Fence.wide n Tryd.prog 87 #[.func (.yield l) #[] #[], .pointer (some ⟨Bs, 0, none⟩)] W fun e W' => (∃ v, e = .returned v) ∧
      ((∃ ys, ys.map (·.1) = mems s ∧ J ys W') ∨ (∃ pre, pre.map (·.1) <+: mems s ∧ Jx pre W')) := by
  refine callsIn_of_wp Tryd.func87 rfl trivial ?_ rfl
  simp only [Tryd.ntmps87, List.size_toArray, List.length_cons, List.length_nil, Nat.reduceAdd, Nat.reduceSub, Array.replicate_succ, Array.replicate_zero, List.push_toArray, List.append_toArray, List.nil_append, List.cons_append]
  gi_wp2
  gi_loopw [3] (fun p wr => ∃ (pre : List Sh) (q : Nat), p = .int .u64 q ∧ q < 65536 ∧ mems s = pre.map (·.1) ++ mems q ∧ J pre wr ∧ tabLaid wr)
    (fun p _ => (intOf p).toNat)
  case atStart =>
    exact ⟨[], s, rfl, hs, rfl, h0, hT⟩
  case round =>
    obtain ⟨pre, q, rfl, hq, hx, hJs, hTr⟩ := hrel
    by_cases hq0 : q = 0
    · subst hq0
      gi_wp2
      go_end0
      exact ⟨⟨_, rfl⟩, .inl ⟨pre, by rw [hx, mems_zero, List.append_nil], hJs⟩⟩
    · have hne : ((q : Int) != 0) = true := by simp; omega
      have hlt := low_lt hq0 hq
      obtain ⟨fn, tmps, assign, body, hy, hR⟩ := hY pre ⟨low q, hlt⟩ wr hJs (by rw [hx, mems_low hq0 hq]; simp)
      unfold encSh at hy
      gi_wp2
      refine at_wide (tz_any q hq0 hq wr hTr) ?_
      rintro e w' ⟨rfl, rfl⟩
      gi_wp2
      refine ⟨fun h => (by cases h), hR.mono ?_⟩
      rintro e W3 (⟨rfl, hJ3, hT3⟩ | ⟨rfl, hJx3⟩)
      · have hw : IntKind.u64.wrap ((q : Int) - 1) = ((q - 1 : Nat) : Int) := by rw [IntKind.wrap_u64]; omega
        have ha := and_u64 q (q - 1) (by omega) (by omega)
        rw [low_and hq0 hq] at ha
        gi_wp2
        go_roundw
        case rel => exact ⟨pre ++ [⟨low q, hlt⟩], behindN q (low q), rfl, behind_lt _ _ hq, by rw [hx, mems_low hq0 hq]; simp, hJ3, hT3 hTr⟩
        case measure => have := behind_small hq0 hq; simp only [intOf]; omega
      · gi_wp2
        refine bodyPost_ret (results_none rfl _ _ _) rfl ?_
        exact ⟨⟨_, rfl⟩, .inr ⟨pre ++ [⟨low q, hlt⟩], by rw [hx, mems_low hq0 hq]; simp, hJx3⟩⟩
/-- what a round must leave: the table of math/bits -/
def KpT (W W' : World) : Prop := tabLaid W → tabLaid W'
theorem kpT_t {A B C : World} (h : KpT A B) (k : KpT B C) : KpT A C := fun x => k (h x)
theorem kpT_b {w : World} (hw : 2 ≤ w.heap.size) (W : World) (l : Nat) (o o' : Obj) (hl : w.heap.size ≤ l) (h : W.heap[l]? = some o) (_ : o.isCells = false) (_ : o.isWalk = false) : KpT W (W.putObj l o') := fun hT =>
  hT.mono (B := 2) (by decide) (Below.putObj' (Below.refl _ W) (by omega) (Array.getElem?_eq_some_iff.1 h).1 _)
theorem KpT.of_below {B : Nat} {W W' : World} (hB : 2 ≤ B) (h : Below B W W') : KpT W W' := fun hT => hT.mono (by omega) h
theorem KpT.refl (W : World) : KpT W W := fun h => h
/-- the contract -/
theorem members_stops (n Bs s : Nat) (hs : s < 65536) (w : World) (hB : Bs < w.heap.size) (hc : w.cell? ⟨Bs, 0, none⟩ = some (.int .u64 s)) (h2 : 2 ≤ w.heap.size) (hT : tabLaid w) :
    SeqStopsK Fence.wide n Tryd.prog 87 #[.pointer (some ⟨Bs, 0, none⟩)] encSh KpT (fun ys => ys.map (·.1) = mems s) (fun pre => pre.map (·.1) <+: mems s) (mems s).length w := fun l J Jx W hW _ _ hY h0 =>
  members1_in n l Bs s hs J Jx hY W ((hW.cell (p := ⟨Bs, 0, none⟩) hB).trans hc) (hT.mono (by omega) hW) h0
end Go.Proofs.YtbgiechfhfeaeaaDoor
