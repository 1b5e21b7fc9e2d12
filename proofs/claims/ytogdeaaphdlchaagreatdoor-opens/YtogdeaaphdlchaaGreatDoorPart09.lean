import Derived.Test.YtogdeaaphdlchaaGreatDoorPart08
import Derived.Test.YtogdeaaphdlchaaGreatDoorPart01
import Derived.Test.YtogdeaaphdlchaaGreatDoorPart06
import Derived.Test.YtogdeaaphdlchaaGreatDoorPart04
/-
  The shards of a set, one after another: the program's iterator, and its contract.
-/
namespace Go.Proofs.YtogdeaaphdlchaaGreatDoor
open Go.RowKit Go.Shelf Gf

attribute [local go_sem] Oper.semAt_some
theorem behind_small {q : Nat} (h0 : q ≠ 0) (hq : q < 65536) : behindN q (low q) < q := by
  refine Nat.lt_of_le_of_ne (Nat.div_mul_le_self _ _) fun e => ?_
  have h1 := behindN_bit q (low q) (low q)
  rw [e, (low_bit h0 hq).1] at h1
  simp at h1
/-- a shard -/
abbrev Sh := { x : Nat // x < 16 }
def encSh (x : Sh) : Array Value := #[.int .i64 (x.1 : Int)]
/-- the shards of a set, as such -/
def shs (s : Nat) : List Sh := (mems s).filterMap (fun i => if h : i < 16 then some ⟨i, h⟩ else none)
theorem shs_val (s : Nat) : (shs s).map (·.1) = mems s := by
  unfold shs
  have h : ∀ L : List Nat, (∀ i ∈ L, i < 16) → (L.filterMap (fun i => if h : i < 16 then some (⟨i, h⟩ : Sh) else none)).map (·.1) = L := by
    intro L
    induction L with
    | nil => intro _; rfl
    | cons a L ih =>
      intro hL
      have ha := hL a List.mem_cons_self
      rw [List.filterMap_cons_some (b := (⟨a, ha⟩ : Sh)) (by simp [ha]), List.map_cons, ih (fun i hi => hL i (List.mem_cons_of_mem _ hi))]
  exact h _ (fun i hi => (mem_mems.1 hi).1)
set_option maxHeartbeats 1000000 in
/-- s.members(): the set lies in a block of its own -/
theorem members_any (s : Nat) (w : World) :
    Calls Tryz.prog 61 #[.int .u64 s] w fun e w' => e = .returned (.func (.func 85) #[] #[.pointer (some ⟨w.heap.size, 0, none⟩)]) ∧ w' = w.alloc (.cells #[.int .u64 s] 89) := by
  go_enter Tryz.func61, Tryz.ntmps61
  go_wp2
  go_ret
  exact ⟨rfl, rfl⟩
set_option maxRecDepth 100000 in
set_option maxHeartbeats 1000000 in
theorem members1_in (n : Nat) (l Bs s : Nat) (hs : s < 65536) (J Jx : List Sh → World → Prop)
    (hY : ∀ pre x W, J pre W → pre.length < (mems s).length → YieldAt Fence.wide (n - 1) Tryz.prog l (encSh x) W fun e W' =>
      (e = .returned (.bool true) ∧ J (pre ++ [x]) W' ∧ (tabLaid W → tabLaid W')) ∨ (e = .returned (.bool false) ∧ Jx (pre ++ [x]) W'))
    (W : World) (hB : W.cell? ⟨Bs, 0, none⟩ = some (.int .u64 s)) (hT : tabLaid W) (h0 : J [] W) :
    CallsIn Fence.wide n Tryz.prog 85 #[.func (.yield l) #[] #[], .pointer (some ⟨Bs, 0, none⟩)] W fun e W' => (∃ v, e = .returned v) ∧
      ((∃ ys, ys.map (·.1) = mems s ∧ J ys W') ∨ (∃ pre, pre.map (·.1) <+: mems s ∧ Jx pre W')) := by
  refine callsIn_of_wp Tryz.func85 rfl trivial ?_ rfl
  simp only [Tryz.ntmps85, List.size_toArray, List.length_cons, List.length_nil, Nat.reduceAdd, Nat.reduceSub, Array.replicate_succ, Array.replicate_zero, List.push_toArray, List.append_toArray, List.nil_append, List.cons_append]
  gi_wp2
  gi_loopw [3] (fun p wr => ∃ (pre : List Sh) (q : Nat), p = .int .u64 q ∧ q < 65536 ∧ mems s = pre.map (·.1) ++ mems q ∧ J pre wr ∧ tabLaid wr)
    (fun p _ => (intOf p).toNat)
  case atStart =>
    exact ⟨[], s, rfl, hs, rfl, h0, hT⟩
  case round =>
    obtain ⟨pre, q, rfl, hq, hx, hJs, hTr⟩ := hrel
    by_cases hq0 : q = 0
    · subst hq0
      gi_wp2
      go_end0
      exact ⟨⟨_, rfl⟩, .inl ⟨pre, by rw [hx, mems_zero, List.append_nil], hJs⟩⟩
    · have hne : ((q : Int) != 0) = true := by simp; omega
      have hlt := low_lt hq0 hq
      obtain ⟨fn, tmps, assign, body, hy, hR⟩ := hY pre ⟨low q, hlt⟩ wr hJs (by rw [hx, mems_low hq0 hq]; simp)
      unfold encSh at hy
      gi_wp2
      refine at_wide (tz_any q hq0 hq wr hTr) ?_
      rintro e w' ⟨rfl, rfl⟩
      gi_wp2
      refine ⟨fun h => (by cases h), hR.mono ?_⟩
      rintro e W3 (⟨rfl, hJ3, hT3⟩ | ⟨rfl, hJx3⟩)
      · have hw : IntKind.u64.wrap ((q : Int) - 1) = ((q - 1 : Nat) : Int) := by rw [IntKind.wrap_u64]; omega
        have ha := and_u64 q (q - 1) (by omega) (by omega)
        rw [low_and hq0 hq] at ha
        gi_wp2
        go_roundw
        case rel => exact ⟨pre ++ [⟨low q, hlt⟩], behindN q (low q), rfl, behind_lt _ _ hq, by rw [hx, mems_low hq0 hq]; simp, hJ3, hT3 hTr⟩
        case measure => have := behind_small hq0 hq; simp only [intOf]; omega
      · gi_wp2
        refine bodyPost_ret (results_none rfl _ _ _) rfl ?_
        exact ⟨⟨_, rfl⟩, .inr ⟨pre ++ [⟨low q, hlt⟩], by rw [hx, mems_low hq0 hq]; simp, hJx3⟩⟩
/-- what a round must leave: the table of math/bits -/
def KpT (W W' : World) : Prop := tabLaid W → tabLaid W'
theorem kpT_t {A B C : World} (h : KpT A B) (k : KpT B C) : KpT A C := fun x => k (h x)
theorem kpT_b {w : World} (hw : 3 ≤ w.heap.size) (W : World) (l : Nat) (o o' : Obj) (hl : w.heap.size ≤ l) (h : W.heap[l]? = some o) (_ : o.isCells = false) (_ : o.isWalk = false) : KpT W (W.putObj l o') := fun hT =>
  hT.mono (B := 3) (by decide) (Below.putObj' (Below.refl _ W) (by omega) (Array.getElem?_eq_some_iff.1 h).1 _)
theorem KpT.of_below {B : Nat} {W W' : World} (hB : 3 ≤ B) (h : Below B W W') : KpT W W' := fun hT => hT.mono (by omega) h
theorem KpT.refl (W : World) : KpT W W := fun h => h
/-- the contract -/
theorem members_stops (n Bs s : Nat) (hs : s < 65536) (w : World) (hB : Bs < w.heap.size) (hc : w.cell? ⟨Bs, 0, none⟩ = some (.int .u64 s)) (h2 : 3 ≤ w.heap.size) (hT : tabLaid w) :
    SeqStopsK Fence.wide n Tryz.prog 85 #[.pointer (some ⟨Bs, 0, none⟩)] encSh KpT (fun ys => ys.map (·.1) = mems s) (fun pre => pre.map (·.1) <+: mems s) (mems s).length w := fun l J Jx W hW _ _ hY h0 =>
  members1_in n l Bs s hs J Jx hY W ((hW.cell (p := ⟨Bs, 0, none⟩) hB).trans hc) (hT.mono (by omega) hW) h0
end Go.Proofs.YtogdeaaphdlchaaGreatDoor
/-
  s.Members(), with what is known of each: it is one of the set's.
-/
namespace Go.Proofs.YtogdeaaphdlchaaGreatDoor
open Go.RowKit Go.Shelf Gf

attribute [local go_sem] Oper.semAt_some
abbrev Mb (s : Nat) := { x : Nat // x < 16 ∧ s.testBit x = true }
def encMb {s : Nat} (x : Mb s) : Array Value := #[.int .i64 (x.1 : Int)]
def preM {s : Nat} (pre : List (Mb s)) : List Nat := pre.map (·.1)
theorem preM_snoc {s : Nat} (pre : List (Mb s)) (x : Mb s) : preM (pre ++ [x]) = preM pre ++ [x.1] := by unfold preM; simp
/-- all of the first n -/
theorem mems_all {n : Nat} (h : n ≤ 16) : mems (2 ^ n - 1) = List.range n := by
  have : ∀ k : Fin 17, mems (2 ^ k.1 - 1) = List.range k.1 := by decide
  exact this ⟨n, by omega⟩
set_option maxRecDepth 100000 in
set_option maxHeartbeats 1000000 in
theorem members1_mb (n : Nat) (l Bs s : Nat) (hs : s < 65536) (J Jx : List (Mb s) → World → Prop)
    (hY : ∀ pre x W, J pre W → pre.length < (mems s).length → YieldAt Fence.wide (n - 1) Tryz.prog l (encMb x) W fun e W' =>
      (e = .returned (.bool true) ∧ J (pre ++ [x]) W' ∧ (tabLaid W → tabLaid W')) ∨ (e = .returned (.bool false) ∧ Jx (pre ++ [x]) W'))
    (W : World) (hB : W.cell? ⟨Bs, 0, none⟩ = some (.int .u64 s)) (hT : tabLaid W) (h0 : J [] W) :
    CallsIn Fence.wide n Tryz.prog 85 #[.func (.yield l) #[] #[], .pointer (some ⟨Bs, 0, none⟩)] W fun e W' => (∃ v, e = .returned v) ∧
      ((∃ ys, ys.map (·.1) = mems s ∧ J ys W') ∨ (∃ pre, pre.map (·.1) <+: mems s ∧ Jx pre W')) := by
  refine callsIn_of_wp Tryz.func85 rfl trivial ?_ rfl
  simp only [Tryz.ntmps85, List.size_toArray, List.length_cons, List.length_nil, Nat.reduceAdd, Nat.reduceSub, Array.replicate_succ, Array.replicate_zero, List.push_toArray, List.append_toArray, List.nil_append, List.cons_append]
  gi_wp2
  gi_loopw [3] (fun p wr => ∃ (pre : List (Mb s)) (q : Nat), p = .int .u64 q ∧ q < 65536 ∧ mems s = pre.map (·.1) ++ mems q ∧ J pre wr ∧ tabLaid wr)
    (fun p _ => (intOf p).toNat)
  case atStart =>
    exact ⟨[], s, rfl, hs, rfl, h0, hT⟩
  case round =>
    obtain ⟨pre, q, rfl, hq, hx, hJs, hTr⟩ := hrel
    by_cases hq0 : q = 0
    · subst hq0
      gi_wp2
      go_end0
      exact ⟨⟨_, rfl⟩, .inl ⟨pre, by rw [hx, mems_zero, List.append_nil], hJs⟩⟩
    · have hne : ((q : Int) != 0) = true := by simp; omega
      have hlt := low_lt hq0 hq
      have hme : low q < 16 ∧ s.testBit (low q) = true := mem_mems.1 (by rw [hx, mems_low hq0 hq]; simp)
      obtain ⟨fn, tmps, assign, body, hy, hR⟩ := hY pre ⟨low q, hme⟩ wr hJs (by rw [hx, mems_low hq0 hq]; simp)
      unfold encMb at hy
      gi_wp2
      refine at_wide (tz_any q hq0 hq wr hTr) ?_
      rintro e w' ⟨rfl, rfl⟩
      gi_wp2
      refine ⟨fun h => (by cases h), hR.mono ?_⟩
      rintro e W3 (⟨rfl, hJ3, hT3⟩ | ⟨rfl, hJx3⟩)
      · have hw : IntKind.u64.wrap ((q : Int) - 1) = ((q - 1 : Nat) : Int) := by rw [IntKind.wrap_u64]; omega
        have ha := and_u64 q (q - 1) (by omega) (by omega)
        rw [low_and hq0 hq] at ha
        gi_wp2
        go_roundw
        case rel => exact ⟨pre ++ [⟨low q, hme⟩], behindN q (low q), rfl, behind_lt _ _ hq, by rw [hx, mems_low hq0 hq]; simp, hJ3, hT3 hTr⟩
        case measure => have := behind_small hq0 hq; simp only [intOf]; omega
      · gi_wp2
        refine bodyPost_ret (results_none rfl _ _ _) rfl ?_
        exact ⟨⟨_, rfl⟩, .inr ⟨pre ++ [⟨low q, hme⟩], by rw [hx, mems_low hq0 hq]; simp, hJx3⟩⟩
/-- the contract -/
theorem members_mb (n Bs s : Nat) (hs : s < 65536) (w : World) (hB : Bs < w.heap.size) (hc : w.cell? ⟨Bs, 0, none⟩ = some (.int .u64 s)) (h2 : 3 ≤ w.heap.size) (hT : tabLaid w) :
    SeqStopsK Fence.wide n Tryz.prog 85 #[.pointer (some ⟨Bs, 0, none⟩)] (encMb (s := s)) KpT (fun ys => ys.map (·.1) = mems s) (fun pre => pre.map (·.1) <+: mems s) (mems s).length w := fun l J Jx W hW _ _ hY h0 =>
  members1_mb n l Bs s hs J Jx hY W ((hW.cell (p := ⟨Bs, 0, none⟩) hB).trans hc) (hT.mono (by omega) hW) h0
end Go.Proofs.YtogdeaaphdlchaaGreatDoor
/-
  Params: whether they are right; the program's word and the document's.
-/
namespace Go.Proofs.YtogdeaaphdlchaaGreatDoor
open Go.RowKit Go.Deep

/-- params that are right -/
def rightB (D L G : Int) : Bool := decide (1 ≤ D ∧ D ≤ 12 ∧ 1 ≤ L ∧ L ≤ 4 ∧ 0 ≤ G ∧ G ≤ 4 ∧ D % L = 0 ∧ D + L + G ≤ 16)
theorem ret_bool {a b : Bool} (h : a = b) : Ending.returned (.bool a) = .returned (.bool b) := by rw [h]
def pv (D L G : Int) : Value := .agg #[.int .i64 D, .int .i64 L, .int .i64 G]

set_option maxRecDepth 100000 in
set_option maxHeartbeats 1000000 in
theorem shards_any (D L G : Int) (w : World) (h1 : 0 ≤ D ∧ D ≤ 100) (h2 : 0 ≤ L ∧ L ≤ 100) (h3 : 0 ≤ G ∧ G ≤ 100) :
    Calls Tryz.prog 16 #[.agg #[.int .i64 D, .int .i64 L, .int .i64 G]] w fun e w' => e = .returned (.int .i64 (D + L + G)) ∧ Below w.heap.size w w' := by
  obtain ⟨a1, a2⟩ := h1
  obtain ⟨b1, b2⟩ := h2
  obtain ⟨c1, c2⟩ := h3
  go_enter Tryz.func16, Tryz.ntmps16
  go_wp2
  go_ret
  exact ⟨rfl, (Below.refl _ _).alloc (Nat.le_refl _) _⟩

set_option maxRecDepth 100000 in
set_option maxHeartbeats 1000000 in
theorem right_any (D L G : Int) (w : World) :
    Calls Tryz.prog 14 #[.agg #[.int .i64 D, .int .i64 L, .int .i64 G]] w fun e w' => e = .returned (.bool (rightB D L G)) ∧ Below w.heap.size w w' := by
  go_enter Tryz.func14, Tryz.ntmps14
  go_wp2_with (go_at_call 16; refine (shards_any D L G _ (by omega) (by omega) (by omega)).mono ?_; rintro e w' ⟨rfl, hb⟩)
  all_goals go_ret
  · refine ⟨ret_bool (b := rightB D L G) ?_, ((Below.refl _ _).alloc (Nat.le_refl _) _).trans (hb.mono (by simp))⟩
    unfold rightB
    rw [decide_eq_decide]
    constructor
    · intro h; exact ⟨by omega, by omega, by omega, by omega, by omega, by omega, by assumption, h⟩
    · intro h; exact h.2.2.2.2.2.2.2
  all_goals
    refine ⟨ret_bool (b := rightB D L G) ?_, (Below.refl _ _).alloc (Nat.le_refl _) _⟩
    unfold rightB
    symm
    rw [decide_eq_false_iff_not]
    intro h
    omega

set_option maxRecDepth 100000 in
set_option maxHeartbeats 1000000 in
theorem rshards_any (D L G : Int) (w : World) (h1 : 0 ≤ D ∧ D ≤ 100) (h2 : 0 ≤ L ∧ L ≤ 100) (h3 : 0 ≤ G ∧ G ≤ 100) :
    Calls Tryz.prog 9 #[.agg #[.int .i64 D, .int .i64 L, .int .i64 G]] w fun e w' => e = .returned (.int .i64 (D + L + G)) ∧ Below w.heap.size w w' := by
  obtain ⟨a1, a2⟩ := h1
  obtain ⟨b1, b2⟩ := h2
  obtain ⟨c1, c2⟩ := h3
  go_enter Tryz.func9, Tryz.ntmps9
  go_wp2
  go_ret
  exact ⟨rfl, (Below.refl _ _).alloc (Nat.le_refl _) _⟩

set_option maxRecDepth 100000 in
set_option maxHeartbeats 1000000 in
theorem rright_any (D L G : Int) (w : World) :
    Calls Tryz.prog 8 #[.agg #[.int .i64 D, .int .i64 L, .int .i64 G]] w fun e w' => e = .returned (.bool (rightB D L G)) ∧ Below w.heap.size w w' := by
  go_enter Tryz.func8, Tryz.ntmps8
  go_wp2
  all_goals go_ret
  rotate_left
  · refine ⟨ret_bool (b := rightB D L G) ?_, (Below.refl _ _).alloc (Nat.le_refl _) _⟩
    unfold rightB
    rw [decide_eq_decide]
    constructor
    · intro h; exact ⟨by omega, by omega, by omega, by omega, by omega, by omega, by assumption, h⟩
    · intro h; exact h.2.2.2.2.2.2.2
  all_goals
    refine ⟨ret_bool (b := rightB D L G) ?_, (Below.refl _ _).alloc (Nat.le_refl _) _⟩
    unfold rightB
    symm
    rw [decide_eq_false_iff_not]
    intro h
    omega

set_option maxRecDepth 100000 in
set_option maxHeartbeats 1000000 in
theorem theirs_any (D L G : Int) (w : World) :
    Calls Tryz.prog 7 #[.agg #[.int .i64 D, .int .i64 L, .int .i64 G]] w fun e w' => e = .returned (.agg #[.int .i64 D, .int .i64 L, .int .i64 G]) ∧ Below w.heap.size w w' := by
  go_enter Tryz.func7, Tryz.ntmps7
  go_wp2
  exact bodyPost_ret (v := .agg #[.int .i64 D, .int .i64 L, .int .i64 G]) (by simp [results, Tryz.results7, go_sem]) rfl ⟨rfl, ((Below.refl _ _).alloc (Nat.le_refl _) _).alloc (by simp) _⟩
end Go.Proofs.YtogdeaaphdlchaaGreatDoor
/-
  WriteCopies: the same record on drives of a set; All.
-/
namespace Go.Proofs.YtogdeaaphdlchaaGreatDoor
open Go.RowKit Go.Shelf Go.Deep Gf

attribute [local go_sem] Oper.semAt_some
/-- an array with a block written anew on drives of a list -/
def Arr.putAt (A : Arr) (ds : List Nat) (b : Nat) (f : Nat → List Nat) : Arr := { A with blk := fun i m => if i ∈ ds ∧ m = b then f i else A.blk i m, bad := fun i m => if i ∈ ds ∧ m = b then false else A.bad i m }
theorem putAt_nil (A : Arr) (b : Nat) (f : Nat → List Nat) : A.putAt [] b f = A := by simp [Arr.putAt]
theorem putAt_snoc (A : Arr) (ds : List Nat) (d b : Nat) (f : Nat → List Nat) : ((A.putAt ds b f).setBlk d b (f d)).setBad d b false = A.putAt (ds ++ [d]) b f := by
  unfold Arr.putAt Arr.setBlk Arr.setBad
  congr 1
  · funext i m
    simp only [List.mem_append, List.mem_singleton]
    by_cases e : i = d ∧ m = b
    · obtain ⟨rfl, rfl⟩ := e
      rw [if_pos ⟨rfl, rfl⟩, if_pos ⟨.inr rfl, rfl⟩]
    · rw [if_neg e]
      by_cases e2 : i ∈ ds ∧ m = b
      · rw [if_pos e2, if_pos ⟨.inl e2.1, e2.2⟩]
      · rw [if_neg e2, if_neg (fun q => q.1.elim (fun h => e2 ⟨h, q.2⟩) (fun h => e ⟨h, q.2⟩))]
  · funext i m
    simp only [List.mem_append, List.mem_singleton]
    by_cases e : i = d ∧ m = b
    · obtain ⟨rfl, rfl⟩ := e
      rw [if_pos ⟨rfl, rfl⟩, if_pos ⟨.inr rfl, rfl⟩]
    · rw [if_neg e]
      by_cases e2 : i ∈ ds ∧ m = b
      · rw [if_pos e2, if_pos ⟨.inl e2.1, e2.2⟩]
      · rw [if_neg e2, if_neg (fun q => q.1.elim (fun h => e2 ⟨h, q.2⟩) (fun h => e ⟨h, q.2⟩))]
theorem Arr.fit.putAt {A : Arr} (h : A.fit) (ds : List Nat) (b : Nat) (f : Nat → List Nat) (hf : ∀ i, i ∈ ds → (f i).length = 64 ∧ ∀ x ∈ f i, x < 256) : (A.putAt ds b f).fit := by
  refine ⟨h.n, h.nb, fun k m => ?_, fun k m => ?_⟩
  · show (if k ∈ ds ∧ m = b then f k else A.blk k m).length = 64
    split
    · rename_i q; exact (hf k q.1).1
    · exact h.len k m
  · show ∀ x ∈ (if k ∈ ds ∧ m = b then f k else A.blk k m), x < 256
    split
    · rename_i q; exact (hf k q.1).2
    · exact h.byt k m
/-- the set's table stays -/
theorem tabLaid.keep {w w' : World} (h : tabLaid w) (e : w'.heap[1]? = w.heap[1]?) : tabLaid w' := fun j hj => by
  rw [← h j hj]
  unfold World.cell?
  rw [e]
theorem tabLaid.lt {w : World} (h : tabLaid w) : 1 < w.heap.size := block_lt_of_cell (h 0 (by decide))
theorem hvLaid.keep {w w' : World} (h : hvLaid w) (e : w'.heap[2]? = w.heap[2]?) : hvLaid w' := fun j hj => by
  rw [← h j hj]
  unfold World.cell?
  rw [e]
/-- a volume over its array, with the variables that it leans on -/
structure Vol (w : World) (v p D L G ps ho : Nat) (A : Arr) (F : Foot) : Prop where
  vol : VolAt w v p D L G ps ho
  arr : ArrAt w p A F
  laid : hvLaid w
  tab : tabLaid w
  room : 3 ≤ w.heap.size
/-- none of these blocks is one of the array's -/
structure Free (F : Foot) (p n v : Nat) : Prop where
  v : ¬ F.has p n v
  g : ¬ F.has p n 2
  t : ¬ F.has p n 1
theorem Vol.below {w w' : World} {v p D L G ps ho : Nat} {A : Arr} {F : Foot} (h : Vol w v p D L G ps ho A F) {B : Nat} (hb : Below B w w') (hB : w.heap.size ≤ B) : Vol w' v p D L G ps ho A F :=
  ⟨h.vol.keep (hb.block _ (Nat.lt_of_lt_of_le h.vol.lt hB)), h.arr.below hb hB, h.laid.below hb (Nat.lt_of_lt_of_le h.laid.lt hB), h.tab.keep (hb.block _ (Nat.lt_of_lt_of_le h.tab.lt hB)), Nat.le_trans h.room hb.size⟩
/-- .. with another array in the same place -/
theorem Vol.turn {w w' : World} {v p D L G ps ho n : Nat} {A A' : Arr} {F : Foot} (h : Vol w v p D L G ps ho A F) (hF : Free F p n v) (hO : Outside (F.has p n) w w') (hA : ArrAt w' p A' F) : Vol w' v p D L G ps ho A' F :=
  ⟨h.vol.keep (hO.block _ h.vol.lt hF.v), hA, h.laid.keep (hO.block _ h.laid.lt hF.g), h.tab.keep (hO.block _ h.tab.lt hF.t), Nat.le_trans h.room hO.size⟩
/-- a function's one result, which lies in a block, behind a range over a function -/
theorem end_cell {n : Nat} {fn : Func} {Z : World} {D' b t8 : Nat} {ty : TypeId} {x : Value} {a : Act} {R : Ending → World → Prop} (hr : fn.results = #[.cell t8 ty]) (hd : a.defers = [{ target := .collected D', args := #[] }]) (h8 : a.tmps.getD t8 undef = .pointer (some ⟨b, 0, none⟩))
    (hl : ∀ w, w.heap[b]? = Z.heap[b]? → (loadVar ty ⟨b, 0, none⟩).run Tryz.prog w = .ok x w) (hK : Z.heap[D']? = some (.deferred (some []))) (hD : b ≠ D')
    (hR : R (.returned x) (Z.putObj D' (.deferred none))) : bodyPostM Fence.wide n Tryz.prog fn R .ret a Z := by
  obtain ⟨tm, df⟩ := a
  simp only at hd h8
  subst hd
  refine ⟨by simp, .inl ⟨_, _, rfl, run_takeDeferred hK, ?_⟩⟩
  have c0 := hl (Z.putObj D' (.deferred none)) (World.putObj_heap_other hD)
  refine ⟨x, ?_, hR⟩
  have h8' : tm[t8]?.getD undef = .pointer (some ⟨b, 0, none⟩) := by simpa using h8
  simp [results, hr, asAddr, h8', c0]
theorem load_set {b : Nat} {s : Nat} {Z : World} (h : Boxed Z b 89 (.int .u64 s)) (w : World) (e : w.heap[b]? = Z.heap[b]?) : (loadVar 89 ⟨b, 0, none⟩).run Tryz.prog w = .ok (.int .u64 s) w := by
  have hc : w.cell? ⟨b, 0, none⟩ = some (.int .u64 s) := (show Boxed w b 89 (.int .u64 s) from e.trans h).cell
  simp [go_sem, hc]
/-- what lies in the blocks of WriteCopies, when some drives are written -/
structure WcI (w : World) (v p b : Nat) (r : Rec) (A : Arr) (F : Foot) (B S : Nat) (pre : List (Mb S)) (X : World) : Prop where
  b0 : Boxed X w.heap.size 59 (.pointer (some ⟨v, 0, none⟩))
  b1 : Boxed X (w.heap.size + 1) 3 (.int .i64 b)
  b2 : Boxed X (w.heap.size + 1 + 1) 125 (recV r)
  b3 : Boxed X (w.heap.size + 1 + 1 + 1) 89 (.int .u64 0)
  arr : ArrAt X p (A.putAt (preM pre) b (fun _ => r.blk)) F
  out : Outside (F.has p A.n) w X
  size : B ≤ X.heap.size
theorem WcI.own {w : World} {v p b : Nat} {r : Rec} {A : Arr} {F : Foot} {B S : Nat} (hB : w.heap.size + 4 ≤ B) (hF : ∀ k, F.has p A.n k → k < w.heap.size) : OwnFrom B (WcI w v p b r A F B S) := by
  rintro pre X Y row ⟨h0, h1, h2, h3, h4, h5, h6⟩ hg hr
  have hk : ∀ k, k < w.heap.size + 4 → Y.heap[k]? = X.heap[k]? := fun k hk => hg.block k (by omega) (fun e => by have := (hr k e.symm).1; omega)
  exact ⟨(hk _ (by omega)).trans h0, (hk _ (by omega)).trans h1, (hk _ (by omega)).trans h2, (hk _ (by omega)).trans h3, h4.keep fun k hk' => hk k (by have := hF k hk'; omega), h5.later (T := fun k => w.heap.size ≤ k) ⟨hg.os, hg.tape, hg.output, hg.size, fun k hk1 hk2 => hk k (by omega)⟩ (fun k hk1 hk2 => by omega), Nat.le_trans h6 hg.size⟩
set_option maxRecDepth 100000 in
set_option maxHeartbeats 4000000 in
theorem writeCopies_ok {w : World} {v p D L G ps ho : Nat} {A : Arr} {F : Foot} (hV : Vol w v p D L G ps ho A F) (hF : Free F p A.n v) (hf : A.fit) (b S : Nat) (hb : b < A.nb) (hS : S < 65536) (hSn : ∀ i, i ∈ mems S → i < A.n) (hw : A.wait < 0) (hl : ∀ i, i ∈ mems S → A.lost i = false)
    (r : Rec) (hr : r.ok) (hm : Makes r) :
    Calls Tryz.prog 44 #[.pointer (some ⟨v, 0, none⟩), .int .i64 b, recV r, .int .u64 S] w fun e w' => e = .returned (.int .u64 0) ∧ ArrAt w' p (A.putAt (mems S) b (fun _ => r.blk)) F ∧ Outside (F.has p A.n) w w' := by
  obtain ⟨n, HN⟩ : ∃ n : Nat, Hid (9 ≤ n) := ⟨9, Nat.le_refl _⟩
  obtain ⟨rv, hrv⟩ : ∃ rv, recV r = rv := ⟨_, rfl⟩
  have hrt : ∃ ty rx, rv = .iface ty rx := by cases r <;> exact ⟨_, _, hrv.symm⟩
  obtain ⟨ty, rx, rfl⟩ := hrt
  rw [hrv]
  have HR := hide hrv
  clear hrv
  have hFl : ∀ k, F.has p A.n k → k < w.heap.size := fun k hk => hV.arr.has_lt hk
  have hbl := blk_len hr
  have hbx := blk_lt hr
  refine (callsIn_wide (n := n)).1 ?_
  refine callsIn_of_wp_marks Tryz.func44 rfl trivial ?_ rfl
  simp only [Tryz.ntmps44, List.size_toArray, List.length_cons, List.length_nil, Nat.reduceAdd, Nat.reduceSub, Array.replicate_succ, Array.replicate_zero, List.push_toArray, List.append_toArray, List.nil_append, List.cons_append]
  gi_wp2
  obtain ⟨w4, hw4⟩ : ∃ w4, (((w.alloc (.cells #[.pointer (some ⟨v, 0, none⟩)] 59)).alloc (.cells #[.int .i64 (b : Int)] 3)).alloc (.cells #[.iface ty rx] 125)).alloc (.cells #[.int .u64 0] 89) = w4 := ⟨_, rfl⟩
  have h0 : Boxed w4 w.heap.size 59 (.pointer (some ⟨v, 0, none⟩)) := by rw [← hw4]; exact (((Boxed.new w _ _).alloc _).alloc _).alloc _
  have h1 : Boxed w4 (w.heap.size + 1) 3 (.int .i64 b) := by
    rw [← hw4]
    have := Boxed.new (w.alloc (.cells #[.pointer (some ⟨v, 0, none⟩)] 59)) 3 (.int .i64 b)
    rw [World.size_alloc] at this
    exact (this.alloc _).alloc _
  have h2 : Boxed w4 (w.heap.size + 1 + 1) 125 (recV r) := by
    rw [← hw4, HR.out]
    have := Boxed.new ((w.alloc (.cells #[.pointer (some ⟨v, 0, none⟩)] 59)).alloc (.cells #[.int .i64 (b : Int)] 3)) 125 (.iface ty rx)
    rw [World.size_alloc, World.size_alloc] at this
    exact this.alloc _
  have h3 : Boxed w4 (w.heap.size + 1 + 1 + 1) 89 (.int .u64 0) := by
    rw [← hw4]
    have := Boxed.new (((w.alloc (.cells #[.pointer (some ⟨v, 0, none⟩)] 59)).alloc (.cells #[.int .i64 (b : Int)] 3)).alloc (.cells #[.iface ty rx] 125)) 89 (.int .u64 0)
    rw [World.size_alloc, World.size_alloc, World.size_alloc] at this
    exact this
  have hz4 : w4.heap.size = w.heap.size + 4 := by rw [← hw4]; simp
  have hb4 : Below w.heap.size w w4 := by rw [← hw4]; exact ((((Below.refl _ w).alloc (Nat.le_refl _) _).alloc (by simp) _).alloc (by simp; omega) _).alloc (by simp; omega) _
  rw [hw4]
  clear hw4
  refine at_wide (members_any S w4) ?_
  rintro e w' ⟨rfl, rfl⟩
  have hz6 : (w4.alloc (.cells #[.int .u64 (S : Int)] 89)).heap.size = w4.heap.size + 1 := by simp
  have hc6 : (w4.alloc (.cells #[.int .u64 (S : Int)] 89)).cell? ⟨w4.heap.size, 0, none⟩ = some (.int .u64 (S : Int)) := (Boxed.new w4 89 (.int .u64 (S : Int))).cell
  have hb6 : Below w.heap.size w (w4.alloc (.cells #[.int .u64 (S : Int)] 89)) := hb4.alloc (by omega) _
  have hi6 : WcI w v p b r A F (w4.heap.size + 1) S [] (w4.alloc (.cells #[.int .u64 (S : Int)] 89)) :=
    ⟨h0.alloc _, h1.alloc _, h2.alloc _, h3.alloc _, by rw [show preM ([] : List (Mb S)) = [] from rfl, putAt_nil]; exact hV.arr.below hb6 (Nat.le_refl _), Outside.of_all hb6 _, by omega⟩
  obtain ⟨w6, hw6⟩ : ∃ w6, w4.alloc (.cells #[.int .u64 (S : Int)] 89) = w6 := ⟨_, rfl⟩
  have HC6 := hide hc6
  have HI6 := hide (And.intro hi6 hb6)
  have HZ4 := hide hz4
  clear hc6 hi6 h0 h1 h2 h3 hb4 hb6 hz4
  gi_wp2
  obtain ⟨hz4, hz4'⟩ : w.heap.size + 4 ≤ w4.heap.size ∧ w4.heap.size ≤ w.heap.size + 4 := by have := HZ4.out; omega
  rw [hw6] at hz6 HC6 HI6
  clear hw6
  rw [← hz6] at HI6
  refine wpIn_rangeFunc_ownG rfl (by have := HN.out; omega) (gf := 85) (lb := #[.pointer (some ⟨w4.heap.size, 0, none⟩)]) rfl trivial (enters_of Tryz.func85 (by kernel_rfl) rfl)
    (members_mb (n - 1) w4.heap.size S hS w6 (by omega) HC6.out (by have := hV.room; omega) (hV.tab.mono (by exact hV.tab.lt) HI6.out.2)) (fun h k => kpT_t h k) (kpT_b (by have := hV.room; omega)) (Below.refl _ _) (fun _ => rfl)
    (WcI w v p b r A F w6.heap.size S) (fun _ _ _ => False) (WcI.own (by omega) hFl) (fun _ _ _ _ _ h _ _ => h.elim) HI6.out.1
    (fun x => { tmps := #[.pointer (some ⟨v, 0, none⟩), .int .i64 (b : Int), .iface ty rx, .int .u64 (S : Int), .pointer (some ⟨w.heap.size, 0, none⟩), .pointer (some ⟨w.heap.size + 1, 0, none⟩), .pointer (some ⟨w.heap.size + 1 + 1, 0, none⟩), undef, .pointer (some ⟨w.heap.size + 1 + 1 + 1, 0, none⟩), .int .i64 (x.1 : Int), .int .u64 (S : Int), .func (.func 85) #[] #[.pointer (some ⟨w4.heap.size, 0, none⟩)], .int .i64 (x.1 : Int), undef, undef, undef, undef, undef, undef, undef, undef, undef, undef], defers := [] }) ?assign ?body ?done ?stop
  case assign =>
    intro l2 x X Kk hK
    unfold encMb
    gi_wp2
    exact hK
  case body =>
    rintro l2 pre x X hi hlen
    have hxm : x.1 ∈ mems S := mem_mems.2 x.2
    have hVX := hV.turn hF hi.out hi.arr
    have hcall := volWrite_ok hVX.vol hVX.arr (hf.putAt _ _ _ fun _ _ => ⟨hbl, hbx⟩) x.1 b (hSn _ hxm) hb hw (hl _ hxm) r hr hm hVX.laid hF.g hF.v
    rw [putAt_snoc, HR.out] at hcall
    have c0 := hi.b0.cell
    have c1 := hi.b1.cell
    have c2 := hi.b2.cell
    rw [HR.out] at c2
    have HI := hide hi
    clear hi hlen hVX
    gi_wp2
    refine at_round hcall ?_
    clear hcall
    rintro e w2 ⟨rfl, hA2, hO2⟩
    have hsz : ∀ k, w.heap.size ≤ k → k < X.heap.size → w2.heap[k]? = X.heap[k]? := fun k hk hkX => hO2.block k hkX (fun q => by have := hFl k q; omega)
    have h4 := HI.out.b3.lt
    have H2 := hide (And.intro hA2 (And.intro hO2 hsz))
    clear hA2 hO2 hsz
    gi_wp2
    obtain ⟨hA2, hO2, hsz⟩ := H2.out
    have hi := HI.out
    have hO : Outside (F.has p A.n) w w2 := hi.out.trans hO2
    refine ⟨⟨hO2.size, fun k o hk ho _ => (hsz k (by omega) (Array.getElem?_eq_some_iff.1 ho).1).trans ho⟩, fun _ => hV.tab.keep (hO.block _ hV.tab.lt hF.t), ?_⟩
    exact ⟨(hsz _ (by omega) (by omega)).trans hi.b0, (hsz _ (by omega) (by omega)).trans hi.b1, (hsz _ (by omega) (by omega)).trans hi.b2, (hsz _ (by omega) (by omega)).trans hi.b3, by rw [preM_snoc]; exact hA2, hO, Nat.le_trans hi.size hO2.size⟩
  case done =>
    rintro D' xs X hD' hxs hi hK
    have c3 := hi.b3.cell
    have f3 := hi.b3.frozen
    have HI := hide (And.intro hi hK)
    clear hi hK
    gi_wp2
    obtain ⟨hi, hK⟩ := HI.out
    have hxs' : preM xs = mems S := hxs
    have hb3 := hi.b3.set (.int .u64 0)
    have hko := KeepsOthers.setCell X ⟨w.heap.size + 1 + 1 + 1, 0, none⟩ (.int .u64 0)
    have hK9 := hko.same D' _ hK rfl
    have hDX := (Array.getElem?_eq_some_iff.1 hK).1
    refine end_cell (b := w.heap.size + 1 + 1 + 1) (t8 := 8) Tryz.results44 rfl rfl (load_set (s := 0) hb3) hK9 (by omega) ⟨rfl, ?_, ?_⟩
    · have h4 := hi.arr
      rw [hxs'] at h4
      exact h4.keep fun k hk => by have := hFl k hk; exact (World.putObj_heap_other (by omega)).trans (blk_setCell_other _ _ _ _ (by show k ≠ w.heap.size + 1 + 1 + 1; omega))
    · exact hi.out.later (T := fun k => w.heap.size ≤ k) ⟨rfl, rfl, rfl, by simp [World.setCell, World.putObj], fun k _ hk2 => (World.putObj_heap_other (by omega)).trans (blk_setCell_other _ _ _ _ (by show k ≠ w.heap.size + 1 + 1 + 1; omega))⟩ (fun k hk1 hk2 => by omega)
  case stop =>
    rintro D' cc pre X hD' hpre hx hK
    exact hx.elim
end Go.Proofs.YtogdeaaphdlchaaGreatDoor
/-
  ReadCopies: a block of each drive; All.
-/
namespace Go.Proofs.YtogdeaaphdlchaaGreatDoor
open Go.RowKit Go.Deep Gf

set_option maxRecDepth 100000 in
set_option maxHeartbeats 1000000 in
theorem volAll_any {w : World} {v p D L G ps ho : Nat} (h : VolAt w v p D L G ps ho) (hD : D ≤ 12) (hL : L ≤ 4) (hG : G ≤ 4) (h16 : D + L + G ≤ 16) : Calls Tryz.prog 50 #[.pointer (some ⟨v, 0, none⟩)] w fun e w' => e = .returned (.int .u64 ((2 ^ (D + L + G) - 1 : Nat) : Int)) ∧ Below w.heap.size w w' := by
  obtain ⟨_, c1, c2, c3, _⟩ := h.cells
  obtain ⟨m, hm⟩ : ∃ m, D + L + G = m := ⟨_, rfl⟩
  obtain ⟨q, hq⟩ : ∃ q, ((2 ^ m - 1 : Nat) : Int) = q := ⟨_, rfl⟩
  rw [hm, hq]
  have HQ := hide hq
  clear hq
  go_enter Tryz.func50, Tryz.ntmps50
  go_wp2_with fail
  refine (shards_any (D : Int) (L : Int) (G : Int) w ⟨by omega, by omega⟩ ⟨by omega, by omega⟩ ⟨by omega, by omega⟩).mono ?_
  rintro e w5 ⟨rfl, hb5⟩
  rw [show ((D : Int) + (L : Int) + (G : Int)) = (m : Int) by omega]
  have H := hide hb5
  clear hb5
  go_wp2_with fail
  refine (first_any m (by omega) w5).mono ?_
  rw [HQ.out]
  rintro e w6 ⟨rfl, rfl⟩
  go_wp2
  go_ret
  exact ⟨rfl, H.out⟩
/-- the drives below k are read once more -/
def Arr.readTo (A : Arr) (k : Nat) : Arr := { A with reads := fun i => if i < k then wrap64 (A.reads i + 1) else A.reads i }
theorem readTo_zero (A : Arr) : A.readTo 0 = A := by simp [Arr.readTo]
theorem readTo_succ (A : Arr) (k : Nat) : (A.readTo k).setReads k (wrap64 ((A.readTo k).reads k + 1)) = A.readTo (k + 1) := by
  unfold Arr.readTo Arr.setReads
  congr 1
  funext i
  simp only
  by_cases e : i = k
  · subst e
    rw [if_pos rfl, if_neg (Nat.lt_irrefl i), if_pos (Nat.lt_succ_self i)]
  · rw [if_neg e]
    by_cases e2 : i < k
    · rw [if_pos e2, if_pos (by omega)]
    · rw [if_neg e2, if_neg (by omega)]
theorem Arr.fit.readTo {A : Arr} (h : A.fit) (k : Nat) : (A.readTo k).fit := ⟨h.n, h.nb, h.len, h.byt⟩
theorem Tryz.infoRecord : (Tryz.prog.info? 125).map (fun i => (i.zero, i.size, i.bytes)) = some (some .nilIface, 1, 16) := by kernel_rfl
theorem wpList_mkRecs (w : World) {ops : Array Oper} {rest : List Oper} {o : Oper} {a : Act} {Q : Exit → Act → World → Prop}
    (hg : o.guard = none) (l c : Operand) (hop : o.op = Op.makeSlice 93 l c) (C : Int) (n : Nat) (hl : a.eval l = .int .i64 C) (hc : a.eval c = .int .i64 C) (hC : C = (n : Int)) (hn : n ≤ 1000000)
    (hK : ∀ w', w'.rowIs w.heap.size 125 n (fun _ => .nilIface) → Below w.heap.size w w' → w'.heap.size = w.heap.size + 1 → wpList Tryz.prog ops Q rest (a.put o.dst (.slice (some ⟨w.heap.size, 0, none⟩) n n)) w') :
    wpList Tryz.prog ops Q (o :: rest) a w := by
  refine wpList_plain hg fun K hK' => ?_
  have hrun := run_make_row' (P := Tryz.prog) 93 125 .nilIface 16 Tryz.underlying93 Tryz.infoRecord rfl .i64 .i64 n (by omega) (by omega) w
  subst hC
  unfold Oper.wp
  simp [execOp, hop, hl, hc, hrun, Result.andThen]
  exact hK' _ _ (hK _ (World.rowIs_made w _ n _) ((Below.refl _ _).alloc (Nat.le_refl _) _) (nblk_alloc _ _))
theorem recV_iface (r : Rec) : ∃ ty x, recV r = .iface ty x := by cases r <;> exact ⟨_, _, rfl⟩
def rcF (r : Nat → Rec) (k i : Nat) : Value := if i < k then recV (r i) else .nilIface
def RrR (w1 : World) (g p N : Nat) (A : Arr) (F : Foot) (r : Nat → Rec) (i : Value) (wr : World) : Prop := ∃ k : Nat, k ≤ N ∧ i = .int .i64 k ∧ ArrAt wr p (A.readTo k) F ∧ Outside (fun j => j = g ∨ F.has p A.n j) w1 wr ∧ wr.rowIs g 125 N (rcF r k)
def RrPost (w : World) (p : Nat) (A : Arr) (F : Foot) (r : Nat → Rec) (e : Ending) (w' : World) : Prop := ∃ g, e = .returned (.slice (some ⟨g, 0, none⟩) A.n A.n) ∧ w.heap.size ≤ g ∧ w'.rowIs g 125 A.n (fun i => recV (r i)) ∧ ArrAt w' p (A.readTo A.n) F ∧ Outside (F.has p A.n) w w'
set_option maxRecDepth 100000 in
set_option maxHeartbeats 2000000 in
theorem readCopies_ok {w : World} {v p D L G ps ho : Nat} {A : Arr} {F : Foot} (hP : Vol w v p D L G ps ho A F) (hap : Free F p A.n v) (hf : A.fit) (b : Nat) (hn : A.n = D + L + G) (hD : D ≤ 12) (hL : L ≤ 4) (hG : G ≤ 4) (hb : b < A.nb) (hw : A.wait ≠ 0) (hl : ∀ d, A.lost d = false) (hbad : ∀ d, A.bad d b = false)
    (r : Nat → Rec) (hr : ∀ i, (r i).ok) (hm : ∀ i, Makes (r i)) (he : ∀ i, i < A.n → A.blk i b = (r i).blk) :
    Calls Tryz.prog 29 #[.pointer (some ⟨v, 0, none⟩), .int .i64 b] w fun e w' => RrPost w p A F r e w' := by
  obtain ⟨_, c1, c2, c3, _⟩ := hP.vol.cells
  have hN : ((D : Int) + (L : Int) + (G : Int)) = ((A.n : Nat) : Int) := by omega
  have hn1 : A.n ≤ 1000 := hf.n
  go_enter Tryz.func29, Tryz.ntmps29
  go_wp2_with fail
  refine (shards_any (D : Int) (L : Int) (G : Int) w ⟨by omega, by omega⟩ ⟨by omega, by omega⟩ ⟨by omega, by omega⟩).mono ?_
  rintro e w5 ⟨rfl, hb5⟩
  rw [hN]
  clear hN hn
  simp only []
  go_wp2_with (at_make; refine wpList_mkRecs _ rfl (.tmp 13) (.tmp 13) rfl _ A.n rfl rfl rfl (by omega) ?_; intro w6 hRow hb6 hz6)
  have hb56 : Below w.heap.size w w5 := hb5
  have hbw : Below w.heap.size w w6 := hb56.trans (hb6.mono hb56.size)
  have hgs : w.heap.size ≤ w5.heap.size := hb56.size
  have hgF : ¬ F.has p A.n w5.heap.size := fun q => by have := hP.arr.has_lt q; omega
  have hP6 := hP.below hbw (Nat.le_refl _)
  have hgv : v ≠ w5.heap.size := fun e => by have := hP.vol.lt; omega
  have hgh : 2 ≠ w5.heap.size := fun e => by have := hP.laid.lt; omega
  have hA0 : ArrAt w6 p (A.readTo 0) F := by rw [readTo_zero]; exact hP6.arr
  have hR0 : w6.rowIs w5.heap.size 125 A.n (rcF r 0) := hRow.congr fun i hi => by unfold rcF; rw [if_neg (by omega)]
  clear hRow hb5 hb56 hb6 hP c1 c2 c3
  go_loopw [17] (fun i wr => RrR w6 w5.heap.size p A.n A F r i wr) (fun i _ => A.n - (intOf i).toNat)
  case atStart => exact ⟨0, Nat.zero_le _, rfl, hA0, Outside.refl _ _, hR0⟩
  case round =>
    clear hA0 hR0
    obtain ⟨k, hk, rfl, hA, hO, hR⟩ := hrel
    by_cases hlt : k < A.n
    · have hVk : VolAt wr v p D L G ps ho := hP6.vol.keep (hO.block _ hP6.vol.lt (fun q => q.elim hgv hap.v))
      have hLk : hvLaid wr := hP6.laid.keep (hO.block _ hP6.laid.lt (fun q => q.elim hgh hap.g))
      have hcall := volRead_ok hVk hA (hf.readTo k) k b hlt hb hw (hl k) (hbad k) (r k) (hr k) (hm k) (he k hlt) hLk hap.g
      rw [readTo_succ] at hcall
      obtain ⟨ty, x, hx⟩ := recV_iface (r k)
      rw [hx] at hcall
      have H := hide (And.intro hO (And.intro hR hcall))
      clear hVk hLk hcall hA hO hR
      go_wp2_with fail
      refine H.out.2.2.mono ?_
      rintro e w7 ⟨rfl, hA7, hO7⟩
      have hR7 : w7.rowIs w5.heap.size 125 A.n (rcF r k) := H.out.2.1.of_block (hO7.block w5.heap.size H.out.2.1.lt hgF)
      have cS := hR7.cell (i := k) hlt
      have fS := hR7.frozen k
      have hkz : ((k : Nat) : Int).toNat = k := by omega
      have H7 := hide (And.intro hA7 (And.intro (H.out.1.trans (hO7.mono fun _ _ q => .inr q)) hR7))
      clear hA7 hO7 H hR7
      go_wp2
      refine ⟨⟨k + 1, by omega, by go_num, H7.out.1.keep fun j hj => blk_setCell_other _ _ _ _ (fun e => hgF (by have e' : j = w5.heap.size := e; rwa [e'] at hj)), H7.out.2.1.trans (Outside.setCell _ _ _ (.inl rfl)), (H7.out.2.2.set k _).congr fun i hi => ?_⟩, by simp [intOf]; omega⟩
      unfold rcF
      by_cases e : i = k
      · subst e
        rw [if_pos rfl, if_pos (by omega), hx]
      · rw [if_neg e]
        by_cases e2 : i < k
        · rw [if_pos e2, if_pos (by omega)]
        · rw [if_neg e2, if_neg (by omega)]
    · have hkk : k = A.n := by omega
      subst hkk
      have hO6 : Outside (F.has p A.n) w wr := (hO.mono (T := fun j => j = w5.heap.size ∨ F.has p A.n j) fun _ _ q => q) |> fun h => ⟨h.os.trans hbw.os, h.tape.trans hbw.tape, h.output.trans hbw.output, Nat.le_trans hbw.size h.size, fun j hj hs => (h.block j (Nat.lt_of_lt_of_le hj hbw.size) (fun q => q.elim (fun e => by omega) hs)).trans (hbw.block j hj)⟩
      have hR' : wr.rowIs w5.heap.size 125 A.n (fun i => recV (r i)) := hR.congr fun i hi => by unfold rcF; rw [if_pos hi]
      have H := hide (And.intro hA (And.intro hO6 hR'))
      clear hA hO hO6 hR hR'
      go_wp2
      go_ret
      exact ⟨_, rfl, hgs, H.out.2.2, H.out.1, H.out.2.1⟩
end Go.Proofs.YtogdeaaphdlchaaGreatDoor
/-
  A region that draws its order, within a round of a range over a function: as RegionFacts.lean.
-/
namespace Go.Proofs.YtogdeaaphdlchaaGreatDoor
open Go.RowKit Go.Shelf

/-- what is asked of each operation -/
def StepOkI (l n : Nat) (P : Program) (Q : Exit → Act → World → Prop) (lo hi : Nat) (sh : List (Op × Option Nat × List Nat)) (a0 : Act) (V : Nat → Value → World → Prop) (B : (Nat → Bool) → World → Prop) (i : Nat) : Prop :=
  ∀ (o : Oper) (a : Act) (w : World) (D : Nat → Bool), o.guard = none → o.op = (shAt sh i).1 → o.dst = (shAt sh i).2.1 → Framed lo hi a0 a → D i = false → (∀ j, D j = true → j < sh.length ∧ ∀ k ∈ (shAt sh j).2.2, D k = true) →
    (∀ k ∈ (shAt sh i).2.2, D k = true) → B D w → (∀ j, D j = true → V j (slotD (shAt sh j).2.1 a) w) →
    o.wpIn (Fence.wide.inRound l) n P a w (fun a' w' => ∃ v, a' = a.put o.dst v ∧ (o.dst = none → v = undef) ∧ B (upd D i) w' ∧ V i v w' ∧ ∀ j u, D j = true → V j u w → V j u w') Q
/-- the region -/
theorem any_factsI {l n : Nat} {P : Program} {ops : Array Oper} {Q : Exit → Act → World → Prop} {lo hi : Nat} {sh : List (Op × Option Nat × List Nat)} (hsh : RegShape ops lo hi sh) (a0 : Act) (hhi : hi ≤ a0.tmps.size)
    (V : Nat → Value → World → Prop) (B : (Nat → Bool) → World → Prop) (hstep : ∀ i, i < sh.length → StepOkI l n P Q lo hi sh a0 V B i)
    (hend : ∀ (a : Act) (w : World), Framed lo hi a0 a → (∀ s, (∀ i, i < sh.length → (shAt sh i).2.1 ≠ some s) → a.eval (.tmp s) = a0.eval (.tmp s)) → (∃ D, (∀ i, i < sh.length → D i = true) ∧ B D w) → (∀ i, i < sh.length → V i (slotD (shAt sh i).2.1 a) w) → Q .normal a w) :
    ∀ (f : Nat) (listed : Array Bool) (a : Act) (w : World), listed.size = sh.length → toCome listed = f → Framed lo hi a0 a → (∀ s, (∀ i, i < sh.length → (shAt sh i).2.1 ≠ some s) → a.eval (.tmp s) = a0.eval (.tmp s)) → (∀ j, listed.getD j false = true → j < sh.length ∧ ∀ k ∈ (shAt sh j).2.2, listed.getD k false = true) → B (fun j => listed.getD j false) w →
      (∀ i, listed.getD i false = true → V i (slotD (shAt sh i).2.1 a) w) → wpAnyIn (Fence.wide.inRound l) n P .any ops Q f listed a w := by
  have hsz := hsh.size
  have hready : ∀ listed : Array Bool, listed.size = sh.length → toCome listed ≠ 0 → Region.ready .any ops listed ≠ [] := by
    intro listed hl hc hr
    have hall : ∀ i, i < sh.length → listed.getD i false = true := by
      intro i
      induction i using Nat.strongRecOn with
      | ind i ih =>
        intro hi'
        by_cases hd : listed.getD i false = true
        · exact hd
        · exfalso
          have hm : i ∈ Region.ready .any ops listed := ready_iff.2 ⟨by omega, by simpa [Array.getD_eq_getD_getElem?, show i < listed.size by omega] using hd, fun k hk => by
            obtain ⟨o, _, _, _, _, e⟩ := hsh.get i hi'
            rw [e] at hk
            have := hsh.early i hi' k hk
            exact ih k this (by omega)⟩
          rw [hr] at hm
          cases hm
    apply hc
    unfold toCome
    rw [List.length_eq_zero_iff, List.filter_eq_nil_iff]
    intro b hb
    obtain ⟨i, hi', rfl⟩ := List.getElem_of_mem hb
    have hi2 : i < listed.size := by simpa using hi'
    have := hall i (by omega)
    simp [Array.getD_eq_getD_getElem?, hi2] at this
    simp [this]
  intro f
  induction f with
  | zero =>
    intro listed a w hl hc hk hsame hcl hB hV
    refine ⟨?_, hend a w hk hsame ⟨_, fun i hi' => toCome_zero hc i (by omega), hB⟩ fun i hi' => hV i (toCome_zero hc i (by omega))⟩
    rw [List.eq_nil_iff_forall_not_mem]
    intro i hm
    obtain ⟨h1, h2, _⟩ := ready_iff.1 hm
    have := toCome_zero hc i (by omega)
    simp [Array.getD_eq_getD_getElem?, show i < listed.size by omega] at this h2
    rw [this] at h2
    cases h2
  | succ f ih =>
    intro listed a w hl hc hk hsame hcl hB hV
    refine ⟨fun e => absurd e (hready listed hl (by omega)), fun i hm => ?_⟩
    obtain ⟨h1, h2, h3⟩ := ready_iff.1 hm
    have hi' : i < sh.length := by omega
    have hil : i < listed.size := by omega
    obtain ⟨o, e1, e2, e3, e4, e5⟩ := hsh.get i hi'
    have hDi : listed.getD i false = false := by simpa [Array.getD_eq_getD_getElem?, hil] using h2
    have hupd : ∀ j, (listed.setIfInBounds i true).getD j false = upd (fun j => listed.getD j false) i j := by
      intro j
      unfold upd
      by_cases ej : j = i
      · subst ej
        rw [if_pos rfl]
        simp [Array.getD_eq_getD_getElem?, hil]
      · rw [if_neg ej, Array.getD_eq_getD_getElem?, Array.getElem?_setIfInBounds, if_neg (fun q : i = j => ej q.symm), ← Array.getD_eq_getD_getElem?]
    unfold wpOpIn
    rw [e1]
    show if Region.wanted o (yielded ops a.tmps) = true then _ else _
    rw [if_pos (by simp [Region.wanted, e4])]
    refine (Oper.wpIn_mono (fun a' w' h => ?_) (hstep i hi' o a w (fun j => listed.getD j false) e4 e2 e3 hk hDi hcl (fun k hk' => ?_) hB hV))
    · obtain ⟨v, rfl, hu, hB', hVi, hst⟩ := h
      have hdst : ∀ d, o.dst = some d → lo ≤ d ∧ d < hi := fun d hd => by rw [e3] at hd; exact (hsh.slots i i d hi' hi' hd).1
      refine ih _ _ _ (by simpa using hl) (by have := toCome_set h2; omega) (hk.put v hdst) (fun s hs => ?_) (fun j hj => ?_) ?_ fun j hlj => ?_
      · refine Eq.trans ?_ (hsame s hs)
        cases hd : o.dst with
        | none => rfl
        | some d => exact rf_other _ _ _ _ (fun e => hs i hi' (by rw [show (shAt sh i).2.1 = o.dst from e3.symm, hd, e]))
      · rw [hupd] at hj
        unfold upd at hj
        by_cases ej : j = i
        · subst ej
          refine ⟨hi', fun k hk' => ?_⟩
          rw [hupd]; unfold upd
          by_cases ek : k = j
          · rw [if_pos ek]
          · rw [if_neg ek]; rw [← e5] at hk'; exact h3 k hk'
        · rw [if_neg ej] at hj
          obtain ⟨q1, q2⟩ := hcl j hj
          refine ⟨q1, fun k hk' => ?_⟩
          rw [hupd]; unfold upd
          by_cases ek : k = i
          · rw [if_pos ek]
          · rw [if_neg ek]; exact q2 k hk'
      · have e : (fun j => (listed.setIfInBounds i true).getD j false) = upd (fun j => listed.getD j false) i := funext hupd
        rw [e]; exact hB'
      · rw [hupd] at hlj
        unfold upd at hlj
        by_cases ej : j = i
        · subst ej
          have : slotD (shAt sh j).2.1 (a.put o.dst v) = v := by
            show slotD (sh.getD j (.move (.const undef), none, [])).2.1 (a.put o.dst v) = v
            rw [← e3]
            cases hd : o.dst with
            | none => exact (hu hd).symm
            | some d => exact rf_same _ _ _ (Nat.lt_of_lt_of_le (hdst d hd).2 (by rw [hk.size]; exact hhi))
          rw [this]; exact hVi
        · rw [if_neg ej] at hlj
          have : slotD (shAt sh j).2.1 (a.put o.dst v) = slotD (shAt sh j).2.1 a := by
            cases hd' : (shAt sh j).2.1 with
            | none => rfl
            | some d' =>
              cases hd : o.dst with
              | none => rfl
              | some d =>
                refine rf_other _ _ _ _ fun q => ej ?_
                subst q
                rw [e3] at hd
                exact (hsh.slots j i d (hcl j hlj).1 hi' hd').2 hd
          rw [this]
          exact hst j _ hlj (hV j hlj)
    · exact h3 k (by rw [e5]; exact hk')
/-- as the walk meets it -/
theorem region_factsI {l n : Nat} {P : Program} {ops : Array Oper} {Q : Exit → Act → World → Prop} {m lo hi : Nat} {sh : List (Op × Option Nat × List Nat)} (hm : P.follows .mixedOrders = true) (hsh : RegShape ops lo hi sh) (a0 : Act) (w0 : World) (hhi : hi ≤ a0.tmps.size)
    (V : Nat → Value → World → Prop) (B : (Nat → Bool) → World → Prop) (hB : B (fun _ => false) w0.drew) (hstep : ∀ i, i < sh.length → StepOkI l n P Q lo hi sh a0 V B i)
    (hend : ∀ (a : Act) (w : World), Framed lo hi a0 a → (∀ s, (∀ i, i < sh.length → (shAt sh i).2.1 ≠ some s) → a.eval (.tmp s) = a0.eval (.tmp s)) → (∃ D, (∀ i, i < sh.length → D i = true) ∧ B D w) → (∀ i, i < sh.length → V i (slotD (shAt sh i).2.1 a) w) → Q .normal a w) : (Code.region m ops true).wpIn (Fence.wide.inRound l) n P Q a0 w0 := by
  refine wpIn_region_any hm ?_
  have hsz := hsh.size
  have h0 : ∀ i, (Array.replicate ops.size false).getD i false = false := fun i => by
    simp only [Array.getD_eq_getD_getElem?, Array.getElem?_replicate]
    split <;> rfl
  refine any_factsI hsh a0 hhi V B hstep hend _ _ a0 w0.drew (by simp [hsz]) ?_ (Framed.refl _ _ _) (fun _ _ => rfl) (fun j hj => ?_) ?_ fun i h => ?_
  · unfold toCome
    simp
  · rw [h0] at hj; cases hj
  · have e : (fun j => (Array.replicate ops.size false).getD j false) = fun _ => false := funext h0
    rw [e]; exact hB
  · rw [h0] at h; cases h


/-! ### what operations do -/
theorem opI_val {l n : Nat} {P : Program} {Q : Exit → Act → World → Prop} {o : Oper} {a : Act} {w w' : World} {v : Value} {B : World → Prop} {Vi : Value → World → Prop} {S : World → Prop} (hr : (execOp a.eval o).run P w = .ok (.value v) w') (hnd : ∀ c, o.op ≠ .defer c) {d : Nat} (hd : o.dst = some d) (h : B w' ∧ Vi v w' ∧ S w') :
    o.wpIn (Fence.wide.inRound l) n P a w (fun a' w' => ∃ v, a' = a.put o.dst v ∧ (o.dst = none → v = undef) ∧ B w' ∧ Vi v w' ∧ S w') Q := by
  refine ⟨fun _ _ => trivial, ?_⟩
  rw [Oper.semAt_plain _ _ _ hnd, hr]
  exact ⟨v, rfl, fun e => (by rw [hd] at e; cases e), h.1, h.2.1, h.2.2⟩
theorem opI_skip {l n : Nat} {P : Program} {Q : Exit → Act → World → Prop} {o : Oper} {a : Act} {w w' : World} {B : World → Prop} {Vi : Value → World → Prop} {S : World → Prop} (hr : (execOp a.eval o).run P w = .ok .skip w') (hnd : ∀ c, o.op ≠ .defer c) (h : B w' ∧ Vi undef w' ∧ S w') :
    o.wpIn (Fence.wide.inRound l) n P a w (fun a' w' => ∃ v, a' = a.put o.dst v ∧ (o.dst = none → v = undef) ∧ B w' ∧ Vi v w' ∧ S w') Q := by
  refine ⟨fun _ _ => trivial, ?_⟩
  rw [Oper.semAt_plain _ _ _ hnd, hr]
  exact ⟨undef, rfl, fun _ => rfl, h.1, h.2.1, h.2.2⟩
theorem opI_call {l n : Nat} {P : Program} {Q : Exit → Act → World → Prop} {o : Oper} {a : Act} {w w1 : World} {f : FuncId} {args : Array Value} {Rr : Ending → World → Prop} {B : World → Prop} {Vi : Value → World → Prop} {S : World → Prop} (hr : (execOp a.eval o).run P w = .ok (.enter f args) w1) (hnd : ∀ c, o.op ≠ .defer c) {d : Nat} (hd : o.dst = some d) (hc : Calls P f args w1 Rr)
    (h : ∀ e w', Rr e w' → ∃ v, e = .returned v ∧ B w' ∧ Vi v w' ∧ S w') : o.wpIn (Fence.wide.inRound l) n P a w (fun a' w' => ∃ v, a' = a.put o.dst v ∧ (o.dst = none → v = undef) ∧ B w' ∧ Vi v w' ∧ S w') Q := by
  refine ⟨fun _ _ => trivial, ?_⟩
  rw [Oper.semAt_plain _ _ _ hnd, hr]
  refine ⟨fun h => (by cases h), CallsIn.inRound l (callsIn_wide.2 (hc.mono fun e w' hR => ?_))⟩
  obtain ⟨v, rfl, q1, q2, q3⟩ := h e w' hR
  exact ⟨v, rfl, fun e => (by rw [hd] at e; cases e), q1, q2, q3⟩
end Go.Proofs.YtogdeaaphdlchaaGreatDoor
