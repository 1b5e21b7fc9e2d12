import Derived.Test.YthhommjlomphdabDoorPart14
import Derived.Deep.WholeRow
/-
  Check: the program's.
-/
namespace Go.Proofs.YthhommjlomphdabDoor
open Go.RowKit Go.Deep

/-- an error or none -/
def errv (x : Int) : Value := if x = 0 then .nilIface else .iface 41 (.int .i64 x)
def ChPost (regs : Int) (P : List St) (shards : Int) (w : World) (r : Ending) (w' : World) : Prop := (okProg regs P shards → r = .returned .nilIface) ∧ (¬ okProg regs P shards → r = .returned (.iface 41 (.int .i64 4))) ∧ Below w.heap.size w w'
def ChR (w : World) (regs shards : Int) (P : List St) (i : Value) (wr : World) : Prop := ∃ k : Nat, k ≤ P.length ∧ i = .int .i64 k ∧ (∀ j (hj : j < P.length), j < k → okStep P[j] regs shards) ∧ Below w.heap.size w wr
theorem box2 {w w' : World} {n : Nat} {x y : Value} {t : TypeId} (h : Below (n + 1) (w.alloc (.cells #[x, y] t)) w') (hn : n = w.heap.size) : w'.cell? ⟨n, 0, none⟩ = some x ∧ w'.cell? ⟨n, 1, none⟩ = some y := by
  subst hn
  constructor
  · rw [h.cell (by simp)]; simp
  · rw [h.cell (by simp)]; simp
set_option maxRecDepth 100000 in
set_option maxHeartbeats 2000000 in
theorem check_any (regs shards : Int) (v : Value) (P : List St) (w : World) (h : Ps .u8 w v P) :
    Calls Tryd.prog 22 #[.agg #[.int .i64 regs, v], .int .i64 shards] w fun r w' => ChPost regs P shards w r w' := by
  have hb0 : Below w.heap.size w (w.alloc (.cells #[.int .i64 regs, v] 27)) := (Below.refl _ _).alloc (Nat.le_refl _) _
  have h0 := h.mono hb0
  obtain ⟨ao, c, rfl⟩ := h.slice
  go_enter Tryd.func22, Tryd.ntmps22
  go_wp2_with fail
  refine (bounded_any regs _ P _ h0).mono ?_
  rintro r w1 ⟨b, rfl, hb, hb1⟩
  rw [nblk_alloc] at hb1
  obtain ⟨p0, p1⟩ := box2 hb1 rfl
  have hs1 := hb1.size
  rw [nblk_alloc] at hs1
  have hbw1 := hb0.trans (hb1.mono (by omega))
  cases b
  · have HN := hide (show ¬ okProg regs P shards from fun hp => by have := hb.2 hp.1; simp at this)
    clear hb hb1 h0 h hb0
    go_wp2
    go_ret
    exact ⟨fun hp => absurd hp HN.out, fun _ => rfl, hbw1⟩
  · have HH := hide (hb.1 rfl)
    have h1 := h.mono hbw1
    clear hb hb1 h0 hb0 h
    rcases h1.cases with ⟨rfl, ao', c', e⟩ | ⟨b, off, c', e, _, hc⟩
    · simp at e
      obtain ⟨rfl, rfl⟩ := e
      clear h1
      go_wp2
      refine wp_loop_rounds 1 ?_
      rw [rounds_succ]
      go_wp2
      go_ret
      exact ⟨fun _ => rfl, fun hp => absurd ⟨HH.out, fun i hi => by simp at hi⟩ hp, hbw1⟩
    · simp at e
      obtain ⟨rfl, rfl⟩ := e
      clear h1
      go_wp2
      go_loopw [14] (fun i wr => ChR w1 regs shards P i wr) (fun i _ => P.length - (intOf i).toNat)
      case atStart => exact ⟨0, Nat.zero_le _, rfl, fun j _ hj => absurd hj (by omega), Below.refl _ _⟩
      case round =>
        rename World => wo
        obtain ⟨k, hk, rfl, hok, hbo⟩ := hrel
        have q0 := (hbo.cell (block_lt_of_cell p0)).trans p0
        have q1 := (hbo.cell (block_lt_of_cell p1)).trans p1
        by_cases hlt : k < P.length
        · obtain ⟨c0, c1, c2, c3⟩ := hc k hlt
          have d0 := (hbo.cell (block_lt_of_cell c0)).trans c0
          have d1 := (hbo.cell (block_lt_of_cell c1)).trans c1
          have d2 := (hbo.cell (block_lt_of_cell c2)).trans c2
          have d3 := (hbo.cell (block_lt_of_cell c3)).trans c3
          have HC := hide hc
          have HOK := hide hok
          clear hc hok c0 c1 c2 c3
          have q0' := (((Below.refl wo.heap.size wo).alloc (Nat.le_refl _) (.cells #[.int .u8 P[k].k, .int .i64 P[k].a, .int .i64 P[k].b, .int .u8 P[k].c] 50)).cell (block_lt_of_cell q0)).trans q0
          have hbo2 := hbo.alloc hbo.size (.cells #[.int .u8 P[k].k, .int .i64 P[k].a, .int .i64 P[k].b, .int .u8 P[k].c] 50)
          have hso := hbo.size
          go_wp2_with fail
          refine (pfits_any P[k] regs shards _).mono ?_
          rintro r w2 ⟨b2, rfl, hb2, hbe⟩
          rw [nblk_alloc] at hbe
          have hbo3 := hbo2.trans (hbe.mono (by omega))
          have HB2 := hide hb2
          clear hbe hb2 d0 d1 d2 d3 q0 q1 q0' hbo hbo2
          cases b2
          · go_wp2
            go_ret
            exact ⟨fun hp => absurd (HB2.out.2 (hp.2 k hlt)) (by simp), fun _ => rfl, hbw1.trans (hbo3.mono (by omega))⟩
          · go_wp2
            go_roundw
            case rel =>
              refine ⟨k + 1, by omega, by go_num, fun j hj hjk => ?_, hbo3⟩
              by_cases e : j = k
              · subst e; first | exact HB2.out.1 rfl | exact HB2.out.1 trivial
              · exact HOK.out j hj (by omega)
            case measure => simp [intOf]; omega
        · have hkk : k = P.length := by omega
          subst hkk
          have HOK := hide hok
          clear hc hok
          go_wp2
          go_ret
          exact ⟨fun _ => rfl, fun hp => absurd ⟨HH.out, fun i hi => HOK.out i hi hi⟩ hp, hbw1.trans (hbo.mono (by omega))⟩
end Go.Proofs.YthhommjlomphdabDoor
/-
  The law's word for a program: as the document's answer has it.
-/
namespace Go.Proofs.YthhommjlomphdabDoor
open Go.RowKit Go.Deep

/-- the cells of steps, one behind the other -/
def stcs (kk : IntKind) : List St → List Value
  | [] => []
  | s :: P => stc kk s ++ stcs kk P
theorem stcs_len (kk : IntKind) : ∀ P, (stcs kk P).length = P.length * 4
  | [] => rfl
  | s :: P => by simp [stcs, stc, stcs_len kk P]; omega
theorem stcs_append (kk : IntKind) : ∀ P Q, stcs kk (P ++ Q) = stcs kk P ++ stcs kk Q
  | [], _ => rfl
  | s :: P, Q => by simp [stcs, stcs_append kk P Q]
theorem stcs_at (kk : IntKind) : ∀ (P : List St) (i : Nat) (hi : i < P.length) (j : Nat), j < 4 → (stcs kk P)[i * 4 + j]? = (stc kk P[i])[j]?
  | s :: P, 0, _, j, hj => by
    simp only [stcs, Nat.zero_mul, Nat.zero_add, List.getElem_cons_zero]
    rw [List.getElem?_append_left (by simpa [stc] using hj)]
  | s :: P, i + 1, hi, j, hj => by
    have e : (i + 1) * 4 + j = (stc kk s).length + (i * 4 + j) := by simp [stc]; omega
    simp only [stcs, List.getElem_cons_succ]
    rw [e, List.getElem?_append_right (Nat.le_add_right _ _), Nat.add_sub_cancel_left]
    exact stcs_at kk P i (by simpa using hi) j hj
theorem four_new (w : World) (n : Nat) (hn : n = w.heap.size) (x y z u : Value) (t : TypeId) : ∀ j v, [x, y, z, u][j]? = some v → (w.alloc (.cells #[x, y, z, u] t)).cell? ((⟨n, 0, none⟩ : Addr).add j) = some v := by
  subst hn
  intro j v hv
  rw [add0]
  rcases j with _ | _ | _ | _ | j
  all_goals simp at hv
  all_goals subst hv; simp
/-- steps that a call made -/
theorem owns_ps {kk : IntKind} {w : World} {base : Nat} {e : TypeId} {v : Value} {P : List St} (h : w.ownsRow base e 4 v P.length (stcs kk P)) (hl : P.length ≤ 4398046511104) : Ps kk w v P := by
  rcases h.2 with ⟨h0, h1⟩ | ⟨g, cap, cur, e1, e2, e3, e4, e5, e6, e7⟩
  · have : P = [] := List.eq_nil_of_length_eq_zero h1
    subst this
    exact ⟨none, 0, h0, by simp, fun h => absurd rfl h⟩
  · subst e1
    refine ⟨some ⟨g, 0, none⟩, cap, rfl, hl, fun _ => ⟨g, 0, rfl, fun i hi => ?_⟩⟩
    have at' : ∀ j, j < 4 → w.cell? ⟨g, 0 + i * 4 + j, none⟩ = (stc kk P[i])[j]? := fun j hj => by
      rw [Nat.zero_add, h.cellAt (i * 4 + j) (by omega), stcs_at kk P i hi j hj]
    exact ⟨at' 0 (by decide), at' 1 (by decide), at' 2 (by decide), at' 3 (by decide)⟩
theorem grown_own {w0 w w2 : World} {v : Value} {ob : Nat} (h : w0.grownBy w (some ob)) (hg : w.grownBy w2 v.ownBlock) (hown : ∀ k, v.ownBlock = some k → w0.heap.size ≤ k) : w0.grownBy w2 (some ob) :=
  ⟨hg.os.trans h.os, hg.tape.trans h.tape, hg.output.trans h.output, Nat.le_trans h.size hg.size, fun k hk hne => by
    rw [hg.block k (Nat.lt_of_lt_of_le hk h.size) (fun e => by have := hown k e.symm; omega)]; exact h.block k hk hne⟩
theorem grown_alloc {w0 w : World} {ob : Option Nat} (h : w0.grownBy w ob) (o : Obj) : w0.grownBy (w.alloc o) ob :=
  ⟨h.os, h.tape, h.output, by rw [nblk_alloc]; have := h.size; omega, fun k hk hne => by rw [← h.block k hk hne]; exact ((Below.refl w.heap.size w).alloc (Nat.le_refl _) o).block k (Nat.lt_of_lt_of_le hk h.size)⟩
theorem grown_set' (w : World) (b i : Nat) (v : Value) : w.grownBy (w.setCell ⟨b, i, none⟩ v) (some b) :=
  ⟨rfl, rfl, rfl, by simp, fun k _ hne => by
    have : b ≠ k := fun e => hne (by rw [e])
    simp [World.setCell, Array.getElem?_modify, this]⟩
theorem heap_old (w : World) (o : Obj) (k : Nat) (h : k < w.heap.size) : (w.alloc o).heap[k]? = w.heap[k]? := ((Below.refl w.heap.size w).alloc (Nat.le_refl _) o).block k h
theorem alloc3 (w : World) (a b c : Obj) : (((w.alloc a).alloc b).alloc c).heap.size = w.heap.size + 3 ∧ (((w.alloc a).alloc b).alloc c).heap[w.heap.size]? = some a ∧ (((w.alloc a).alloc b).alloc c).heap[w.heap.size + 1]? = some b ∧ (((w.alloc a).alloc b).alloc c).heap[w.heap.size + 1 + 1]? = some c := by
  have n1 := nblk_alloc w a
  have n2 := nblk_alloc (w.alloc a) b
  have n3 := nblk_alloc ((w.alloc a).alloc b) c
  refine ⟨by omega, ?_, ?_, ?_⟩
  · rw [heap_old _ _ _ (by omega), heap_old _ _ _ (by omega)]; exact heap_alloc_last w a
  · rw [heap_old _ _ _ (by omega), ← n1]; exact heap_alloc_last _ b
  · rw [← n1, ← n2]; exact heap_alloc_last _ c
theorem obj_cells {w : World} {ob : Nat} {x y : Value} {t : TypeId} (h : w.heap[ob]? = some (.cells #[x, y] t (0, 0))) : w.cell? ⟨ob, 0, none⟩ = some x ∧ w.cell? ⟨ob, 1, none⟩ = some y ∧ w.frozen? ⟨ob, 1, none⟩ = false ∧ w.frozen? ⟨ob, 0, none⟩ = false := by
  simp [World.cell?, World.frozen?, h]
def PgPost (regs : Int) (P : List St) (w : World) (r : Ending) (w' : World) : Prop := ∃ v, r = .returned (.agg #[.int .i64 regs, v]) ∧ Ps .i64 w' v P ∧ Below w.heap.size w w'
end Go.Proofs.YthhommjlomphdabDoor
/-
  The program that is written: its steps in memory, and one more.
-/
namespace Go.Proofs.YthhommjlomphdabDoor
open Go.RowKit Go.Shelf Go.Deep Gf

/-- a program in a block of its own, its steps in another, from n0 on -/
def PB (W : World) (n0 Bg : Nat) (regs : Int) (L : List St) : Prop :=
  Bg < n0 ∧ n0 ≤ W.heap.size ∧ ∃ v, W.heap[Bg]? = some (.cells #[.int .i64 regs, v] 27 (0, 0)) ∧ W.ownsRow n0 50 4 v L.length (stcs .u8 L)
theorem Tryd.infoStepW : (Tryd.prog.info? 50).map (fun i => (i.zero, i.size, i.bytes)) = some (some (.agg #[.int .u8 0, .int .i64 0, .int .i64 0, .int .u8 0]), 4, 32) := by kernel_rfl
theorem in_push {F : Fence} {n : Nat} {w : World} {ops : Array Oper} {rest : List Oper} {o : Oper} {a : Act} {Q : Exit → Act → World → Prop} (hg : o.guard = none) (x y : Operand) (ho : o.op = .call { callee := .builtin .append, args := #[x, y], argTypes := #[25, 25] })
    (n0 q : Nat) (L : List St) (s : St) (v : Value) (hx : a.eval x = v) (hy : a.eval y = .slice (some ⟨q, 0, none⟩) 1 1) (hown : w.ownsRow n0 50 4 v L.length (stcs .u8 L)) (hc : ∀ j u, (stc .u8 s)[j]? = some u → w.cell? ((⟨q, 0, none⟩ : Addr).add j) = some u) (hn0 : n0 ≤ w.heap.size) (hL : L.length ≤ 100000)
    (hK : ∀ g' cap' w2, n0 ≤ g' → w2.ownsRow n0 50 4 (.slice (some ⟨g', 0, none⟩) (L.length + 1) cap') (L.length + 1) (stcs .u8 (L ++ [s])) → w.grownBy w2 v.ownBlock → wpListIn F n Tryd.prog ops Q rest (a.put o.dst (.slice (some ⟨g', 0, none⟩) (L.length + 1) cap')) w2) : wpListIn F n Tryd.prog ops Q (o :: rest) a w := by
  obtain ⟨i0, hi0, hz0, hz1, hz2⟩ := info_parts Tryd.infoStepW
  refine wpListIn_append_own w hg x y 25 ho n0 50 i0 (.agg #[.int .u8 0, .int .i64 0, .int .i64 0, .int .u8 0]) 4 32 Tryd.underlying25 hi0 hz0 hz1 hz2 rfl (by decide) v L.length (stcs .u8 L) hx hown ⟨q, 0, none⟩ 1 1 (stc .u8 s) hy (by simp [stc]) hc (fun u hu => by simp [stc] at hu; rcases hu with rfl | rfl | rfl | rfl <;> rfl) (by unfold maxLen; omega) (by omega) hn0 ?_
  intro v' w2 hown' hgrow _
  obtain ⟨g', cap', rfl, hg1⟩ : ∃ g' cap', v' = .slice (some ⟨g', 0, none⟩) (L.length + 1) cap' ∧ n0 ≤ g' := by
    rcases hown'.2 with ⟨_, h0⟩ | ⟨g, cap, cur, hv, hb, _⟩
    · omega
    · exact ⟨g, cap, hv, hb⟩
  have e : stcs .u8 L ++ stc .u8 s = stcs .u8 (L ++ [s]) := by rw [stcs_append]; simp [stcs]
  rw [e] at hown'
  exact hK g' cap' w2 hg1 hown' hgrow
theorem own_from {w : World} {n0 k : Nat} {v : Value} {xs : List Value} {t : TypeId} (h : w.ownsRow n0 t 4 v k xs) {q : Nat} (e : v.ownBlock = some q) : n0 ≤ q := (h.lt q e).1
/-- behind the append and the store -/
theorem PB.next {W w2 : World} {n0 Bg g' cap' : Nat} {regs : Int} {L : List St} {s : St} {v : Value} {ob : Obj} (hB : Bg < n0) (hn : n0 ≤ W.heap.size) (hobj : W.heap[Bg]? = some (.cells #[.int .i64 regs, v] 27 (0, 0))) (hown : W.ownsRow n0 50 4 v L.length (stcs .u8 L))
    (hg : (W.alloc ob).grownBy w2 v.ownBlock) (hg' : n0 ≤ g') (hown' : w2.ownsRow n0 50 4 (.slice (some ⟨g', 0, none⟩) (L.length + 1) cap') (L.length + 1) (stcs .u8 (L ++ [s]))) :
    PB (w2.setCell ⟨Bg, 1, none⟩ (.slice (some ⟨g', 0, none⟩) (L.length + 1) cap')) n0 Bg regs (L ++ [s]) ∧ w2.cell? ⟨Bg, 1, none⟩ = some v ∧ w2.frozen? ⟨Bg, 1, none⟩ = false ∧
      (∀ k, k < n0 → k ≠ Bg → (w2.setCell ⟨Bg, 1, none⟩ (.slice (some ⟨g', 0, none⟩) (L.length + 1) cap')).heap[k]? = W.heap[k]?) ∧ KeepsOthers W (w2.setCell ⟨Bg, 1, none⟩ (.slice (some ⟨g', 0, none⟩) (L.length + 1) cap')) ∧
      (w2.setCell ⟨Bg, 1, none⟩ (.slice (some ⟨g', 0, none⟩) (L.length + 1) cap')).os = W.os ∧ (w2.setCell ⟨Bg, 1, none⟩ (.slice (some ⟨g', 0, none⟩) (L.length + 1) cap')).tape = W.tape ∧ (w2.setCell ⟨Bg, 1, none⟩ (.slice (some ⟨g', 0, none⟩) (L.length + 1) cap')).output = W.output := by
  have hold : ∀ k, k < n0 → w2.heap[k]? = W.heap[k]? := fun k hk => (hg.block k (by simp; omega) (fun e => by have := own_from hown e.symm; omega)).trans (heap_old W _ k (by omega))
  have hob2 := (hold Bg hB).trans hobj
  obtain ⟨_, c1, f1, _⟩ := obj_cells hob2
  have hsz : W.heap.size ≤ w2.heap.size := by have := hg.size; simp at this; omega
  have hset : (w2.setCell ⟨Bg, 1, none⟩ (.slice (some ⟨g', 0, none⟩) (L.length + 1) cap')).heap[Bg]? = some (.cells #[.int .i64 regs, .slice (some ⟨g', 0, none⟩) (L.length + 1) cap'] 27 (0, 0)) := by
    obtain ⟨hlt, hk⟩ := Array.getElem?_eq_some_iff.1 hob2
    show (w2.heap.modify Bg _)[Bg]? = _
    rw [Array.getElem?_eq_getElem (by rw [Array.size_modify]; exact hlt), Array.getElem_modify_self, hk]
    rfl
  refine ⟨⟨hB, by simp [World.setCell]; omega, _, hset, ?_⟩, c1, f1, fun k hk hne => (Below.heap_setCell _ _ _ _ hne).trans (hold k hk), ?_, hg.os, hg.tape, hg.output⟩
  · have := hown'.kept (grown_set' w2 Bg 1 (.slice (some ⟨g', 0, none⟩) (L.length + 1) cap')) (.inr (by simp [Value.ownBlock]; omega))
    simpa using this
  · refine ((KeepsOthers.alloc W ob).trans (KeepsOthers.of_grownBy hg fun j o ej hj => ?_)).trans (KeepsOthers.setCell _ _ _)
    rcases (hown.alloc ob).2 with ⟨rfl, _⟩ | ⟨g, cap, cur, rfl, _, hgb, _⟩
    · simp [Value.ownBlock] at ej
    · obtain rfl : g = j := by simpa [Value.ownBlock] using ej
      rw [hgb] at hj; cases hj; rfl
theorem PB.own {B n0 Bg : Nat} {regs : Int} {X Y : World} {row : Option Nat} {L : List St} (h : PB X n0 Bg regs L) (hn : n0 ≤ B) (hg : X.grownBy Y row) (hr : ∀ r, row = some r → B ≤ r ∧ ∃ o : Obj, X.heap[r]? = some o ∧ o.isCells = false) : PB Y n0 Bg regs L := by
  obtain ⟨h1, h2, v, h3, h4⟩ := h
  refine ⟨h1, Nat.le_trans h2 hg.size, v, (hg.block Bg (by omega) (fun e => by have := (hr Bg e.symm).1; omega)).trans h3, h4.kept hg ?_⟩
  rcases h4.2 with ⟨rfl, _⟩ | ⟨g, cap, cur, rfl, _, hgb, _⟩
  · exact .inl rfl
  · refine .inr fun e' => ?_
    obtain ⟨_, o, ho, hc⟩ := hr g (by simpa [Value.ownBlock] using e'.symm)
    rw [hgb] at ho; cases ho; cases hc

/-! ### what is written -/
/-- the steps for one shard that is kept -/
def wrOne (C : Ck) (i : Nat) : List St := if readsB C i = true then ⟨0, 0, i, 0⟩ :: ((List.range C.told).filter (fun r => decide (C.m r i ≠ 0))).map (fun r : Nat => (⟨1, 1 + (r : Int), 0, C.m r i⟩ : St)) else []
def wrTo (C : Ck) (pre : List Nat) : List St := (pre.map (wrOne C)).flatten
theorem wrTo_snoc (C : Ck) (pre : List Nat) (i : Nat) : wrTo C (pre ++ [i]) = wrTo C pre ++ wrOne C i := by unfold wrTo; simp
/-- the steps for r checks of one shard -/
def wrAdd (C : Ck) (i k : Nat) : List St := ((List.range k).filter (fun r => decide (C.m r i ≠ 0))).map (fun r : Nat => (⟨1, 1 + (r : Int), 0, C.m r i⟩ : St))
theorem wrAdd_zero (C : Ck) (i : Nat) : wrAdd C i 0 = [] := rfl
theorem wrAdd_in (C : Ck) (i k : Nat) (h : C.m k i ≠ 0) : wrAdd C i (k + 1) = wrAdd C i k ++ [⟨1, 1 + (k : Int), 0, C.m k i⟩] := by unfold wrAdd; rw [List.range_succ]; simp [h]
theorem wrAdd_out (C : Ck) (i k : Nat) (h : C.m k i = 0) : wrAdd C i (k + 1) = wrAdd C i k := by unfold wrAdd; rw [List.range_succ]; simp [h]
theorem wrAdd_le (C : Ck) (i k : Nat) : (wrAdd C i k).length ≤ k := by
  unfold wrAdd; rw [List.length_map]; exact Nat.le_trans (List.length_filter_le _ _) (by simp)
theorem wrOne_yes {C : Ck} {i : Nat} (h : readsB C i = true) : wrOne C i = ⟨0, 0, i, 0⟩ :: wrAdd C i C.told := by unfold wrOne wrAdd; rw [if_pos h]
theorem wrOne_no {C : Ck} {i : Nat} (h : readsB C i = false) : wrOne C i = [] := by unfold wrOne; simp [h]
theorem wrOne_le (C : Ck) (i : Nat) : (wrOne C i).length ≤ C.told + 1 := by
  cases h : readsB C i
  · rw [wrOne_no h]; simp
  · rw [wrOne_yes h]; have := wrAdd_le C i C.told; simp; omega
theorem wrTo_le (C : Ck) : ∀ pre : List Nat, (wrTo C pre).length ≤ pre.length * (C.told + 1)
  | [] => by simp [wrTo]
  | i :: pre => by
    have h1 := wrTo_le C pre
    have h2 := wrOne_le C i
    have e : wrTo C (i :: pre) = wrOne C i ++ wrTo C pre := by unfold wrTo; simp
    rw [e, List.length_append, List.length_cons, Nat.succ_mul]
    omega
/-- the lost ones are put out -/
def wrPut (pre : List Nat) : List St := (List.range pre.length).map (fun k : Nat => (⟨2, (k : Int) + 1, ((pre.getD k 0 : Nat) : Int), 0⟩ : St))
theorem wrPut_snoc (pre : List Nat) (i : Nat) : wrPut (pre ++ [i]) = wrPut pre ++ [⟨2, (pre.length : Int) + 1, i, 0⟩] := by
  unfold wrPut
  rw [List.length_append, List.length_singleton, List.range_succ, List.map_append]
  congr 1
  · apply List.map_congr_left
    intro k hk
    have := List.mem_range.1 hk
    simp [this, List.getElem?_append_left]
  · simp
/-- all steps -/
def wrAll (C : Ck) (gone kept : Nat) : List St := wrTo C (mems kept) ++ wrPut (mems gone)
end Go.Proofs.YthhommjlomphdabDoor
/-
  The program that Compile writes, in plain lists: it is a program; what it loads; when there is one.
-/
namespace Go.Proofs.YthhommjlomphdabDoor
open Go.RowKit Go.Deep Gf

/-- as the program has it -/
def pw (k : Nat) : Nat := 2 ^ k
theorem wr_mem {B : Ck} {gone kept : Nat} {s : St} (h : s ∈ wrAll B gone kept) : (∃ i ∈ mems kept, s = ⟨0, 0, (i : Int), 0⟩) ∨ (∃ i ∈ mems kept, ∃ r, r < B.told ∧ s = ⟨1, 1 + (r : Int), 0, B.m r i⟩) ∨ (∃ k, ∃ hk : k < (mems gone).length, s = ⟨2, (k : Int) + 1, ((mems gone)[k] : Int), 0⟩) := by
  unfold wrAll wrTo at h
  rcases List.mem_append.1 h with h | h
  · obtain ⟨l, hl, hs⟩ := List.mem_flatten.1 h
    obtain ⟨i, hi, rfl⟩ := List.mem_map.1 hl
    cases hr : readsB B i
    · rw [wrOne_no hr] at hs; cases hs
    · rw [wrOne_yes hr] at hs
      rcases List.mem_cons.1 hs with rfl | hs
      · exact .inl ⟨i, hi, rfl⟩
      · unfold wrAdd at hs
        obtain ⟨r, hr1, rfl⟩ := List.mem_map.1 hs
        exact .inr (.inl ⟨i, hi, r, List.mem_range.1 (List.mem_filter.1 hr1).1, rfl⟩)
  · unfold wrPut at h
    obtain ⟨k, hk, rfl⟩ := List.mem_map.1 h
    have hk' := List.mem_range.1 hk
    exact .inr (.inr ⟨k, hk', by simp [hk']⟩)
theorem wr_kind {B : Ck} {gone kept : Nat} {t : St} (h : t ∈ wrAll B gone kept) : t.k < 256 := by
  rcases wr_mem h with ⟨_, _, rfl⟩ | ⟨_, _, _, _, rfl⟩ | ⟨_, _, rfl⟩
  · exact (by decide : (0 : Nat) < 256)
  · exact (by decide : (1 : Nat) < 256)
  · exact (by decide : (2 : Nat) < 256)
theorem wr_len {B : Ck} (gone kept : Nat) (hB : B.told ≤ 8) : (wrAll B gone kept).length ≤ 160 := by
  have h1 := wrTo_le B (mems kept)
  have h2 : ∀ s, (mems s).length ≤ 16 := fun s => Nat.le_trans (List.length_filter_le _ _) (by simp)
  have h3 : (mems kept).length * (B.told + 1) ≤ 16 * 9 := Nat.mul_le_mul (h2 kept) (by omega)
  have h4 := h2 gone
  unfold wrAll wrPut
  simp only [List.length_append, List.length_map, List.length_range]
  omega
theorem wr_ok {B : Ck} {gone kept n : Nat} (hB : B.told = (mems gone).length) (hB8 : B.told ≤ 8) (hk : ∀ i ∈ mems kept, i < n) (hg : ∀ i ∈ mems gone, i < n) : okProg (1 + ((mems gone).length : Int)) (wrAll B gone kept) (n : Int) := by
  have hl := wr_len gone kept hB8
  refine ⟨⟨by omega, by omega, by omega⟩, fun i hi => ?_⟩
  rcases wr_mem (List.getElem_mem hi) with ⟨j, hj, e⟩ | ⟨j, hj, r, hr, e⟩ | ⟨k, hk', e⟩
  · have := hk j hj
    rw [e]
    exact .inl ⟨.inl rfl, by show (0 : Int) ≤ 0; omega, by show (0 : Int) < _; omega, by show (0 : Int) ≤ (j : Int); omega, by show (j : Int) < _; omega⟩
  · rw [e]
    exact .inr ⟨rfl, by show (0 : Int) ≤ 1 + (r : Int); omega, by show (1 + (r : Int)) < _; omega, by show (0 : Int) ≤ 0; omega, by show (0 : Int) < _; omega, by show (1 + (r : Int)) ≠ 0; omega⟩
  · have := hg _ (List.getElem_mem hk')
    rw [e]
    exact .inl ⟨.inr rfl, by show (0 : Int) ≤ (k : Int) + 1; omega, by show ((k : Int) + 1) < _; omega, by show (0 : Int) ≤ ((mems gone)[k] : Int); omega, by show ((mems gone)[k] : Int) < _; omega⟩
/-! ### what is loaded -/
def ldF (s : Nat × Nat × Bool) (t : St) : Nat × Nat × Bool := if t.k = 0 ∧ 0 ≤ t.b ∧ t.b < 64 then (s.1 ||| 2 ^ t.b.toNat, s.2.1 + 1, s.2.2 || s.1.testBit t.b.toNat) else s
def ldAll (P : List St) : Nat × Nat × Bool := P.foldl ldF (0, 0, false)
theorem ldF_other {s : Nat × Nat × Bool} {t : St} (h : t.k ≠ 0) : ldF s t = s := by unfold ldF; rw [if_neg (fun e => h e.1)]
theorem ld_others (s : Nat × Nat × Bool) : ∀ P : List St, (∀ t ∈ P, t.k ≠ 0) → P.foldl ldF s = s
  | [], _ => rfl
  | t :: P, h => by rw [List.foldl_cons, ldF_other (h t List.mem_cons_self)]; exact ld_others s P (fun t ht => h t (List.mem_cons_of_mem _ ht))
theorem ld_one (B : Ck) (i : Nat) (hi : i < 16) (s : Nat × Nat × Bool) : (wrOne B i).foldl ldF s = if readsB B i = true then (s.1 ||| 2 ^ i, s.2.1 + 1, s.2.2 || s.1.testBit i) else s := by
  cases hr : readsB B i
  · rw [wrOne_no hr]; rfl
  · rw [wrOne_yes hr, List.foldl_cons, ld_others]
    · unfold ldF
      rw [if_pos ⟨rfl, by show (0 : Int) ≤ (i : Int); omega, by show (i : Int) < 64; omega⟩, if_pos rfl]
      rfl
    · intro t ht
      unfold wrAdd at ht
      obtain ⟨r, _, rfl⟩ := List.mem_map.1 ht
      exact Nat.one_ne_zero
theorem ld_to (B : Ck) : ∀ (K : List Nat) (s : Nat × Nat × Bool), K.Nodup → (∀ i ∈ K, i < 16) → (∀ i ∈ K, s.1.testBit i = false) → ∃ S, (wrTo B K).foldl ldF s = (S, s.2.1 + cntR K B, s.2.2) ∧ ∀ j, S.testBit j = (s.1.testBit j || (decide (j ∈ K) && readsB B j))
  | [], s, _, _, _ => ⟨s.1, by simp [wrTo, cntR], fun j => by simp⟩
  | i :: K, s, hn, hK, hs => by
    have e : wrTo B (i :: K) = wrOne B i ++ wrTo B K := by unfold wrTo; simp
    obtain ⟨h1, h2⟩ := List.nodup_cons.1 hn
    have hi := hK i List.mem_cons_self
    rw [e, List.foldl_append, ld_one B i hi]
    cases hr : readsB B i
    · obtain ⟨S, q1, q2⟩ := ld_to B K s h2 (fun j hj => hK j (List.mem_cons_of_mem _ hj)) (fun j hj => hs j (List.mem_cons_of_mem _ hj))
      refine ⟨S, ?_, fun j => ?_⟩
      · rw [if_neg (by decide), q1]
        unfold cntR; simp [hr]
      · rw [q2 j]
        by_cases e : j = i
        · subst e; simp [hr]
        · simp [e]
    · obtain ⟨S, q1, q2⟩ := ld_to B K (s.1 ||| 2 ^ i, s.2.1 + 1, s.2.2 || s.1.testBit i) h2 (fun j hj => hK j (List.mem_cons_of_mem _ hj)) (fun j hj => by
        show (s.1 ||| 2 ^ i).testBit j = false
        rw [Nat.testBit_or, hs j (List.mem_cons_of_mem _ hj), Nat.testBit_two_pow]
        have : i ≠ j := fun e => h1 (e ▸ hj)
        simp [this])
      refine ⟨S, ?_, fun j => ?_⟩
      · rw [if_pos rfl, q1]
        have hb := hs i List.mem_cons_self
        unfold cntR; simp [hr, hb]; omega
      · rw [q2 j]
        show ((s.1 ||| 2 ^ i).testBit j || _) = _
        rw [Nat.testBit_or, Nat.testBit_two_pow]
        by_cases e : i = j
        · subst e; simp [hr]
        · have : ¬ j = i := fun e' => e e'.symm
          simp [e, this]
/-- the shards that the program loads, each once -/
theorem ld_all (B : Ck) (gone kept : Nat) : ∃ S, ldAll (wrAll B gone kept) = (S, cntR (mems kept) B, false) ∧ (∀ j, S.testBit j = (decide (j ∈ mems kept) && readsB B j)) ∧ S < 65536 := by
  obtain ⟨S, h1, h2⟩ := ld_to B (mems kept) (0, 0, false) (mems_nodup kept) (fun i hi => (mem_mems.1 hi).1) (fun i _ => by simp)
  have h3 : ∀ j, S.testBit j = (decide (j ∈ mems kept) && readsB B j) := fun j => by rw [h2 j]; simp
  refine ⟨S, ?_, h3, ?_⟩
  · unfold ldAll wrAll
    rw [List.foldl_append, h1, ld_others]
    · simp
    · intro t ht
      unfold wrPut at ht
      obtain ⟨k, _, rfl⟩ := List.mem_map.1 ht
      exact (by decide : (2 : Nat) ≠ 0)
  · refine Nat.lt_pow_two_of_testBit (n := 16) S (fun j hj => ?_)
    rw [h3 j]
    have : j ∉ mems kept := fun h => by have := (mem_mems.1 h).1; omega
    simp [this]
/-! ### when there is one -/
theorem rem_map {α : Type} (L : List α) (f : α → List Nat) (v : Nat → Nat) : Rem (L.map f) 0 v ↔ ∃ x ∈ L, v = vec (f x) := by
  unfold Rem
  constructor
  · rintro ⟨i, hi, _, rfl⟩
    have hi' : i < L.length := by simpa using hi
    exact ⟨L[i], List.getElem_mem hi', by simp⟩
  · rintro ⟨x, hx, rfl⟩
    obtain ⟨i, hi, rfl⟩ := List.getElem_of_mem hx
    exact ⟨i, by simpa using hi, Nat.zero_le _, by simp⟩
theorem mf_vec (M : List (List Nat)) (i : Nat) : mf M i = vec (M.getD i []) := rfl
theorem div_bit (x i : Nat) : x / 2 ^ i % 2 = 0 ↔ x.testBit i = false := by
  rw [Nat.testBit_eq_decide_div_mod_eq]
  simp
theorem keep_sel (M : List (List Nat)) (lost n : Nat) (h : n ≤ 16) : Rem (keepTo M lost n) 0 = Sel (mf M) n (fun i => i ∉ mems (goneN n lost)) := by
  funext v
  apply propext
  unfold keepTo
  rw [rem_map]
  unfold Sel
  constructor
  · rintro ⟨i, hi, rfl⟩
    obtain ⟨h1, h2⟩ := List.mem_filter.1 hi
    refine ⟨i, List.mem_range.1 h1, fun hm => ?_, rfl⟩
    have := (mem_gone h).1 hm
    rw [(div_bit lost i).1 (of_decide_eq_true h2)] at this
    exact absurd this.2 (by decide)
  · rintro ⟨i, hi, hm, rfl⟩
    refine ⟨i, List.mem_filter.2 ⟨List.mem_range.2 hi, decide_eq_true ((div_bit lost i).2 ?_)⟩, rfl⟩
    cases hb : lost.testBit i
    · rfl
    · exact absurd ((mem_gone h).2 ⟨hi, hb⟩) hm
theorem told_tells {D L G lost : Nat} (hD : D ≤ 12) (hG : G ≤ 4) (h : D + L + G ≤ 16) : Told D L G lost ↔ ∃ C, tells (cks D L G) (mems (goneN (D + L + G) lost)) = some C := by
  have hc := mat_code D L G hD hG
  have e : D + (L + G) = D + L + G := by omega
  unfold Told
  rw [keep_sel _ _ _ h]
  constructor
  · intro hF
    rcases hc.told (mems (goneN (D + L + G) lost)) with ⟨C, h1, _⟩ | ⟨_, h2⟩
    · exact ⟨C, h1⟩
    · refine absurd ?_ (hc.not_full (mems_nodup _) (fun i hi => by rw [e]; exact ((mem_gone h).1 hi).1) h2)
      rw [e]; exact hF
  · rintro ⟨C, hC⟩
    rcases hc.told (mems (goneN (D + L + G) lost)) with ⟨C', _, h2⟩ | ⟨h1, _⟩
    · have := hc.full h2
      rw [e] at this; exact this
    · have h1' : tells (cks D L G) (mems (goneN (D + L + G) lost)) = none := h1
      rw [hC] at h1'; cases h1'
/-- what is known of the program -/
theorem plan_of {D L G lost : Nat} (hD : D ≤ 12) (hG : G ≤ 4) {C : Ck} (hC : tells (cks D L G) (mems (goneN (D + L + G) lost)) = some C) :
    Plan (mf (matL D L G)) D (L + G) (mems (goneN (D + L + G) lost)) (fewestS 8 C (keptN (D + L + G) lost)).1 ∧ ToldBy (ck0 (mf (matL D L G)) D (L + G)) (Dual (mf (matL D L G)) D (D + (L + G))) (mems (goneN (D + L + G) lost)) C := by
  have hc := mat_code D L G hD hG
  rcases hc.told (mems (goneN (D + L + G) lost)) with ⟨C', h1, h2⟩ | ⟨h1, _⟩
  · have h1' : tells (cks D L G) (mems (goneN (D + L + G) lost)) = some C' := h1
    rw [hC] at h1'
    obtain rfl := Option.some.inj h1'
    exact ⟨hc.plan h2 (fewest_found 8 C _).1, h2⟩
  · have h1' : tells (cks D L G) (mems (goneN (D + L + G) lost)) = none := h1
    rw [hC] at h1'; cases h1'
theorem right_nats {D L G : Int} (hr : rightB D L G = true) : ∃ d l g : Nat, D = d ∧ L = l ∧ G = g ∧ 1 ≤ d ∧ d ≤ 12 ∧ 1 ≤ l ∧ l ≤ 4 ∧ g ≤ 4 ∧ d % l = 0 ∧ d + l + g ≤ 16 := by
  have h := of_decide_eq_true hr
  obtain ⟨h1, h2, h3, h4, h5, h6, h7, h8⟩ := h
  obtain ⟨d, rfl⟩ := Int.eq_ofNat_of_zero_le (show 0 ≤ D by omega)
  obtain ⟨l, rfl⟩ := Int.eq_ofNat_of_zero_le (show 0 ≤ L by omega)
  obtain ⟨g, rfl⟩ := Int.eq_ofNat_of_zero_le (show 0 ≤ G by omega)
  refine ⟨d, l, g, rfl, rfl, rfl, by omega, by omega, by omega, by omega, by omega, ?_, by omega⟩
  have e : ((d : Int) % (l : Int)) = ((d % l : Nat) : Int) := (Int.natCast_emod d l).symm
  rw [e] at h7
  exact Int.ofNat.inj h7
/-- the program that Compile writes -/
def cmpP (D L G lost : Nat) (C : Ck) : List St := wrAll (fewestS 8 C (keptN (D + L + G) lost)).1 (goneN (D + L + G) lost) (keptN (D + L + G) lost)
end Go.Proofs.YthhommjlomphdabDoor
