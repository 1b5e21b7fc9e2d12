import Derived.Test.YthhommjlomphdaaDoorPart14
import Derived.Deep.WholeRow
/-
  Check: the program's.
-/
namespace Go.Proofs.YthhommjlomphdaaDoor
open Go.RowKit Go.Deep

/-- an error or none -/
def errv (x : Int) : Value := if x = 0 then .nilIface else .iface 29 (.int .i64 x)
def ChPost (regs : Int) (P : List St) (shards : Int) (w : World) (r : Ending) (w' : World) : Prop := (okProg regs P shards → r = .returned .nilIface) ∧ (¬ okProg regs P shards → r = .returned (.iface 29 (.int .i64 4))) ∧ Below w.heap.size w w'
def ChR (w : World) (regs shards : Int) (P : List St) (i : Value) (wr : World) : Prop := ∃ k : Nat, k ≤ P.length ∧ i = .int .i64 k ∧ (∀ j (hj : j < P.length), j < k → okStep P[j] regs shards) ∧ Below w.heap.size w wr
theorem box2 {w w' : World} {n : Nat} {x y : Value} {t : TypeId} (h : Below (n + 1) (w.alloc (.cells #[x, y] t)) w') (hn : n = w.heap.size) : w'.cell? ⟨n, 0, none⟩ = some x ∧ w'.cell? ⟨n, 1, none⟩ = some y := by
  subst hn
  constructor
  · rw [h.cell (by simp)]; simp
  · rw [h.cell (by simp)]; simp
set_option maxRecDepth 100000 in
set_option maxHeartbeats 2000000 in
theorem check_any (regs shards : Int) (v : Value) (P : List St) (w : World) (h : Ps .u8 w v P) :
    Calls Tryd.prog 45 #[.agg #[.int .i64 regs, v], .int .i64 shards] w fun r w' => ChPost regs P shards w r w' := by
  have hb0 : Below w.heap.size w (w.alloc (.cells #[.int .i64 regs, v] 49)) := (Below.refl _ _).alloc (Nat.le_refl _) _
  have h0 := h.mono hb0
  obtain ⟨ao, c, rfl⟩ := h.slice
  go_enter Tryd.func45, Tryd.ntmps45
  go_wp2_with fail
  refine (bounded_any regs _ P _ h0).mono ?_
  rintro r w1 ⟨b, rfl, hb, hb1⟩
  rw [nblk_alloc] at hb1
  obtain ⟨p0, p1⟩ := box2 hb1 rfl
  have hs1 := hb1.size
  rw [nblk_alloc] at hs1
  have hbw1 := hb0.trans (hb1.mono (by omega))
  cases b
  · have HN := hide (show ¬ okProg regs P shards from fun hp => by have := hb.2 hp.1; simp at this)
    clear hb hb1 h0 h hb0
    go_wp2
    go_ret
    exact ⟨fun hp => absurd hp HN.out, fun _ => rfl, hbw1⟩
  · have HH := hide (hb.1 rfl)
    have h1 := h.mono hbw1
    clear hb hb1 h0 hb0 h
    rcases h1.cases with ⟨rfl, ao', c', e⟩ | ⟨b, off, c', e, _, hc⟩
    · simp at e
      obtain ⟨rfl, rfl⟩ := e
      clear h1
      go_wp2
      refine wp_loop_rounds 1 ?_
      rw [rounds_succ]
      go_wp2
      go_ret
      exact ⟨fun _ => rfl, fun hp => absurd ⟨HH.out, fun i hi => by simp at hi⟩ hp, hbw1⟩
    · simp at e
      obtain ⟨rfl, rfl⟩ := e
      clear h1
      go_wp2
      go_loopw [14] (fun i wr => ChR w1 regs shards P i wr) (fun i _ => P.length - (intOf i).toNat)
      case atStart => exact ⟨0, Nat.zero_le _, rfl, fun j _ hj => absurd hj (by omega), Below.refl _ _⟩
      case round =>
        rename World => wo
        obtain ⟨k, hk, rfl, hok, hbo⟩ := hrel
        have q0 := (hbo.cell (block_lt_of_cell p0)).trans p0
        have q1 := (hbo.cell (block_lt_of_cell p1)).trans p1
        by_cases hlt : k < P.length
        · obtain ⟨c0, c1, c2, c3⟩ := hc k hlt
          have d0 := (hbo.cell (block_lt_of_cell c0)).trans c0
          have d1 := (hbo.cell (block_lt_of_cell c1)).trans c1
          have d2 := (hbo.cell (block_lt_of_cell c2)).trans c2
          have d3 := (hbo.cell (block_lt_of_cell c3)).trans c3
          have HC := hide hc
          have HOK := hide hok
          clear hc hok c0 c1 c2 c3
          have q0' := (((Below.refl wo.heap.size wo).alloc (Nat.le_refl _) (.cells #[.int .u8 P[k].k, .int .i64 P[k].a, .int .i64 P[k].b, .int .u8 P[k].c] 92)).cell (block_lt_of_cell q0)).trans q0
          have hbo2 := hbo.alloc hbo.size (.cells #[.int .u8 P[k].k, .int .i64 P[k].a, .int .i64 P[k].b, .int .u8 P[k].c] 92)
          have hso := hbo.size
          go_wp2_with fail
          refine (pfits_any P[k] regs shards _).mono ?_
          rintro r w2 ⟨b2, rfl, hb2, hbe⟩
          rw [nblk_alloc] at hbe
          have hbo3 := hbo2.trans (hbe.mono (by omega))
          have HB2 := hide hb2
          clear hbe hb2 d0 d1 d2 d3 q0 q1 q0' hbo hbo2
          cases b2
          · go_wp2
            go_ret
            exact ⟨fun hp => absurd (HB2.out.2 (hp.2 k hlt)) (by simp), fun _ => rfl, hbw1.trans (hbo3.mono (by omega))⟩
          · go_wp2
            go_roundw
            case rel =>
              refine ⟨k + 1, by omega, by go_num, fun j hj hjk => ?_, hbo3⟩
              by_cases e : j = k
              · subst e; first | exact HB2.out.1 rfl | exact HB2.out.1 trivial
              · exact HOK.out j hj (by omega)
            case measure => simp [intOf]; omega
        · have hkk : k = P.length := by omega
          subst hkk
          have HOK := hide hok
          clear hc hok
          go_wp2
          go_ret
          exact ⟨fun _ => rfl, fun hp => absurd ⟨HH.out, fun i hi => HOK.out i hi hi⟩ hp, hbw1.trans (hbo.mono (by omega))⟩
end Go.Proofs.YthhommjlomphdaaDoor
/-
  The law's word for a program: as the document's answer has it.
-/
namespace Go.Proofs.YthhommjlomphdaaDoor
open Go.RowKit Go.Deep

/-- the cells of steps, one behind the other -/
def stcs (kk : IntKind) : List St → List Value
  | [] => []
  | s :: P => stc kk s ++ stcs kk P
theorem stcs_len (kk : IntKind) : ∀ P, (stcs kk P).length = P.length * 4
  | [] => rfl
  | s :: P => by simp [stcs, stc, stcs_len kk P]; omega
theorem stcs_append (kk : IntKind) : ∀ P Q, stcs kk (P ++ Q) = stcs kk P ++ stcs kk Q
  | [], _ => rfl
  | s :: P, Q => by simp [stcs, stcs_append kk P Q]
theorem stcs_at (kk : IntKind) : ∀ (P : List St) (i : Nat) (hi : i < P.length) (j : Nat), j < 4 → (stcs kk P)[i * 4 + j]? = (stc kk P[i])[j]?
  | s :: P, 0, _, j, hj => by
    simp only [stcs, Nat.zero_mul, Nat.zero_add, List.getElem_cons_zero]
    rw [List.getElem?_append_left (by simpa [stc] using hj)]
  | s :: P, i + 1, hi, j, hj => by
    have e : (i + 1) * 4 + j = (stc kk s).length + (i * 4 + j) := by simp [stc]; omega
    simp only [stcs, List.getElem_cons_succ]
    rw [e, List.getElem?_append_right (Nat.le_add_right _ _), Nat.add_sub_cancel_left]
    exact stcs_at kk P i (by simpa using hi) j hj
theorem four_new (w : World) (n : Nat) (hn : n = w.heap.size) (x y z u : Value) (t : TypeId) : ∀ j v, [x, y, z, u][j]? = some v → (w.alloc (.cells #[x, y, z, u] t)).cell? ((⟨n, 0, none⟩ : Addr).add j) = some v := by
  subst hn
  intro j v hv
  rw [add0]
  rcases j with _ | _ | _ | _ | j
  all_goals simp at hv
  all_goals subst hv; simp
/-- steps that a call made -/
theorem owns_ps {kk : IntKind} {w : World} {base : Nat} {e : TypeId} {v : Value} {P : List St} (h : w.ownsRow base e 4 v P.length (stcs kk P)) (hl : P.length ≤ 4398046511104) : Ps kk w v P := by
  rcases h.2 with ⟨h0, h1⟩ | ⟨g, cap, cur, e1, e2, e3, e4, e5, e6, e7⟩
  · have : P = [] := List.eq_nil_of_length_eq_zero h1
    subst this
    exact ⟨none, 0, h0, by simp, fun h => absurd rfl h⟩
  · subst e1
    refine ⟨some ⟨g, 0, none⟩, cap, rfl, hl, fun _ => ⟨g, 0, rfl, fun i hi => ?_⟩⟩
    have at' : ∀ j, j < 4 → w.cell? ⟨g, 0 + i * 4 + j, none⟩ = (stc kk P[i])[j]? := fun j hj => by
      rw [Nat.zero_add, h.cellAt (i * 4 + j) (by omega), stcs_at kk P i hi j hj]
    exact ⟨at' 0 (by decide), at' 1 (by decide), at' 2 (by decide), at' 3 (by decide)⟩
theorem grown_own {w0 w w2 : World} {v : Value} {ob : Nat} (h : w0.grownBy w (some ob)) (hg : w.grownBy w2 v.ownBlock) (hown : ∀ k, v.ownBlock = some k → w0.heap.size ≤ k) : w0.grownBy w2 (some ob) :=
  ⟨hg.os.trans h.os, hg.tape.trans h.tape, hg.output.trans h.output, Nat.le_trans h.size hg.size, fun k hk hne => by
    rw [hg.block k (Nat.lt_of_lt_of_le hk h.size) (fun e => by have := hown k e.symm; omega)]; exact h.block k hk hne⟩
theorem grown_alloc {w0 w : World} {ob : Option Nat} (h : w0.grownBy w ob) (o : Obj) : w0.grownBy (w.alloc o) ob :=
  ⟨h.os, h.tape, h.output, by rw [nblk_alloc]; have := h.size; omega, fun k hk hne => by rw [← h.block k hk hne]; exact ((Below.refl w.heap.size w).alloc (Nat.le_refl _) o).block k (Nat.lt_of_lt_of_le hk h.size)⟩
theorem grown_set' (w : World) (b i : Nat) (v : Value) : w.grownBy (w.setCell ⟨b, i, none⟩ v) (some b) :=
  ⟨rfl, rfl, rfl, by simp, fun k _ hne => by
    have : b ≠ k := fun e => hne (by rw [e])
    simp [World.setCell, Array.getElem?_modify, this]⟩
theorem Tryd.infoRstep : (Tryd.prog.info? 94).map (fun i => (i.zero, i.size, i.bytes)) = some (some (.agg #[.int .i64 0, .int .i64 0, .int .i64 0, .int .u8 0]), 4, 32) := by kernel_rfl
theorem heap_old (w : World) (o : Obj) (k : Nat) (h : k < w.heap.size) : (w.alloc o).heap[k]? = w.heap[k]? := ((Below.refl w.heap.size w).alloc (Nat.le_refl _) o).block k h
theorem alloc3 (w : World) (a b c : Obj) : (((w.alloc a).alloc b).alloc c).heap.size = w.heap.size + 3 ∧ (((w.alloc a).alloc b).alloc c).heap[w.heap.size]? = some a ∧ (((w.alloc a).alloc b).alloc c).heap[w.heap.size + 1]? = some b ∧ (((w.alloc a).alloc b).alloc c).heap[w.heap.size + 1 + 1]? = some c := by
  have n1 := nblk_alloc w a
  have n2 := nblk_alloc (w.alloc a) b
  have n3 := nblk_alloc ((w.alloc a).alloc b) c
  refine ⟨by omega, ?_, ?_, ?_⟩
  · rw [heap_old _ _ _ (by omega), heap_old _ _ _ (by omega)]; exact heap_alloc_last w a
  · rw [heap_old _ _ _ (by omega), ← n1]; exact heap_alloc_last _ b
  · rw [← n1, ← n2]; exact heap_alloc_last _ c
/-- at each round's head -/
def PgR (w3 : World) (ob : Nat) (regs : Int) (P : List St) (iv : Value) (wr : World) : Prop :=
  ∃ (k : Nat) (v : Value), k ≤ P.length ∧ iv = .int .i64 k ∧ wr.heap[ob]? = some (.cells #[.int .i64 regs, v] 53 (0, 0)) ∧ wr.ownsRow w3.heap.size 94 4 v k (stcs .i64 (P.take k)) ∧ w3.grownBy wr (some ob)
theorem obj_cells {w : World} {ob : Nat} {x y : Value} {t : TypeId} (h : w.heap[ob]? = some (.cells #[x, y] t (0, 0))) : w.cell? ⟨ob, 0, none⟩ = some x ∧ w.cell? ⟨ob, 1, none⟩ = some y ∧ w.frozen? ⟨ob, 1, none⟩ = false ∧ w.frozen? ⟨ob, 0, none⟩ = false := by
  simp [World.cell?, World.frozen?, h]
def PgPost (regs : Int) (P : List St) (w : World) (r : Ending) (w' : World) : Prop := ∃ v, r = .returned (.agg #[.int .i64 regs, v]) ∧ Ps .i64 w' v P ∧ Below w.heap.size w w'
set_option maxRecDepth 100000 in
set_option maxHeartbeats 2000000 in
theorem program_any (regs : Int) (v : Value) (P : List St) (w : World) (h : Ps .u8 w v P) (hl : P.length ≤ 5000) (hP : ∀ s ∈ P, s.k < 256) :
    Calls Tryd.prog 24 #[.agg #[.int .i64 regs, v]] w fun r w' => PgPost regs P w r w' := by
  obtain ⟨i0, hi0, hz0, hz1, hz2⟩ := info_parts Tryd.infoRstep
  obtain ⟨ao, c, rfl⟩ := h.slice
  go_enter Tryd.func24, Tryd.ntmps24
  go_wp2
  have hb3 : Below w.heap.size w (((w.alloc (.cells #[.int .i64 regs, .slice ao P.length c] 49)).alloc (.cells #[.int .i64 0, .slice none 0 0] 53)).alloc (.cells #[.int .i64 regs, .slice none 0 0] 53)) :=
    (((Below.refl _ _).alloc (Nat.le_refl _) _).alloc (by simp) _).alloc (by simp only [nblk_alloc]; omega) _
  have h3 := h.mono hb3
  obtain ⟨w3, hw3, hs3, hx, hy, hz⟩ : ∃ w3, ((w.alloc (.cells #[.int .i64 regs, .slice ao P.length c] 49)).alloc (.cells #[.int .i64 0, .slice none 0 0] 53)).alloc (.cells #[.int .i64 regs, .slice none 0 0] 53) = w3 ∧ w3.heap.size = w.heap.size + 3 ∧
      w3.heap[w.heap.size]? = some (.cells #[.int .i64 regs, .slice ao P.length c] 49 (0, 0)) ∧ w3.heap[w.heap.size + 1]? = some (.cells #[.int .i64 0, .slice none 0 0] 53 (0, 0)) ∧ w3.heap[w.heap.size + 1 + 1]? = some (.cells #[.int .i64 regs, .slice none 0 0] 53 (0, 0)) :=
    ⟨_, rfl, alloc3 w _ _ _⟩
  rw [hw3] at hb3 h3 ⊢
  clear hw3
  obtain ⟨x0, x1, _, _⟩ := obj_cells hx
  go_loopw [4] (fun iv wr => PgR w3 (w.heap.size + 1 + 1) regs P iv wr) (fun iv _ => P.length - (intOf iv).toNat)
  case atStart => exact ⟨0, _, Nat.zero_le _, rfl, hz, World.ownsRow_nil _ _ _ _, World.grownBy.refl _ _⟩
  case round =>
    rename World => wo
    obtain ⟨k, vv, hk, rfl, hob, hown, hgr⟩ := hrel
    obtain ⟨o0, o1, f1, f0⟩ := obj_cells hob
    have hso := hgr.size
    have hxo := (hgr.block w.heap.size (by omega) (by simp; omega)).trans hx
    obtain ⟨y0, y1, _, _⟩ := obj_cells hxo
    have hbo : Below w.heap.size w wo := ⟨hgr.os.trans hb3.os, hgr.tape.trans hb3.tape, hgr.output.trans hb3.output, by omega, fun j hj => (hgr.block j (by omega) (by simp; omega)).trans (hb3.block j hj)⟩
    have hyo := (hgr.block (w.heap.size + 1) (by omega) (by simp)).trans hy
    by_cases hlt : k < P.length
    · rcases (h.mono hbo).cases with ⟨rfl, _⟩ | ⟨b, off, c', e, _, hc⟩
      · simp at hlt
      simp at e
      obtain ⟨rfl, rfl⟩ := e
      obtain ⟨c0, c1, c2, c3⟩ := hc k hlt
      have hk5 : k < 5000 := by omega
      have hkb : P[k].k < 256 := hP _ (List.getElem_mem hlt)
      have al : (wo.alloc (.cells #[.int .u8 P[k].k, .int .i64 P[k].a, .int .i64 P[k].b, .int .u8 P[k].c] 92)).heap[w.heap.size + 1 + 1]? = some (.cells #[.int .i64 regs, vv] 53 (0, 0)) := by rw [heap_old _ _ _ (by omega)]; exact hob
      obtain ⟨a0, a1, _, _⟩ := obj_cells al
      have HC := hide hc
      have HTK := hide (List.take_succ_eq_append_getElem hlt)
      have HOB := hide hob
      have HG := hide hgr
      have HOW := hide (ownsRow_below (ownsRow_below hown ((Below.refl _ _).alloc (Nat.le_refl _) (.cells #[.int .u8 P[k].k, .int .i64 P[k].a, .int .i64 P[k].b, .int .u8 P[k].c] 92))) ((Below.refl _ _).alloc (Nat.le_refl _) (.cells #[.int .i64 P[k].k, .int .i64 P[k].a, .int .i64 P[k].b, .int .u8 P[k].c] 94)))
      have HLT := hide hown.lt
      clear hc hob hgr hown h h3 hb3 hP hx hy hz hbo hyo
      go_wp2_with (at_builtin; refine wpList_append_own _ rfl (.tmp 26) (.tmp 37) 51 rfl w3.heap.size 94 i0 (.agg #[.int .i64 0, .int .i64 0, .int .i64 0, .int .u8 0]) 4 32 Tryd.underlying51 hi0 hz0 hz1 hz2 rfl (by decide) vv k (stcs .i64 (P.take k)) rfl HOW.out ⟨wo.heap.size + 1, 0, none⟩ 1 1 (stc .i64 P[k]) rfl rfl (four_new _ _ (by simp) _ _ _ _ _) (by intro q hq; simp [stc] at hq; rcases hq with rfl | rfl | rfl | rfl <;> rfl) (by unfold maxLen; omega) (by omega) (by simp only [nblk_alloc]; omega) ?_; intro v' w2 hown' hgrow hnn
                   have hob2 : w2.heap[w.heap.size + 1 + 1]? = some (.cells #[.int .i64 regs, vv] 53 (0, 0)) := by
                     rw [hgrow.block _ (by simp only [nblk_alloc]; omega) (fun e => by have := (HLT.out _ e.symm).1; omega), heap_old _ _ _ (by simp only [nblk_alloc]; omega), heap_old _ _ _ (by omega)]; exact HOB.out
                   obtain ⟨_, s1, s2, _⟩ := obj_cells hob2
                   obtain ⟨g', cap', rfl, hg1⟩ : ∃ g' cap', v' = .slice (some ⟨g', 0, none⟩) (k + 1) cap' ∧ w3.heap.size ≤ g' := by
                     rcases hown'.2 with ⟨_, h0⟩ | ⟨g, cap, cur, hv, hb, _⟩
                     · omega
                     · exact ⟨g, cap, hv, hb⟩
                   have HO2 := hide hown'
                   have HG2 := hide hgrow
                   have HB2 := hide hob2
                   clear hown' hgrow hnn hob2)
      have hset : w2.grownBy (w2.setCell ⟨w.heap.size + 1 + 1, 1, none⟩ (.slice (some ⟨g', 0, none⟩) (k + 1) cap')) (some (w.heap.size + 1 + 1)) := grown_set' _ _ _ _
      have hR := hide (show PgR w3 (w.heap.size + 1 + 1) regs P (.int .i64 ((k + 1 : Nat) : Int)) (w2.setCell ⟨w.heap.size + 1 + 1, 1, none⟩ (.slice (some ⟨g', 0, none⟩) (k + 1) cap')) from by
        refine ⟨k + 1, .slice (some ⟨g', 0, none⟩) (k + 1) cap', by omega, rfl, ?_, ?_, ?_⟩
        · simp [World.setCell, Array.getElem?_modify, HB2.out]
        · rw [HTK.out, stcs_append]
          simp only [stcs, List.append_nil]
          exact HO2.out.kept hset (.inr (by simp [Value.ownBlock]; omega))
        · have h1 := grown_alloc (grown_alloc HG.out (.cells #[.int .u8 P[k].k, .int .i64 P[k].a, .int .i64 P[k].b, .int .u8 P[k].c] 92)) (.cells #[.int .i64 P[k].k, .int .i64 P[k].a, .int .i64 P[k].b, .int .u8 P[k].c] 94)
          have h2 := grown_own h1 HG2.out (fun q hq => (HLT.out q hq).1)
          exact ⟨hset.os.trans h2.os, hset.tape.trans h2.tape, hset.output.trans h2.output, Nat.le_trans h2.size hset.size, fun q hq hne => (hset.block q (Nat.lt_of_lt_of_le hq h2.size) hne).trans (h2.block q hq hne)⟩)
      clear HO2 HG2 HB2 HG HOB HOW HLT hset s1 s2 c0 c1 c2 c3 a0 a1 al o0 o1 f1 f0 y0 y1 hxo
      go_wp2
      go_roundw
      case rel => exact hR.out
      case measure => simp [intOf]; omega
    · have hkk : k = P.length := by omega
      subst hkk
      rw [List.take_length] at hown
      obtain ⟨r0, r1, r2, r3⟩ := obj_cells hyo
      obtain ⟨ao', c', rfl⟩ := (owns_ps hown (by omega)).slice
      have hne : (Value.slice ao' P.length c').ownBlock ≠ some (w.heap.size + 1) := fun e => by have := (hown.lt _ e).1; omega
      have HP := hide (owns_ps ((hown.kept (grown_set' wo (w.heap.size + 1) 0 (.int .i64 regs)) (.inr hne)).kept (grown_set' _ (w.heap.size + 1) 1 (.slice ao' P.length c')) (.inr hne)) (by omega))
      clear hne
      have hgb : Below w.heap.size w ((wo.setCell ⟨w.heap.size + 1, 0, none⟩ (.int .i64 regs)).setCell ⟨w.heap.size + 1, 1, none⟩ (.slice ao' P.length c')) := (hbo.setCell (by simp) _).setCell (by simp) _
      clear hown hgr h3 hb3 hP hx hy hz
      go_wp2
      exact bodyPost_ret (v := .agg #[.int .i64 regs, .slice ao' P.length c']) (by simp [results, Tryd.results24, go_sem, r0, r1]) rfl ⟨_, rfl, HP.out, hgb⟩
end Go.Proofs.YthhommjlomphdaaDoor
/-
  The program that is written: its steps in memory, and one more.
-/
namespace Go.Proofs.YthhommjlomphdaaDoor
open Go.RowKit Go.Shelf Go.Deep Gf

/-- a program in a block of its own, its steps in another, from n0 on -/
def PB (W : World) (n0 Bg : Nat) (regs : Int) (L : List St) : Prop :=
  Bg < n0 ∧ n0 ≤ W.heap.size ∧ ∃ v, W.heap[Bg]? = some (.cells #[.int .i64 regs, v] 49 (0, 0)) ∧ W.ownsRow n0 92 4 v L.length (stcs .u8 L)
theorem Tryd.infoStepW : (Tryd.prog.info? 92).map (fun i => (i.zero, i.size, i.bytes)) = some (some (.agg #[.int .u8 0, .int .i64 0, .int .i64 0, .int .u8 0]), 4, 32) := by kernel_rfl
theorem in_push {F : Fence} {n : Nat} {w : World} {ops : Array Oper} {rest : List Oper} {o : Oper} {a : Act} {Q : Exit → Act → World → Prop} (hg : o.guard = none) (x y : Operand) (ho : o.op = .call { callee := .builtin .append, args := #[x, y], argTypes := #[47, 47] })
    (n0 q : Nat) (L : List St) (s : St) (v : Value) (hx : a.eval x = v) (hy : a.eval y = .slice (some ⟨q, 0, none⟩) 1 1) (hown : w.ownsRow n0 92 4 v L.length (stcs .u8 L)) (hc : ∀ j u, (stc .u8 s)[j]? = some u → w.cell? ((⟨q, 0, none⟩ : Addr).add j) = some u) (hn0 : n0 ≤ w.heap.size) (hL : L.length ≤ 100000)
    (hK : ∀ g' cap' w2, n0 ≤ g' → w2.ownsRow n0 92 4 (.slice (some ⟨g', 0, none⟩) (L.length + 1) cap') (L.length + 1) (stcs .u8 (L ++ [s])) → w.grownBy w2 v.ownBlock → wpListIn F n Tryd.prog ops Q rest (a.put o.dst (.slice (some ⟨g', 0, none⟩) (L.length + 1) cap')) w2) : wpListIn F n Tryd.prog ops Q (o :: rest) a w := by
  obtain ⟨i0, hi0, hz0, hz1, hz2⟩ := info_parts Tryd.infoStepW
  refine wpListIn_append_own w hg x y 47 ho n0 92 i0 (.agg #[.int .u8 0, .int .i64 0, .int .i64 0, .int .u8 0]) 4 32 Tryd.underlying47 hi0 hz0 hz1 hz2 rfl (by decide) v L.length (stcs .u8 L) hx hown ⟨q, 0, none⟩ 1 1 (stc .u8 s) hy (by simp [stc]) hc (fun u hu => by simp [stc] at hu; rcases hu with rfl | rfl | rfl | rfl <;> rfl) (by unfold maxLen; omega) (by omega) hn0 ?_
  intro v' w2 hown' hgrow _
  obtain ⟨g', cap', rfl, hg1⟩ : ∃ g' cap', v' = .slice (some ⟨g', 0, none⟩) (L.length + 1) cap' ∧ n0 ≤ g' := by
    rcases hown'.2 with ⟨_, h0⟩ | ⟨g, cap, cur, hv, hb, _⟩
    · omega
    · exact ⟨g, cap, hv, hb⟩
  have e : stcs .u8 L ++ stc .u8 s = stcs .u8 (L ++ [s]) := by rw [stcs_append]; simp [stcs]
  rw [e] at hown'
  exact hK g' cap' w2 hg1 hown' hgrow
theorem own_from {w : World} {n0 k : Nat} {v : Value} {xs : List Value} {t : TypeId} (h : w.ownsRow n0 t 4 v k xs) {q : Nat} (e : v.ownBlock = some q) : n0 ≤ q := (h.lt q e).1
/-- behind the append and the store -/
theorem PB.next {W w2 : World} {n0 Bg g' cap' : Nat} {regs : Int} {L : List St} {s : St} {v : Value} {ob : Obj} (hB : Bg < n0) (hn : n0 ≤ W.heap.size) (hobj : W.heap[Bg]? = some (.cells #[.int .i64 regs, v] 49 (0, 0))) (hown : W.ownsRow n0 92 4 v L.length (stcs .u8 L))
    (hg : (W.alloc ob).grownBy w2 v.ownBlock) (hg' : n0 ≤ g') (hown' : w2.ownsRow n0 92 4 (.slice (some ⟨g', 0, none⟩) (L.length + 1) cap') (L.length + 1) (stcs .u8 (L ++ [s]))) :
    PB (w2.setCell ⟨Bg, 1, none⟩ (.slice (some ⟨g', 0, none⟩) (L.length + 1) cap')) n0 Bg regs (L ++ [s]) ∧ w2.cell? ⟨Bg, 1, none⟩ = some v ∧ w2.frozen? ⟨Bg, 1, none⟩ = false ∧
      (∀ k, k < n0 → k ≠ Bg → (w2.setCell ⟨Bg, 1, none⟩ (.slice (some ⟨g', 0, none⟩) (L.length + 1) cap')).heap[k]? = W.heap[k]?) ∧ KeepsOthers W (w2.setCell ⟨Bg, 1, none⟩ (.slice (some ⟨g', 0, none⟩) (L.length + 1) cap')) ∧
      (w2.setCell ⟨Bg, 1, none⟩ (.slice (some ⟨g', 0, none⟩) (L.length + 1) cap')).os = W.os ∧ (w2.setCell ⟨Bg, 1, none⟩ (.slice (some ⟨g', 0, none⟩) (L.length + 1) cap')).tape = W.tape ∧ (w2.setCell ⟨Bg, 1, none⟩ (.slice (some ⟨g', 0, none⟩) (L.length + 1) cap')).output = W.output := by
  have hold : ∀ k, k < n0 → w2.heap[k]? = W.heap[k]? := fun k hk => (hg.block k (by simp; omega) (fun e => by have := own_from hown e.symm; omega)).trans (heap_old W _ k (by omega))
  have hob2 := (hold Bg hB).trans hobj
  obtain ⟨_, c1, f1, _⟩ := obj_cells hob2
  have hsz : W.heap.size ≤ w2.heap.size := by have := hg.size; simp at this; omega
  have hset : (w2.setCell ⟨Bg, 1, none⟩ (.slice (some ⟨g', 0, none⟩) (L.length + 1) cap')).heap[Bg]? = some (.cells #[.int .i64 regs, .slice (some ⟨g', 0, none⟩) (L.length + 1) cap'] 49 (0, 0)) := by
    obtain ⟨hlt, hk⟩ := Array.getElem?_eq_some_iff.1 hob2
    show (w2.heap.modify Bg _)[Bg]? = _
    rw [Array.getElem?_eq_getElem (by rw [Array.size_modify]; exact hlt), Array.getElem_modify_self, hk]
    rfl
  refine ⟨⟨hB, by simp [World.setCell]; omega, _, hset, ?_⟩, c1, f1, fun k hk hne => (Below.heap_setCell _ _ _ _ hne).trans (hold k hk), ?_, hg.os, hg.tape, hg.output⟩
  · have := hown'.kept (grown_set' w2 Bg 1 (.slice (some ⟨g', 0, none⟩) (L.length + 1) cap')) (.inr (by simp [Value.ownBlock]; omega))
    simpa using this
  · refine ((KeepsOthers.alloc W ob).trans (KeepsOthers.of_grownBy hg fun j o ej hj => ?_)).trans (KeepsOthers.setCell _ _ _)
    rcases (hown.alloc ob).2 with ⟨rfl, _⟩ | ⟨g, cap, cur, rfl, _, hgb, _⟩
    · simp [Value.ownBlock] at ej
    · obtain rfl : g = j := by simpa [Value.ownBlock] using ej
      rw [hgb] at hj; cases hj; rfl
theorem PB.own {B n0 Bg : Nat} {regs : Int} {X Y : World} {row : Option Nat} {L : List St} (h : PB X n0 Bg regs L) (hn : n0 ≤ B) (hg : X.grownBy Y row) (hr : ∀ r, row = some r → B ≤ r ∧ ∃ o : Obj, X.heap[r]? = some o ∧ o.isCells = false) : PB Y n0 Bg regs L := by
  obtain ⟨h1, h2, v, h3, h4⟩ := h
  refine ⟨h1, Nat.le_trans h2 hg.size, v, (hg.block Bg (by omega) (fun e => by have := (hr Bg e.symm).1; omega)).trans h3, h4.kept hg ?_⟩
  rcases h4.2 with ⟨rfl, _⟩ | ⟨g, cap, cur, rfl, _, hgb, _⟩
  · exact .inl rfl
  · refine .inr fun e' => ?_
    obtain ⟨_, o, ho, hc⟩ := hr g (by simpa [Value.ownBlock] using e'.symm)
    rw [hgb] at ho; cases ho; cases hc

/-! ### what is written -/
/-- the steps for one shard that is kept -/
def wrOne (C : Ck) (i : Nat) : List St := if readsB C i = true then ⟨0, 0, i, 0⟩ :: ((List.range C.told).filter (fun r => decide (C.m r i ≠ 0))).map (fun r : Nat => (⟨1, 1 + (r : Int), 0, C.m r i⟩ : St)) else []
def wrTo (C : Ck) (pre : List Nat) : List St := (pre.map (wrOne C)).flatten
theorem wrTo_snoc (C : Ck) (pre : List Nat) (i : Nat) : wrTo C (pre ++ [i]) = wrTo C pre ++ wrOne C i := by unfold wrTo; simp
/-- the steps for r checks of one shard -/
def wrAdd (C : Ck) (i k : Nat) : List St := ((List.range k).filter (fun r => decide (C.m r i ≠ 0))).map (fun r : Nat => (⟨1, 1 + (r : Int), 0, C.m r i⟩ : St))
theorem wrAdd_zero (C : Ck) (i : Nat) : wrAdd C i 0 = [] := rfl
theorem wrAdd_in (C : Ck) (i k : Nat) (h : C.m k i ≠ 0) : wrAdd C i (k + 1) = wrAdd C i k ++ [⟨1, 1 + (k : Int), 0, C.m k i⟩] := by unfold wrAdd; rw [List.range_succ]; simp [h]
theorem wrAdd_out (C : Ck) (i k : Nat) (h : C.m k i = 0) : wrAdd C i (k + 1) = wrAdd C i k := by unfold wrAdd; rw [List.range_succ]; simp [h]
theorem wrAdd_le (C : Ck) (i k : Nat) : (wrAdd C i k).length ≤ k := by
  unfold wrAdd; rw [List.length_map]; exact Nat.le_trans (List.length_filter_le _ _) (by simp)
theorem wrOne_yes {C : Ck} {i : Nat} (h : readsB C i = true) : wrOne C i = ⟨0, 0, i, 0⟩ :: wrAdd C i C.told := by unfold wrOne wrAdd; rw [if_pos h]
theorem wrOne_no {C : Ck} {i : Nat} (h : readsB C i = false) : wrOne C i = [] := by unfold wrOne; simp [h]
theorem wrOne_le (C : Ck) (i : Nat) : (wrOne C i).length ≤ C.told + 1 := by
  cases h : readsB C i
  · rw [wrOne_no h]; simp
  · rw [wrOne_yes h]; have := wrAdd_le C i C.told; simp; omega
theorem wrTo_le (C : Ck) : ∀ pre : List Nat, (wrTo C pre).length ≤ pre.length * (C.told + 1)
  | [] => by simp [wrTo]
  | i :: pre => by
    have h1 := wrTo_le C pre
    have h2 := wrOne_le C i
    have e : wrTo C (i :: pre) = wrOne C i ++ wrTo C pre := by unfold wrTo; simp
    rw [e, List.length_append, List.length_cons, Nat.succ_mul]
    omega
/-- the lost ones are put out -/
def wrPut (pre : List Nat) : List St := (List.range pre.length).map (fun k : Nat => (⟨2, (k : Int) + 1, ((pre.getD k 0 : Nat) : Int), 0⟩ : St))
theorem wrPut_snoc (pre : List Nat) (i : Nat) : wrPut (pre ++ [i]) = wrPut pre ++ [⟨2, (pre.length : Int) + 1, i, 0⟩] := by
  unfold wrPut
  rw [List.length_append, List.length_singleton, List.range_succ, List.map_append]
  congr 1
  · apply List.map_congr_left
    intro k hk
    have := List.mem_range.1 hk
    simp [this, List.getElem?_append_left]
  · simp
/-- all steps -/
def wrAll (C : Ck) (gone kept : Nat) : List St := wrTo C (mems kept) ++ wrPut (mems gone)
end Go.Proofs.YthhommjlomphdaaDoor
