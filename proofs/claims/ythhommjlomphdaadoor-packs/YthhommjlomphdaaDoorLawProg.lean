/-
  The law's word for a program: as the document's answer has it.
-/
import Derived.Test.YthhommjlomphdaaDoorCheck
import Derived.Deep.WholeRow
namespace Go.Proofs.YthhommjlomphdaaDoor
open Go.RowKit Go.Deep

/-- the cells of steps, one behind the other -/
def stcs (kk : IntKind) : List St → List Value
  | [] => []
  | s :: P => stc kk s ++ stcs kk P
theorem stcs_len (kk : IntKind) : ∀ P, (stcs kk P).length = P.length * 4
  | [] => rfl
  | s :: P => by simp [stcs, stc, stcs_len kk P]; omega
theorem stcs_append (kk : IntKind) : ∀ P Q, stcs kk (P ++ Q) = stcs kk P ++ stcs kk Q
  | [], _ => rfl
  | s :: P, Q => by simp [stcs, stcs_append kk P Q]
theorem stcs_at (kk : IntKind) : ∀ (P : List St) (i : Nat) (hi : i < P.length) (j : Nat), j < 4 → (stcs kk P)[i * 4 + j]? = (stc kk P[i])[j]?
  | s :: P, 0, _, j, hj => by
    simp only [stcs, Nat.zero_mul, Nat.zero_add, List.getElem_cons_zero]
    rw [List.getElem?_append_left (by simpa [stc] using hj)]
  | s :: P, i + 1, hi, j, hj => by
    have e : (i + 1) * 4 + j = (stc kk s).length + (i * 4 + j) := by simp [stc]; omega
    simp only [stcs, List.getElem_cons_succ]
    rw [e, List.getElem?_append_right (Nat.le_add_right _ _), Nat.add_sub_cancel_left]
    exact stcs_at kk P i (by simpa using hi) j hj
theorem four_new (w : World) (n : Nat) (hn : n = w.heap.size) (x y z u : Value) (t : TypeId) : ∀ j v, [x, y, z, u][j]? = some v → (w.alloc (.cells #[x, y, z, u] t)).cell? ((⟨n, 0, none⟩ : Addr).add j) = some v := by
  subst hn
  intro j v hv
  rw [add0]
  rcases j with _ | _ | _ | _ | j
  all_goals simp at hv
  all_goals subst hv; simp
/-- steps that a call made -/
theorem owns_ps {kk : IntKind} {w : World} {base : Nat} {e : TypeId} {v : Value} {P : List St} (h : w.ownsRow base e 4 v P.length (stcs kk P)) (hl : P.length ≤ 4398046511104) : Ps kk w v P := by
  rcases h.2 with ⟨h0, h1⟩ | ⟨g, cap, cur, e1, e2, e3, e4, e5, e6, e7⟩
  · have : P = [] := List.eq_nil_of_length_eq_zero h1
    subst this
    exact ⟨none, 0, h0, by simp, fun h => absurd rfl h⟩
  · subst e1
    refine ⟨some ⟨g, 0, none⟩, cap, rfl, hl, fun _ => ⟨g, 0, rfl, fun i hi => ?_⟩⟩
    have at' : ∀ j, j < 4 → w.cell? ⟨g, 0 + i * 4 + j, none⟩ = (stc kk P[i])[j]? := fun j hj => by
      rw [Nat.zero_add, h.cellAt (i * 4 + j) (by omega), stcs_at kk P i hi j hj]
    exact ⟨at' 0 (by decide), at' 1 (by decide), at' 2 (by decide), at' 3 (by decide)⟩
theorem grown_own {w0 w w2 : World} {v : Value} {ob : Nat} (h : w0.grownBy w (some ob)) (hg : w.grownBy w2 v.ownBlock) (hown : ∀ k, v.ownBlock = some k → w0.heap.size ≤ k) : w0.grownBy w2 (some ob) :=
  ⟨hg.os.trans h.os, hg.tape.trans h.tape, hg.output.trans h.output, Nat.le_trans h.size hg.size, fun k hk hne => by
    rw [hg.block k (Nat.lt_of_lt_of_le hk h.size) (fun e => by have := hown k e.symm; omega)]; exact h.block k hk hne⟩
theorem grown_alloc {w0 w : World} {ob : Option Nat} (h : w0.grownBy w ob) (o : Obj) : w0.grownBy (w.alloc o) ob :=
  ⟨h.os, h.tape, h.output, by rw [nblk_alloc]; have := h.size; omega, fun k hk hne => by rw [← h.block k hk hne]; exact ((Below.refl w.heap.size w).alloc (Nat.le_refl _) o).block k (Nat.lt_of_lt_of_le hk h.size)⟩
theorem grown_set' (w : World) (b i : Nat) (v : Value) : w.grownBy (w.setCell ⟨b, i, none⟩ v) (some b) :=
  ⟨rfl, rfl, rfl, by simp, fun k _ hne => by
    have : b ≠ k := fun e => hne (by rw [e])
    simp [World.setCell, Array.getElem?_modify, this]⟩
theorem Tryd.infoRstep : (Tryd.prog.info? 94).map (fun i => (i.zero, i.size, i.bytes)) = some (some (.agg #[.int .i64 0, .int .i64 0, .int .i64 0, .int .u8 0]), 4, 32) := by kernel_rfl
theorem heap_old (w : World) (o : Obj) (k : Nat) (h : k < w.heap.size) : (w.alloc o).heap[k]? = w.heap[k]? := ((Below.refl w.heap.size w).alloc (Nat.le_refl _) o).block k h
theorem alloc3 (w : World) (a b c : Obj) : (((w.alloc a).alloc b).alloc c).heap.size = w.heap.size + 3 ∧ (((w.alloc a).alloc b).alloc c).heap[w.heap.size]? = some a ∧ (((w.alloc a).alloc b).alloc c).heap[w.heap.size + 1]? = some b ∧ (((w.alloc a).alloc b).alloc c).heap[w.heap.size + 1 + 1]? = some c := by
  have n1 := nblk_alloc w a
  have n2 := nblk_alloc (w.alloc a) b
  have n3 := nblk_alloc ((w.alloc a).alloc b) c
  refine ⟨by omega, ?_, ?_, ?_⟩
  · rw [heap_old _ _ _ (by omega), heap_old _ _ _ (by omega)]; exact heap_alloc_last w a
  · rw [heap_old _ _ _ (by omega), ← n1]; exact heap_alloc_last _ b
  · rw [← n1, ← n2]; exact heap_alloc_last _ c
/-- at each round's head -/
def PgR (w3 : World) (ob : Nat) (regs : Int) (P : List St) (iv : Value) (wr : World) : Prop :=
  ∃ (k : Nat) (v : Value), k ≤ P.length ∧ iv = .int .i64 k ∧ wr.heap[ob]? = some (.cells #[.int .i64 regs, v] 53 (0, 0)) ∧ wr.ownsRow w3.heap.size 94 4 v k (stcs .i64 (P.take k)) ∧ w3.grownBy wr (some ob)
theorem obj_cells {w : World} {ob : Nat} {x y : Value} {t : TypeId} (h : w.heap[ob]? = some (.cells #[x, y] t (0, 0))) : w.cell? ⟨ob, 0, none⟩ = some x ∧ w.cell? ⟨ob, 1, none⟩ = some y ∧ w.frozen? ⟨ob, 1, none⟩ = false ∧ w.frozen? ⟨ob, 0, none⟩ = false := by
  simp [World.cell?, World.frozen?, h]
def PgPost (regs : Int) (P : List St) (w : World) (r : Ending) (w' : World) : Prop := ∃ v, r = .returned (.agg #[.int .i64 regs, v]) ∧ Ps .i64 w' v P ∧ Below w.heap.size w w'
set_option maxRecDepth 100000 in
set_option maxHeartbeats 2000000 in
theorem program_any (regs : Int) (v : Value) (P : List St) (w : World) (h : Ps .u8 w v P) (hl : P.length ≤ 5000) (hP : ∀ s ∈ P, s.k < 256) :
    Calls Tryd.prog 24 #[.agg #[.int .i64 regs, v]] w fun r w' => PgPost regs P w r w' := by
  obtain ⟨i0, hi0, hz0, hz1, hz2⟩ := info_parts Tryd.infoRstep
  obtain ⟨ao, c, rfl⟩ := h.slice
  go_enter Tryd.func24, Tryd.ntmps24
  go_wp2
  have hb3 : Below w.heap.size w (((w.alloc (.cells #[.int .i64 regs, .slice ao P.length c] 49)).alloc (.cells #[.int .i64 0, .slice none 0 0] 53)).alloc (.cells #[.int .i64 regs, .slice none 0 0] 53)) :=
    (((Below.refl _ _).alloc (Nat.le_refl _) _).alloc (by simp) _).alloc (by simp only [nblk_alloc]; omega) _
  have h3 := h.mono hb3
  obtain ⟨w3, hw3, hs3, hx, hy, hz⟩ : ∃ w3, ((w.alloc (.cells #[.int .i64 regs, .slice ao P.length c] 49)).alloc (.cells #[.int .i64 0, .slice none 0 0] 53)).alloc (.cells #[.int .i64 regs, .slice none 0 0] 53) = w3 ∧ w3.heap.size = w.heap.size + 3 ∧
      w3.heap[w.heap.size]? = some (.cells #[.int .i64 regs, .slice ao P.length c] 49 (0, 0)) ∧ w3.heap[w.heap.size + 1]? = some (.cells #[.int .i64 0, .slice none 0 0] 53 (0, 0)) ∧ w3.heap[w.heap.size + 1 + 1]? = some (.cells #[.int .i64 regs, .slice none 0 0] 53 (0, 0)) :=
    ⟨_, rfl, alloc3 w _ _ _⟩
  rw [hw3] at hb3 h3 ⊢
  clear hw3
  obtain ⟨x0, x1, _, _⟩ := obj_cells hx
  go_loopw [4] (fun iv wr => PgR w3 (w.heap.size + 1 + 1) regs P iv wr) (fun iv _ => P.length - (intOf iv).toNat)
  case atStart => exact ⟨0, _, Nat.zero_le _, rfl, hz, World.ownsRow_nil _ _ _ _, World.grownBy.refl _ _⟩
  case round =>
    rename World => wo
    obtain ⟨k, vv, hk, rfl, hob, hown, hgr⟩ := hrel
    obtain ⟨o0, o1, f1, f0⟩ := obj_cells hob
    have hso := hgr.size
    have hxo := (hgr.block w.heap.size (by omega) (by simp; omega)).trans hx
    obtain ⟨y0, y1, _, _⟩ := obj_cells hxo
    have hbo : Below w.heap.size w wo := ⟨hgr.os.trans hb3.os, hgr.tape.trans hb3.tape, hgr.output.trans hb3.output, by omega, fun j hj => (hgr.block j (by omega) (by simp; omega)).trans (hb3.block j hj)⟩
    have hyo := (hgr.block (w.heap.size + 1) (by omega) (by simp)).trans hy
    by_cases hlt : k < P.length
    · rcases (h.mono hbo).cases with ⟨rfl, _⟩ | ⟨b, off, c', e, _, hc⟩
      · simp at hlt
      simp at e
      obtain ⟨rfl, rfl⟩ := e
      obtain ⟨c0, c1, c2, c3⟩ := hc k hlt
      have hk5 : k < 5000 := by omega
      have hkb : P[k].k < 256 := hP _ (List.getElem_mem hlt)
      have al : (wo.alloc (.cells #[.int .u8 P[k].k, .int .i64 P[k].a, .int .i64 P[k].b, .int .u8 P[k].c] 92)).heap[w.heap.size + 1 + 1]? = some (.cells #[.int .i64 regs, vv] 53 (0, 0)) := by rw [heap_old _ _ _ (by omega)]; exact hob
      obtain ⟨a0, a1, _, _⟩ := obj_cells al
      have HC := hide hc
      have HTK := hide (List.take_succ_eq_append_getElem hlt)
      have HOB := hide hob
      have HG := hide hgr
      have HOW := hide (ownsRow_below (ownsRow_below hown ((Below.refl _ _).alloc (Nat.le_refl _) (.cells #[.int .u8 P[k].k, .int .i64 P[k].a, .int .i64 P[k].b, .int .u8 P[k].c] 92))) ((Below.refl _ _).alloc (Nat.le_refl _) (.cells #[.int .i64 P[k].k, .int .i64 P[k].a, .int .i64 P[k].b, .int .u8 P[k].c] 94)))
      have HLT := hide hown.lt
      clear hc hob hgr hown h h3 hb3 hP hx hy hz hbo hyo
      go_wp2_with (at_builtin; refine wpList_append_own _ rfl (.tmp 26) (.tmp 37) 51 rfl w3.heap.size 94 i0 (.agg #[.int .i64 0, .int .i64 0, .int .i64 0, .int .u8 0]) 4 32 Tryd.underlying51 hi0 hz0 hz1 hz2 rfl (by decide) vv k (stcs .i64 (P.take k)) rfl HOW.out ⟨wo.heap.size + 1, 0, none⟩ 1 1 (stc .i64 P[k]) rfl rfl (four_new _ _ (by simp) _ _ _ _ _) (by intro q hq; simp [stc] at hq; rcases hq with rfl | rfl | rfl | rfl <;> rfl) (by unfold maxLen; omega) (by omega) (by simp only [nblk_alloc]; omega) ?_; intro v' w2 hown' hgrow hnn
                   have hob2 : w2.heap[w.heap.size + 1 + 1]? = some (.cells #[.int .i64 regs, vv] 53 (0, 0)) := by
                     rw [hgrow.block _ (by simp only [nblk_alloc]; omega) (fun e => by have := (HLT.out _ e.symm).1; omega), heap_old _ _ _ (by simp only [nblk_alloc]; omega), heap_old _ _ _ (by omega)]; exact HOB.out
                   obtain ⟨_, s1, s2, _⟩ := obj_cells hob2
                   obtain ⟨g', cap', rfl, hg1⟩ : ∃ g' cap', v' = .slice (some ⟨g', 0, none⟩) (k + 1) cap' ∧ w3.heap.size ≤ g' := by
                     rcases hown'.2 with ⟨_, h0⟩ | ⟨g, cap, cur, hv, hb, _⟩
                     · omega
                     · exact ⟨g, cap, hv, hb⟩
                   have HO2 := hide hown'
                   have HG2 := hide hgrow
                   have HB2 := hide hob2
                   clear hown' hgrow hnn hob2)
      have hset : w2.grownBy (w2.setCell ⟨w.heap.size + 1 + 1, 1, none⟩ (.slice (some ⟨g', 0, none⟩) (k + 1) cap')) (some (w.heap.size + 1 + 1)) := grown_set' _ _ _ _
      have hR := hide (show PgR w3 (w.heap.size + 1 + 1) regs P (.int .i64 ((k + 1 : Nat) : Int)) (w2.setCell ⟨w.heap.size + 1 + 1, 1, none⟩ (.slice (some ⟨g', 0, none⟩) (k + 1) cap')) from by
        refine ⟨k + 1, .slice (some ⟨g', 0, none⟩) (k + 1) cap', by omega, rfl, ?_, ?_, ?_⟩
        · simp [World.setCell, Array.getElem?_modify, HB2.out]
        · rw [HTK.out, stcs_append]
          simp only [stcs, List.append_nil]
          exact HO2.out.kept hset (.inr (by simp [Value.ownBlock]; omega))
        · have h1 := grown_alloc (grown_alloc HG.out (.cells #[.int .u8 P[k].k, .int .i64 P[k].a, .int .i64 P[k].b, .int .u8 P[k].c] 92)) (.cells #[.int .i64 P[k].k, .int .i64 P[k].a, .int .i64 P[k].b, .int .u8 P[k].c] 94)
          have h2 := grown_own h1 HG2.out (fun q hq => (HLT.out q hq).1)
          exact ⟨hset.os.trans h2.os, hset.tape.trans h2.tape, hset.output.trans h2.output, Nat.le_trans h2.size hset.size, fun q hq hne => (hset.block q (Nat.lt_of_lt_of_le hq h2.size) hne).trans (h2.block q hq hne)⟩)
      clear HO2 HG2 HB2 HG HOB HOW HLT hset s1 s2 c0 c1 c2 c3 a0 a1 al o0 o1 f1 f0 y0 y1 hxo
      go_wp2
      go_roundw
      case rel => exact hR.out
      case measure => simp [intOf]; omega
    · have hkk : k = P.length := by omega
      subst hkk
      rw [List.take_length] at hown
      obtain ⟨r0, r1, r2, r3⟩ := obj_cells hyo
      obtain ⟨ao', c', rfl⟩ := (owns_ps hown (by omega)).slice
      have hne : (Value.slice ao' P.length c').ownBlock ≠ some (w.heap.size + 1) := fun e => by have := (hown.lt _ e).1; omega
      have HP := hide (owns_ps ((hown.kept (grown_set' wo (w.heap.size + 1) 0 (.int .i64 regs)) (.inr hne)).kept (grown_set' _ (w.heap.size + 1) 1 (.slice ao' P.length c')) (.inr hne)) (by omega))
      clear hne
      have hgb : Below w.heap.size w ((wo.setCell ⟨w.heap.size + 1, 0, none⟩ (.int .i64 regs)).setCell ⟨w.heap.size + 1, 1, none⟩ (.slice ao' P.length c')) := (hbo.setCell (by simp) _).setCell (by simp) _
      clear hown hgr h3 hb3 hP hx hy hz
      go_wp2
      exact bodyPost_ret (v := .agg #[.int .i64 regs, .slice ao' P.length c']) (by simp [results, Tryd.results24, go_sem, r0, r1]) rfl ⟨_, rfl, HP.out, hgb⟩
end Go.Proofs.YthhommjlomphdaaDoor
