import Derived.Test.YtpaemkanfnddoaaGreatDoorM28
set_option maxRecDepth 100000
set_option maxHeartbeats 8000000
namespace Go.Proofs.YtpaemkanfnddoaaGreatDoor
open Go.RowKit Go.Deep
variable {a : Act} {ops : Array Oper} {Q : Exit → Act → World → Prop} {rest : List Oper} {g N D L G t f n ar v p ps ho : Nat} {R : Nat → Option Rec} {o : Oper} {w : World}
theorem pow64 {k : Nat} (h : k < 64) : 2 ^ k < 18446744073709551616 := Nat.lt_of_lt_of_le (Nat.pow_lt_pow_right (by decide) h) (Nat.le_refl _)
theorem with_any (x k : Nat) (hx : x < 18446744073709551616) (hk : k ≤ 60) (w : World) : Calls Tryz.prog 115 #[.int .u64 x, .int .i64 k] w fun e w' => e = .returned (.int .u64 ((x ||| 2 ^ k : Nat) : Int)) ∧ w' = w := by
 have key : bits .or .u64 (x : Int) (IntKind.u64.wrap (2 ^ k)) = ((x ||| 2 ^ k : Nat) : Int) := by
  have h1 := pow64 (k := k) (by omega)
  have e : ((2 : Int) ^ k) = ((2 ^ k : Nat) : Int) := by rw [Int.natCast_pow]; rfl
  have e2 : IntKind.u64.wrap (2 ^ k) = ((2 ^ k : Nat) : Int) := by
   rw [e, IntKind.wrap_u64]
   generalize 2 ^ k = q at *
   omega
  rw [e2]
  exact bits_or_u64_nat x (2 ^ k) hx h1
 go_enter Tryz.func115, Tryz.ntmps115
 go_wp2
 go_ret
 exact ⟨rfl, rfl⟩
structure Rt where
 D : Nat
 L : Nat
 G : Nat
 t : Nat
 f : Nat
 n : Nat
def rtA (x : Rt) : Array Value := rootA x.D x.L x.G x.t x.f x.n
def recO : Option Rec → Value
 | none => .nilIface
 | some r => recV r
def svStep (x : Rt) : Option Rec → Rt
 | some (.root D L G t f n) => if x.t < t then ⟨D, L, G, t, f, n⟩ else x
 | _ => x
def svLast (R : Nat → Option Rec) : Nat → Rt
 | 0 => ⟨0, 0, 0, 0, 0, 0⟩
 | k + 1 => svStep (svLast R k) (R k)
def svOr (x k : Nat) : Option Rec → Nat
 | some .blank => x ||| 2 ^ k
 | _ => x
def svBlank (R : Nat → Option Rec) : Nat → Nat
 | 0 => 0
 | k + 1 => svOr (svBlank R k) k (R k)
theorem svBlank_lt (R : Nat → Option Rec) : ∀ k, k ≤ 60 → svBlank R k < 2 ^ k
 | 0, _ => by simp [svBlank]
 | k + 1, h => by
  have ih := svBlank_lt R k (by omega)
  have h2 : 2 ^ k < 2 ^ (k + 1) := Nat.pow_lt_pow_right (by decide) (by omega)
  show svOr (svBlank R k) k (R k) < 2 ^ (k + 1)
  unfold svOr
  split
  · exact Nat.or_lt_two_pow (by omega) h2
  · omega
theorem rt_store (hg : o.guard = none) (x y : Operand) (ho : o.op = .store 107 x y) {b D L G t f n : Nat} {cs : Array Value}
 (hx : a.eval x = .pointer (some ⟨b, 0, none⟩)) (hy : a.eval y = .agg (rootA D L G t f n)) (hb : w.heap[b]? = some (.cells cs 107 (0, 0))) (hc : cs.size = 6) (h : wpList Tryz.prog ops Q rest (a.put o.dst undef) (w.setRow b (rootA D L G t f n))) : wpList Tryz.prog ops Q (o :: rest) a w := by
 refine wpList_plain hg fun K hK => ?_
 unfold Oper.wp
 simp [execOp, ho, hx, hy, root_store hb hc, Result.andThen]
 exact hK _ _ h
theorem ta_root (v : Value) (w : World) : (Instr.typeAssert (.iface 107 v) 202 107 true).run Tryz.prog w = .ok (.tuple #[v, .bool true]) w := by
 simp [Instr.typeAssert, run_underlying Tryz.underlying107]
theorem ta_root_not (t : TypeId) (h : t ≠ 107) (v : Value) (w : World) : (Instr.typeAssert (.iface t v) 202 107 true).run Tryz.prog w = .ok (.tuple #[.agg (rootA 0 0 0 0 0 0), .bool false]) w := by
 simp [Instr.typeAssert, run_underlying Tryz.underlying107, h]
 rfl
theorem ta_root_nil (w : World) : (Instr.typeAssert .nilIface 202 107 true).run Tryz.prog w = .ok (.tuple #[.agg (rootA 0 0 0 0 0 0), .bool false]) w := by
 simp [Instr.typeAssert, run_underlying Tryz.underlying107]
 rfl
theorem blank_zero (w : World) : (zeroValue 218).run Tryz.prog w = .ok (.agg #[]) w := by
 obtain ⟨i0, h0, h1⟩ : ∃ i0, Tryz.prog.info? 218 = some i0 ∧ i0.zero = some (.agg #[]) := by
  have : (Tryz.prog.info? 218).map (fun i => i.zero) = some (some (.agg #[])) := by kernel_rfl
  rw [Option.map_eq_some_iff] at this
  exact this
 simp [zeroValue, typeInfo, Sem.run_bind, h0, h1]
theorem ta_blank (v : Value) (w : World) : (Instr.typeAssert (.iface 218 v) 202 218 true).run Tryz.prog w = .ok (.tuple #[v, .bool true]) w := by
 simp [Instr.typeAssert, run_underlying Tryz.underlying218]
theorem ta_blank_not (t : TypeId) (h : t ≠ 218) (v : Value) (w : World) : (Instr.typeAssert (.iface t v) 202 218 true).run Tryz.prog w = .ok (.tuple #[.agg #[], .bool false]) w := by
 simp [Instr.typeAssert, run_underlying Tryz.underlying218, h]
theorem ta_blank_nil (w : World) : (Instr.typeAssert .nilIface 202 218 true).run Tryz.prog w = .ok (.tuple #[.agg #[], .bool false]) w := by
 simp [Instr.typeAssert, run_underlying Tryz.underlying218]
def rootVar (w : World) (D L G t f n : Nat) : World := (w.alloc (.cells (rootA 0 0 0 0 0 0) 107)).setRow w.heap.size (rootA D L G t f n)
theorem rootVar_at (w : World) (D L G t f n : Nat) : (rootVar w D L G t f n).heap[w.heap.size]? = some (.cells (rootA D L G t f n) 107 (0, 0)) := setRow_heap _ _ _ _ _ _ (blk_alloc_new w (.cells (rootA 0 0 0 0 0 0) 107))
theorem rootVar_below (w : World) (D L G t f n : Nat) : Below w.heap.size w (rootVar w D L G t f n) := ((Below.refl _ w).alloc (Nat.le_refl _) _).trans ⟨rfl, rfl, rfl, by unfold rootVar; rw [size_setRow]; exact Nat.le_refl _, fun k hk => (grown_setRow' _ _ _).block k (by simp; omega) (fun q => by have := Option.some.inj q; omega)⟩
theorem rt_new (hg : o.guard = none) (x y : Operand) (ho : o.op = .store 107 x y) {D L G t f n : Nat}
 (hx : a.eval x = .pointer (some ⟨w.heap.size, 0, none⟩)) (hy : a.eval y = .agg (rootA D L G t f n)) (h : wpList Tryz.prog ops Q rest (a.put o.dst undef) (rootVar w D L G t f n)) : wpList Tryz.prog ops Q (o :: rest) a (w.alloc (.cells (rootA 0 0 0 0 0 0) 107)) :=
 rt_store hg x y ho hx hy (blk_alloc_new _ _) rfl h
def BkR (w : World) (R : Nat → Option Rec) (N : Nat) (s i : Value) (wr : World) : Prop := ∃ k : Nat, k ≤ N ∧ i = .int .i64 k ∧ s = .int .u64 (svBlank R k : Nat) ∧ Below w.heap.size w wr
theorem blanks_any (R : Nat → Option Rec) (hN : N ≤ 60) (h0 : w.rowIs g 202 N (fun i => recO (R i))) :
 Calls Tryz.prog 82 #[.slice (some ⟨g, 0, none⟩) N N] w fun e w' => e = .returned (.int .u64 (svBlank R N : Nat)) ∧ Below w.heap.size w w' := by
 have h7 := h0.lt
 have hz := blank_zero
 go_enter Tryz.func82, Tryz.ntmps82
 go_wp2_with fail
 go_loopw [2, 9] (fun s i wr => BkR w R N s i wr) (fun _ i _ => N - (intOf i).toNat)
 case atStart => exact ⟨0, Nat.zero_le _, rfl, rfl, Below.refl _ _⟩
 case round =>
  obtain ⟨k, hk, rfl, rfl, h1⟩ := hrel
  by_cases h8 : k < N
  · have h2 : wr.rowIs g 202 N (fun i => recO (R i)) := h0.of_block (h1.block g h7)
    have c := h2.cell (i := k) h8
    have hs : svBlank R (k + 1) = svOr (svBlank R k) k (R k) := rfl
    have h3 := svBlank_lt R k (by omega)
    have h6 : svBlank R k < 18446744073709551616 := Nat.lt_trans h3 (pow64 (by omega))
    have h4 := h1.size
    cases h5 : R k with
    | none =>
     have t2 := ta_blank_nil
     rw [h5] at c hs
     simp only [recO] at c
     have H := hide2 h1 hs
     clear h1 h2 hs h3 h0
     go_wp2
     refine ⟨⟨k + 1, by omega, by go_num, by rw [H.out.2]; rfl, H.out.1.alloc h4 _⟩, by simp [intOf]; omega⟩
    | some r =>
     cases r with
     | shard l =>
      have t2 := ta_blank_not 200 (by decide)
      rw [h5] at c hs
      simp only [recO, recV] at c
      have H := hide2 h1 hs
      clear h1 h2 hs h3 h0
      go_wp2
      refine ⟨⟨k + 1, by omega, by go_num, by rw [H.out.2]; rfl, H.out.1.alloc h4 _⟩, by simp [intOf]; omega⟩
     | filled =>
      have t2 := ta_blank_not 159 (by decide)
      rw [h5] at c hs
      simp only [recO, recV] at c
      have H := hide2 h1 hs
      clear h1 h2 hs h3 h0
      go_wp2
      refine ⟨⟨k + 1, by omega, by go_num, by rw [H.out.2]; rfl, H.out.1.alloc h4 _⟩, by simp [intOf]; omega⟩
     | root D L G t f n =>
      have t2 := ta_blank_not 107 (by decide)
      rw [h5] at c hs
      simp only [recO, recV] at c
      have H := hide2 h1 hs
      clear h1 h2 hs h3 h0
      go_wp2
      refine ⟨⟨k + 1, by omega, by go_num, by rw [H.out.2]; rfl, H.out.1.alloc h4 _⟩, by simp [intOf]; omega⟩
     | blank =>
      have t2 := ta_blank
      rw [h5] at c hs
      simp only [recO, recV] at c
      have H := hide2 h1 hs
      clear h1 h2 hs h3 h0
      go_wp2_with fail
      refine (with_any _ k h6 (by omega) _).mono ?_
      rintro e w2 ⟨rfl, rfl⟩
      go_wp2
      refine ⟨⟨k + 1, by omega, by go_num, by rw [H.out.2]; rfl, H.out.1.alloc h4 _⟩, by simp [intOf]; omega⟩
  · have h9 : k = N := by omega
    subst h9
    have H := hide h1
    clear h1 h0
    go_wp2
    go_ret
    exact ⟨rfl, H.out⟩
def LrR (w : World) (R : Nat → Option Rec) (N : Nat) (i : Value) (wr : World) : Prop := ∃ k : Nat, k ≤ N ∧ i = .int .i64 k ∧ wr.heap[w.heap.size]? = some (.cells (rtA (svLast R k)) 107 (0, 0)) ∧ Below w.heap.size w wr
theorem lastRoot_any (R : Nat → Option Rec) (hN : N ≤ 60) (h2 : w.rowIs g 202 N (fun i => recO (R i))) :
 Calls Tryz.prog 78 #[.slice (some ⟨g, 0, none⟩) N N] w fun e w' => e = .returned (.agg (rtA (svLast R N))) ∧ Below w.heap.size w w' := by
 have hi := h2.lt
 have h0 : (w.alloc (.cells (rootA 0 0 0 0 0 0) 107)).heap[w.heap.size]? = some (.cells (rtA (svLast R 0)) 107 (0, 0)) := blk_alloc_new _ _
 have hf : Below w.heap.size w (w.alloc (.cells (rootA 0 0 0 0 0 0) 107)) := (Below.refl _ w).alloc (Nat.le_refl _) _
 have hz := root_zero
 go_enter Tryz.func78, Tryz.ntmps78
 go_wp2_with fail
 go_loopw [9] (fun i wr => LrR w R N i wr) (fun i _ => N - (intOf i).toNat)
 case atStart => exact ⟨0, Nat.zero_le _, rfl, h0, hf⟩
 case round =>
  clear h0 hf
  obtain ⟨k, hk, rfl, hB, h3⟩ := hrel
  by_cases hj : k < N
  · have h6 : wr.rowIs g 202 N (fun i => recO (R i)) := h2.of_block (h3.block g hi)
    have c := h6.cell (i := k) hj
    have hl : svLast R (k + 1) = svStep (svLast R k) (R k) := rfl
    have hg := h3.size
    have h7 : w.heap.size < wr.heap.size := (Array.getElem?_eq_some_iff.1 hB).1
    have h4 : (rootVar wr 0 0 0 0 0 0).heap[w.heap.size]? = some (.cells (rtA (svLast R k)) 107 (0, 0)) := ((rootVar_below wr 0 0 0 0 0 0).block _ h7).trans hB
    have h1 : Below w.heap.size w (rootVar wr 0 0 0 0 0 0) := h3.trans ((rootVar_below wr 0 0 0 0 0 0).mono hg)
    cases h8 : R k with
    | none =>
     have t1 := ta_root_nil
     rw [h8] at c hl
     simp only [recO] at c
     have H := hide3 h4 h1 hl
     clear hB h3 h6 hl h2 h4 h1
     go_wp2_with (show wpList _ _ _ ({ dst := none, op := Op.store 107 (.tmp 5) (.tmp 16), type := _, pos := _, after := _, guard := _ } :: _) _ _; refine rt_new (w := wr) (D := 0) (L := 0) (G := 0) (t := 0) (f := 0) (n := 0) rfl (.tmp 5) (.tmp 16) rfl (by rfl) (by rfl) ?_)
     refine ⟨⟨k + 1, by omega, by go_num, by rw [H.out.2.2]; exact H.out.1, H.out.2.1⟩, by simp [intOf]; omega⟩
    | some r =>
     cases r with
     | shard l =>
      have t1 := ta_root_not 200 (by decide)
      rw [h8] at c hl
      simp only [recO, recV] at c
      have H := hide3 h4 h1 hl
      clear hB h3 h6 hl h2 h4 h1
      go_wp2_with (show wpList _ _ _ ({ dst := none, op := Op.store 107 (.tmp 5) (.tmp 16), type := _, pos := _, after := _, guard := _ } :: _) _ _; refine rt_new (w := wr) (D := 0) (L := 0) (G := 0) (t := 0) (f := 0) (n := 0) rfl (.tmp 5) (.tmp 16) rfl (by rfl) (by rfl) ?_)
      refine ⟨⟨k + 1, by omega, by go_num, by rw [H.out.2.2]; exact H.out.1, H.out.2.1⟩, by simp [intOf]; omega⟩
     | blank =>
      have t1 := ta_root_not 218 (by decide)
      rw [h8] at c hl
      simp only [recO, recV] at c
      have H := hide3 h4 h1 hl
      clear hB h3 h6 hl h2 h4 h1
      go_wp2_with (show wpList _ _ _ ({ dst := none, op := Op.store 107 (.tmp 5) (.tmp 16), type := _, pos := _, after := _, guard := _ } :: _) _ _; refine rt_new (w := wr) (D := 0) (L := 0) (G := 0) (t := 0) (f := 0) (n := 0) rfl (.tmp 5) (.tmp 16) rfl (by rfl) (by rfl) ?_)
      refine ⟨⟨k + 1, by omega, by go_num, by rw [H.out.2.2]; exact H.out.1, H.out.2.1⟩, by simp [intOf]; omega⟩
     | filled =>
      have t1 := ta_root_not 159 (by decide)
      rw [h8] at c hl
      simp only [recO, recV] at c
      have H := hide3 h4 h1 hl
      clear hB h3 h6 hl h2 h4 h1
      go_wp2_with (show wpList _ _ _ ({ dst := none, op := Op.store 107 (.tmp 5) (.tmp 16), type := _, pos := _, after := _, guard := _ } :: _) _ _; refine rt_new (w := wr) (D := 0) (L := 0) (G := 0) (t := 0) (f := 0) (n := 0) rfl (.tmp 5) (.tmp 16) rfl (by rfl) (by rfl) ?_)
      refine ⟨⟨k + 1, by omega, by go_num, by rw [H.out.2.2]; exact H.out.1, H.out.2.1⟩, by simp [intOf]; omega⟩
     | root D L G t f n =>
      have t1 := ta_root
      rw [h8] at c hl
      simp only [recO, recV] at c
      have h9 := rootVar_at wr D L G t f n
      have ha : (rootVar wr D L G t f n).heap[w.heap.size]? = some (.cells (rtA (svLast R k)) 107 (0, 0)) := ((rootVar_below wr D L G t f n).block _ h7).trans hB
      have hc : Below w.heap.size w (rootVar wr D L G t f n) := h3.trans ((rootVar_below wr D L G t f n).mono hg)
      obtain ⟨w6, he⟩ : ∃ w6, rootVar wr D L G t f n = w6 := ⟨_, rfl⟩
      rw [he] at h9 ha hc
      have c6 : w6.cell? ⟨wr.heap.size, 3, none⟩ = some (.int .u64 t) := by simp [World.cell?, h9, rootA]
      have c0 : w6.cell? ⟨w.heap.size, 3, none⟩ = some (.int .u64 (svLast R k).t) := by simp [World.cell?, ha, rtA, rootA]
      have H := hide5 he h9 ha hc hl
      clear hB h3 h6 hl h2 he h9 ha hc h4 h1
      by_cases hh : (svLast R k).t < t
      · go_wp2_with (first | (show wpList _ _ _ ({ dst := none, op := Op.store 107 (.tmp 5) (.tmp 16), type := _, pos := _, after := _, guard := _ } :: _) _ _; refine rt_new (w := wr) (D := D) (L := L) (G := G) (t := t) (f := f) (n := n) rfl (.tmp 5) (.tmp 16) rfl (by rfl) (by rfl) ?_; rw [H.out.1]) | (show wpList _ _ _ ({ dst := some 26, op := _, type := _, pos := _, after := _, guard := _ } :: _) _ _; refine rt_load (D := D) (L := L) (G := G) (t := t) (f := f) (n := n) (b := wr.heap.size) rfl (.tmp 5) rfl rfl (by rfl) (by exact H.out.2.1) ?_) | (show wpList _ _ _ ({ dst := none, op := Op.store 107 (.tmp 2) (.tmp 26), type := _, pos := _, after := _, guard := _ } :: _) _ _; refine rt_store (D := D) (L := L) (G := G) (t := t) (f := f) (n := n) (b := w.heap.size) (cs := rtA (svLast R k)) rfl (.tmp 2) (.tmp 26) rfl (by rfl) (by rfl) (by exact H.out.2.2.1) rfl ?_))
        obtain ⟨_, q3, q4, q5, q7⟩ := H.out
        refine ⟨⟨k + 1, by omega, by go_num, ?_, q5.trans ⟨rfl, rfl, rfl, by rw [size_setRow]; exact Nat.le_refl _, fun k hk => (grown_setRow' _ _ _).block k (Nat.lt_of_lt_of_le hk q5.size) (fun q => by have := Option.some.inj q; omega)⟩⟩, by simp [intOf]; omega⟩
        rw [q7]
        rw [show svStep (svLast R k) (some (.root D L G t f n)) = ⟨D, L, G, t, f, n⟩ from if_pos hh]
        exact setRow_heap _ _ _ _ _ _ q4
      · go_wp2_with (show wpList _ _ _ ({ dst := none, op := Op.store 107 (.tmp 5) (.tmp 16), type := _, pos := _, after := _, guard := _ } :: _) _ _; refine rt_new (w := wr) (D := D) (L := L) (G := G) (t := t) (f := f) (n := n) rfl (.tmp 5) (.tmp 16) rfl (by rfl) (by rfl) ?_; rw [H.out.1])
        obtain ⟨_, q3, q4, q5, q7⟩ := H.out
        refine ⟨⟨k + 1, by omega, by go_num, ?_, q5⟩, by simp [intOf]; omega⟩
        rw [q7]
        rw [show svStep (svLast R k) (some (.root D L G t f n)) = svLast R k from if_neg hh]
        exact q4
  · have hm : k = N := by omega
    subst hm
    have H := hide2 hB h3
    clear hB h3 h2
    go_wp2_with (first | (show wpList _ _ _ ({ dst := some 28, op := _, type := _, pos := _, after := _, guard := _ } :: _) _ _; refine rt_load (b := w.heap.size) (ra := rtA (svLast R k)) rfl (.tmp 2) rfl rfl (by rfl) (by exact H.out.1) ?_) | (show wpList _ _ _ ({ dst := none, op := Op.store 107 (.tmp 2) (.tmp 28), type := _, pos := _, after := _, guard := _ } :: _) _ _; refine rt_store (b := w.heap.size) (cs := rtA (svLast R k)) (D := (svLast R k).D) (L := (svLast R k).L) (G := (svLast R k).G) (t := (svLast R k).t) (f := (svLast R k).f) (n := (svLast R k).n) rfl (.tmp 2) (.tmp 28) rfl (by rfl) (by rfl) (by exact H.out.1) rfl ?_))
    have h5 := setRow_heap _ _ _ (rtA (svLast R k)) _ _ H.out.1
    refine bodyPost_ret (v := .agg (rtA (svLast R k))) (results_cell_row Tryz.results78 _ _ w.heap.size 107 (rtA (svLast R k)) (0, 0) _ rfl h5 Tryz.underlying107 rfl (rootA_info _ _ _ _ _ _)) rfl ?_
    exact ⟨rfl, H.out.2.trans ⟨rfl, rfl, rfl, by rw [size_setRow]; exact Nat.le_refl _, fun k hk => (grown_setRow' _ _ _).block k (Nat.lt_of_lt_of_le hk H.out.2.size) (fun q => by have := Option.some.inj q; omega)⟩⟩
section
open Gf
def UnR (w : World) (N : Nat) (s i : Value) (wr : World) : Prop := ∃ k : Nat, k ≤ N ∧ i = .int .i64 k ∧ s = .int .u64 0 ∧ wr = w
theorem unlike_same (hN : N ≤ 60) (h0 : w.rowIs g 202 N (fun _ => recV (.root D L G t f n))) :
 Calls Tryz.prog 116 #[.slice (some ⟨g, 0, none⟩) N N, recV (.root D L G t f n)] w fun e w' => e = .returned (.int .u64 0) ∧ w' = w := by
 have h6 := h0.lt
 have h2 := eqRec_same D L G t f n
 obtain ⟨rv, h3⟩ : ∃ rv, Value.agg (rootA D L G t f n) = rv := ⟨_, rfl⟩
 have h1 : recV (.root D L G t f n) = .iface 107 rv := by rw [← h3]; rfl
 rw [h1] at h0 h2 ⊢
 have h7 : ∀ w : World, (binOp .neq 202 (.iface 107 rv) (.iface 107 rv)).run Tryz.prog w = .ok (.bool false) w := fun w => by
  simp only [binOp]
  simp [Op.equal, Op.maxDepth, h2 w]
 clear h3 h1
 go_enter Tryz.func116, Tryz.ntmps116
 go_wp2_with fail
 go_loopw [4, 9] (fun s i wr => UnR w N s i wr) (fun _ i _ => N - (intOf i).toNat)
 case atStart => exact ⟨0, Nat.zero_le _, rfl, rfl, rfl⟩
 case round =>
  obtain ⟨k, hk, rfl, rfl, rfl⟩ := hrel
  by_cases h4 : k < N
  · have c := h0.cell (i := k) h4
    have H := hide h0
    clear h0
    go_wp2
    refine ⟨⟨k + 1, by omega, by go_num, rfl, rfl⟩, by simp [intOf]; omega⟩
  · have h5 : k = N := by omega
    subst h5
    clear h0
    go_wp2
    go_ret
    exact ⟨rfl, rfl⟩
end
section
open Gf
noncomputable def RLg : Array Oper := ((Tryz.f54.body.bind (rgf · 3))).getD #[]
def shLg : List (Op × Option Nat × Option (Nat × Bool) × List Nat) := [(Op.fieldAddr 107 (.tmp 4) 1, some 13, none, []),
 (Op.load 105 (.tmp 13), some 14, none, [0]),
 (Op.binOp BinOp.gtr 105 (.tmp 14) (Operand.const (Value.int IntKind.u64 0)) 105, some 15, none, [1]),
 (Op.move (.tmp 15), some 16, none, [2]),
 (Op.fieldAddr 107 (.tmp 4) 0, some 17, some (3, true), [3]),
 (Op.load 25 (.tmp 17), some 18, some (3, true), [4, 3]),
 (Op.move (.tmp 0), some 19, some (3, true), [3]),
 (Op.nilCheck (.tmp 19), some 20, some (3, true), [6, 3]),
 (Op.fieldAddr 112 (.tmp 20) 0, some 21, some (3, true), [7, 3]),
 (Op.load 104 (.tmp 21), some 22, some (3, true), [8, 3]),
 (Op.call { callee := Callee.value (Operand.func 79), args := #[.tmp 22], argTypes := #[104] }, some 23, some (3, true), [9, 3, 3]),
 (Op.binOp BinOp.neq 25 (.tmp 18) (.tmp 23) 25, some 24, some (3, true), [5, 10, 3]),
 (Op.pick (.tmp 16) (.tmp 24) (Operand.const (Value.bool false)), some 25, none, [3, 11]),
 (Op.assign (.tmp 25), some 12, none, [12, 10])]
theorem RLg_shape : RegShapeG RLg 12 26 shLg := regShapeG (by kernel_rfl) (by kernel_rfl)
def vsLg (ar v q D L G D1 L1 G1 t : Nat) : List Value := [.pointer (some ⟨q, 3, none⟩), .int .u64 t, .bool true, .bool true, .pointer (some ⟨q, 0, none⟩), .agg #[.int .i64 D1, .int .i64 L1, .int .i64 G1], .pointer (some ⟨ar, 0, none⟩), .pointer (some ⟨ar, 0, none⟩), .pointer (some ⟨ar, 0, none⟩), .pointer (some ⟨v, 0, none⟩), .agg #[.int .i64 D, .int .i64 L, .int .i64 G], .bool (!decide ((D1 : Int) = D ∧ (L1 : Int) = L ∧ (G1 : Int) = G)), .bool (!decide ((D1 : Int) = D ∧ (L1 : Int) = L ∧ (G1 : Int) = G)), .bool (!decide ((D1 : Int) = D ∧ (L1 : Int) = L ∧ (G1 : Int) = G))]
theorem load_region {q D1 L1 G1 m : Nat} {cs : Array Value} (hV : VolAt w v p D L G ps ho) (ha : w.heap[ar]? = some (.cells cs 112 (0, 0))) (h0 : cs[0]? = some (.pointer (some ⟨v, 0, none⟩))) (hq : w.heap[q]? = some (.cells (rootA D1 L1 G1 t f m) 107 (0, 0))) (ht : 0 < t) (h7 : RLg = ops) (hm : a.tmps.size = 48)
 (e0 : a.eval (.tmp 0) = .pointer (some ⟨ar, 0, none⟩)) (e4 : a.eval (.tmp 4) = .pointer (some ⟨q, 0, none⟩))
 (hQ : ∀ (w' : World), Below w.heap.size w w' → Q .normal (Act.putFrom a 12 [.bool (!decide ((D1 : Int) = D ∧ (L1 : Int) = L ∧ (G1 : Int) = G)), .pointer (some ⟨q, 3, none⟩), .int .u64 t, .bool true, .bool true, .pointer (some ⟨q, 0, none⟩), .agg #[.int .i64 D1, .int .i64 L1, .int .i64 G1], .pointer (some ⟨ar, 0, none⟩), .pointer (some ⟨ar, 0, none⟩), .pointer (some ⟨ar, 0, none⟩), .pointer (some ⟨v, 0, none⟩), .agg #[.int .i64 D, .int .i64 L, .int .i64 G], .bool (!decide ((D1 : Int) = D ∧ (L1 : Int) = L ∧ (G1 : Int) = G)), .bool (!decide ((D1 : Int) = D ∧ (L1 : Int) = L ∧ (G1 : Int) = G))]) w') : (Code.region 3 ops true).wp Tryz.prog Q a w := by
 subst h7
 have h8 : ar < w.heap.size := (Array.getElem?_eq_some_iff.1 ha).1
 have hh : q < w.heap.size := (Array.getElem?_eq_some_iff.1 hq).1
 have h9 : ∀ w', Below w.heap.size w w' → w'.cell? ⟨ar, 0, none⟩ = some (.pointer (some ⟨v, 0, none⟩)) := fun w' hO => by
  have := (hO.block ar h8).trans ha
  simp [World.cell?, this, h0]
 have hc : ∀ w', Below w.heap.size w w' → w'.cell? ⟨q, 0, none⟩ = some (.int .i64 D1) ∧ w'.cell? ⟨q, 1, none⟩ = some (.int .i64 L1) ∧ w'.cell? ⟨q, 2, none⟩ = some (.int .i64 G1) ∧ w'.cell? ⟨q, 3, none⟩ = some (.int .u64 t) := fun w' hO => by
  have := (hO.block q hh).trans hq
  simp [World.cell?, this, rootA]
 refine region_factsSG (by kernel_rfl) RLg_shape a w (by omega) (fun i u _ => u = (vsLg ar v q D L G D1 L1 G1 t).getD i undef) (fun _ w' => Below w.heap.size w w') ((Below.refl _ w).drew) ?_ ?_
 · intro i hi
   match i, hi with
   | 0, _ =>
    intro o a' w' Dn hg ho h2 hk h5 h6 h1 hB h3
    refine .inl ⟨wanted_free hg _, ?_⟩
    have u0 : a'.eval (.tmp 4) = .pointer (some ⟨q, 0, none⟩) := (hk.slot 4 (by omega)).trans e4
    exact op_val (v := .pointer (some ⟨q, 3, none⟩)) (by simp only [execOp, show o.op = Op.fieldAddr 107 (.tmp 4) 1 from ho, u0]; go_simp) h2 ⟨hB, rfl, kq⟩
   | 1, _ =>
    intro o a' w' Dn hg ho h2 hk h5 h6 h1 hB h3
    refine .inl ⟨wanted_free hg _, ?_⟩
    have u0 : a'.eval (.tmp 13) = .pointer (some ⟨q, 3, none⟩) := h3 0 (h1 0 (by decide))
    obtain ⟨_, _, _, c⟩ := hc w' hB
    exact op_val (v := .int .u64 t) (by simp only [execOp, show o.op = Op.load 105 (.tmp 13) from ho, u0]; go_simp) h2 ⟨hB, rfl, kq⟩
   | 2, _ =>
    intro o a' w' Dn hg ho h2 hk h5 h6 h1 hB h3
    refine .inl ⟨wanted_free hg _, ?_⟩
    have u0 : a'.eval (.tmp 14) = .int .u64 t := h3 1 (h1 1 (by decide))
    have hd : decide ((t : Int) > 0) = true := decide_eq_true (by omega)
    exact op_val (v := .bool true) (by simp only [execOp, show o.op = Op.binOp BinOp.gtr 105 (.tmp 14) (Operand.const (Value.int IntKind.u64 0)) 105 from ho, u0]; go_simp) h2 ⟨hB, rfl, kq⟩
   | 3, _ =>
    intro o a' w' Dn hg ho h2 hk h5 h6 h1 hB h3
    refine .inl ⟨wanted_free hg _, ?_⟩
    have u0 : a'.eval (.tmp 15) = .bool true := h3 2 (h1 2 (by decide))
    exact op_val (run_op_move ho u0 w') h2 ⟨hB, rfl, kq⟩
   | 4, _ =>
    intro o a' w' Dn hg ho h2 hk h5 h6 h1 hB h3
    have h4 : a'.eval (.tmp 16) = .bool true := h3 3 (h1 3 (by decide))
    refine .inl ⟨(wanted_at (sh := shLg) (a := a') (j := 3) (d := 16) (b := true) (x := true) hg rfl h4), ?_⟩
    have u0 : a'.eval (.tmp 4) = .pointer (some ⟨q, 0, none⟩) := (hk.slot 4 (by omega)).trans e4
    exact op_val (v := .pointer (some ⟨q, 0, none⟩)) (by simp only [execOp, show o.op = Op.fieldAddr 107 (.tmp 4) 0 from ho, u0]; go_simp) h2 ⟨hB, rfl, kq⟩
   | 5, _ =>
    intro o a' w' Dn hg ho h2 hk h5 h6 h1 hB h3
    have h4 : a'.eval (.tmp 16) = .bool true := h3 3 (h1 3 (by decide))
    refine .inl ⟨(wanted_at (sh := shLg) (a := a') (j := 3) (d := 16) (b := true) (x := true) hg rfl h4), ?_⟩
    have u0 : a'.eval (.tmp 17) = .pointer (some ⟨q, 0, none⟩) := h3 4 (h1 4 (by decide))
    obtain ⟨c0, c1, c2, _⟩ := hc w' hB
    exact op_val (v := .agg #[.int .i64 D1, .int .i64 L1, .int .i64 G1]) (by simp only [execOp, show o.op = Op.load 25 (.tmp 17) from ho, u0]; go_simp) h2 ⟨hB, rfl, kq⟩
   | 6, _ =>
    intro o a' w' Dn hg ho h2 hk h5 h6 h1 hB h3
    have h4 : a'.eval (.tmp 16) = .bool true := h3 3 (h1 3 (by decide))
    refine .inl ⟨(wanted_at (sh := shLg) (a := a') (j := 3) (d := 16) (b := true) (x := true) hg rfl h4), ?_⟩
    have u0 : a'.eval (.tmp 0) = .pointer (some ⟨ar, 0, none⟩) := (hk.slot 0 (by omega)).trans e0
    exact op_val (run_op_move ho u0 w') h2 ⟨hB, rfl, kq⟩
   | 7, _ =>
    intro o a' w' Dn hg ho h2 hk h5 h6 h1 hB h3
    have h4 : a'.eval (.tmp 16) = .bool true := h3 3 (h1 3 (by decide))
    refine .inl ⟨(wanted_at (sh := shLg) (a := a') (j := 3) (d := 16) (b := true) (x := true) hg rfl h4), ?_⟩
    have u0 : a'.eval (.tmp 19) = .pointer (some ⟨ar, 0, none⟩) := h3 6 (h1 6 (by decide))
    exact op_val (run_op_nil ho u0 w') h2 ⟨hB, rfl, kq⟩
   | 8, _ =>
    intro o a' w' Dn hg ho h2 hk h5 h6 h1 hB h3
    have h4 : a'.eval (.tmp 16) = .bool true := h3 3 (h1 3 (by decide))
    refine .inl ⟨(wanted_at (sh := shLg) (a := a') (j := 3) (d := 16) (b := true) (x := true) hg rfl h4), ?_⟩
    have u0 : a'.eval (.tmp 20) = .pointer (some ⟨ar, 0, none⟩) := h3 7 (h1 7 (by decide))
    exact op_val (v := .pointer (some ⟨ar, 0, none⟩)) (by simp only [execOp, show o.op = Op.fieldAddr 112 (.tmp 20) 0 from ho, u0]; go_simp) h2 ⟨hB, rfl, kq⟩
   | 9, _ =>
    intro o a' w' Dn hg ho h2 hk h5 h6 h1 hB h3
    have h4 : a'.eval (.tmp 16) = .bool true := h3 3 (h1 3 (by decide))
    refine .inl ⟨(wanted_at (sh := shLg) (a := a') (j := 3) (d := 16) (b := true) (x := true) hg rfl h4), ?_⟩
    have u0 : a'.eval (.tmp 21) = .pointer (some ⟨ar, 0, none⟩) := h3 8 (h1 8 (by decide))
    have c := h9 w' hB
    exact op_val (v := .pointer (some ⟨v, 0, none⟩)) (by simp only [execOp, show o.op = Op.load 104 (.tmp 21) from ho, u0]; go_simp) h2 ⟨hB, rfl, kq⟩
   | 10, _ =>
    intro o a' w' Dn hg ho h2 hk h5 h6 h1 hB h3
    have h4 : a'.eval (.tmp 16) = .bool true := h3 3 (h1 3 (by decide))
    refine .inl ⟨(wanted_at (sh := shLg) (a := a') (j := 3) (d := 16) (b := true) (x := true) hg rfl h4), ?_⟩
    have u0 : a'.eval (.tmp 22) = .pointer (some ⟨v, 0, none⟩) := h3 9 (h1 9 (by decide))
    refine op_call (f := 79) (args := #[.pointer (some ⟨v, 0, none⟩)]) (w1 := w') (by simp only [execOp, show o.op = Op.call { callee := Callee.value (Operand.func 79), args := #[.tmp 22], argTypes := #[104] } from ho]; go_simp; simpa [Act.eval] using u0) h2 (volParams_any (hV.keep (hB.block _ hV.lt))) ?_
    rintro e w'' ⟨rfl, hb⟩
    exact ⟨_, rfl, hB.trans (hb.mono hB.size), rfl, kq⟩
   | 11, _ =>
    intro o a' w' Dn hg ho h2 hk h5 h6 h1 hB h3
    have h4 : a'.eval (.tmp 16) = .bool true := h3 3 (h1 3 (by decide))
    refine .inl ⟨(wanted_at (sh := shLg) (a := a') (j := 3) (d := 16) (b := true) (x := true) hg rfl h4), ?_⟩
    have u0 : a'.eval (.tmp 18) = .agg #[.int .i64 D1, .int .i64 L1, .int .i64 G1] := h3 5 (h1 5 (by decide))
    have u1 : a'.eval (.tmp 23) = .agg #[.int .i64 D, .int .i64 L, .int .i64 G] := h3 10 (h1 10 (by decide))
    have he := eqParams D1 L1 G1 D L G
    exact op_val (v := .bool (!decide ((D1 : Int) = D ∧ (L1 : Int) = L ∧ (G1 : Int) = G))) (by simp only [execOp, show o.op = Op.binOp BinOp.neq 25 (.tmp 18) (.tmp 23) 25 from ho, u0, u1]; go_simp) h2 ⟨hB, rfl, kq⟩
   | 12, _ =>
    intro o a' w' Dn hg ho h2 hk h5 h6 h1 hB h3
    refine .inl ⟨wanted_free hg _, ?_⟩
    have u0 : a'.eval (.tmp 16) = .bool true := h3 3 (h1 3 (by decide))
    have u1 : a'.eval (.tmp 24) = .bool (!decide ((D1 : Int) = D ∧ (L1 : Int) = L ∧ (G1 : Int) = G)) := h3 11 (h1 11 (by decide))
    exact op_val (v := .bool (!decide ((D1 : Int) = D ∧ (L1 : Int) = L ∧ (G1 : Int) = G))) (by simp only [execOp, show o.op = Op.pick (.tmp 16) (.tmp 24) (Operand.const (Value.bool false)) from ho, u0, u1]; go_simp) h2 ⟨hB, rfl, kq⟩
   | 13, _ =>
    intro o a' w' Dn hg ho h2 hk h5 h6 h1 hB h3
    refine .inl ⟨wanted_free hg _, ?_⟩
    have u0 : a'.eval (.tmp 25) = .bool (!decide ((D1 : Int) = D ∧ (L1 : Int) = L ∧ (G1 : Int) = G)) := h3 12 (h1 12 (by decide))
    exact op_val (v := .bool (!decide ((D1 : Int) = D ∧ (L1 : Int) = L ∧ (G1 : Int) = G))) (by simp only [execOp, show o.op = Op.assign (.tmp 25) from ho, u0]; go_simp) h2 ⟨hB, rfl, kq⟩
   | n + 14, hn => exact absurd hn (by show ¬ n + 14 < 14; omega)
 · rintro a' w' hj hf ⟨Dn, hp, hB⟩ h3
   have e : a' = Act.putFrom a 12 [.bool (!decide ((D1 : Int) = D ∧ (L1 : Int) = L ∧ (G1 : Int) = G)), .pointer (some ⟨q, 3, none⟩), .int .u64 t, .bool true, .bool true, .pointer (some ⟨q, 0, none⟩), .agg #[.int .i64 D1, .int .i64 L1, .int .i64 G1], .pointer (some ⟨ar, 0, none⟩), .pointer (some ⟨ar, 0, none⟩), .pointer (some ⟨ar, 0, none⟩), .pointer (some ⟨v, 0, none⟩), .agg #[.int .i64 D, .int .i64 L, .int .i64 G], .bool (!decide ((D1 : Int) = D ∧ (L1 : Int) = L ∧ (G1 : Int) = G)), .bool (!decide ((D1 : Int) = D ∧ (L1 : Int) = L ∧ (G1 : Int) = G))] := hj.out _ rfl (by omega) (fun i hi => ?_)
   · rw [e]; exact hQ w' hB
   · match i, hi with
     | 0, _ => exact h3 13 (by decide)
     | 1, _ => exact h3 0 (by decide)
     | 2, _ => exact h3 1 (by decide)
     | 3, _ => exact h3 2 (by decide)
     | 4, _ => exact h3 3 (by decide)
     | 5, _ => exact h3 4 (by decide)
     | 6, _ => exact h3 5 (by decide)
     | 7, _ => exact h3 6 (by decide)
     | 8, _ => exact h3 7 (by decide)
     | 9, _ => exact h3 8 (by decide)
     | 10, _ => exact h3 9 (by decide)
     | 11, _ => exact h3 10 (by decide)
     | 12, _ => exact h3 11 (by decide)
     | 13, _ => exact h3 12 (by decide)
     | n + 14, hn => exact absurd hn (by simp)
end
section
open Gf
theorem svLast_blank : ∀ k, (∀ i, i < k → R i = some .blank) → svLast R k = ⟨0, 0, 0, 0, 0, 0⟩
 | 0, _ => rfl
 | k + 1, h => by
  show svStep (svLast R k) (R k) = _
  rw [h k (by omega), svLast_blank k fun i hi => h i (by omega)]; rfl
theorem or_pow (k : Nat) : (2 ^ k - 1) ||| 2 ^ k = 2 ^ (k + 1) - 1 := by
 refine Nat.eq_of_testBit_eq fun i => ?_
 rw [Nat.testBit_or, Nat.testBit_two_pow_sub_one, Nat.testBit_two_pow_sub_one, Nat.testBit_two_pow]
 by_cases h : k = i
 · subst h; simp
 · by_cases h2 : i < k
   · simp [h2]; omega
   · simp [h, h2]; omega
theorem svBlank_blank : ∀ k, (∀ i, i < k → R i = some .blank) → svBlank R k = 2 ^ k - 1
 | 0, _ => rfl
 | k + 1, h => by
  show svOr (svBlank R k) k (R k) = _
  rw [h k (by omega), svBlank_blank k fun i hi => h i (by omega)]
  exact or_pow k
theorem told_none {lost : Nat} (hD : D ≤ 12) (hG : G ≤ 4) (h : ∀ i, i < D + L + G → lost / 2 ^ i % 2 = 0) : Told D L G lost := by
 have hc : ∀ k, k ≤ D + L + G → cnt lost k = 0 := by
  intro k hk
  induction k with
  | zero => rfl
  | succ k ih => rw [cnt_succ, ih (by omega), h k (by omega)]; rfl
 exact any_full D L G lost hD hG (rem_byte (fun l hl => mat_byte D L G hD hG l (keep_mem _ _ _ (by rw [mat_len]; omega) l hl)) 0) (by rw [hc _ (Nat.le_refl _)]; omega)
theorem high_bits {i : Nat} (hn : n ≤ 60) (hi : i < n) : (18446744073709551615 - (2 ^ n - 1)) / 2 ^ i % 2 = 0 := by
 have h1 : 18446744073709551615 - (2 ^ n - 1) = 2 ^ (i + 1) * (2 ^ (63 - i) - 2 ^ (n - i - 1)) := by
  rw [Nat.mul_sub, ← Nat.pow_add, ← Nat.pow_add, show i + 1 + (63 - i) = 64 by omega, show i + 1 + (n - i - 1) = n by omega]
  have : 0 < 2 ^ n := Nat.two_pow_pos n
  omega
 rw [h1, Nat.pow_succ, Nat.mul_assoc, Nat.mul_div_cancel_left _ (Nat.two_pow_pos i), Nat.mul_mod_right]
theorem xor_all (x : Nat) (h : x < 2 ^ 64) : (2 ^ 64 - 1) ^^^ x = 2 ^ 64 - 1 - x := by
 refine Nat.eq_of_testBit_eq fun i => ?_
 rw [Nat.testBit_xor, Nat.testBit_two_pow_sub_one, show 2 ^ 64 - 1 - x = 2 ^ 64 - (x + 1) by omega, Nat.testBit_two_pow_sub_succ h]
 by_cases hi : i < 64
 · simp [hi]
 · have : x.testBit i = false := Nat.testBit_lt_two_pow (Nat.lt_of_lt_of_le h (Nat.pow_le_pow_right (by decide) (by omega)))
   simp [hi, this]
theorem not_u64 (x : Nat) (h : x < 18446744073709551616) : bits .xor .u64 IntKind.u64.max (x : Int) = ((18446744073709551615 - x : Nat) : Int) := by
 have := bits_xor_u64_nat 18446744073709551615 x (by decide) h
 rw [show (18446744073709551615 : Nat) = 2 ^ 64 - 1 by decide, xor_all x (by omega)] at this
 exact this
theorem load_new {A : Arr} {F : Foot} (ha : ArcAt w ar v 0 0 0 0 0 0 (.slice none 0 0) (.slice none 0 0) false) (hV : Vol w v p D L G ps ho A F) (hF : Free F p A.n v) (kb : ¬ F.has p A.n ar) (hf : A.fit) (hn : A.n = D + L + G) (hr : rightB D L G = true) (ks : 1 ≤ D) (hD : D ≤ 12) (hL : 1 ≤ L) (hy : L ≤ 4) (hG : G ≤ 4) (hm : D % L = 0) (kv : D + L + G ≤ 16)
 (kx : 3 ≤ A.nb) (hw : A.wait < 0) (h3 : ∀ i, A.lost i = false) (k0 : ∀ d, A.bad d 0 = false) (hz : ∀ i, i < A.n → A.blk i 0 = zb) :
 Calls Tryz.prog 54 #[.pointer (some ⟨ar, 0, none⟩)] w fun e w' => e = .returned .nilIface ∧ ArrAt w' p (newArc (A.readTo A.n) D L G) F ∧ (∃ u, ArcAt w' ar v D L G 1 2 0 u (.slice none 0 0) false ∧ Ints (fun k => w.heap.size ≤ k) w' u [2]) ∧ Outside (fun k => k = ar ∨ F.has p A.n k) w w' := by
 obtain ⟨c0, _⟩ := ha.cells
 have kc := readCopies_ok hV hF hf 0 hn hD hy hG (by omega) (by omega) h3 k0 (fun _ => .blank) (fun _ => trivial) (fun _ => makes_blank) hz
 go_enter Tryz.func54, Tryz.ntmps54
 go_wp2_with fail
 refine kc.mono ?_
 rintro e w1 ⟨g, rfl, hg, h0, kd, h7⟩
 have he := ha.keep (h7.block _ ha.lt kb)
 have hp := hV.turn hF h7 kd
 have k5 : A.n ≤ 16 := by omega
 obtain ⟨N, hN⟩ : ∃ N, A.n = N := ⟨_, rfl⟩
 have k6 := lastRoot_any (N := A.n) (fun _ => some .blank) (by omega) (w := w1) h0
 rw [svLast_blank _ (fun _ _ => rfl), show rtA ⟨0, 0, 0, 0, 0, 0⟩ = rootA 0 0 0 0 0 0 from rfl, hN] at k6
 have H1 := hide7 he hp h7 h0 k6 hN hn
 rw [hN] at k5
 clear he hp h7 h0 k6 kd kc hn
 rw [hN]
 clear hN
 go_wp2_with fail
 refine H1.out.2.2.2.2.1.mono ?_
 rintro e w2 ⟨rfl, k7⟩
 have q1 := root_zero
 obtain ⟨he, hp, h7, h0, _, hN, hn⟩ := H1.out
 have hh : Below w1.heap.size w1 (rootVar w2 0 0 0 0 0 0) := k7.trans ((rootVar_below w2 0 0 0 0 0 0).mono k7.size)
 have h4 := he.keep (hh.block _ he.lt)
 have hj := hp.below hh (Nat.le_refl _)
 have h8 := h0.of_block (hh.block g h0.lt)
 have k8 := rootVar_at w2 0 0 0 0 0 0
 obtain ⟨w3, k9⟩ : ∃ w3, rootVar w2 0 0 0 0 0 0 = w3 := ⟨_, rfl⟩
 rw [k9] at hh h4 hj h8 k8
 have c5 : w3.cell? ⟨w2.heap.size, 3, none⟩ = some (.int .u64 0) := by simp [World.cell?, k8, rootA]
 obtain ⟨d0, _⟩ := h4.cells
 have hq : Outside (F.has p A.n) w w3 := h7.trans (Outside.of_all hh _)
 have H3 := hide5 h4 hj h8 hq k9
 clear he hp h7 h0 k7 hh h4 hj h8 k8 hq k9 c0
 go_wp2_with (show wpList _ _ _ ({ dst := none, op := Op.store 107 (.tmp 4) (.tmp 11), type := _, pos := _, after := _, guard := _ } :: _) _ _; refine rt_new (w := w2) (D := 0) (L := 0) (G := 0) (t := 0) (f := 0) (n := 0) rfl (.tmp 4) (.tmp 11) rfl (by rfl) (by rfl) ?_; rw [H3.out.2.2.2.2])
 go_quiet (fail)
 have h1 : Below w3.heap.size w3 (w3.drewN nq) := ⟨rfl, rfl, rfl, Nat.le_refl _, fun _ _ => rfl⟩
 have c5' : (w3.drewN nq).cell? ⟨w2.heap.size, 3, none⟩ = some (.int .u64 0) := c5
 have d0' : (w3.drewN nq).cell? ⟨ar, 0, none⟩ = some (.pointer (some ⟨v, 0, none⟩)) := d0
 obtain ⟨w4, ke⟩ : ∃ w4, w3.drewN nq = w4 := ⟨_, rfl⟩
 rw [ke] at h1 c5' d0' ⊢
 obtain ⟨h4, hj, h8, hq, _⟩ := H3.out
 have h5 := h4.keep (h1.block _ h4.lt)
 have h9 := hj.below h1 (Nat.le_refl _)
 have h6 := h8.of_block (h1.block g h8.lt)
 have hc : Outside (F.has p A.n) w w4 := hq.trans (Outside.of_all h1 _)
 have H4 := hide4 h5 h9 h6 hc
 clear h4 hj h8 hq h5 h9 h6 hc h1 c5 d0 ke
 go_wp2_with fail
 refine (volParams_any H4.out.2.1.vol).mono ?_
 rintro e w5 ⟨rfl, ka⟩
 obtain ⟨h5, h9, h6, hc⟩ := H4.out
 have kf := h6.of_block (ka.block g h6.lt)
 have hx := blanks_any (N := A.n) (fun _ => some .blank) (by omega) (w := w5) kf
 rw [svBlank_blank _ (fun _ _ => rfl), hN] at hx
 obtain ⟨X, hX⟩ : ∃ X, 2 ^ N - 1 = X := ⟨_, rfl⟩
 have ky : X < 18446744073709551616 := by rw [← hX]; have := pow64 (k := N) (by omega); omega
 have key := not_u64 X ky
 rw [hX] at hx
 have hT : Told D L G (18446744073709551615 - X) := told_none hD hG fun i hi => by rw [← hX]; exact high_bits (by omega) (by omega)
 have H5 := hide4 ka hx hT hn
 clear h5 h9 h6 hc ka kf hx hX hT hn hN
 go_wp2_with fail
 refine H5.out.2.1.mono ?_
 rintro e w6 ⟨rfl, kg⟩
 have hs : Below w4.heap.size w4 w6 := H5.out.1.trans (kg.mono H5.out.1.size)
 have H6 := hide hs
 clear hs kg
 go_wp2_with fail
 refine (decodable_right D L G (18446744073709551615 - X) hr hD hL hy hG hm (by omega) w6).mono ?_
 rintro e w7 ⟨bb, rfl, kh, ki⟩
 rw [kh.2 H5.out.2.2.1]
 obtain ⟨h5, h9, h6, hc⟩ := H4.out
 have h2 : Below w4.heap.size w4 w7 := H6.out.trans (ki.mono H6.out.size)
 have kj := h5.keep (h2.block _ h5.lt)
 have kk := h9.below h2 (Nat.le_refl _)
 have km := begin_new kj kk hF kb (hf.readTo _) H5.out.2.2.2 hr ks hD hL hy hG hm kv kx hw h3
 have kn : Outside (F.has p A.n) w w7 := hc.trans (Outside.of_all h2 _)
 have H7 := hide2 km kn
 clear h5 h9 h6 hc h2 kj kk km kn kh ki c5' d0' key
 go_wp2_with fail
 refine H7.out.1.mono ?_
 rintro e w8 ⟨rfl, ko, kp, kr⟩
 have H8 := hide3 ko kp kr
 clear ko kp kr
 go_wp2
 go_ret
 obtain ⟨u, kz, q0⟩ := H8.out.2.1
 exact ⟨rfl, H8.out.1, ⟨u, kz, q0.weaken fun k hk => Nat.le_trans H7.out.2.size hk⟩, (H7.out.2.mono fun _ _ q => .inr q).trans H8.out.2.2⟩
end
section
open Gf
theorem svLast_root (ht : 0 < t) : ∀ k, (∀ i, i < k + 1 → R i = some (.root D L G t f n)) → svLast R (k + 1) = ⟨D, L, G, t, f, n⟩
 | 0, h => by
  show svStep (svLast R 0) (R 0) = _
  rw [h 0 (by omega)]; exact if_pos ht
 | k + 1, h => by
  show svStep (svLast R (k + 1)) (R (k + 1)) = _
  rw [h (k + 1) (by omega), svLast_root ht k fun i hi => h i (by omega)]; exact if_neg (Nat.lt_irrefl t)
theorem svBlank_none : ∀ k, (∀ i, i < k → R i = some .filled) → svBlank R k = 0
 | 0, _ => rfl
 | k + 1, h => by
  show svOr (svBlank R k) k (R k) = _
  rw [h k (by omega), svBlank_none k fun i hi => h i (by omega)]; rfl
end
end Go.Proofs.YtpaemkanfnddoaaGreatDoor
