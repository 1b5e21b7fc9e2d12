import Derived.Test.YtogdeaaphdlchaaGreatDoorPart19
/-
  commit: pages, then a root on all drives.
-/
namespace Go.Proofs.YtogdeaaphdlchaaGreatDoor
open Go.RowKit Go.Deep

theorem framed_two {a a' : Act} {d lo : Nat} {v : Value} {vs : List Value} (hsz : a'.tmps.size = a.tmps.size) (hdf : a'.defers = a.defers) (h1 : lo + vs.length ≤ a.tmps.size) (hd : d < lo) (hv : a'.eval (.tmp d) = v) (hvs : ∀ i, i < vs.length → a'.eval (.tmp (lo + i)) = vs.getD i undef) (hs : ∀ s, s ≠ d → s < lo ∨ lo + vs.length ≤ s → a'.eval (.tmp s) = a.eval (.tmp s)) : a' = Act.putFrom (a.put (some d) v) lo vs := by
  obtain ⟨p1, p2⟩ := putFrom_size vs (a.put (some d) v) lo
  refine act_ext (hsz.trans ((p1.trans (rf_size _ _ _)).symm)) (hdf.trans p2.symm) fun s _ => ?_
  rw [putFrom_eval vs _ lo s (by rw [rf_size]; omega)]
  by_cases e : lo ≤ s ∧ s < lo + vs.length
  · rw [if_pos e]
    have := hvs (s - lo) (by omega)
    rwa [show lo + (s - lo) = s by omega] at this
  · rw [if_neg e]
    by_cases e2 : s = d
    · subst e2
      rw [rf_same _ _ _ (by omega), hv]
    · rw [rf_other _ _ _ _ (fun q => e2 q.symm)]
      exact hs s e2 (by omega)
noncomputable def RCm : Array Oper := ((Tryz.f53.body.bind (rgf · 5))).getD #[]
def shCm : List (Op × Option Nat × List Nat) := [(Op.move (Operand.tmp 0), some 19, []),
    (Op.nilCheck (Operand.tmp 19), some 20, [0]),
    (Op.fieldAddr 68 (Operand.tmp 20) 0, some 21, [1]),
    (Op.load 59 (Operand.tmp 21), some 22, [2]),
    (Op.call { callee := Callee.value (Operand.func 31), args := #[Operand.tmp 22], argTypes := #[59] }, some 23, [3]),
    (Op.move (Operand.tmp 0), some 24, []),
    (Op.nilCheck (Operand.tmp 24), some 25, [5]),
    (Op.fieldAddr 68 (Operand.tmp 25) 1, some 26, [6]),
    (Op.fieldAddr 63 (Operand.tmp 26) 1, some 27, [7]),
    (Op.load 61 (Operand.tmp 27), some 28, [8]),
    (Op.binOp BinOp.add 61 (Operand.tmp 28) (Operand.const (Value.int IntKind.u64 1)) 61, some 29, [9]),
    (Op.move (Operand.tmp 2), some 30, []),
    (Op.indexAddr 64 (Operand.tmp 30) (Operand.const (Value.int IntKind.i64 0)), some 31, [11]),
    (Op.load 3 (Operand.tmp 31), some 32, [12]),
    (Op.move (Operand.tmp 7), some 33, []),
    (Op.call { callee := Callee.builtin Builtin.len, args := #[Operand.tmp 33], argTypes := #[166] }, some 34, [14]),
    (Op.build 63 #[(0, Operand.tmp 23), (1, Operand.tmp 29), (2, Operand.tmp 32), (3, Operand.tmp 34)], some 35, [4, 10, 13, 15]),
    (Op.alloc 63, some 9, []),
    (Op.store 63 (Operand.tmp 9) (Operand.tmp 35), none, [17, 16, 4, 0, 1, 2, 3, 4, 5, 6, 7, 8, 9, 10, 11, 12, 13, 14, 15, 16, 17])]
theorem RCm_shape : RegShape RCm 9 36 shCm := regShape (by kernel_rfl) (by kernel_rfl)
theorem op_len_bytes {o : Oper} {a : Act} {s : Operand} (ho : o.op = .call { callee := .builtin .len, args := #[s], argTypes := #[166] }) {so : Option Addr} {n c : Nat} (hx : a.eval s = .slice so n c) (w : World) : (execOp a.eval o).run Tryz.prog w = .ok (.value (.int .i64 n)) w := by
  unfold execOp
  simp only [ho, resolve, invoke, builtin, Sem.run_bind, Sem.run_pure, Result.andThen_ok, List.map_toArray, List.map_cons, List.map_nil, hx]
  simp [Builtin.len_, run_underlying Tryz.underlying166, goInt]
def isRoot (w : World) (b : Nat) : Prop := ∃ cs : Array Value, cs.size = 6 ∧ w.heap[b]? = some (.cells cs 63 (0, 0))
def VCm (s ar v D L G t m pb po pn pc f : Nat) (so : Option Addr) (cap : Nat) (i : Nat) (u : Value) (w : World) : Prop := match i with
  | 0 | 1 | 2 | 5 | 6 => u = .pointer (some ⟨ar, 0, none⟩)
  | 3 => u = .pointer (some ⟨v, 0, none⟩)
  | 4 => u = .agg #[.int .i64 D, .int .i64 L, .int .i64 G]
  | 7 => u = .pointer (some ⟨ar, 1, none⟩)
  | 8 => u = .pointer (some ⟨ar, 4, none⟩)
  | 9 => u = .int .u64 t
  | 10 => u = .int .u64 ((t + 1 : Nat) : Int)
  | 11 => u = .slice (some ⟨pb, po, none⟩) pn pc
  | 12 => u = .pointer (some ⟨pb, po, none⟩)
  | 13 => u = .int .i64 f
  | 14 => u = .slice so m cap
  | 15 => u = .int .i64 m
  | 16 => u = .agg (rootA D L G (t + 1) f m)
  | 17 => ∃ b, u = .pointer (some ⟨b, 0, none⟩) ∧ s ≤ b ∧ isRoot w b
  | 18 => ∃ b, s ≤ b ∧ w.heap[b]? = some (.cells (rootA D L G (t + 1) f m) 63 (0, 0))
  | _ => True
def BCm (w0 : World) (Dn : Nat → Bool) (w : World) : Prop := Below w0.heap.size w0 w ∧ (∀ b b', w0.heap.size ≤ b → w0.heap.size ≤ b' → isRoot w b → isRoot w b' → b = b') ∧ (Dn 17 = false → ∀ b, w0.heap.size ≤ b → ¬ isRoot w b)
theorem BCm_pure {w0 : World} {Dn : Nat → Bool} {w : World} (h : BCm w0 Dn w) (i : Nat) (hi : i ≠ 17) : BCm w0 (upd Dn i) w := ⟨h.1, h.2.1, fun q => h.2.2 (by unfold upd at q; rwa [if_neg (fun e => hi e.symm)] at q)⟩
theorem root_zero (w : World) : (zeroValue 63).run Tryz.prog w = .ok (.agg (rootA 0 0 0 0 0 0)) w := by
  obtain ⟨i0, hi0, hz0⟩ : ∃ i0, Tryz.prog.info? 63 = some i0 ∧ i0.zero = some (.agg (rootA 0 0 0 0 0 0)) := by
    have : (Tryz.prog.info? 63).map (fun i => i.zero) = some (some (.agg (rootA 0 0 0 0 0 0))) := by kernel_rfl
    rw [Option.map_eq_some_iff] at this
    exact this
  simp [zeroValue, typeInfo, Sem.run_bind, hi0, hz0]
theorem rootA_info (D L G t f n : Nat) : (Tryz.prog.info? 63).map (fun i => i.size) = some (rootA D L G t f n).size := by kernel_rfl
theorem rootA_one (D L G t f n : Nat) : (rootA D L G t f n).all (fun v => v.oneCell') = true := by simp [rootA, Value.oneCell']
theorem root_store {w : World} {b D L G t f n : Nat} {cs : Array Value} (h : w.heap[b]? = some (.cells cs 63 (0, 0))) (hc : cs.size = 6) : (Instr.storeAt 63 (.pointer (some ⟨b, 0, none⟩)) (.agg (rootA D L G t f n))).run Tryz.prog w = .ok () (w.setRow b (rootA D L G t f n)) := by
  simp only [Instr.storeAt, Instr.sureAddr, Sem.run_bind, Sem.run_pure, Result.andThen_ok, run_storeVar_row w b 63 63 cs (rootA D L G t f n) h (rootA_info D L G t f n) (by rw [hc]; rfl) (rootA_one D L G t f n)]
set_option maxRecDepth 100000 in
set_option maxHeartbeats 2000000 in
theorem commit_region {ops : Array Oper} {Q : Exit → Act → World → Prop} {a : Act} {w : World} {ar v p D L G ps ho t m cap pb po pn pc f : Nat} {so : Option Addr} {cs : Array Value} (hops : RCm = ops) (hV : VolAt w v p D L G ps ho) (har : w.heap[ar]? = some (.cells cs 68 (0, 0))) (h0 : cs[0]? = some (.pointer (some ⟨v, 0, none⟩))) (h4 : cs[4]? = some (.int .u64 t)) (ht : t ≤ 1000000000) (hpn : 1 ≤ pn) (hpg : w.cell? ⟨pb, po, none⟩ = some (.int .i64 f))
    (hsz : a.tmps.size = 60) (e0 : a.eval (.tmp 0) = .pointer (some ⟨ar, 0, none⟩)) (e2 : a.eval (.tmp 2) = .slice (some ⟨pb, po, none⟩) pn pc) (e7 : a.eval (.tmp 7) = .slice so m cap)
    (hQ : ∀ (w' : World) (vs : List Value) (b : Nat), vs.length = 17 → w.heap.size ≤ b → w'.heap[b]? = some (.cells (rootA D L G (t + 1) f m) 63 (0, 0)) → Below w.heap.size w w' → Q .normal (Act.putFrom (a.put (some 9) (.pointer (some ⟨b, 0, none⟩))) 19 vs) w') : (Code.region 5 ops true).wp Tryz.prog Q a w := by
  subst hops
  have harl : ar < w.heap.size := (Array.getElem?_eq_some_iff.1 har).1
  have n1 : IntKind.u64.wrap ((t : Int) + 1) = ((t + 1 : Nat) : Int) := by rw [IntKind.wrap_u64]; omega
  refine region_factsS (by kernel_rfl) RCm_shape a w (by omega) (VCm w.heap.size ar v D L G t m pb po pn pc f so cap) (BCm w) ⟨(Below.refl _ w).drew, fun b b' hb _ hr _ => ?_, fun _ b hb hr => ?_⟩ ?_ ?_
  · obtain ⟨c, _, hr⟩ := hr
    have := (Array.getElem?_eq_some_iff.1 hr).1
    have hdz : w.drew.heap.size = w.heap.size := rfl
    omega
  · obtain ⟨c, _, hr⟩ := hr
    have := (Array.getElem?_eq_some_iff.1 hr).1
    have hdz : w.drew.heap.size = w.heap.size := rfl
    omega
  · intro i hi
    match i, hi with
    | 0, _ => exact fun o a' w' Dn hg ho hdst hk hDi hcl hdep hB hV => op_val (run_op_move ho ((hk.slot 0 (by omega)).trans e0) w') hdst ⟨BCm_pure hB _ (by decide), rfl, fun _ _ _ q => q⟩
    | 1, _ =>
      intro o a' w' Dn hg ho hdst hk hDi hcl hdep hB hV
      have u0 : a'.eval (.tmp 19) = .pointer (some ⟨ar, 0, none⟩) := hV 0 (hdep 0 (by decide))
      exact op_val (v := .pointer (some ⟨ar, 0, none⟩)) (by simp only [execOp, show o.op = Op.nilCheck (.tmp 19) from ho, u0]; go_simp) hdst ⟨BCm_pure hB _ (by decide), rfl, fun _ _ _ q => q⟩
    | 2, _ =>
      intro o a' w' Dn hg ho hdst hk hDi hcl hdep hB hV
      have u0 : a'.eval (.tmp 20) = .pointer (some ⟨ar, 0, none⟩) := hV 1 (hdep 1 (by decide))
      exact op_val (v := .pointer (some ⟨ar, 0, none⟩)) (by simp only [execOp, show o.op = Op.fieldAddr 68 (.tmp 20) 0 from ho, u0]; go_simp) hdst ⟨BCm_pure hB _ (by decide), rfl, fun _ _ _ q => q⟩
    | 3, _ =>
      intro o a' w' Dn hg ho hdst hk hDi hcl hdep hB hV
      have u0 : a'.eval (.tmp 21) = .pointer (some ⟨ar, 0, none⟩) := hV 2 (hdep 2 (by decide))
      have har' := (hB.1.block ar harl).trans har
      have c : w'.cell? ⟨ar, 0, none⟩ = some (.pointer (some ⟨v, 0, none⟩)) := by simp [World.cell?, har', h0]
      exact op_val (v := .pointer (some ⟨v, 0, none⟩)) (by simp only [execOp, show o.op = Op.load 59 (.tmp 21) from ho, u0]; go_simp) hdst ⟨BCm_pure hB _ (by decide), rfl, fun _ _ _ q => q⟩
    | 4, _ =>
      intro o a' w' Dn hg ho hdst hk hDi hcl hdep hB hVV
      have u0 : a'.eval (.tmp 22) = .pointer (some ⟨v, 0, none⟩) := hVV 3 (hdep 3 (by decide))
      have hD18 : Dn 18 = false := by
        cases q : Dn 18 with
        | false => rfl
        | true => have := (hcl 18 q).2 4 (by decide); rw [hDi] at this; cases this
      refine op_call (f := 31) (args := #[.pointer (some ⟨v, 0, none⟩)]) (w1 := w') (by simp only [execOp, show o.op = Op.call { callee := Callee.value (Operand.func 31), args := #[Operand.tmp 22], argTypes := #[59] } from ho]; go_simp; simpa [Act.eval] using u0) hdst (volParams_at (hV.keep (hB.1.block _ hV.lt))) ?_
      rintro e w'' ⟨rfl, hb, hz, hn⟩
      have hdown : ∀ b, isRoot w'' b → isRoot w' b := fun b ⟨c, q1, q2⟩ => by
        have := (Array.getElem?_eq_some_iff.1 q2).1
        by_cases e : b = w'.heap.size
        · subst e; rw [hn] at q2; simp at q2
        · exact ⟨c, q1, (hb.block b (by omega)).symm.trans q2⟩
      refine ⟨_, rfl, ⟨hB.1.trans (hb.mono hB.1.size), fun b b' h1 h2 q1 q2 => hB.2.1 b b' h1 h2 (hdown b q1) (hdown b' q2), fun q b h1 h2 => hB.2.2 (by unfold upd at q; rwa [if_neg (by decide)] at q) b h1 (hdown b h2)⟩, rfl, fun j u hj q => ?_⟩
      match j, hj, q with
      | 0, _, q | 1, _, q | 2, _, q | 3, _, q | 4, _, q | 5, _, q | 6, _, q | 7, _, q | 8, _, q | 9, _, q | 10, _, q | 11, _, q | 12, _, q | 13, _, q | 14, _, q | 15, _, q | 16, _, q => exact q
      | 17, _, ⟨b, q1, q2, c, q3, q4⟩ => exact ⟨b, q1, q2, c, q3, (hb.block b (Array.getElem?_eq_some_iff.1 q4).1).trans q4⟩
      | 18, hj, _ => rw [hD18] at hj; cases hj
      | n + 19, _, _ => trivial
    | 5, _ => exact fun o a' w' Dn hg ho hdst hk hDi hcl hdep hB hV => op_val (run_op_move ho ((hk.slot 0 (by omega)).trans e0) w') hdst ⟨BCm_pure hB _ (by decide), rfl, fun _ _ _ q => q⟩
    | 6, _ =>
      intro o a' w' Dn hg ho hdst hk hDi hcl hdep hB hV
      have u0 : a'.eval (.tmp 24) = .pointer (some ⟨ar, 0, none⟩) := hV 5 (hdep 5 (by decide))
      exact op_val (v := .pointer (some ⟨ar, 0, none⟩)) (by simp only [execOp, show o.op = Op.nilCheck (.tmp 24) from ho, u0]; go_simp) hdst ⟨BCm_pure hB _ (by decide), rfl, fun _ _ _ q => q⟩
    | 7, _ =>
      intro o a' w' Dn hg ho hdst hk hDi hcl hdep hB hV
      have u0 : a'.eval (.tmp 25) = .pointer (some ⟨ar, 0, none⟩) := hV 6 (hdep 6 (by decide))
      exact op_val (v := .pointer (some ⟨ar, 1, none⟩)) (by simp only [execOp, show o.op = Op.fieldAddr 68 (.tmp 25) 1 from ho, u0]; go_simp) hdst ⟨BCm_pure hB _ (by decide), rfl, fun _ _ _ q => q⟩
    | 8, _ =>
      intro o a' w' Dn hg ho hdst hk hDi hcl hdep hB hV
      have u0 : a'.eval (.tmp 26) = .pointer (some ⟨ar, 1, none⟩) := hV 7 (hdep 7 (by decide))
      exact op_val (v := .pointer (some ⟨ar, 4, none⟩)) (by simp only [execOp, show o.op = Op.fieldAddr 63 (.tmp 26) 1 from ho, u0]; go_simp) hdst ⟨BCm_pure hB _ (by decide), rfl, fun _ _ _ q => q⟩
    | 9, _ =>
      intro o a' w' Dn hg ho hdst hk hDi hcl hdep hB hV
      have u0 : a'.eval (.tmp 27) = .pointer (some ⟨ar, 4, none⟩) := hV 8 (hdep 8 (by decide))
      have har' := (hB.1.block ar harl).trans har
      have c : w'.cell? ⟨ar, 4, none⟩ = some (.int .u64 t) := by simp [World.cell?, har', h4]
      exact op_val (v := .int .u64 t) (by simp only [execOp, show o.op = Op.load 61 (.tmp 27) from ho, u0]; go_simp) hdst ⟨BCm_pure hB _ (by decide), rfl, fun _ _ _ q => q⟩
    | 10, _ =>
      intro o a' w' Dn hg ho hdst hk hDi hcl hdep hB hV
      have u0 : a'.eval (.tmp 28) = .int .u64 t := hV 9 (hdep 9 (by decide))
      exact op_val (v := .int .u64 ((t + 1 : Nat) : Int)) (by simp only [execOp, show o.op = Op.binOp BinOp.add 61 (Operand.tmp 28) (Operand.const (Value.int IntKind.u64 1)) 61 from ho, u0, show a'.eval (Operand.const (Value.int IntKind.u64 1)) = Value.int IntKind.u64 1 from rfl]; go_simp) hdst ⟨BCm_pure hB _ (by decide), rfl, fun _ _ _ q => q⟩
    | 11, _ => exact fun o a' w' Dn hg ho hdst hk hDi hcl hdep hB hV => op_val (run_op_move ho ((hk.slot 2 (by omega)).trans e2) w') hdst ⟨BCm_pure hB _ (by decide), rfl, fun _ _ _ q => q⟩
    | 12, _ =>
      intro o a' w' Dn hg ho hdst hk hDi hcl hdep hB hV
      have u0 : a'.eval (.tmp 30) = .slice (some ⟨pb, po, none⟩) pn pc := hV 11 (hdep 11 (by decide))
      exact op_val (v := .pointer (some ⟨pb, po, none⟩)) (by simp only [execOp, show o.op = Op.indexAddr 64 (Operand.tmp 30) (Operand.const (Value.int IntKind.i64 0)) from ho, u0, show a'.eval (Operand.const (Value.int IntKind.i64 0)) = Value.int IntKind.i64 0 from rfl]; go_simp; intro h; omega) hdst ⟨BCm_pure hB _ (by decide), rfl, fun _ _ _ q => q⟩
    | 13, _ =>
      intro o a' w' Dn hg ho hdst hk hDi hcl hdep hB hV
      have u0 : a'.eval (.tmp 31) = .pointer (some ⟨pb, po, none⟩) := hV 12 (hdep 12 (by decide))
      have c : w'.cell? ⟨pb, po, none⟩ = some (.int .i64 f) := (hB.1.cell (p := ⟨pb, po, none⟩) (block_lt_of_cell hpg)).trans hpg
      exact op_val (v := .int .i64 f) (by simp only [execOp, show o.op = Op.load 3 (.tmp 31) from ho, u0]; go_simp) hdst ⟨BCm_pure hB _ (by decide), rfl, fun _ _ _ q => q⟩
    | 14, _ => exact fun o a' w' Dn hg ho hdst hk hDi hcl hdep hB hV => op_val (run_op_move ho ((hk.slot 7 (by omega)).trans e7) w') hdst ⟨BCm_pure hB _ (by decide), rfl, fun _ _ _ q => q⟩
    | 15, _ =>
      intro o a' w' Dn hg ho hdst hk hDi hcl hdep hB hV
      have u0 : a'.eval (.tmp 33) = .slice so m cap := hV 14 (hdep 14 (by decide))
      exact op_val (v := .int .i64 m) (op_len_bytes ho u0 w') hdst ⟨BCm_pure hB _ (by decide), rfl, fun _ _ _ q => q⟩
    | 16, _ =>
      intro o a' w' Dn hg ho hdst hk hDi hcl hdep hB hV
      have u0 : a'.eval (.tmp 23) = .agg #[.int .i64 D, .int .i64 L, .int .i64 G] := hV 4 (hdep 4 (by decide))
      have u1 : a'.eval (.tmp 29) = .int .u64 ((t + 1 : Nat) : Int) := hV 10 (hdep 10 (by decide))
      have u2 : a'.eval (.tmp 34) = .int .i64 m := hV 15 (hdep 15 (by decide))
      have u3 : a'.eval (.tmp 32) = .int .i64 f := hV 13 (hdep 13 (by decide))
      exact op_val (v := .agg (rootA D L G (t + 1) f m)) (by simp only [execOp, show o.op = Op.build 63 #[(0, Operand.tmp 23), (1, Operand.tmp 29), (2, Operand.tmp 32), (3, Operand.tmp 34)] from ho, List.map_toArray, List.map_cons, List.map_nil, u0, u1, u2, u3]; go_simp; rfl) hdst ⟨BCm_pure hB _ (by decide), rfl, fun _ _ _ q => q⟩
    | 17, _ =>
      intro o a' w' Dn hg ho hdst hk hDi hcl hdep hB hV
      have hD18 : Dn 18 = false := by
        cases q : Dn 18 with
        | false => rfl
        | true => have := (hcl 18 q).2 17 (by decide); rw [hDi] at this; cases this
      have hdown : ∀ b, w.heap.size ≤ b → isRoot (w'.alloc (.cells (rootA 0 0 0 0 0 0) 63)) b → b = w'.heap.size := fun b hb ⟨c, q1, q2⟩ => by
        have := (Array.getElem?_eq_some_iff.1 q2).1
        simp at this
        by_cases e : b = w'.heap.size
        · exact e
        · exact absurd ⟨c, q1, (blk_alloc_lt _ _ _ (by omega)).symm.trans q2⟩ (hB.2.2 hDi b hb)
      refine op_val (v := .pointer (some ⟨w'.heap.size, 0, none⟩)) (w' := w'.alloc (.cells (rootA 0 0 0 0 0 0) 63)) (by simp only [execOp, show o.op = Op.alloc 63 from ho]; go_simp; rfl) hdst ⟨⟨hB.1.alloc hB.1.size _, fun b b' h1 h2 q1 q2 => (hdown b h1 q1).trans (hdown b' h2 q2).symm, fun q => (by unfold upd at q; rw [if_pos rfl] at q; cases q)⟩, ⟨_, rfl, hB.1.size, _, rfl, blk_alloc_new _ _⟩, fun j u hj q => ?_⟩
      match j, hj, q with
      | 0, _, q | 1, _, q | 2, _, q | 3, _, q | 4, _, q | 5, _, q | 6, _, q | 7, _, q | 8, _, q | 9, _, q | 10, _, q | 11, _, q | 12, _, q | 13, _, q | 14, _, q | 15, _, q | 16, _, q => exact q
      | 17, hj, _ => rw [hDi] at hj; cases hj
      | 18, hj, _ => rw [hD18] at hj; cases hj
      | n + 19, _, _ => trivial
    | 18, _ =>
      intro o a' w' Dn hg ho hdst hk hDi hcl hdep hB hV
      obtain ⟨b, u0, hb, c, q3, q4⟩ : VCm w.heap.size ar v D L G t m pb po pn pc f so cap 17 (a'.eval (.tmp 9)) w' := hV 17 (hdep 17 (by decide))
      have u1 : a'.eval (.tmp 35) = .agg (rootA D L G (t + 1) f m) := hV 16 (hdep 16 (by decide))
      have hup : ∀ b', isRoot (w'.setRow b (rootA D L G (t + 1) f m)) b' → isRoot w' b' := fun b' ⟨c', q1, q2⟩ => by
        by_cases e : b' = b
        · subst e; exact ⟨c, q3, q4⟩
        · exact ⟨c', q1, ((grown_setRow' w' b _).block b' (by have := (Array.getElem?_eq_some_iff.1 q2).1; rwa [size_setRow] at this) (fun q => e (by cases q; rfl))).symm.trans q2⟩
      have hO : Below w.heap.size w' (w'.setRow b (rootA D L G (t + 1) f m)) := ⟨rfl, rfl, rfl, by rw [size_setRow]; exact Nat.le_refl _, fun k hk => (grown_setRow' w' b _).block k (by have := hB.1.size; omega) (fun q => by cases q; omega)⟩
      refine op_skip (w' := w'.setRow b (rootA D L G (t + 1) f m)) (by simp [execOp, show o.op = Op.store 63 (.tmp 9) (.tmp 35) from ho, u0, u1, root_store q4 q3]) ⟨⟨hB.1.trans hO, fun b1 b2 h1 h2 q1 q2 => hB.2.1 b1 b2 h1 h2 (hup b1 q1) (hup b2 q2), fun q b1 h1 h2 => hB.2.2 (by unfold upd at q; rwa [if_neg (by decide)] at q) b1 h1 (hup b1 h2)⟩, ⟨b, hb, setRow_heap w' b c _ _ _ q4⟩, fun j u hj q => ?_⟩
      match j, hj, q with
      | 0, _, q | 1, _, q | 2, _, q | 3, _, q | 4, _, q | 5, _, q | 6, _, q | 7, _, q | 8, _, q | 9, _, q | 10, _, q | 11, _, q | 12, _, q | 13, _, q | 14, _, q | 15, _, q | 16, _, q => exact q
      | 17, _, ⟨b1, q1, q2, c1, q5, q6⟩ =>
        refine ⟨b1, q1, q2, ?_⟩
        have e : b1 = b := hB.2.1 b1 b q2 hb ⟨c1, q5, q6⟩ ⟨c, q3, q4⟩
        subst e
        exact ⟨_, rfl, setRow_heap w' b1 c1 _ _ _ q6⟩
      | 18, hj, _ => rw [hDi] at hj; cases hj
      | n + 19, _, _ => trivial
    | n + 19, hn => exact absurd hn (by show ¬ n + 19 < 19; omega)
  · rintro a' w' hk' hsame ⟨Dn, hD, hB⟩ hV
    obtain ⟨b, u0, hb, hr⟩ : VCm w.heap.size ar v D L G t m pb po pn pc f so cap 17 (a'.eval (.tmp 9)) w' := hV 17 (by decide)
    obtain ⟨b2, hb2, hr2⟩ : VCm w.heap.size ar v D L G t m pb po pn pc f so cap 18 undef w' := hV 18 (by decide)
    have e : b2 = b := hB.2.1 b2 b hb2 hb ⟨_, rfl, hr2⟩ hr
    subst e
    have e : a' = Act.putFrom (a.put (some 9) (.pointer (some ⟨b2, 0, none⟩))) 19 ((List.range 17).map fun i => a'.eval (.tmp (19 + i))) := framed_two hk'.size hk'.defers (by rw [List.length_map, List.length_range]; omega) (by decide) u0 (fun i hi => by
      rw [List.length_map, List.length_range] at hi
      rw [List.getD_eq_getElem?_getD, List.getElem?_map, List.getElem?_range hi]; rfl) (fun s hs hs2 => by
      rw [List.length_map, List.length_range] at hs2
      refine hsame s fun i hi => ?_
      have hi' : i < 19 := hi
      rcases Nat.lt_or_ge i 17 with h | h
      · intro q
        have h3 : (shAt shCm i).2.1 = some (19 + i) := by
          have : ∀ i, i < 17 → (shAt shCm i).2.1 = some (19 + i) := by decide
          exact this i h
        rw [h3] at q
        have := Option.some.inj q
        omega
      · rcases Nat.lt_or_ge i 18 with h5 | h5
        · have : i = 17 := by omega
          subst this
          intro q
          have := Option.some.inj q
          omega
        · have : i = 18 := by omega
          subst this
          intro q
          cases q)
    rw [e]
    exact hQ w' _ b2 (by rw [List.length_map, List.length_range]) hb hr2 hB.1
end Go.Proofs.YtogdeaaphdlchaaGreatDoor
/-
  commit: the root is written on all drives.
-/
namespace Go.Proofs.YtogdeaaphdlchaaGreatDoor
open Go.RowKit Go.Shelf Go.Deep Gf

theorem root_loadM {w : World} {q D L G t f n : Nat} (h : w.heap[q]? = some (.cells (rootA D L G t f n) 63 (0, 0))) : (Instr.loadAt 63 (.pointer (some ⟨q, 0, none⟩))).run Tryz.prog w = .ok (.agg (rootA D L G t f n)) w := by
  simp only [Instr.loadAt, Instr.sureAddr, Sem.run_bind, Sem.run_pure, Result.andThen_ok, run_loadVar_row w q 63 63 (rootA D L G t f n) (0, 0) _ h Tryz.underlying63 rfl (by kernel_rfl)]
noncomputable def RCw : Array Oper := ((Tryz.f53.body.bind (rgf · 6))).getD #[]
def shCw : List (Op × Option Nat × List Nat) := [(Op.move (Operand.tmp 0), some 36, []),
    (Op.nilCheck (Operand.tmp 36), some 37, [0]),
    (Op.fieldAddr 68 (Operand.tmp 37) 0, some 38, [1]),
    (Op.load 59 (Operand.tmp 38), some 39, [2]),
    (Op.load 63 (Operand.tmp 9), some 40, []),
    (Op.makeInterface 63 (Operand.tmp 40), some 41, [4]),
    (Op.move (Operand.tmp 0), some 42, []),
    (Op.nilCheck (Operand.tmp 42), some 43, [6]),
    (Op.fieldAddr 68 (Operand.tmp 43) 0, some 44, [7]),
    (Op.load 59 (Operand.tmp 44), some 45, [8]),
    (Op.call { callee := Callee.value (Operand.func 50), args := #[Operand.tmp 45], argTypes := #[59] }, some 46, [9]),
    (Op.call { callee := Callee.value (Operand.func 44), args := #[Operand.tmp 39, Operand.const (Value.int IntKind.i64 0), Operand.tmp 41, Operand.tmp 46], argTypes := #[59, 3, 125, 89] }, some 47, [3, 5, 10, 10])]
theorem RCw_shape : RegShape RCw 36 48 shCw := regShape (by kernel_rfl) (by kernel_rfl)
def vsCw (ar v D L G t f m S : Nat) : List Value := [.pointer (some ⟨ar, 0, none⟩), .pointer (some ⟨ar, 0, none⟩), .pointer (some ⟨ar, 0, none⟩), .pointer (some ⟨v, 0, none⟩), .agg (rootA D L G t f m), recV (.root D L G t f m), .pointer (some ⟨ar, 0, none⟩), .pointer (some ⟨ar, 0, none⟩), .pointer (some ⟨ar, 0, none⟩), .pointer (some ⟨v, 0, none⟩), .int .u64 S, .int .u64 0]
def arCw (A : Arr) (r : Rec) (D : Nat → Bool) : Arr := if D 11 = true then A.putAt (List.range A.n) 0 (fun _ => r.blk) else A
def BCw (w0 : World) (p : Nat) (A : Arr) (F : Foot) (r : Rec) (Dn : Nat → Bool) (w : World) : Prop := ArrAt w p (arCw A r Dn) F ∧ Outside (F.has p A.n) w0 w
theorem BCw_upd {w0 : World} {p : Nat} {A : Arr} {F : Foot} {r : Rec} {Dn : Nat → Bool} {w w' : World} (h : BCw w0 p A F r Dn w) (i : Nat) (hi : i ≠ 11) (hb : Below w.heap.size w w') : BCw w0 p A F r (upd Dn i) w' := by
  refine ⟨?_, h.2.trans (Outside.of_all hb _)⟩
  have e : arCw A r (upd Dn i) = arCw A r Dn := by unfold arCw upd; rw [if_neg (fun e : 11 = i => hi e.symm)]
  rw [e]; exact h.1.below hb (Nat.le_refl _)
set_option maxRecDepth 100000 in
set_option maxHeartbeats 1000000 in
theorem commitWrite_region {ops : Array Oper} {Q : Exit → Act → World → Prop} {a : Act} {w : World} {ar v p D L G ps ho : Nat} {A : Arr} {F : Foot} {cs : Array Value} (hops : RCw = ops) (hV : Vol w v p D L G ps ho A F) (hF : Free F p A.n v) (hnar : ¬ F.has p A.n ar) (har : w.heap[ar]? = some (.cells cs 68 (0, 0))) (h0 : cs[0]? = some (.pointer (some ⟨v, 0, none⟩)))
    (hf : A.fit) (hn : A.n = D + L + G) (hD : D ≤ 12) (hL4 : L ≤ 4) (hG : G ≤ 4) (h16 : D + L + G ≤ 16) (hb : 0 < A.nb) (hw : A.wait < 0) (hl : ∀ i, A.lost i = false) {D' L' G' t f m q : Nat} (hok : (Rec.root D' L' G' t f m).ok) (hq : w.heap[q]? = some (.cells (rootA D' L' G' t f m) 63 (0, 0))) (hnq : ¬ F.has p A.n q)
    (hsz : a.tmps.size = 60) (e0 : a.eval (.tmp 0) = .pointer (some ⟨ar, 0, none⟩)) (e9 : a.eval (.tmp 9) = .pointer (some ⟨q, 0, none⟩))
    (hQ : ∀ (w' : World) (vs : List Value), vs.length = 12 → ArrAt w' p (A.putAt (List.range A.n) 0 (fun _ => (Rec.root D' L' G' t f m).blk)) F → Outside (F.has p A.n) w w' → Q .normal (Act.putFrom a 36 vs) w') : (Code.region 6 ops true).wp Tryz.prog Q a w := by
  subst hops
  obtain ⟨S, hS⟩ : ∃ S, 2 ^ (D + L + G) - 1 = S := ⟨_, rfl⟩
  have hSm : mems S = List.range A.n := by rw [← hS, hn]; exact mems_all h16
  have hSl : S < 65536 := by
    have : 2 ^ (D + L + G) ≤ 2 ^ 16 := Nat.pow_le_pow_right (by decide) h16
    omega
  have harl : ar < w.heap.size := (Array.getElem?_eq_some_iff.1 har).1
  have hql : q < w.heap.size := (Array.getElem?_eq_some_iff.1 hq).1
  have har' : ∀ w', Outside (F.has p A.n) w w' → w'.cell? ⟨ar, 0, none⟩ = some (.pointer (some ⟨v, 0, none⟩)) := fun w' hO => by
    have := (hO.block ar harl hnar).trans har
    simp [World.cell?, this, h0]
  refine region_facts (by kernel_rfl) RCw_shape a w (by omega) (fun i u _ => u = (vsCw ar v D' L' G' t f m S).getD i undef) (BCw w p A F (.root D' L' G' t f m)) ⟨hV.arr.keep fun _ _ => rfl, Outside.drew w⟩ ?_ ?_
  · intro i hi
    match i, hi with
    | 0, _ => exact fun o a' w' Dn hg ho hdst hk hDi hcl hdep hB hV' => op_val (run_op_move ho ((hk.slot 0 (by omega)).trans e0) w') hdst ⟨BCw_upd hB _ (by decide) (Below.refl _ _), rfl, fun _ _ _ q => q⟩
    | 1, _ =>
      intro o a' w' Dn hg ho hdst hk hDi hcl hdep hB hV'
      have u0 : a'.eval (.tmp 36) = .pointer (some ⟨ar, 0, none⟩) := hV' 0 (hdep 0 (by decide))
      exact op_val (v := .pointer (some ⟨ar, 0, none⟩)) (by simp only [execOp, show o.op = Op.nilCheck (.tmp 36) from ho, u0]; go_simp) hdst ⟨BCw_upd hB _ (by decide) (Below.refl _ _), rfl, fun _ _ _ q => q⟩
    | 2, _ =>
      intro o a' w' Dn hg ho hdst hk hDi hcl hdep hB hV'
      have u0 : a'.eval (.tmp 37) = .pointer (some ⟨ar, 0, none⟩) := hV' 1 (hdep 1 (by decide))
      exact op_val (v := .pointer (some ⟨ar, 0, none⟩)) (by simp only [execOp, show o.op = Op.fieldAddr 68 (.tmp 37) 0 from ho, u0]; go_simp) hdst ⟨BCw_upd hB _ (by decide) (Below.refl _ _), rfl, fun _ _ _ q => q⟩
    | 3, _ =>
      intro o a' w' Dn hg ho hdst hk hDi hcl hdep hB hV'
      have u0 : a'.eval (.tmp 38) = .pointer (some ⟨ar, 0, none⟩) := hV' 2 (hdep 2 (by decide))
      have c := har' w' hB.2
      exact op_val (v := .pointer (some ⟨v, 0, none⟩)) (by simp only [execOp, show o.op = Op.load 59 (.tmp 38) from ho, u0]; go_simp) hdst ⟨BCw_upd hB _ (by decide) (Below.refl _ _), rfl, fun _ _ _ q => q⟩
    | 4, _ =>
      intro o a' w' Dn hg ho hdst hk hDi hcl hdep hB hV'
      have u0 : a'.eval (.tmp 9) = .pointer (some ⟨q, 0, none⟩) := (hk.slot 9 (by omega)).trans e9
      have hld := root_loadM ((hB.2.block q hql hnq).trans hq)
      exact op_val (v := .agg (rootA D' L' G' t f m)) (by simp [execOp, show o.op = Op.load 63 (.tmp 9) from ho, u0, hld]) hdst ⟨BCw_upd hB _ (by decide) (Below.refl _ _), rfl, fun _ _ _ q => q⟩
    | 5, _ =>
      intro o a' w' Dn hg ho hdst hk hDi hcl hdep hB hV'
      have u0 : a'.eval (.tmp 40) = .agg (rootA D' L' G' t f m) := hV' 4 (hdep 4 (by decide))
      exact op_val (v := recV (.root D' L' G' t f m)) (by simp only [execOp, show o.op = Op.makeInterface 63 (.tmp 40) from ho, u0, recV]; go_simp) hdst ⟨BCw_upd hB _ (by decide) (Below.refl _ _), rfl, fun _ _ _ q => q⟩
    | 6, _ => exact fun o a' w' Dn hg ho hdst hk hDi hcl hdep hB hV' => op_val (run_op_move ho ((hk.slot 0 (by omega)).trans e0) w') hdst ⟨BCw_upd hB _ (by decide) (Below.refl _ _), rfl, fun _ _ _ q => q⟩
    | 7, _ =>
      intro o a' w' Dn hg ho hdst hk hDi hcl hdep hB hV'
      have u0 : a'.eval (.tmp 42) = .pointer (some ⟨ar, 0, none⟩) := hV' 6 (hdep 6 (by decide))
      exact op_val (v := .pointer (some ⟨ar, 0, none⟩)) (by simp only [execOp, show o.op = Op.nilCheck (.tmp 42) from ho, u0]; go_simp) hdst ⟨BCw_upd hB _ (by decide) (Below.refl _ _), rfl, fun _ _ _ q => q⟩
    | 8, _ =>
      intro o a' w' Dn hg ho hdst hk hDi hcl hdep hB hV'
      have u0 : a'.eval (.tmp 43) = .pointer (some ⟨ar, 0, none⟩) := hV' 7 (hdep 7 (by decide))
      exact op_val (v := .pointer (some ⟨ar, 0, none⟩)) (by simp only [execOp, show o.op = Op.fieldAddr 68 (.tmp 43) 0 from ho, u0]; go_simp) hdst ⟨BCw_upd hB _ (by decide) (Below.refl _ _), rfl, fun _ _ _ q => q⟩
    | 9, _ =>
      intro o a' w' Dn hg ho hdst hk hDi hcl hdep hB hV'
      have u0 : a'.eval (.tmp 44) = .pointer (some ⟨ar, 0, none⟩) := hV' 8 (hdep 8 (by decide))
      have c := har' w' hB.2
      exact op_val (v := .pointer (some ⟨v, 0, none⟩)) (by simp only [execOp, show o.op = Op.load 59 (.tmp 44) from ho, u0]; go_simp) hdst ⟨BCw_upd hB _ (by decide) (Below.refl _ _), rfl, fun _ _ _ q => q⟩
    | 10, _ =>
      intro o a' w' Dn hg ho hdst hk hDi hcl hdep hB hV'
      have u0 : a'.eval (.tmp 45) = .pointer (some ⟨v, 0, none⟩) := hV' 9 (hdep 9 (by decide))
      refine op_call (f := 50) (args := #[.pointer (some ⟨v, 0, none⟩)]) (w1 := w') (by simp only [execOp, show o.op = Op.call { callee := Callee.value (Operand.func 50), args := #[Operand.tmp 45], argTypes := #[59] } from ho]; go_simp; simpa [Act.eval] using u0) hdst (volAll_any (hV.vol.keep (hB.2.block _ hV.vol.lt hF.v)) hD hL4 hG h16) ?_
      rintro e w'' ⟨rfl, hb'⟩
      rw [hS]
      exact ⟨_, rfl, BCw_upd hB 10 (by decide) hb', rfl, fun _ _ _ q => q⟩
    | 11, _ =>
      intro o a' w' Dn hg' ho hdst hk hDi hcl hdep hB hV'
      have u0 : a'.eval (.tmp 39) = .pointer (some ⟨v, 0, none⟩) := hV' 3 (hdep 3 (by decide))
      have u1 : a'.eval (.tmp 41) = recV (.root D' L' G' t f m) := hV' 5 (hdep 5 (by decide))
      have u2 : a'.eval (.tmp 46) = .int .u64 S := hV' 10 (hdep 10 (by decide))
      have hA : ArrAt w' p A F := by have := hB.1; unfold arCw at this; rw [if_neg (by rw [hDi]; decide)] at this; exact this
      have hVw := hV.turn hF hB.2 hA
      have hwc := writeCopies_ok hVw hF hf 0 S hb hSl (fun i hi => by rw [hSm] at hi; simpa using hi) hw (fun i _ => hl i) (.root D' L' G' t f m) hok (makes_root hok)
      rw [hSm] at hwc
      refine op_call (f := 44) (args := #[.pointer (some ⟨v, 0, none⟩), .int .i64 (0 : Nat), recV (.root D' L' G' t f m), .int .u64 S]) (w1 := w') (by simp only [execOp, show o.op = Op.call { callee := Callee.value (Operand.func 44), args := #[Operand.tmp 39, Operand.const (Value.int IntKind.i64 0), Operand.tmp 41, Operand.tmp 46], argTypes := #[59, 3, 125, 89] } from ho]; go_simp; exact ⟨by simpa [Act.eval] using u0, by simpa [Act.eval] using u1, by simpa [Act.eval] using u2⟩) hdst hwc ?_
      rintro e w'' ⟨rfl, hA', hO'⟩
      refine ⟨_, rfl, ⟨?_, hB.2.trans hO'⟩, rfl, fun _ _ _ q => q⟩
      have e : arCw A (.root D' L' G' t f m) (upd Dn 11) = A.putAt (List.range A.n) 0 (fun _ => (Rec.root D' L' G' t f m).blk) := by unfold arCw upd; rw [if_pos (by rw [if_pos rfl])]
      rw [e]; exact hA'
    | n + 12, hn => exact absurd hn (by show ¬ n + 12 < 12; omega)
  · rintro a' w' hk' ⟨Dn, hD', hB⟩ hV'
    have e : arCw A (.root D' L' G' t f m) Dn = A.putAt (List.range A.n) 0 (fun _ => (Rec.root D' L' G' t f m).blk) := by unfold arCw; rw [if_pos (hD' 11 (by decide))]
    have hA := hB.1
    rw [e] at hA
    have e : a' = Act.putFrom a 36 ((List.range 12).map fun i => a'.eval (.tmp (36 + i))) := hk'.out _ (by rw [List.length_map, List.length_range]) (by omega) (fun i hi => by
      rw [List.length_map, List.length_range] at hi
      rw [List.getD_eq_getElem?_getD, List.getElem?_map, List.getElem?_range hi]; rfl)
    rw [e]
    exact hQ w' _ (by rw [List.length_map, List.length_range]) hA hB.2
end Go.Proofs.YtogdeaaphdlchaaGreatDoor
/-
  commit: a catalog takes the place of the last one.
-/
namespace Go.Proofs.YtogdeaaphdlchaaGreatDoor
open Go.RowKit Go.Shelf Go.Deep Gf

/-- a root as a variable -/
theorem rt_load {w : World} {ops : Array Oper} {rest : List Oper} {o : Oper} {a : Act} {Q : Exit → Act → World → Prop} (hg : o.guard = none) (x : Operand) (ho : o.op = .load 63 x) {b D L G t f n : Nat} {ra : Array Value} (hra : ra = rootA D L G t f n)
    (hx : a.eval x = .pointer (some ⟨b, 0, none⟩)) (hb : w.heap[b]? = some (.cells (rootA D L G t f n) 63 (0, 0))) (h : wpList Tryz.prog ops Q rest (a.put o.dst (.agg ra)) w) : wpList Tryz.prog ops Q (o :: rest) a w := by
  refine wpList_plain hg fun K hK => ?_
  subst hra
  unfold Oper.wp
  simp [execOp, ho, hx, root_loadM hb, Result.andThen]
  exact hK _ _ h
theorem arc_root {w : World} {ar v D L G t f n D' L' G' t' f' n' : Nat} {pg ob : Value} {off : Bool} (h : ArcAt w ar v D' L' G' t' f' n' pg ob off) : ArcAt (w.setCells ar 1 (rootA D L G t f n).toList) ar v D L G t f n pg ob off := by
  have h' : w.heap[ar]? = some (.cells (arcA v D' L' G' t' f' n' pg ob off) 68 (0, 0)) := h
  have := heap_setCell_at (j := 6) (heap_setCell_at (j := 5) (heap_setCell_at (j := 4) (heap_setCell_at (j := 3) (heap_setCell_at (j := 2) (heap_setCell_at (j := 1) h' (.int .i64 (D : Int))) (.int .i64 (L : Int))) (.int .i64 (G : Int))) (.int .u64 (t : Int))) (.int .i64 (f : Int))) (.int .i64 (n : Int))
  exact this
theorem ArcAt.there {w : World} {ar v D' L' G' t' f' n' : Nat} {pg ob : Value} {off : Bool} (h : ArcAt w ar v D' L' G' t' f' n' pg ob off) : w.there ar 1 6 := by
  have h' : w.heap[ar]? = some (.cells (arcA v D' L' G' t' f' n' pg ob off) 68 (0, 0)) := h
  intro j hj
  match j, hj with
  | 0, _ | 1, _ | 2, _ | 3, _ | 4, _ | 5, _ => simp [World.cell?, World.frozen?, h', arcA]
  | n + 6, hn => exact absurd hn (by omega)
theorem ArcAt.late {w : World} {ar v D' L' G' t' f' n' : Nat} {pg ob : Value} {off : Bool} (h : ArcAt w ar v D' L' G' t' f' n' pg ob off) (pg' ob' : Value) : ArcAt ((w.setCell ⟨ar, 7, none⟩ pg').setCell ⟨ar, 8, none⟩ ob') ar v D' L' G' t' f' n' pg' ob' off := by
  have h' : w.heap[ar]? = some (.cells (arcA v D' L' G' t' f' n' pg ob off) 68 (0, 0)) := h
  exact heap_setCell_at (j := 8) (heap_setCell_at (j := 7) h' pg') ob'
theorem ArcAt.tail {w : World} {ar v D' L' G' t' f' n' : Nat} {pg ob : Value} {off : Bool} (h : ArcAt w ar v D' L' G' t' f' n' pg ob off) : w.cell? ⟨ar, 7, none⟩ = some pg ∧ w.frozen? ⟨ar, 7, none⟩ = false ∧ w.cell? ⟨ar, 8, none⟩ = some ob ∧ w.frozen? ⟨ar, 8, none⟩ = false := by
  have h' : w.heap[ar]? = some (.cells (arcA v D' L' G' t' f' n' pg ob off) 68 (0, 0)) := h
  simp [World.cell?, World.frozen?, h', arcA]
theorem list17 {vs : List Value} (h : vs.length = 17) : ∃ x0 x1 x2 x3 x4 x5 x6 x7 x8 x9 xa xb xc xd xe xf xg, vs = [x0, x1, x2, x3, x4, x5, x6, x7, x8, x9, xa, xb, xc, xd, xe, xf, xg] := by
  match vs, h with
  | [x0, x1, x2, x3, x4, x5, x6, x7, x8, x9, xa, xb, xc, xd, xe, xf, xg], _ => exact ⟨_, _, _, _, _, _, _, _, _, _, _, _, _, _, _, _, _, rfl⟩
/-- what Pack makes of a catalog, whatever was made besides -/
def PackOk (w : World) (vo : Value) (l : List Nat) : Prop := ∀ W, Below w.heap.size w W → Calls Tryz.prog 73 #[vo] W fun e w' => ∃ g cap, e = .returned (.slice (some ⟨g, 0, none⟩) l.length cap) ∧ w'.ownsRow W.heap.size 5 1 (.slice (some ⟨g, 0, none⟩) l.length cap) l.length (bts l) ∧ Below W.heap.size W w'
def CmPost (w : World) (ar v p D L G t : Nat) (A : Arr) (F : Foot) (P l : List Nat) (vp vo : Value) (off : Bool) (e : Ending) (w' : World) : Prop := e = .returned .nilIface ∧ ArrAt w' p ((A.pagesTo D L G P l P.length).putAt (List.range A.n) 0 (fun _ => (Rec.root D L G (t + 1) (P.getD 0 0) l.length).blk)) F ∧ ArcAt w' ar v D L G (t + 1) (P.getD 0 0) l.length vp vo off ∧ Outside (fun k => k = ar ∨ F.has p A.n k) w w'
set_option maxRecDepth 100000 in
set_option maxHeartbeats 2000000 in
theorem commit_any {w : World} {ar v p D L G ps ho D' L' G' t f nn : Nat} {pg ob : Value} {off : Bool} {A : Arr} {F : Foot} (ha : ArcAt w ar v D' L' G' t f nn pg ob off) (hV : Vol w v p D L G ps ho A F) (hF : Free F p A.n v) (har : ¬ F.has p A.n ar) (hf : A.fit) (hn : A.n = D + L + G) (hr : rightB D L G = true) (hD1 : 1 ≤ D) (hD : D ≤ 12) (hL : 1 ≤ L) (hL4 : L ≤ 4) (hG : G ≤ 4) (hdiv : D % L = 0) (h16 : D + L + G ≤ 16)
    (hw : A.wait < 0) (hlost : ∀ i, A.lost i = false) (ht : t ≤ 1000000000) (oo : Option Addr) (on oc : Nat) (l : List Nat) (hlx : ∀ x ∈ l, x < 256) (hll : l.length ≤ 1000000) (hpk : PackOk w (.slice oo on oc) l)
    (pb po pc : Nat) (P : List Nat) (hP : Ints (fun k => ¬ F.has p A.n k) w (.slice (some ⟨pb, po, none⟩) P.length pc) P) (hP1 : P ≠ []) (hPn : ∀ x ∈ P, x < A.nb) (hPl : ∀ k, k < P.length → k * (D * 44 - 4) ≤ l.length) :
    Calls Tryz.prog 53 #[.pointer (some ⟨ar, 0, none⟩), .slice oo on oc, .slice (some ⟨pb, po, none⟩) P.length pc] w fun e w' => CmPost w ar v p D L G t A F P l (.slice (some ⟨pb, po, none⟩) P.length pc) (.slice oo on oc) off e w' := by
  have hPpos : 0 < P.length := List.length_pos_iff.2 hP1
  obtain ⟨f0, hf0⟩ : ∃ f0, P.getD 0 0 = f0 := ⟨_, rfl⟩
  have hf0' : P[0] = f0 := by rw [← hf0]; simp [hPpos]
  have hnb := hf.nb
  have hf0l : f0 < A.nb := by rw [← hf0']; exact hPn _ (List.getElem_mem _)
  have hok : (Rec.root D L G (t + 1) f0 l.length).ok := ⟨by omega, by omega, by omega, by omega, by omega, by omega⟩
  unfold CmPost
  rw [hf0]
  have HA := hide (And.intro hf0 hf0')
  have HP := hide hP
  clear hf0 hf0' hP
  go_enter Tryz.func53, Tryz.ntmps53
  go_wp2_with fail
  refine (hpk w (Below.refl _ w)).mono ?_
  rintro e w1 ⟨g, cap, rfl, hown, hb1⟩
  have ha1 := ha.keep (hb1.block _ ha.lt)
  have hV1 := hV.below hb1 (Nat.le_refl _)
  have hP1' := HP.out.keep (KpS.of_below hb1)
  have hwp := writePages_any ha1 hV1 hF har hf hn hr hD1 hD hL hL4 hG hdiv h16 hw hlost g cap w.heap.size l hown hlx hll (fun k hk => hV.arr.has_lt hk) _ P hP1' hPn hPl
  have H1 := hide (And.intro hb1 (And.intro hwp (And.intro hP1' (And.intro ha1 hV1))))
  clear hb1 hwp hP1' hown ha1 hV1
  go_wp2_with fail
  refine H1.out.2.1.mono ?_
  rintro e w2 ⟨rfl, hA2, hO2⟩
  obtain ⟨hb1, _, hPw1, ha1, hV1⟩ := H1.out
  have ha2 := ha1.keep (hO2.block _ ha1.lt har)
  have hpn := pagesTo_n A D L G P l P.length
  have hV2 := hV1.turn hF hO2 hA2
  have hP2 := hPw1.keep (KpS.of_outside hO2)
  obtain ⟨b', bo', c', e1, hat⟩ := ints_at hP2 hP1
  simp only [Value.slice.injEq, Option.some.injEq, Addr.mk.injEq] at e1
  obtain ⟨⟨rfl, rfl, _⟩, _, rfl⟩ := e1
  have hpg := hat 0 hPpos
  rw [Nat.add_zero, HA.out.2] at hpg
  have hO02 : Outside (F.has p A.n) w w2 := (Outside.of_all hb1 _).trans hO2
  have H2 := hide (And.intro ha2 (And.intro hV2 (And.intro hO02 hpg)))
  clear hb1 hPw1 ha1 hV1 hA2 hO2 ha2 hV2 hP2 hat hpg hO02
  go_wp2_with fail
  refine commit_region (f := f0) (by kernel_rfl) H2.out.2.1.vol H2.out.1 rfl rfl ht (by omega) H2.out.2.2.2 rfl rfl rfl rfl ?_
  intro w3 vs rb hvs hrb hroot hb3
  obtain ⟨x0, x1, x2, x3, x4, x5, x6, x7, x8, x9, xa, xb, xc, xd, xe, xf, xg, rfl⟩ := list17 hvs
  obtain ⟨ha2, hV2, hO02, hpg2⟩ := H2.out
  clear hpg2
  have ha3 := ha2.keep (hb3.block _ ha2.lt)
  have hV3 := hV2.below hb3 (Nat.le_refl _)
  have hO03 : Outside (F.has p A.n) w w3 := hO02.trans (Outside.of_all hb3 _)
  have hrbF : ¬ F.has p A.n rb := fun q => by have := hV.arr.has_lt q; have := hO02.size; omega
  have H3 := hide (And.intro ha3 (And.intro hV3 (And.intro hO03 (And.intro hroot (And.intro hrbF hrb)))))
  clear ha2 hV2 hO02 ha3 hV3 hO03 hroot hrbF hrb hb3 hvs
  rename_i hK
  refine hK _ _ ?_
  clear hK
  simp only [Act.putFrom, Act.put, List.setIfInBounds_toArray, List.set_cons_succ, List.set_cons_zero]
  go_wp2_with fail
  obtain ⟨ha3, hV3, hO03, hroot, hrbF, hrb⟩ := H3.out
  obtain ⟨pn1, pn2, pn3, pn4⟩ := hpn
  refine commitWrite_region (by kernel_rfl) hV3 (by rw [pn1]; exact hF) (by rw [pn1]; exact har) ha3 rfl (pagesTo_fit hf hD hG hn P l _) (by rw [pn1]; exact hn) hD hL4 hG h16 (by rw [pn2]; omega) (by rw [pn3]; exact hw) (fun i => by rw [pn4]; exact hlost i) hok hroot (by rw [pn1]; exact hrbF) rfl rfl rfl ?_
  rw [pn1]
  intro w4 vs hvs hA4 hO4
  obtain ⟨y0, y1, y2, y3, y4, y5, y6, y7, y8, y9, ya, yb, rfl⟩ := list12 hvs
  have ha4 := ha3.keep (hO4.block _ ha3.lt har)
  have hroot4 := (hO4.block rb (Array.getElem?_eq_some_iff.1 hroot).1 hrbF).trans hroot
  have hO04 : Outside (fun k => k = ar ∨ F.has p A.n k) w w4 := (hO03.trans hO4).mono fun _ _ q => .inr q
  have ht6 := ha4.there
  have ha7 := arc_root (D := D) (L := L) (G := G) (t := t + 1) (f := f0) (n := l.length) ha4
  have hO8 := hO04.trans (Outside.setCells (S := fun k => k = ar ∨ F.has p A.n k) _ ar 1 (rootA D L G (t + 1) f0 l.length).toList (.inl rfl))
  have hA8 := hA4.outside (Outside.setCells (S := fun k => k = ar) w4 ar 1 (rootA D L G (t + 1) f0 l.length).toList rfl) (fun k hk e => har (by have hk' : F.has p (A.pagesTo D L G P l P.length).n k := hk; rw [pn1] at hk'; exact e ▸ hk'))
  obtain ⟨w8, hw8⟩ : ∃ w8, w4.setCells ar 1 (rootA D L G (t + 1) f0 l.length).toList = w8 := ⟨_, rfl⟩
  rw [hw8] at ha7 hO8 hA8
  obtain ⟨c7, f7, c8, f8⟩ := ha7.tail
  have H := hide (And.intro hA8 (And.intro hO8 (And.intro ha7 (And.intro ht6 (And.intro hroot4 hw8)))))
  clear hA4 hO4 ha4 hO04 ht6 ha7 hO8 hA8 hw8 hroot4 ha3 hV3 hO03 hroot hvs
  rename_i hK
  refine hK _ _ ?_
  clear hK
  simp only [Act.putFrom, Act.put, List.setIfInBounds_toArray, List.set_cons_succ, List.set_cons_zero]
  go_wp2_with (first | (refine rt_load rfl (.tmp 9) rfl rfl (by rfl) (by exact H.out.2.2.2.2.1) ?_) | (refine wpList_store_mid rfl 63 (.tmp 55) (.tmp 51) rfl ar 1 (rootA D L G (t + 1) f0 l.length) (by rfl) (by rfl) (by exact H.out.2.2.2.1) (rootA_info _ _ _ _ _ _) (rootA_one _ _ _ _ _ _) ?_; rw [H.out.2.2.2.2.2]))
  go_ret
  refine ⟨rfl, ?_, H.out.2.2.1.late _ _, (H.out.2.1.trans (Outside.setCell _ _ _ (.inl rfl))).trans (Outside.setCell _ _ _ (.inl rfl))⟩
  exact H.out.1.keep fun k hk => by
    have hk' : F.has p (A.pagesTo D L G P l P.length).n k := hk
    rw [pn1] at hk'
    have hne : k ≠ ar := fun e => har (e ▸ hk')
    exact (blk_setCell_other _ _ _ _ hne).trans (blk_setCell_other _ _ _ _ hne)
end Go.Proofs.YtogdeaaphdlchaaGreatDoor
