import Derived.Test.YtogdeaaphdlchaaGreatDoorPart01
import Derived.Test.YtogdeaaphdlchaaGreatDoorRows
import Derived.WalkKit
import Derived.ProofKit
import Derived.OpenShut
import Derived.WalkSpells
import Derived.Laws.BitsLemmas
import Derived.Deep.QuietTactic
import Derived.BigQuiet
import Derived.Maps.AppendAt
import Derived.Laws.Bits64b
/-
  A drive's block as a value, and in a block of memory of its own.
-/
namespace Go.Proofs.YtogdeaaphdlchaaGreatDoor
open Go.RowKit Go.Deep

def blkA (l : List Nat) : Array Value := (bts l).toArray
theorem blkA_size (l : List Nat) : (blkA l).size = l.length := by unfold blkA bts; simp
theorem blkA_list (l : List Nat) : (blkA l).toList = bts l := by unfold blkA; rfl
theorem bts_len (l : List Nat) : (bts l).length = l.length := by unfold bts; simp
theorem blkA_one (l : List Nat) : (blkA l).all (fun v => v.oneCell') = true := all_oneCell_toArray fun v hv => by
  unfold bts at hv
  rw [List.mem_map] at hv
  obtain ⟨x, _, rfl⟩ := hv
  rfl
theorem Tryz.sizeBlk : (Tryz.prog.info? 157).map (fun i => i.size) = some 64 := by kernel_rfl
theorem blkA_info {l : List Nat} (h : l.length = 64) : (Tryz.prog.info? 157).map (fun i => i.size) = some (blkA l).size := by rw [blkA_size, h]; exact Tryz.sizeBlk
def zb : List Nat := List.replicate 64 0
theorem zb_len : zb.length = 64 := by simp [zb]
theorem Tryz.zeroBlk : (Tryz.prog.info? 157).map (fun i => (i.zero, i.size, i.bytes)) = some (some (.agg (blkA zb)), 64, 64) := by kernel_rfl
theorem zeroBlk (w : World) : (zeroValue 157).run Tryz.prog w = .ok (.agg (blkA zb)) w := by
  obtain ⟨i0, hi0, hz0, _, _⟩ := info_parts Tryz.zeroBlk
  simp [zeroValue, typeInfo, Sem.run_bind, hi0, hz0]
/-- block b of memory is just these bytes, as one variable -/
def BlkAt (w : World) (b : Nat) (l : List Nat) : Prop := w.heap[b]? = some (.cells (blkA l) 157 (0, 0))
theorem BlkAt.lt {w : World} {b : Nat} {l : List Nat} (h : BlkAt w b l) : b < w.heap.size := (Array.getElem?_eq_some_iff.1 h).1
theorem BlkAt.new (w : World) (l : List Nat) : BlkAt (w.alloc (.cells (blkA l) 157)) w.heap.size l := blk_alloc_new _ _
theorem BlkAt.keep {w w' : World} {b : Nat} {l : List Nat} (h : BlkAt w b l) (e : w'.heap[b]? = w.heap[b]?) : BlkAt w' b l := e.trans h
theorem BlkAt.setRow {w : World} {b : Nat} {l' : List Nat} (l : List Nat) (h : BlkAt w b l') : BlkAt (w.setRow b (blkA l)) b l := setRow_heap w b (blkA l') (blkA l) _ _ h
theorem grown_setRow' (w : World) (b : Nat) (cs : Array Value) : w.grownBy (w.setRow b cs) (some b) :=
  ⟨rfl, rfl, rfl, by simp, fun k _ hne => by
    have : b ≠ k := fun e => hne (by rw [e])
    simp [World.setRow, Array.getElem?_modify, this]⟩
theorem Outside.setRow {S : Nat → Prop} (w : World) (b : Nat) (cs : Array Value) (h : S b) : Outside S w (w.setRow b cs) :=
  have g := grown_setRow' w b cs
  ⟨g.os, g.tape, g.output, g.size, fun k hk hs => g.block k hk (fun e => hs (by cases e; exact h))⟩
theorem size_setRow (w : World) (b : Nat) (cs : Array Value) : (w.setRow b cs).heap.size = w.heap.size := by simp [World.setRow]
theorem blk_loadAt {w : World} {b : Nat} {l : List Nat} (h : BlkAt w b l) (hl : l.length = 64) : (Instr.loadAt 157 (.pointer (some ⟨b, 0, none⟩))).run Tryz.prog w = .ok (.agg (blkA l)) w := by
  simp only [Instr.loadAt, Instr.sureAddr, Sem.run_bind, Sem.run_pure, Result.andThen_ok, run_loadVar_row w b 157 157 (blkA l) (0, 0) _ h Tryz.underlying157 rfl (blkA_info hl)]
theorem blk_loadVar {w : World} {b : Nat} {l : List Nat} (h : BlkAt w b l) (hl : l.length = 64) : (loadVar 157 ⟨b, 0, none⟩).run Tryz.prog w = .ok (.agg (blkA l)) w :=
  run_loadVar_row w b 157 157 (blkA l) (0, 0) _ h Tryz.underlying157 rfl (blkA_info hl)
theorem blk_storeAt {w : World} {b : Nat} {l' : List Nat} (l : List Nat) (h : BlkAt w b l') (hl' : l'.length = 64) (hl : l.length = 64) : (Instr.storeAt 157 (.pointer (some ⟨b, 0, none⟩)) (.agg (blkA l))).run Tryz.prog w = .ok () (w.setRow b (blkA l)) := by
  simp only [Instr.storeAt, Instr.sureAddr, Sem.run_bind, Sem.run_pure, Result.andThen_ok, run_storeVar_row w b 157 157 (blkA l') (blkA l) h (blkA_info hl) (by rw [blkA_size, blkA_size, hl, hl']) (blkA_one l)]
theorem bl_load {w : World} {ops : Array Oper} {rest : List Oper} {o : Oper} {a : Act} {Q : Exit → Act → World → Prop} (hg : o.guard = none) (x : Operand) (ho : o.op = .load 157 x) (b : Nat) (l : List Nat)
    (hx : a.eval x = .pointer (some ⟨b, 0, none⟩)) (hb : BlkAt w b l) (hl : l.length = 64) (h : wpList Tryz.prog ops Q rest (a.put o.dst (.agg (blkA l))) w) : wpList Tryz.prog ops Q (o :: rest) a w := by
  refine wpList_plain hg fun K hK => ?_
  unfold Oper.wp
  simp [execOp, ho, hx, blk_loadAt hb hl, Result.andThen]
  exact hK _ _ h
theorem bl_store {w : World} {ops : Array Oper} {rest : List Oper} {o : Oper} {a : Act} {Q : Exit → Act → World → Prop} (hg : o.guard = none) (x y : Operand) (ho : o.op = .store 157 x y) (b : Nat) (l l' : List Nat)
    (hx : a.eval x = .pointer (some ⟨b, 0, none⟩)) (hy : a.eval y = .agg (blkA l)) (hb : BlkAt w b l') (hl' : l'.length = 64) (hl : l.length = 64) (h : wpList Tryz.prog ops Q rest (a.put o.dst undef) (w.setRow b (blkA l))) : wpList Tryz.prog ops Q (o :: rest) a w := by
  refine wpList_plain hg fun K hK => ?_
  unfold Oper.wp
  simp [execOp, ho, hx, hy, blk_storeAt l hb hl' hl, Result.andThen]
  exact hK _ _ h
/-- in mid-block -/
theorem bl_loadMid {w : World} {ops : Array Oper} {rest : List Oper} {o : Oper} {a : Act} {Q : Exit → Act → World → Prop} (hg : o.guard = none) (x : Operand) (ho : o.op = .load 157 x) (b k : Nat) (l : List Nat)
    (hx : a.eval x = .pointer (some ⟨b, k, none⟩)) (hb : w.rangeAt b k (bts l)) (hl : l.length = 64) (h : wpList Tryz.prog ops Q rest (a.put o.dst (.agg (blkA l))) w) : wpList Tryz.prog ops Q (o :: rest) a w :=
  wpList_load_mid hg 157 x ho b k hx (bts l) _ hb Tryz.underlying157 rfl (by rw [bts_len, hl]; exact Tryz.sizeBlk) h
/-- a result that lies in memory, and one in a slot -/
theorem results_cell_slot {P : Program} {fn : Func} {p q : Tmp} {ty : TypeId} (h : fn.results = #[.cell p ty, .tmp q]) (tmps : Array Value) (w : World) (ad : Addr) (v u : Value)
    (hp : tmps.getD p undef = .pointer (some ad)) (hq : tmps.getD q undef = u) (hl : (loadVar ty ad).run P w = .ok v w) : (results fn tmps).run P w = .ok (.tuple #[v, u]) w := by
  have hp' : tmps[p]?.getD undef = .pointer (some ad) := by simpa using hp
  have hq' : tmps[q]?.getD undef = u := by simpa using hq
  simp [results, h, hp', hq', asAddr, hl]
end Go.Proofs.YtogdeaaphdlchaaGreatDoor
/-
  The field of 256, over plain numbers. Nothing of the program is imported here.
-/
namespace Go.Proofs.YtogdeaaphdlchaaGreatDoor.Gf

/-- times x -/
def tx (a : Nat) : Nat := if a < 128 then 2 * a else (2 * a - 256) ^^^ 29
/-- the product, as the program's loop works it out -/
def gmf : Nat → Nat → Nat → Nat → Nat
  | 0, _, _, p => p
  | n + 1, a, b, p => gmf n (tx a) (b / 2) (if b % 2 = 1 then p ^^^ a else p)
def gm (a b : Nat) : Nat := gmf 8 a b 0
/-- the inverse: so many rounds of squaring -/
def gif : Nat → Nat → Nat → Nat
  | 0, _, v => v
  | n + 1, p, v => gif n (gm p p) (gm v (gm p p))
def gi (a : Nat) : Nat := gif 7 a 1

theorem xlt {x y : Nat} (hx : x < 256) (hy : y < 256) : x ^^^ y < 256 := Nat.xor_lt_two_pow (n := 8) hx hy
theorem tx_lt {a : Nat} (h : a < 256) : tx a < 256 := by
  unfold tx; split
  · omega
  · exact xlt (by omega) (by decide)
theorem gmf_lt (n : Nat) : ∀ a b p, a < 256 → p < 256 → gmf n a b p < 256 := by
  induction n with
  | zero => intro a b p _ hp; exact hp
  | succ n ih =>
    intro a b p ha hp
    unfold gmf
    refine ih _ _ _ (tx_lt ha) ?_
    split
    · exact xlt hp ha
    · exact hp
theorem gm_lt {a : Nat} (b : Nat) (ha : a < 256) : gm a b < 256 := gmf_lt 8 a b 0 ha (by decide)
theorem gif_lt (n : Nat) : ∀ p v, p < 256 → v < 256 → gif n p v < 256 := by
  induction n with
  | zero => intro p v _ hv; exact hv
  | succ n ih => intro p v hp hv; unfold gif; exact ih _ _ (gm_lt _ hp) (gm_lt _ hv)
theorem gi_lt {a : Nat} (h : a < 256) : gi a < 256 := gif_lt 7 a 1 h (by decide)

/-! bits -/
theorem xor_two_mul (x y : Nat) : 2 * (x ^^^ y) = (2 * x) ^^^ (2 * y) := by
  have := Nat.shiftLeft_xor_distrib (a := x) (b := y) (i := 1)
  simp only [Nat.shiftLeft_eq, Nat.pow_one] at this
  rw [Nat.mul_comm, this, Nat.mul_comm x, Nat.mul_comm y]
theorem xor_div2 (x y : Nat) : (x ^^^ y) / 2 = (x / 2) ^^^ (y / 2) := Nat.xor_div_two
theorem xor_mod2 (x y : Nat) : (x ^^^ y) % 2 = (x % 2 + y % 2) % 2 := by
  have h := Nat.xor_mod_two_pow (a := x) (b := y) (n := 1)
  simp only [Nat.pow_one] at h
  rw [h]
  have hx := Nat.mod_two_eq_zero_or_one x
  have hy := Nat.mod_two_eq_zero_or_one y
  rcases hx with hx | hx <;> rcases hy with hy | hy <;> rw [hx, hy] <;> rfl
theorem xor4 (a b c d : Nat) : (a ^^^ b) ^^^ (c ^^^ d) = (a ^^^ c) ^^^ (b ^^^ d) := by
  rw [Nat.xor_assoc, Nat.xor_assoc, ← Nat.xor_assoc b c d, Nat.xor_comm b c, Nat.xor_assoc c b d]
theorem tx_eq : ∀ a, a < 256 → tx a = (2 * a) % 256 ^^^ (if a / 128 % 2 = 1 then 29 else 0) := by decide +kernel
theorem hi_xor (x y : Nat) : (x ^^^ y) / 128 % 2 = (x / 128 % 2 + y / 128 % 2) % 2 := by
  have : (x ^^^ y) / 128 = (x / 128) ^^^ (y / 128) := Nat.xor_div_two_pow (n := 7)
  rw [this]; exact xor_mod2 _ _
theorem tx_xor {x y : Nat} (hx : x < 256) (hy : y < 256) : tx (x ^^^ y) = tx x ^^^ tx y := by
  rw [tx_eq _ (xlt hx hy), tx_eq _ hx, tx_eq _ hy, xor4, xor_two_mul]
  have h := Nat.xor_mod_two_pow (a := 2 * x) (b := 2 * y) (n := 8)
  have e : (2 : Nat) ^ 8 = 256 := rfl
  rw [e] at h
  rw [h, hi_xor]
  congr 1
  have hx := Nat.mod_two_eq_zero_or_one (x / 128)
  have hy := Nat.mod_two_eq_zero_or_one (y / 128)
  rcases hx with hx | hx <;> rcases hy with hy | hy <;> rw [hx, hy] <;> rfl
theorem gmf_xor_b (n : Nat) : ∀ a b c p q, gmf n a (b ^^^ c) (p ^^^ q) = gmf n a b p ^^^ gmf n a c q := by
  induction n with
  | zero => intro a b c p q; rfl
  | succ n ih =>
    intro a b c p q
    simp only [gmf]
    rw [xor_div2, ← ih, xor_mod2]
    congr 1
    have hx := Nat.mod_two_eq_zero_or_one b
    have hy := Nat.mod_two_eq_zero_or_one c
    rcases hx with hx | hx <;> rcases hy with hy | hy <;> rw [hx, hy] <;> simp
    · rw [Nat.xor_assoc]
    · rw [Nat.xor_assoc, Nat.xor_comm q a, ← Nat.xor_assoc]
    · rw [xor4, Nat.xor_self, Nat.xor_zero]
theorem gmf_xor_a (n : Nat) : ∀ a d b p q, a < 256 → d < 256 → gmf n (a ^^^ d) b (p ^^^ q) = gmf n a b p ^^^ gmf n d b q := by
  induction n with
  | zero => intro a d b p q _ _; rfl
  | succ n ih =>
    intro a d b p q ha hd
    simp only [gmf]
    rw [tx_xor ha hd, ← ih _ _ _ _ _ (tx_lt ha) (tx_lt hd)]
    congr 1
    by_cases h : b % 2 = 1
    · simp only [h, if_true]; exact xor4 _ _ _ _
    · simp only [h, if_false]
theorem gm_add (a b c : Nat) : gm a (b ^^^ c) = gm a b ^^^ gm a c := gmf_xor_b 8 a b c 0 0
theorem add_gm {a d : Nat} (b : Nat) (ha : a < 256) (hd : d < 256) : gm (a ^^^ d) b = gm a b ^^^ gm d b := gmf_xor_a 8 a d b 0 0 ha hd

/-! an additive function is known by its values at the powers of 2 -/
theorem spell : ∀ x, x < 256 → x = (if x % 2 = 1 then 1 else 0) ^^^ ((if x / 2 % 2 = 1 then 2 else 0) ^^^ ((if x / 4 % 2 = 1 then 4 else 0) ^^^ ((if x / 8 % 2 = 1 then 8 else 0) ^^^ ((if x / 16 % 2 = 1 then 16 else 0) ^^^ ((if x / 32 % 2 = 1 then 32 else 0) ^^^ ((if x / 64 % 2 = 1 then 64 else 0) ^^^ (if x / 128 % 2 = 1 then 128 else 0))))))) := by
  decide +kernel
theorem additive_ext (f g : Nat → Nat) (hf : ∀ x y, x < 256 → y < 256 → f (x ^^^ y) = f x ^^^ f y) (hg : ∀ x y, x < 256 → y < 256 → g (x ^^^ y) = g x ^^^ g y)
    (h : ∀ i, i < 8 → f (2 ^ i) = g (2 ^ i)) (x : Nat) (hx : x < 256) : f x = g x := by
  have f0 : f 0 = 0 := by have := hf 0 0 (by decide) (by decide); rw [Nat.xor_self, Nat.xor_self] at this; exact this
  have g0 : g 0 = 0 := by have := hg 0 0 (by decide) (by decide); rw [Nat.xor_self, Nat.xor_self] at this; exact this
  have one : ∀ (c : Prop) [Decidable c] (i : Nat), i < 8 → f (if c then 2 ^ i else 0) = g (if c then 2 ^ i else 0) := by
    intro c _ i hi; split
    · exact h i hi
    · rw [f0, g0]
  have lt : ∀ (c : Prop) [Decidable c] (i : Nat), i < 8 → (if c then 2 ^ i else 0) < 256 := by
    intro c _ i hi; split
    · exact Nat.lt_of_lt_of_le (Nat.pow_lt_pow_right (by decide) hi) (by decide)
    · decide
  have st : ∀ (c : Prop) [Decidable c] (i y : Nat), i < 8 → y < 256 → f y = g y → f ((if c then 2 ^ i else 0) ^^^ y) = g ((if c then 2 ^ i else 0) ^^^ y) := by
    intro c _ i y hi hy e
    rw [hf _ _ (lt c i hi) hy, hg _ _ (lt c i hi) hy, one c i hi, e]
  have l7 := lt (x / 128 % 2 = 1) 7 (by decide)
  have l6 := xlt (lt (x / 64 % 2 = 1) 6 (by decide)) l7
  have l5 := xlt (lt (x / 32 % 2 = 1) 5 (by decide)) l6
  have l4 := xlt (lt (x / 16 % 2 = 1) 4 (by decide)) l5
  have l3 := xlt (lt (x / 8 % 2 = 1) 3 (by decide)) l4
  have l2 := xlt (lt (x / 4 % 2 = 1) 2 (by decide)) l3
  have l1 := xlt (lt (x / 2 % 2 = 1) 1 (by decide)) l2
  have e7 := one (x / 128 % 2 = 1) 7 (by decide)
  have e6 := st (x / 64 % 2 = 1) 6 _ (by decide) l7 e7
  have e5 := st (x / 32 % 2 = 1) 5 _ (by decide) l6 e6
  have e4 := st (x / 16 % 2 = 1) 4 _ (by decide) l5 e5
  have e3 := st (x / 8 % 2 = 1) 3 _ (by decide) l4 e4
  have e2 := st (x / 4 % 2 = 1) 2 _ (by decide) l3 e3
  have e1 := st (x / 2 % 2 = 1) 1 _ (by decide) l2 e2
  have e0 := st (x % 2 = 1) 0 _ (by decide) l1 e1
  have s := spell x hx
  simp only [Nat.reducePow] at e0
  rw [← s] at e0
  exact e0

/-! the rules of a field -/
theorem basis_comm : ∀ i, i < 8 → ∀ j, j < 8 → gm (2 ^ i) (2 ^ j) = gm (2 ^ j) (2 ^ i) := by decide +kernel
theorem basis_assoc : ∀ i, i < 8 → ∀ j, j < 8 → ∀ k, k < 8 → gm (gm (2 ^ i) (2 ^ j)) (2 ^ k) = gm (2 ^ i) (gm (2 ^ j) (2 ^ k)) := by decide +kernel
theorem pow_lt {i : Nat} (hi : i < 8) : 2 ^ i < 256 := Nat.lt_of_lt_of_le (Nat.pow_lt_pow_right (by decide) hi) (by decide)
theorem gm_comm {a b : Nat} (ha : a < 256) (hb : b < 256) : gm a b = gm b a := by
  refine additive_ext (fun x => gm a x) (fun x => gm x a) (fun x y _ _ => gm_add a x y) (fun x y hx hy => add_gm a hx hy) (fun i hi => ?_) b hb
  refine additive_ext (fun x => gm x (2 ^ i)) (fun x => gm (2 ^ i) x) (fun x y hx hy => add_gm _ hx hy) (fun x y _ _ => gm_add _ x y) (fun j hj => ?_) a ha
  exact basis_comm j hj i hi
theorem gm_assoc {a b c : Nat} (ha : a < 256) (hb : b < 256) (hc : c < 256) : gm (gm a b) c = gm a (gm b c) := by
  refine additive_ext (fun x => gm (gm x b) c) (fun x => gm x (gm b c)) (fun x y hx hy => ?_) (fun x y hx hy => add_gm _ hx hy) (fun i hi => ?_) a ha
  · show gm (gm (x ^^^ y) b) c = _
    rw [add_gm _ hx hy, add_gm _ (gm_lt _ hx) (gm_lt _ hy)]
  refine additive_ext (fun x => gm (gm (2 ^ i) x) c) (fun x => gm (2 ^ i) (gm x c)) (fun x y hx hy => ?_) (fun x y hx hy => ?_) (fun j hj => ?_) b hb
  · show gm (gm (2 ^ i) (x ^^^ y)) c = _
    rw [gm_add, add_gm _ (gm_lt _ (pow_lt hi)) (gm_lt _ (pow_lt hi))]
  · show gm (2 ^ i) (gm (x ^^^ y) c) = _
    rw [add_gm _ hx hy, gm_add]
  refine additive_ext (fun x => gm (gm (2 ^ i) (2 ^ j)) x) (fun x => gm (2 ^ i) (gm (2 ^ j) x)) (fun x y _ _ => gm_add _ x y) (fun x y _ _ => ?_) (fun k hk => ?_) c hc
  · show gm (2 ^ i) (gm (2 ^ j) (x ^^^ y)) = _
    rw [gm_add, gm_add]
  exact basis_assoc i hi j hj k hk
theorem gm_one : ∀ a, a < 256 → gm a 1 = a := by decide +kernel
theorem gm_gi : ∀ a, a < 256 → a ≠ 0 → gm a (gi a) = 1 := by decide +kernel
theorem gi_zero : gi 0 = 0 := by decide +kernel
theorem gm_zero (a : Nat) : gm a 0 = 0 := by have := gm_add a 0 0; rw [Nat.xor_self, Nat.xor_self] at this; exact this
theorem zero_gm (b : Nat) : gm 0 b = 0 := by have := add_gm (a := 0) (d := 0) b (by decide) (by decide); rw [Nat.xor_self, Nat.xor_self] at this; exact this
theorem two_128 : gm 2 128 = 29 := by decide +kernel
theorem gi_unique {a b : Nat} (ha : a < 256) (hb : b < 256) (h : gm a b = 1) : b = gi a := by
  have h0 : a ≠ 0 := by intro e; rw [e, zero_gm] at h; exact absurd h (by decide)
  have hi := gi_lt ha
  have e1 := gm_assoc hi ha hb
  rw [h, gm_one _ hi, gm_comm hi ha, gm_gi a ha h0, gm_comm (by decide) hb, gm_one b hb] at e1
  exact e1

/-! the document's product: the whole product of polynomials, then what is divided out -/
def pm (a b : Nat) : Nat → Nat
  | 0 => 0
  | n + 1 => if b / 2 ^ n % 2 = 1 then pm a b n ^^^ (a * 2 ^ n) else pm a b n
def rd : Nat → Nat → Nat
  | 0, p => p
  | k + 1, p => rd k (if p / 2 ^ (k + 8) % 2 = 1 then p ^^^ (285 * 2 ^ k) else p)
theorem bit_xor (x y n : Nat) : (x ^^^ y) / 2 ^ n % 2 = (x / 2 ^ n % 2 + y / 2 ^ n % 2) % 2 := by
  rw [Nat.xor_div_two_pow]; exact xor_mod2 _ _
theorem mul_pow_xor (x y n : Nat) : (x ^^^ y) * 2 ^ n = (x * 2 ^ n) ^^^ (y * 2 ^ n) := by
  have := Nat.shiftLeft_xor_distrib (a := x) (b := y) (i := n)
  simpa only [Nat.shiftLeft_eq] using this
theorem pm_xor_b (a b c n : Nat) : pm a (b ^^^ c) n = pm a b n ^^^ pm a c n := by
  induction n with
  | zero => simp [pm]
  | succ n ih =>
    simp only [pm]
    rw [bit_xor, ih]
    have hx := Nat.mod_two_eq_zero_or_one (b / 2 ^ n)
    have hy := Nat.mod_two_eq_zero_or_one (c / 2 ^ n)
    rcases hx with hx | hx <;> rcases hy with hy | hy <;> rw [hx, hy] <;> simp
    · rw [Nat.xor_assoc]
    · rw [Nat.xor_assoc, Nat.xor_comm (pm a c n), ← Nat.xor_assoc]
    · rw [xor4, Nat.xor_self, Nat.xor_zero]
theorem pm_xor_a (a d b n : Nat) : pm (a ^^^ d) b n = pm a b n ^^^ pm d b n := by
  induction n with
  | zero => simp [pm]
  | succ n ih =>
    simp only [pm]
    rw [ih]
    by_cases h : b / 2 ^ n % 2 = 1
    · simp only [h, if_true]; rw [mul_pow_xor]; exact xor4 _ _ _ _
    · simp only [h, if_false]
theorem rd_xor (k : Nat) : ∀ p q, rd k (p ^^^ q) = rd k p ^^^ rd k q := by
  induction k with
  | zero => intro p q; rfl
  | succ k ih =>
    intro p q
    simp only [rd]
    rw [← ih, bit_xor]
    congr 1
    have hx := Nat.mod_two_eq_zero_or_one (p / 2 ^ (k + 8))
    have hy := Nat.mod_two_eq_zero_or_one (q / 2 ^ (k + 8))
    rcases hx with hx | hx <;> rcases hy with hy | hy <;> rw [hx, hy] <;> simp
    · rw [Nat.xor_assoc]
    · rw [Nat.xor_assoc, Nat.xor_comm q, ← Nat.xor_assoc]
    · rw [xor4, Nat.xor_self, Nat.xor_zero]
theorem basis_ref : ∀ i, i < 8 → ∀ j, j < 8 → rd 7 (pm (2 ^ i) (2 ^ j) 8) = gm (2 ^ i) (2 ^ j) := by decide +kernel
theorem ref_eq {a b : Nat} (ha : a < 256) (hb : b < 256) : rd 7 (pm a b 8) = gm a b := by
  refine additive_ext (fun x => rd 7 (pm a x 8)) (fun x => gm a x) (fun x y _ _ => ?_) (fun x y _ _ => gm_add a x y) (fun i hi => ?_) b hb
  · show rd 7 (pm a (x ^^^ y) 8) = _
    rw [pm_xor_b, rd_xor]
  refine additive_ext (fun x => rd 7 (pm x (2 ^ i) 8)) (fun x => gm x (2 ^ i)) (fun x y _ _ => ?_) (fun x y hx hy => add_gm _ hx hy) (fun j hj => ?_) a ha
  · show rd 7 (pm (x ^^^ y) (2 ^ i) 8) = _
    rw [pm_xor_a, rd_xor]
  exact basis_ref j hj i hi
theorem pm_lt (a b : Nat) (ha : a < 256) : ∀ n, n ≤ 8 → pm a b n < 65536 := by
  intro n
  induction n with
  | zero => intro _; exact (by decide : (0 : Nat) < 65536)
  | succ n ih =>
    intro hn
    have h := ih (by omega)
    unfold pm; split
    · refine Nat.xor_lt_two_pow (n := 16) h ?_
      have : a * 2 ^ n < 256 * 2 ^ n := Nat.mul_lt_mul_of_pos_right ha (Nat.two_pow_pos n)
      have h2 : 2 ^ n ≤ 2 ^ 7 := Nat.pow_le_pow_right (by decide) (by omega)
      omega
    · exact h
end Go.Proofs.YtogdeaaphdlchaaGreatDoor.Gf
/-
  The walks of Mul and Inv, the program's and the document's.
-/
namespace Go.Proofs.YtogdeaaphdlchaaGreatDoor
open Go.RowKit Gf

theorem hide {p : Prop} (h : p) : Hid p := h
theorem ret_int {k : IntKind} {a b : Int} (h : a = b) : Ending.returned (.int k a) = .returned (.int k b) := by rw [h]
theorem u8_and (a b : Nat) (ha : a < 256) (hb : b < 256) : bits .and .u8 (a : Int) (b : Int) = ((a &&& b : Nat) : Int) :=
  (bits_nat .u8 8 (by decide) wraps_u8 a b ha hb).1
theorem u8_xor (a b : Nat) (ha : a < 256) (hb : b < 256) : bits .xor .u8 (a : Int) (b : Int) = ((a ^^^ b : Nat) : Int) := by
  have ha' : a % 2 ^ IntKind.u8.bits = a := Nat.mod_eq_of_lt ha
  have hb' : b % 2 ^ IntKind.u8.bits = b := Nat.mod_eq_of_lt hb
  simp only [bits, BitVec.ofInt_natCast, BitVec.toNat_xor, BitVec.toNat_ofNat, ha', hb']
  have := xlt ha hb
  exact wraps_u8 _ (Int.natCast_nonneg _) (by omega)
theorem wraps_i64 (n : Int) (h₀ : 0 ≤ n) (h₁ : n < 2 ^ 62) : IntKind.i64.wrap n = n := by rw [IntKind.wrap_i64]; omega
theorem i64_and (a b : Nat) (ha : a < 2 ^ 62) (hb : b < 2 ^ 62) : bits .and .i64 (a : Int) (b : Int) = ((a &&& b : Nat) : Int) :=
  (bits_nat .i64 62 (by decide) wraps_i64 a b ha hb).1
theorem i64_xor (a b : Nat) (ha : a < 2 ^ 62) (hb : b < 2 ^ 62) : bits .xor .i64 (a : Int) (b : Int) = ((a ^^^ b : Nat) : Int) := by
  have hp : (2 : Nat) ^ 62 < 2 ^ IntKind.i64.bits := by decide
  have ha' : a % 2 ^ IntKind.i64.bits = a := Nat.mod_eq_of_lt (Nat.lt_trans ha hp)
  have hb' : b % 2 ^ IntKind.i64.bits = b := Nat.mod_eq_of_lt (Nat.lt_trans hb hp)
  simp only [bits, BitVec.ofInt_natCast, BitVec.toNat_xor, BitVec.toNat_ofNat, ha', hb']
  have := Nat.xor_lt_two_pow (n := 62) ha hb
  exact wraps_i64 _ (Int.natCast_nonneg _) (by exact_mod_cast this)
theorem and128 : ∀ a, a < 256 → ((a &&& 128 = 0) ↔ a < 128) := by decide +kernel
theorem test128 (a : Nat) (h : a < 256) : (bits .and .u8 (a : Int) 128 != 0) = decide (128 ≤ a) := by
  have e := u8_and a 128 h (by decide)
  rw [show ((128 : Nat) : Int) = 128 from rfl] at e
  rw [e]
  have := and128 a h
  rw [Bool.eq_iff_iff]
  simp
  omega
theorem and1 (a : Nat) : a &&& 1 = a % 2 := Nat.and_one_is_mod a
theorem test1 (a : Nat) (h : a < 256) : (bits .and .u8 (a : Int) 1 != 0) = decide (a % 2 = 1) := by
  have e := u8_and a 1 h (by decide)
  rw [show ((1 : Nat) : Int) = 1 from rfl] at e
  rw [e, and1]
  rw [Bool.eq_iff_iff]
  simp
  omega

theorem tx_hi {a : Nat} (h : a < 256) (ht : 128 ≤ a) : bits .xor .u8 ((a : Int) * 2 % 256) 29 = (tx a : Int) := by
  have e : ((a : Int) * 2 % 256) = ((2 * a - 256 : Nat) : Int) := by omega
  rw [e, show (29 : Int) = ((29 : Nat) : Int) from rfl, u8_xor _ _ (by omega) (by decide)]
  unfold tx; rw [if_neg (by omega)]
theorem tx_lo {a : Nat} (ht : a < 128) : (a : Int) * 2 = (tx a : Int) := by
  unfold tx; rw [if_pos ht]; omega
set_option maxRecDepth 100000 in
theorem timesX_any (a : Nat) (h : a < 256) (w : World) :
    Calls Tryz.prog 106 #[.int .u8 a] w fun e w' => e = .returned (.int .u8 (tx a)) ∧ w' = w := by
  have ht := test128 a h
  by_cases hc : 128 ≤ a
  · rw [decide_eq_true hc] at ht
    go_enter Tryz.func106, Tryz.ntmps106
    go_wp2
    go_ret
    exact ⟨ret_int (tx_hi h hc), rfl⟩
  · rw [decide_eq_false hc] at ht
    go_enter Tryz.func106, Tryz.ntmps106
    go_wp2
    go_ret
    exact ⟨ret_int (tx_lo (by omega)), rfl⟩

theorem gmf_zero (n : Nat) : ∀ a p, gmf n a 0 p = p := by
  induction n with
  | zero => intro a p; rfl
  | succ n ih => intro a p; simp only [gmf]; exact ih _ _
set_option maxRecDepth 100000 in
set_option maxHeartbeats 1000000 in
theorem mul_any (a b : Nat) (ha : a < 256) (hb : b < 256) (w : World) :
    Calls Tryz.prog 90 #[.int .u8 a, .int .u8 b] w fun e w' => e = .returned (.int .u8 (gm a b)) ∧ w' = w := by
  go_enter Tryz.func90, Tryz.ntmps90
  go_wp2
  go_loop [0, 1, 5] (fun s t u => ∃ n x y z : Nat, x < 256 ∧ y < 256 ∧ z < 256 ∧ y < 2 ^ n ∧ Hid (gmf n x y z = gm a b) ∧ s = .int .u8 x ∧ t = .int .u8 y ∧ u = .int .u8 z) (fun _ t _ => (intOf t).toNat)
  case atStart => exact ⟨8, a, b, 0, ha, hb, by decide, hb, rfl, rfl, rfl, rfl⟩
  case round =>
    obtain ⟨n, x, y, z, hx, hy, hz, hn, hg, rfl, rfl, rfl⟩ := hrel
    by_cases hy0 : y = 0
    · subst hy0
      go_wp2
      go_ret
      exact ⟨ret_int (by rw [← hg.out, gmf_zero]), rfl⟩
    · have hyn : ((y : Int) != 0) = true := by rw [bne_iff_ne]; omega
      have ht := test1 y hy
      cases n with
      | zero => exact absurd hn (by simp; omega)
      | succ n =>
      have hn2 : y / 2 < 2 ^ n := by rw [Nat.pow_succ] at hn; omega
      by_cases hc : y % 2 = 1
      · rw [decide_eq_true hc] at ht
        have hg2 : Hid (gmf n (tx x) (y / 2) (z ^^^ x) = gm a b) := by have := hg.out; simp only [gmf] at this; rw [if_pos hc] at this; exact this
        have hxz := u8_xor z x hz hx
        go_wp2_with (go_at_call 106; refine (timesX_any _ hx _).mono ?_; rintro e w' ⟨rfl, rfl⟩)
        go_round
        case rel => exact ⟨n, tx x, y / 2, z ^^^ x, tx_lt hx, by omega, xlt hz hx, hn2, hg2, rfl, by go_num, rfl⟩
        case measure => simp [intOf]; omega
      · rw [decide_eq_false hc] at ht
        have hg2 : Hid (gmf n (tx x) (y / 2) z = gm a b) := by have := hg.out; simp only [gmf] at this; rw [if_neg hc] at this; exact this
        go_wp2_with (go_at_call 106; refine (timesX_any _ hx _).mono ?_; rintro e w' ⟨rfl, rfl⟩)
        go_round
        case rel => exact ⟨n, tx x, y / 2, z, tx_lt hx, by omega, hz, hn2, hg2, rfl, by go_num, rfl⟩
        case measure => simp [intOf]; omega

theorem gif_step (n p v : Nat) : gif (n + 1) p v = gif n (gm p p) (gm v (gm p p)) := rfl
set_option maxRecDepth 100000 in
set_option maxHeartbeats 1000000 in
theorem inv_any (a : Nat) (ha : a < 256) (w : World) :
    Calls Tryz.prog 88 #[.int .u8 a] w fun e w' => e = .returned (.int .u8 (gi a)) ∧ w' = w := by
  go_enter Tryz.func88, Tryz.ntmps88
  go_wp2
  go_loop [3, 4, 6] (fun s t u => ∃ k p v : Nat, k ≤ 7 ∧ p < 256 ∧ v < 256 ∧ Hid (gif (7 - k) p v = gi a) ∧ s = .int .u8 v ∧ t = .int .u8 p ∧ u = .int .i64 k) (fun _ _ u => 7 - (intOf u).toNat)
  case atStart => exact ⟨0, a, 1, by decide, ha, by decide, rfl, rfl, rfl, rfl⟩
  case round =>
    obtain ⟨k, p, v, hk, hp, hv, hg, rfl, rfl, rfl⟩ := hrel
    by_cases hlt : k < 7
    · have hg2 : Hid (gif (7 - (k + 1)) (gm p p) (gm v (gm p p)) = gi a) := by
        have := hg.out; rw [show 7 - k = (7 - (k + 1)) + 1 from by omega, gif_step] at this; exact this
      go_wp2_with fail
      refine (mul_any p p hp hp _).mono ?_
      rintro e w' ⟨rfl, rfl⟩
      go_wp2_with fail
      refine (mul_any v (gm p p) hv (gm_lt _ hp) _).mono ?_
      rintro e w' ⟨rfl, rfl⟩
      go_wp2_with fail
      go_round
      case rel => exact ⟨k + 1, gm p p, gm v (gm p p), by omega, gm_lt _ hp, gm_lt _ hv, hg2, rfl, rfl, by go_num⟩
      case measure => simp [intOf]; omega
    · have hk7 : k = 7 := by omega
      subst hk7
      go_wp2
      go_ret
      exact ⟨ret_int (by rw [← hg.out]; rfl), rfl⟩
end Go.Proofs.YtogdeaaphdlchaaGreatDoor
/-
  Bytes that are read, wherever they lie; the law's own small functions on them.
-/
namespace Go.Proofs.YtogdeaaphdlchaaGreatDoor
open Go.RowKit Go.Deep

/-- a slice of just these bytes, wherever it lies -/
def Bs (w : World) (v : Value) (l : List Nat) : Prop :=
  ∃ ao c, v = .slice ao l.length c ∧ l.length ≤ c ∧ l.length ≤ 140737488355328 ∧ (∀ x ∈ l, x < 256) ∧ (l ≠ [] → ∃ b off, ao = some ⟨b, off, none⟩ ∧ ∀ k, k < l.length → w.cell? ⟨b, off + k, none⟩ = some (.int .u8 ((l.getD k 0 : Nat) : Int)))
theorem Bs.mono {w w' : World} {v : Value} {l : List Nat} (h : Bs w v l) (hb : Below w.heap.size w w') : Bs w' v l := by
  obtain ⟨ao, c, h1, h2, h3, h4, h5⟩ := h
  refine ⟨ao, c, h1, h2, h3, h4, fun hl => ?_⟩
  obtain ⟨b, off, e, hc⟩ := h5 hl
  refine ⟨b, off, e, fun k hk => ?_⟩
  have := hc k hk
  rw [hb.cell (block_lt_of_cell this)]; exact this
theorem Bs.of_row {w : World} {b n : Nat} {l : List Nat} (h : Brow w b l) (hn : n ≤ l.length) (hm : n ≤ 140737488355328) (hx : ∀ x ∈ l, x < 256) : Bs w (.slice (some ⟨b, 0, none⟩) n l.length) (l.take n) := by
  have hl : (l.take n).length = n := by rw [List.length_take]; omega
  refine ⟨some ⟨b, 0, none⟩, l.length, by rw [hl], by omega, by omega, fun x h => hx x (List.mem_of_mem_take h), fun _ => ⟨b, 0, rfl, fun k hk => ?_⟩⟩
  rw [hl] at hk
  have := h.cell k (by omega)
  rw [Nat.zero_add, this]
  simp [hk]

def SameR (w : World) (n : Nat) (i : Value) (wr : World) : Prop := ∃ k m : Nat, k ≤ n ∧ i = .int .i64 k ∧ wr = w.drewN m
end Go.Proofs.YtogdeaaphdlchaaGreatDoor
/-
  Numbers as bytes: package number; and the sum of a record.
-/
namespace Go.Proofs.YtogdeaaphdlchaaGreatDoor
open Go.RowKit Go.Deep

theorem bts_append (a b : List Nat) : bts (a ++ b) = bts a ++ bts b := by simp [bts]
/-- the first bytes of a number -/
theorem be_take (n : Nat) : ∀ (s k : Nat), k < s → (be n s).take (s - k) = (be n s).take (s - (k + 1)) ++ [n / 256 ^ k % 256]
  | 0, k, h => absurd h (by omega)
  | s + 1, k, h => by
    by_cases e : k = s
    · subst e
      rw [show k + 1 - k = 1 by omega, Nat.sub_self]
      simp [be]
    · have ih := be_take n s k (by omega)
      rw [show s + 1 - k = (s - k) + 1 by omega, show s + 1 - (k + 1) = (s - (k + 1)) + 1 by omega]
      simp only [be, List.take_succ_cons, List.cons_append, ih]
theorem shr_key (n k : Nat) : ((n : Int) / 2 ^ (8 * k) % 256) = ((n / 256 ^ k % 256 : Nat) : Int) := by
  have e : (2 : Nat) ^ (8 * k) = 256 ^ k := by rw [Nat.pow_mul]
  have e2 : ((2 : Int) ^ (8 * k)) = ((256 ^ k : Nat) : Int) := by rw [← e]; norm_cast
  rw [e2]
  omega
/-- a new list of one -/
theorem one_made (w : World) (x : Value) (t : TypeId) : ∀ j u, [x][j]? = some u → (w.alloc (.cells #[x] t)).cell? ((⟨w.heap.size, 0, none⟩ : Addr).add j) = some u := by
  intro j u h
  rw [add0]
  match j, h with
  | 0, h => simp at h; subst h; simp only [World.cell?, blk_alloc_new w (.cells #[x] t)]; rfl
  | j + 1, h => simp at h
def ApnR (w : World) (base : Nat) (n s k0 : Nat) (xs : List Value) (v0 : Value) (b i : Value) (wr : World) : Prop :=
  ∃ (k : Nat) (v : Value), k ≤ s ∧ i = .int .i64 ((k : Int) - 1) ∧ b = v ∧ wr.ownsRow base 5 1 v (k0 + (s - k)) (xs ++ bts ((be n s).take (s - k))) ∧ Outside (fun j => v0.ownBlock = some j) w wr ∧ (∀ j, v.ownBlock = some j → v0.ownBlock = some j ∨ w.heap.size ≤ j)
set_option maxRecDepth 100000 in
set_option maxHeartbeats 2000000 in
theorem append_num (base : Nat) (v0 : Value) (k0 : Nat) (xs : List Value) (n s : Nat) (w : World) (hown : w.ownsRow base 5 1 v0 k0 xs) (hbase : base ≤ w.heap.size) (hs : s ≤ 8) (hk0 : k0 ≤ 1000000000) :
    Calls Tryz.prog 93 #[v0, .int .u64 n, .int .i64 s] w fun e w' => ∃ v', e = .returned v' ∧ w'.ownsRow base 5 1 v' (k0 + s) (xs ++ bts (be n s)) ∧ Outside (fun j => v0.ownBlock = some j) w w' ∧ (∀ j, v'.ownBlock = some j → v0.ownBlock = some j ∨ w.heap.size ≤ j) := by
  obtain ⟨i0, hi0, hz0, hz1, hz2⟩ := info_parts Tryz.infoByte
  go_enter Tryz.func93, Tryz.ntmps93
  go_wp2
  go_loopw [0, 7] (fun b i wr => ApnR w base n s k0 xs v0 b i wr) (fun _ i _ => (intOf i + 1).toNat)
  case atStart => exact ⟨s, v0, Nat.le_refl _, by go_num, rfl, by rw [Nat.sub_self]; simpa [bts] using hown, Outside.refl _ _, fun j h => .inl h⟩
  case round =>
    obtain ⟨k, v, hk, rfl, rfl, hO, hF, hB⟩ := hrel
    cases k with
    | zero =>
      have e1 : ((0 : Nat) : Int) - 1 = -1 := by omega
      rw [e1]
      have HO := hide (And.intro hO (And.intro hF hB))
      clear hO hF hB
      go_wp2
      go_ret
      obtain ⟨hO, hF, hB⟩ := HO.out
      refine ⟨_, rfl, ?_, hF, hB⟩
      rwa [Nat.sub_zero, List.take_of_length_le (by rw [be_len]; exact Nat.le_refl _)] at hO
    | succ k =>
      have e1 : ((k + 1 : Nat) : Int) - 1 = (k : Int) := by omega
      rw [e1]
      have h8 : ¬ (8 * (k : Int)) < 0 := by omega
      have hb' := Nat.le_trans hbase hF.size
      go_wp2_with (at_builtin; refine wpList_append_own_at _ rfl (.tmp 14) (.tmp 20) 166 rfl base 5 i0 (.int .u8 0) 1 1 Tryz.underlying166 hi0 hz0 hz1 hz2 rfl (by decide) u0 (k0 + (s - (k + 1))) _ rfl (hO.alloc _) ⟨wr.heap.size, 0, none⟩ 1 1 _ rfl rfl (one_made wr _ _) (by intro u hu; simp at hu; subst hu; rfl) (by unfold maxLen; omega) (by omega) (by simp; omega) ?_; intro v' w' ho hg hiff hat)
      have hs1 : (wr.alloc (.cells #[.int .u8 ((n : Int) / 2 ^ (8 * k) % 256)] 5)).heap.size = wr.heap.size + 1 := by simp
      have hz := hF.size
      have hat' : ∀ j, v'.ownBlock = some j → v0.ownBlock = some j ∨ w.heap.size ≤ j := fun j hj => by
        rcases hat with e | e
        · exact hB j (e ▸ hj)
        · rw [e] at hj; cases hj; rw [hs1]; exact .inr (by omega)
      refine ⟨⟨k, v', by omega, by go_num, rfl, ?_, ?_, hat'⟩, by simp [intOf]⟩
      · rw [shr_key] at ho
        rw [be_take n s k (by omega), bts_append, ← List.append_assoc, show k0 + (s - k) = k0 + (s - (k + 1)) + 1 by omega]
        exact ho
      · exact (hF.later (Outside.alloc (S := fun _ => False) _ _) (fun _ _ h => h.elim)).later (T := fun j => u0.ownBlock = some j) ⟨hg.os, hg.tape, hg.output, hg.size, fun j hj hs => hg.block j hj (fun e => hs e.symm)⟩ (fun j hj h => by
          rcases hB j h with e | e
          · exact e
          · omega)
theorem of_key (n x : Nat) (hx : x < 256) : bits .or .u64 (IntKind.u64.wrap ((n : Int) * 256)) (x : Int) = (((n * 256 + x) % 18446744073709551616 : Nat) : Int) := by
  have e1 : IntKind.u64.wrap ((n : Int) * 256) = ((n * 256 % 18446744073709551616 : Nat) : Int) := by rw [IntKind.wrap_u64]; omega
  rw [e1, bits_or_u64_nat _ _ (Nat.mod_lt _ (by decide)) (by omega)]
  congr 1
  have e3 : n * 256 % 18446744073709551616 = 2 ^ 8 * (n % 72057594037927936) := by omega
  rw [e3, ← Nat.two_pow_add_eq_or_of_lt (i := 8) (by omega)]
  omega
theorem xor32 (a b : Nat) (ha : a < 4294967296) (hb : b < 4294967296) : bits .xor .u32 (a : Int) (b : Int) = ((a ^^^ b : Nat) : Int) := by
  have ha' : a % 2 ^ IntKind.u32.bits = a := Nat.mod_eq_of_lt ha
  have hb' : b % 2 ^ IntKind.u32.bits = b := Nat.mod_eq_of_lt hb
  have hx : a ^^^ b < 2 ^ 32 := Nat.xor_lt_two_pow ha hb
  simp only [bits, BitVec.ofInt_natCast, BitVec.toNat_xor, BitVec.toNat_ofNat, ha', hb']
  rw [IntKind.wrap_u32]
  omega
theorem xorMax (r : Nat) (hr : r < 4294967296) : bits .xor .u32 IntKind.u32.max (r : Int) = ((4294967295 - r : Nat) : Int) := by
  have e : IntKind.u32.max = ((4294967295 : Nat) : Int) := rfl
  rw [e, xor32 _ _ (by decide) hr]
  congr 1
  refine Nat.eq_of_testBit_eq fun i => ?_
  have h1 := Nat.testBit_two_pow_sub_succ (n := 32) (x := r) hr i
  have h2 := Nat.testBit_two_pow_sub_one 32 i
  rw [Nat.testBit_xor, show (4294967295 : Nat) - r = 2 ^ 32 - (r + 1) by omega, h1, show (4294967295 : Nat) = 2 ^ 32 - 1 from rfl, h2]
  by_cases hi : i < 32
  · simp [hi]
  · have : r.testBit i = false := Nat.testBit_lt_two_pow (Nat.lt_of_lt_of_le hr (by have := Nat.pow_le_pow_right (n := 2) (by decide) (show 32 ≤ i by omega); omega))
    simp [hi, this]
theorem and32 (a b : Nat) (ha : a < 4294967296) (hb : b < 4294967296) : bits .and .u32 (a : Int) (b : Int) = ((a &&& b : Nat) : Int) := (bits_nat .u32 32 (by decide) (fun n h1 h2 => by rw [IntKind.wrap_u32]; omega) a b ha hb).1
theorem andF (a : Nat) : a &&& 15 = a % 16 := Nat.and_two_pow_sub_one_eq_mod a 4
theorem take_fold (l : List Nat) (k : Nat) (h : k < l.length) : crcFold (l.take (k + 1)) = crcStep (crcFold (l.take k)) (l.getD k 0) := by
  rw [List.take_add_one, List.getElem?_eq_getElem h]
  unfold crcFold
  rw [List.foldl_append, List.getD_eq_getElem?_getD, List.getElem?_eq_getElem h]; rfl
theorem take_ofB (l : List Nat) (k : Nat) (h : k < l.length) : ofB (l.take (k + 1)) = (ofB (l.take k) * 256 + l.getD k 0) % 18446744073709551616 := by
  rw [List.take_add_one, List.getElem?_eq_getElem h, List.getD_eq_getElem?_getD, List.getElem?_eq_getElem h]
  exact ofB_snoc _ _
def OfnR (w : World) (l : List Nat) (n i _x : Value) (wr : World) : Prop := ∃ k : Nat, k ≤ l.length ∧ n = .int .u64 (ofB (l.take k) : Nat) ∧ i = .int .i64 k ∧ wr = w
set_option maxRecDepth 100000 in
set_option maxHeartbeats 2000000 in
theorem of_num (v : Value) (l : List Nat) (w : World) (h : Bs w v l) : Calls Tryz.prog 81 #[v] w fun e w' => e = .returned (.int .u64 (ofB l : Nat)) ∧ w' = w := by
  obtain ⟨ao, c, rfl, hc, hm, hx, hA⟩ := h
  go_enter Tryz.func81, Tryz.ntmps81
  go_wp2
  go_loopw [3, 8, 5] (fun n i x wr => OfnR w l n i x wr) (fun _ i _ _ => l.length - (intOf i).toNat)
  case atStart => exact ⟨0, Nat.zero_le _, rfl, rfl, rfl⟩
  case round =>
    obtain ⟨k, hk, rfl, rfl, rfl⟩ := hrel
    by_cases hlt : k < l.length
    · obtain ⟨b, off, rfl, hcell⟩ := hA (by intro e; rw [e] at hlt; simp at hlt)
      have c1 := hcell k hlt
      have ho : OfnR wr l (.int .u64 (((ofB (l.take k) * 256 + l.getD k 0) % 18446744073709551616 : Nat) : Int)) (.int .i64 ((k : Int) + 1)) (.int .u8 (l.getD k 0 : Nat)) wr := ⟨k + 1, by omega, by rw [take_ofB l k hlt], rfl, rfl⟩
      have hx' : l.getD k 0 < 256 := getD_lt hx k
      have hkey := of_key (ofB (l.take k)) (l.getD k 0) hx'
      rw [← hkey] at ho
      have HO := hide ho
      clear ho hkey hA hcell
      generalize l.getD k 0 = x at *
      generalize ofB (l.take k) = n at *
      go_wp2
      exact ⟨HO.out, by simp [intOf]; omega⟩
    · have hkk : k = l.length := by omega
      subst hkk
      rw [List.take_length]
      clear hA
      go_wp2
      go_ret
      exact ⟨rfl, rfl⟩
def hvLaid (w : World) : Prop := ∀ j, j < 16 → w.cell? ⟨2, j, none⟩ = some (.int .u32 ((halvesL.getD j 0 : Nat) : Int))
def SmR (w : World) (l : List Nat) (n i _x : Value) (wr : World) : Prop := ∃ k : Nat, k ≤ l.length ∧ n = .int .u32 (crcFold (l.take k) : Nat) ∧ i = .int .i64 k ∧ wr = w
set_option maxRecDepth 100000 in
set_option maxHeartbeats 2000000 in
theorem sum_any (v : Value) (l : List Nat) (w : World) (h : Bs w v l) (hv : hvLaid w) : Calls Tryz.prog 96 #[v] w fun e w' => e = .returned (.int .u32 (crc l : Nat)) ∧ w' = w := by
  obtain ⟨ao, c, rfl, hc, hm, hx, hA⟩ := h
  go_enter Tryz.func96, Tryz.ntmps96
  go_wp2
  go_loopw [3, 8, 5] (fun n i x wr => SmR w l n i x wr) (fun _ i _ _ => l.length - (intOf i).toNat)
  case atStart => exact ⟨0, Nat.zero_le _, rfl, rfl, rfl⟩
  case round =>
    obtain ⟨k, hk, rfl, rfl, rfl⟩ := hrel
    by_cases hlt : k < l.length
    · obtain ⟨b, off, rfl, hcell⟩ := hA (by intro e; rw [e] at hlt; simp at hlt)
      have c1 := hcell k hlt
      have ho : SmR wr l (.int .u32 ((crcStep (crcFold (l.take k)) (l.getD k 0) : Nat) : Int)) (.int .i64 ((k : Int) + 1)) (.int .u8 (l.getD k 0 : Nat)) wr := ⟨k + 1, by omega, by rw [take_fold l k hlt], rfl, rfl⟩
      have hx' : l.getD k 0 < 256 := getD_lt hx k
      have hr : crcFold (l.take k) < 4294967296 := crcFold_lt (fun x h => hx x (List.mem_of_mem_take h))
      unfold crcStep at ho
      clear hA hcell
      generalize l.getD k 0 = x at *
      generalize crcFold (l.take k) = r at *
      have x1 : (x : Int) % 4294967296 = (x : Int) := by omega
      have x2 := xor32 r x hr (by omega)
      have hr1 : r ^^^ x < 4294967296 := Nat.xor_lt_two_pow (n := 32) hr (by omega)
      generalize r ^^^ x = r1 at *
      have x3 : bits .and .u32 (r1 : Int) 15 = ((r1 % 16 : Nat) : Int) := by have := and32 r1 15 hr1 (by decide); rw [andF] at this; exact this
      have x4 : (r1 : Int) / 16 = ((r1 / 16 : Nat) : Int) := by omega
      have cc1 := hv (r1 % 16) (Nat.mod_lt _ (by decide))
      have hh1 := halves_lt (r1 % 16)
      have x5 := xor32 (r1 / 16) (halvesL.getD (r1 % 16) 0) (by omega) hh1
      have hr2 : halfStep r1 < 4294967296 := halfStep_lt hr1
      have e2 : r1 / 16 ^^^ halvesL.getD (r1 % 16) 0 = halfStep r1 := rfl
      rw [e2] at x5
      have m1 : r1 % 16 < 16 := Nat.mod_lt _ (by decide)
      clear e2
      generalize halfStep r1 = r2 at *
      generalize halvesL.getD (r1 % 16) 0 = h1 at *
      generalize r1 % 16 = a1 at *
      generalize r1 / 16 = b1 at *
      have y3 : bits .and .u32 (r2 : Int) 15 = ((r2 % 16 : Nat) : Int) := by have := and32 r2 15 hr2 (by decide); rw [andF] at this; exact this
      have y4 : (r2 : Int) / 16 = ((r2 / 16 : Nat) : Int) := by omega
      have dd1 := hv (r2 % 16) (Nat.mod_lt _ (by decide))
      have hh2 := halves_lt (r2 % 16)
      have y5 := xor32 (r2 / 16) (halvesL.getD (r2 % 16) 0) (by omega) hh2
      have e2 : r2 / 16 ^^^ halvesL.getD (r2 % 16) 0 = halfStep r2 := rfl
      rw [e2] at y5
      have m2 : r2 % 16 < 16 := Nat.mod_lt _ (by decide)
      clear e2
      generalize halfStep r2 = r3 at *
      generalize halvesL.getD (r2 % 16) 0 = h2 at *
      generalize r2 % 16 = a2 at *
      generalize r2 / 16 = b2 at *
      have HO := hide ho
      have a1' : (a1 : Int) < 16 := by omega
      have a2' : (a2 : Int) < 16 := by omega
      clear ho hr1 hr2 hh1 hh2
      go_wp2
      exact ⟨HO.out, by simp [intOf]; omega⟩
    · have hkk : k = l.length := by omega
      subst hkk
      rw [List.take_length]
      have hr : crcFold l < 4294967296 := crcFold_lt hx
      clear hA
      have x1 := xorMax (crcFold l) hr
      rw [show 4294967295 - crcFold l = crc l from rfl] at x1
      generalize crcFold l = r at *
      go_wp2
      go_ret
      exact ⟨rfl, rfl⟩
end Go.Proofs.YtogdeaaphdlchaaGreatDoor
/-
  Lists of rows of which one is written into.
-/
namespace Go.Proofs.YtogdeaaphdlchaaGreatDoor
open Go.RowKit Go.Deep

theorem grown_set {w w' : World} {b : Nat} (h : w.grownBy w' (some b)) (i : Nat) (v : Value) : w.grownBy (w'.setCell ⟨b, i, none⟩ v) (some b) :=
  ⟨h.os, h.tape, h.output, by rw [nblk_setCell]; exact h.size, fun k hk hne => by
    rw [blk_setCell_other _ _ _ _ (by intro e; exact hne (by rw [e]))]; exact h.block k hk hne⟩
theorem grown_drew {w w' : World} {r : Option Nat} (h : w.grownBy w' r) (n : Nat) : w.grownBy (w'.drewN n) r :=
  ⟨h.os, h.tape, h.output, h.size, h.block⟩
theorem grown_trans {w w' w'' : World} {r : Option Nat} (h : w.grownBy w' r) (k : w'.grownBy w'' r) : w.grownBy w'' r :=
  ⟨k.os.trans h.os, k.tape.trans h.tape, k.output.trans h.output, Nat.le_trans h.size k.size, fun j hj hne => (k.block j (Nat.lt_of_lt_of_le hj h.size) hne).trans (h.block j hj hne)⟩
theorem grown_below {B : Nat} {w0 w w' : World} {b : Nat} (h : Below B w0 w) (hg : w.grownBy w' (some b)) (hB : B ≤ w.heap.size) (hb : B ≤ b) : Below B w0 w' :=
  h.grown hg hB (fun k hk => by simp at hk; omega)
theorem owns_grown {w w' : World} {base : Nat} {v : Value} {n : Nat} {xs : List Value} {b : Nat} (h : w.ownsRow base 166 1 v n xs) (hg : w.grownBy w' (some b)) (hne : v.ownBlock ≠ some b) : w'.ownsRow base 166 1 v n xs :=
  h.kept hg (.inr hne)
theorem Tab.aside {w w' : World} {base : Nat} {v : Value} {L : List (Nat × Nat × List Nat)} {b : Nat} {l : List Nat} (h : Tab w base v L) (hb : Brow w b l) (hg : w.grownBy w' (some b)) (hne : ∀ p ∈ L, p.1 ≠ b) : Tab w' base v L :=
  ⟨owns_grown h.own hg (own_ne h.own hb), fun p hp => by
    obtain ⟨a, c, d⟩ := h.row p hp
    exact ⟨a, c.grown hg (by intro e; simp at e; exact hne p hp e), d⟩, h.nodup⟩
theorem Tab.wrote {w w' : World} {base : Nat} {v : Value} {L : List (Nat × Nat × List Nat)} (h : Tab w base v L) {i : Nat} (hi : i < L.length) {l' : List Nat} (hg : w.grownBy w' (some L[i].1)) (hB : Brow w' L[i].1 l') (hlen : l'.length = L[i].2.2.length) (hx : ∀ x ∈ l', x < 256) :
    Tab w' base v (L.set i (L[i].1, L[i].2.1, l')) := by
  have hmem := List.getElem_mem hi
  obtain ⟨a1, a2, a3, a4, a5⟩ := h.row _ hmem
  have hhdr : (L.set i (L[i].1, L[i].2.1, l')).map hdr = L.map hdr := by
    apply List.ext_getElem
    · simp
    · intro j h1 h2
      simp [List.getElem_set]
      by_cases e : i = j
      · subst e; simp [hdr, hlen]
      · simp [e]
  have hfst : (L.set i (L[i].1, L[i].2.1, l')).map (fun p => p.1) = L.map (fun p => p.1) := by
    apply List.ext_getElem
    · simp
    · intro j h1 h2
      simp [List.getElem_set]
      by_cases e : i = j
      · subst e; simp
      · simp [e]
  refine ⟨?_, fun p hp => ?_, by rw [hfst]; exact h.nodup⟩
  · rw [hhdr, List.length_set]; exact owns_grown h.own hg (own_ne h.own a2)
  · obtain ⟨j, hj, rfl⟩ := List.mem_iff_getElem.1 hp
    rw [List.length_set] at hj
    rw [List.getElem_set]
    by_cases e : i = j
    · rw [if_pos e]; exact ⟨a1, hB, by show L[i].2.1 ≤ l'.length; omega, ⟨by show L[i].2.1 ≤ 140737488355328; omega, by show l'.length ≤ 9223372036854775807; omega⟩, hx⟩
    · rw [if_neg e]
      obtain ⟨b1, b2, b3⟩ := h.row _ (List.getElem_mem hj)
      refine ⟨b1, b2.grown hg ?_, b3⟩
      intro q
      simp at q
      have hp := List.pairwise_iff_getElem.1 h.nodup
      rcases Nat.lt_or_gt_of_ne e with h' | h'
      · exact hp i j (by simpa using hi) (by simpa using hj) h' (by simp [q])
      · exact hp j i (by simpa using hj) (by simpa using hi) h' (by simp [q])
/-- two lists of rows that have no row in common -/
def Apart (K L : List (Nat × Nat × List Nat)) : Prop := ∀ p ∈ K, ∀ q ∈ L, p.1 ≠ q.1
theorem Tab.row_at {w : World} {base : Nat} {v : Value} {L : List (Nat × Nat × List Nat)} (h : Tab w base v L) {i : Nat} (hi : i < L.length) : Bs w (hdr L[i]) (L[i].2.2.take L[i].2.1) := by
  obtain ⟨a1, a2, a3, a4, a5⟩ := h.row _ (List.getElem_mem hi)
  exact Bs.of_row a2 a3 a4.1 a5
theorem one_new (w : World) (n : Nat) (hn : n = w.heap.size) (x : Value) (t : TypeId) : ∀ j u, [x][j]? = some u → (w.alloc (.cells #[x] t)).cell? ((⟨n, 0, none⟩ : Addr).add j) = some u := by
  subst hn; exact cell_one_new _ _ _
theorem Tab.append2 {w w1 w2 : World} {base : Nat} {v v' : Value} {T : List (Nat × Nat × List Nat)} {b n m : Nat} {l : List Nat} {o : Obj} (h : Tab w base v T) (hb : Below w.heap.size w w1) (hbase : base ≤ w.heap.size) (hb1 : w.heap.size ≤ b) (hB : Brow w1 b l) (hm : m = l.length) (hn : n ≤ l.length) (hl : l.length ≤ 140737488355328) (hx : ∀ x ∈ l, x < 256)
    (hg : (w1.alloc o).grownBy w2 v.ownBlock) (hown : w2.ownsRow base 166 1 v' (T.length + 1) (T.map hdr ++ [.slice (some ⟨b, 0, none⟩) n m])) : Tab w2 base v' (T ++ [(b, n, l)]) := by
  subst hm
  have h1 := (h.below hb).alloc o
  refine h1.push hg (p := (b, n, l)) hown ⟨by show base ≤ b; omega, hB.alloc o, hn, ⟨by show n ≤ 140737488355328; omega, by show l.length ≤ 9223372036854775807; omega⟩, hx⟩ ?_
  intro q hq
  have := (h.row q hq).2.1.lt
  show q.1 ≠ b
  omega
theorem below_append {B : Nat} {w0 w w1 w2 : World} {v : Value} {T : List (Nat × Nat × List Nat)} {o : Obj} (h : Tab w B v T) (hb0 : Below B w0 w) (hb : Below w.heap.size w w1) (hB : B ≤ w.heap.size) (hg : (w1.alloc o).grownBy w2 v.ownBlock) : Below B w0 w2 := by
  have h1 := hb0.trans (hb.mono hB)
  have hs := hb.size
  refine (h1.alloc (by omega) o).grown hg (by rw [nblk_alloc]; omega) ?_
  intro k hk
  exact (h.own.lt k hk).1
end Go.Proofs.YtogdeaaphdlchaaGreatDoor
