/-
  fetch: its regions that draw.
-/
import Derived.Test.YtogdeaaphdlchaaGreatDoorPart12
import Derived.Deep.RegionHeld
namespace Go.Proofs.YtogdeaaphdlchaaGreatDoor
open Go.RowKit Go.Shelf Go.Deep Gf

theorem upd_ne {D : Nat → Bool} {i j : Nat} (h : j ≠ i) : upd D i j = D j := if_neg h
theorem upd_eq {D : Nat → Bool} {i : Nat} : upd D i i = true := if_pos rfl
theorem andNot_zero (S : Nat) (hS : S < 65536) : bits .andNot .u64 (S : Int) 0 = (S : Int) := by
  have := behind_key S 0 hS (by omega)
  simpa using this
def BF1 (w : World) (S : Nat) (Dn : Nat → Bool) (w' : World) : Prop := w' = if Dn 11 = true then w.drew.alloc (.cells #[.int .u64 S] 89) else w.drew
theorem BF1_upd {w w' : World} {S : Nat} {Dn : Nat → Bool} (h : BF1 w S Dn w') (i : Nat) (hi : 11 ≠ i) : BF1 w S (upd Dn i) w' := by unfold BF1; rw [upd_ne hi]; exact h
theorem BF1_cell {w w' : World} {S : Nat} {Dn : Nat → Bool} (h : BF1 w S Dn w') {a : Addr} {v : Value} (hc : w.cell? a = some v) : w'.cell? a = some v := by
  unfold BF1 at h
  subst h
  split
  · exact (World.cell?_alloc_some w.drew a _ (by rw [show w.drew.cell? a = w.cell? a from rfl, hc]; rfl)).trans hc
  · exact hc
def arFr (A : Arr) (d : Nat) (D : Nat → Bool) : Arr := if D 9 = true then A.setReads d (wrap64 (A.reads d + 1)) else A
def BFr (w0 : World) (p : Nat) (A : Arr) (F : Foot) (d : Nat) (Dn : Nat → Bool) (w : World) : Prop := ArrAt w p (arFr A d Dn) F ∧ Outside (F.has p A.n) w0 w
theorem BFr_upd {w0 : World} {p : Nat} {A : Arr} {F : Foot} {d : Nat} {Dn : Nat → Bool} {w : World} (h : BFr w0 p A F d Dn w) (i : Nat) (hi : 9 ≠ i) : BFr w0 p A F d (upd Dn i) w := by
  refine ⟨?_, h.2⟩
  have e : arFr A d (upd Dn i) = arFr A d Dn := by unfold arFr; rw [upd_ne hi]
  rw [e]; exact h.1
def BF8 (w : World) (g x q7 : Nat) (Dn : Nat → Bool) (w' : World) : Prop := w' = if Dn 8 = true then w.drew.setCell ⟨g, x, none⟩ (.slice (some ⟨q7, 0, none⟩) 44 44) else w.drew
theorem BF8_upd {w w' : World} {g x q7 : Nat} {Dn : Nat → Bool} (h : BF8 w g x q7 Dn w') (i : Nat) (hi : 8 ≠ i) : BF8 w g x q7 (upd Dn i) w' := by unfold BF8; rw [upd_ne hi]; exact h
theorem BF8_cell {w w' : World} {g x q7 : Nat} {Dn : Nat → Bool} (h : BF8 w g x q7 Dn w') {a : Addr} (hg : a.block ≠ g) {v : Value} (hc : w.cell? a = some v) : w'.cell? a = some v := by
  unfold BF8 at h
  subst h
  split
  · exact (World.cell?_of_block (blk_setCell_other _ _ _ _ hg)).trans hc
  · exact hc
noncomputable def RF1 : Array Oper := ((Tryz.f111.body.bind (rgf · 1))).getD #[]
def shF1 : List (Op × Option Nat × List Nat) := [(Op.move (Operand.tmp 1), some 9, []),
    (Op.load 191 (Operand.tmp 2), some 10, []),
    (Op.nilCheck (Operand.tmp 10), some 11, [1]),
    (Op.fieldAddr 216 (Operand.tmp 11) 3, some 12, [2]),
    (Op.load 89 (Operand.tmp 12), some 13, [3]),
    (Op.binOp BinOp.andNot 89 (Operand.tmp 9) (Operand.tmp 13) 89, some 14, [0, 4]),
    (Op.load 191 (Operand.tmp 2), some 15, []),
    (Op.nilCheck (Operand.tmp 15), some 16, [6]),
    (Op.fieldAddr 216 (Operand.tmp 16) 4, some 17, [7]),
    (Op.load 89 (Operand.tmp 17), some 18, [8]),
    (Op.binOp BinOp.andNot 89 (Operand.tmp 14) (Operand.tmp 18) 89, some 19, [5, 9]),
    (Op.call { callee := Callee.value (Operand.func 61), args := #[Operand.tmp 19], argTypes := #[89] }, some 20, [10])]
theorem RF1_shape : RegShape RF1 9 21 shF1 := regShape (by kernel_rfl) (by kernel_rfl)
def vsF1 (w : World) (r S : Nat) : List Value := [.int .u64 S, .pointer (some ⟨r, 0, none⟩), .pointer (some ⟨r, 0, none⟩), .pointer (some ⟨r, 3, none⟩), .int .u64 0, .int .u64 S, .pointer (some ⟨r, 0, none⟩), .pointer (some ⟨r, 0, none⟩), .pointer (some ⟨r, 4, none⟩), .int .u64 0, .int .u64 S, .func (.func 85) #[] #[.pointer (some ⟨w.heap.size, 0, none⟩)]]
set_option maxRecDepth 100000 in
set_option maxHeartbeats 1000000 in
theorem fetch_region1 {n : Nat} {ops : Array Oper} {Q : Exit → Act → World → Prop} {a : Act} {w : World} {r v b g N q S : Nat} (h2 : Boxed w q 191 (.pointer (some ⟨r, 0, none⟩))) (hr : RdAt w r v b g N 0 0) (hS : S < 65536) (hops : RF1 = ops) (hsz : a.tmps.size = 100)
    (e1 : a.eval (.tmp 1) = .int .u64 S) (e2 : a.eval (.tmp 2) = .pointer (some ⟨q, 0, none⟩))
    (hQ : ∀ (w' : World), w' = w.drew.alloc (.cells #[.int .u64 S] 89) → Q .normal (Act.putFrom a 9 [.int .u64 S, .pointer (some ⟨r, 0, none⟩), .pointer (some ⟨r, 0, none⟩), .pointer (some ⟨r, 3, none⟩), .int .u64 0, .int .u64 S, .pointer (some ⟨r, 0, none⟩), .pointer (some ⟨r, 0, none⟩), .pointer (some ⟨r, 4, none⟩), .int .u64 0, .int .u64 S, .func (.func 85) #[] #[.pointer (some ⟨w.heap.size, 0, none⟩)]]) w') : (Code.region 1 ops true).wpIn Fence.wide n Tryz.prog Q a w := by
  subst hops
  obtain ⟨_, _, _, c3, c4⟩ := hr.cells
  have cq := h2.cell
  have han := andNot_zero S hS
  refine region_factsW (by kernel_rfl) RF1_shape a w (by omega) (fun i u _ => u = (vsF1 w r S).getD i undef) (BF1 w S) rfl ?_ ?_
  · intro i hi
    match i, hi with
    | 0, _ =>
      intro o a' w' Dn hg ho hdst hk hDi hcl hdep hB hV'
      have u0 : a'.eval (.tmp 1) = .int .u64 S := (hk.slot 1 (by omega)).trans e1
      exact opW_val (run_op_move ho u0 w') (by rw [ho]; intro c h; cases h) hdst ⟨BF1_upd hB 0 (by decide), rfl, fun _ _ _ q => q⟩
    | 1, _ =>
      intro o a' w' Dn hg ho hdst hk hDi hcl hdep hB hV'
      have u0 : a'.eval (.tmp 2) = .pointer (some ⟨q, 0, none⟩) := (hk.slot 2 (by omega)).trans e2
      have cc : w'.cell? ⟨q, 0, none⟩ = some (.pointer (some ⟨r, 0, none⟩)) := BF1_cell hB cq
      exact opW_val (v := .pointer (some ⟨r, 0, none⟩)) (by simp only [execOp, show o.op = Op.load 191 (Operand.tmp 2) from ho, u0]; go_simp) (by rw [ho]; intro c h; cases h) hdst ⟨BF1_upd hB 1 (by decide), rfl, fun _ _ _ q => q⟩
    | 2, _ =>
      intro o a' w' Dn hg ho hdst hk hDi hcl hdep hB hV'
      have u0 : a'.eval (.tmp 10) = .pointer (some ⟨r, 0, none⟩) := hV' 1 (hdep 1 (by decide))
      exact opW_val (v := .pointer (some ⟨r, 0, none⟩)) (by simp only [execOp, show o.op = Op.nilCheck (Operand.tmp 10) from ho, u0]; go_simp) (by rw [ho]; intro c h; cases h) hdst ⟨BF1_upd hB 2 (by decide), rfl, fun _ _ _ q => q⟩
    | 3, _ =>
      intro o a' w' Dn hg ho hdst hk hDi hcl hdep hB hV'
      have u0 : a'.eval (.tmp 11) = .pointer (some ⟨r, 0, none⟩) := hV' 2 (hdep 2 (by decide))
      exact opW_val (v := .pointer (some ⟨r, 3, none⟩)) (by simp only [execOp, show o.op = Op.fieldAddr 216 (Operand.tmp 11) 3 from ho, u0]; go_simp) (by rw [ho]; intro c h; cases h) hdst ⟨BF1_upd hB 3 (by decide), rfl, fun _ _ _ q => q⟩
    | 4, _ =>
      intro o a' w' Dn hg ho hdst hk hDi hcl hdep hB hV'
      have u0 : a'.eval (.tmp 12) = .pointer (some ⟨r, 3, none⟩) := hV' 3 (hdep 3 (by decide))
      have cc : w'.cell? ⟨r, 3, none⟩ = some (.int .u64 0) := BF1_cell hB c3
      exact opW_val (v := .int .u64 0) (by simp only [execOp, show o.op = Op.load 89 (Operand.tmp 12) from ho, u0]; go_simp) (by rw [ho]; intro c h; cases h) hdst ⟨BF1_upd hB 4 (by decide), rfl, fun _ _ _ q => q⟩
    | 5, _ =>
      intro o a' w' Dn hg ho hdst hk hDi hcl hdep hB hV'
      have u0 : a'.eval (.tmp 9) = .int .u64 S := hV' 0 (hdep 0 (by decide))
      have u1 : a'.eval (.tmp 13) = .int .u64 0 := hV' 4 (hdep 4 (by decide))
      exact opW_val (v := .int .u64 S) (by simp only [execOp, show o.op = Op.binOp BinOp.andNot 89 (Operand.tmp 9) (Operand.tmp 13) 89 from ho, u0, u1]; go_simp) (by rw [ho]; intro c h; cases h) hdst ⟨BF1_upd hB 5 (by decide), rfl, fun _ _ _ q => q⟩
    | 6, _ =>
      intro o a' w' Dn hg ho hdst hk hDi hcl hdep hB hV'
      have u0 : a'.eval (.tmp 2) = .pointer (some ⟨q, 0, none⟩) := (hk.slot 2 (by omega)).trans e2
      have cc : w'.cell? ⟨q, 0, none⟩ = some (.pointer (some ⟨r, 0, none⟩)) := BF1_cell hB cq
      exact opW_val (v := .pointer (some ⟨r, 0, none⟩)) (by simp only [execOp, show o.op = Op.load 191 (Operand.tmp 2) from ho, u0]; go_simp) (by rw [ho]; intro c h; cases h) hdst ⟨BF1_upd hB 6 (by decide), rfl, fun _ _ _ q => q⟩
    | 7, _ =>
      intro o a' w' Dn hg ho hdst hk hDi hcl hdep hB hV'
      have u0 : a'.eval (.tmp 15) = .pointer (some ⟨r, 0, none⟩) := hV' 6 (hdep 6 (by decide))
      exact opW_val (v := .pointer (some ⟨r, 0, none⟩)) (by simp only [execOp, show o.op = Op.nilCheck (Operand.tmp 15) from ho, u0]; go_simp) (by rw [ho]; intro c h; cases h) hdst ⟨BF1_upd hB 7 (by decide), rfl, fun _ _ _ q => q⟩
    | 8, _ =>
      intro o a' w' Dn hg ho hdst hk hDi hcl hdep hB hV'
      have u0 : a'.eval (.tmp 16) = .pointer (some ⟨r, 0, none⟩) := hV' 7 (hdep 7 (by decide))
      exact opW_val (v := .pointer (some ⟨r, 4, none⟩)) (by simp only [execOp, show o.op = Op.fieldAddr 216 (Operand.tmp 16) 4 from ho, u0]; go_simp) (by rw [ho]; intro c h; cases h) hdst ⟨BF1_upd hB 8 (by decide), rfl, fun _ _ _ q => q⟩
    | 9, _ =>
      intro o a' w' Dn hg ho hdst hk hDi hcl hdep hB hV'
      have u0 : a'.eval (.tmp 17) = .pointer (some ⟨r, 4, none⟩) := hV' 8 (hdep 8 (by decide))
      have cc : w'.cell? ⟨r, 4, none⟩ = some (.int .u64 0) := BF1_cell hB c4
      exact opW_val (v := .int .u64 0) (by simp only [execOp, show o.op = Op.load 89 (Operand.tmp 17) from ho, u0]; go_simp) (by rw [ho]; intro c h; cases h) hdst ⟨BF1_upd hB 9 (by decide), rfl, fun _ _ _ q => q⟩
    | 10, _ =>
      intro o a' w' Dn hg ho hdst hk hDi hcl hdep hB hV'
      have u0 : a'.eval (.tmp 14) = .int .u64 S := hV' 5 (hdep 5 (by decide))
      have u1 : a'.eval (.tmp 18) = .int .u64 0 := hV' 9 (hdep 9 (by decide))
      exact opW_val (v := .int .u64 S) (by simp only [execOp, show o.op = Op.binOp BinOp.andNot 89 (Operand.tmp 14) (Operand.tmp 18) 89 from ho, u0, u1]; go_simp) (by rw [ho]; intro c h; cases h) hdst ⟨BF1_upd hB 10 (by decide), rfl, fun _ _ _ q => q⟩
    | 11, _ =>
      intro o a' w' Dn hg ho hdst hk hDi hcl hdep hB hV'
      have u0 : a'.eval (.tmp 19) = .int .u64 S := hV' 10 (hdep 10 (by decide))
      refine opW_call (f := 61) (args := #[.int .u64 S]) (w1 := w') (by simp only [execOp, show o.op = Op.call { callee := Callee.value (Operand.func 61), args := #[Operand.tmp 19], argTypes := #[89] } from ho]; go_simp; simpa [Act.eval] using u0) (by rw [ho]; intro c h; cases h) hdst (members_any S w') ?_
      rintro e w'' ⟨rfl, rfl⟩
      have hw : w' = w.drew := by have := hB; unfold BF1 at this; rw [if_neg (by rw [hDi]; decide)] at this; exact this
      subst hw
      exact ⟨_, rfl, by unfold BF1; rw [if_pos upd_eq], rfl, fun _ _ _ q => q⟩
    | n + 12, hn => exact absurd hn (by show ¬ n + 12 < 12; omega)
  · rintro a' w' hk' hsame ⟨Dn, hD', hB⟩ hV'
    have e : a' = Act.putFrom a 9 [.int .u64 S, .pointer (some ⟨r, 0, none⟩), .pointer (some ⟨r, 0, none⟩), .pointer (some ⟨r, 3, none⟩), .int .u64 0, .int .u64 S, .pointer (some ⟨r, 0, none⟩), .pointer (some ⟨r, 0, none⟩), .pointer (some ⟨r, 4, none⟩), .int .u64 0, .int .u64 S, .func (.func 85) #[] #[.pointer (some ⟨w.heap.size, 0, none⟩)]] := hk'.out _ rfl (by omega) (fun i hi => ?_)
    · rw [e]; exact hQ w' (by unfold BF1 at hB; rw [if_pos (hD' 11 (by decide))] at hB; exact hB)
    · match i, hi with
      | 0, _ => exact hV' 0 (by decide)
      | 1, _ => exact hV' 1 (by decide)
      | 2, _ => exact hV' 2 (by decide)
      | 3, _ => exact hV' 3 (by decide)
      | 4, _ => exact hV' 4 (by decide)
      | 5, _ => exact hV' 5 (by decide)
      | 6, _ => exact hV' 6 (by decide)
      | 7, _ => exact hV' 7 (by decide)
      | 8, _ => exact hV' 8 (by decide)
      | 9, _ => exact hV' 9 (by decide)
      | 10, _ => exact hV' 10 (by decide)
      | 11, _ => exact hV' 11 (by decide)
      | n + 12, hn => exact absurd hn (by simp)
noncomputable def RF4 : Array Oper := ((Tryz.f111.body.bind (rgf · 4))).getD #[]
def shF4 : List (Op × Option Nat × List Nat) := [(Op.load 191 (Operand.tmp 2), some 31, []),
    (Op.nilCheck (Operand.tmp 31), some 32, [0]),
    (Op.fieldAddr 216 (Operand.tmp 32) 0, some 33, [1]),
    (Op.load 59 (Operand.tmp 33), some 34, [2]),
    (Op.move (Operand.tmp 4), some 35, []),
    (Op.load 191 (Operand.tmp 2), some 36, []),
    (Op.nilCheck (Operand.tmp 36), some 37, [5]),
    (Op.fieldAddr 216 (Operand.tmp 37) 1, some 38, [6]),
    (Op.load 3 (Operand.tmp 38), some 39, [7]),
    (Op.call { callee := Callee.value (Operand.func 42), args := #[Operand.tmp 34, Operand.tmp 35, Operand.tmp 39], argTypes := #[59, 3, 3] }, some 40, [3, 4, 8]),
    (Op.move (Operand.tmp 40), some 30, [9]),
    (Op.extract (Operand.tmp 30) 0, some 41, [10]),
    (Op.extract (Operand.tmp 30) 1, some 42, [10]),
    (Op.assign (Operand.tmp 41), some 5, [11, 9, 0, 1, 2, 3, 4, 5, 6, 7, 8, 9, 10, 11]),
    (Op.assign (Operand.tmp 42), some 6, [12, 13, 0, 1, 2, 3, 4, 5, 6, 7, 8, 9, 10, 11, 12, 13])]
theorem RF4_shape : RegShape RF4 5 43 shF4 := regShape (by kernel_rfl) (by kernel_rfl)
def vsF4 (r v x b : Nat) (s : List Nat) : List Value := [.pointer (some ⟨r, 0, none⟩), .pointer (some ⟨r, 0, none⟩), .pointer (some ⟨r, 0, none⟩), .pointer (some ⟨v, 0, none⟩), .int .i64 x, .pointer (some ⟨r, 0, none⟩), .pointer (some ⟨r, 0, none⟩), .pointer (some ⟨r, 1, none⟩), .int .i64 b, .tuple #[recV (.shard s), .nilIface], .tuple #[recV (.shard s), .nilIface], recV (.shard s), .nilIface, recV (.shard s), .nilIface]
set_option maxRecDepth 100000 in
set_option maxHeartbeats 1000000 in
theorem fetch_region4 {l n : Nat} {ops : Array Oper} {Q : Exit → Act → World → Prop} {a : Act} {w : World} {r v p D L G ps ho b g N q gone sp : Nat} {A : Arr} {F : Foot} (hV : Vol w v p D L G ps ho A F) (hF : Free F p A.n v) (hf : A.fit) (x : Nat) (hx : x < A.n) (hb : b < A.nb) (hw : A.wait ≠ 0) (hl : A.lost x = false) (hbad : A.bad x b = false) (h2 : Boxed w q 191 (.pointer (some ⟨r, 0, none⟩))) (hr : RdAt w r v b g N gone sp) (hnq : ¬ F.has p A.n q) (hnr : ¬ F.has p A.n r) (s : List Nat) (hs : (Rec.shard s).ok) (he : A.blk x b = (Rec.shard s).blk) (hops : RF4 = ops) (hsz : a.tmps.size = 100)
    (e2 : a.eval (.tmp 2) = .pointer (some ⟨q, 0, none⟩)) (e4 : a.eval (.tmp 4) = .int .i64 x)
    (hQ : ∀ (w' : World), ArrAt w' p (A.setReads x (wrap64 (A.reads x + 1))) F → Outside (F.has p A.n) w w' → Q .normal (Act.putFrom a 5 [recV (.shard s), .nilIface, a.eval (.tmp 7), a.eval (.tmp 8), a.eval (.tmp 9), a.eval (.tmp 10), a.eval (.tmp 11), a.eval (.tmp 12), a.eval (.tmp 13), a.eval (.tmp 14), a.eval (.tmp 15), a.eval (.tmp 16), a.eval (.tmp 17), a.eval (.tmp 18), a.eval (.tmp 19), a.eval (.tmp 20), a.eval (.tmp 21), a.eval (.tmp 22), a.eval (.tmp 23), a.eval (.tmp 24), a.eval (.tmp 25), a.eval (.tmp 26), a.eval (.tmp 27), a.eval (.tmp 28), a.eval (.tmp 29), .tuple #[recV (.shard s), .nilIface], .pointer (some ⟨r, 0, none⟩), .pointer (some ⟨r, 0, none⟩), .pointer (some ⟨r, 0, none⟩), .pointer (some ⟨v, 0, none⟩), .int .i64 x, .pointer (some ⟨r, 0, none⟩), .pointer (some ⟨r, 0, none⟩), .pointer (some ⟨r, 1, none⟩), .int .i64 b, .tuple #[recV (.shard s), .nilIface], recV (.shard s), .nilIface]) w') : (Code.region 4 ops true).wpIn (Fence.wide.inRound l) n Tryz.prog Q a w := by
  subst hops
  have hcq : ∀ w', Outside (F.has p A.n) w w' → w'.cell? ⟨q, 0, none⟩ = some (.pointer (some ⟨r, 0, none⟩)) := fun w' hO => (show Boxed w' q 191 (.pointer (some ⟨r, 0, none⟩)) from (hO.block _ h2.lt hnq).trans h2).cell
  have hcr : ∀ w', Outside (F.has p A.n) w w' → w'.cell? ⟨r, 0, none⟩ = some (.pointer (some ⟨v, 0, none⟩)) ∧ w'.cell? ⟨r, 1, none⟩ = some (.int .i64 b) := fun w' hO => ⟨(hr.keep (hO.block _ hr.lt hnr)).cells.1, (hr.keep (hO.block _ hr.lt hnr)).cells.2.1⟩
  refine region_factsI (by kernel_rfl) RF4_shape a w (by omega) (fun i u _ => u = (vsF4 r v x b s).getD i undef) (BFr w p A F x) ⟨hV.arr.keep fun _ _ => rfl, Outside.drew w⟩ ?_ ?_
  · intro i hi
    match i, hi with
    | 0, _ =>
      intro o a' w' Dn hg ho hdst hk hDi hcl hdep hB hV'
      have u0 : a'.eval (.tmp 2) = .pointer (some ⟨q, 0, none⟩) := (hk.slot 2 (by omega)).trans e2
      have cc := hcq w' hB.2
      exact opI_val (v := .pointer (some ⟨r, 0, none⟩)) (by simp only [execOp, show o.op = Op.load 191 (Operand.tmp 2) from ho, u0]; go_simp) (by rw [ho]; intro c h; cases h) hdst ⟨BFr_upd hB 0 (by decide), rfl, fun _ _ _ q => q⟩
    | 1, _ =>
      intro o a' w' Dn hg ho hdst hk hDi hcl hdep hB hV'
      have u0 : a'.eval (.tmp 31) = .pointer (some ⟨r, 0, none⟩) := hV' 0 (hdep 0 (by decide))
      exact opI_val (v := .pointer (some ⟨r, 0, none⟩)) (by simp only [execOp, show o.op = Op.nilCheck (Operand.tmp 31) from ho, u0]; go_simp) (by rw [ho]; intro c h; cases h) hdst ⟨BFr_upd hB 1 (by decide), rfl, fun _ _ _ q => q⟩
    | 2, _ =>
      intro o a' w' Dn hg ho hdst hk hDi hcl hdep hB hV'
      have u0 : a'.eval (.tmp 32) = .pointer (some ⟨r, 0, none⟩) := hV' 1 (hdep 1 (by decide))
      exact opI_val (v := .pointer (some ⟨r, 0, none⟩)) (by simp only [execOp, show o.op = Op.fieldAddr 216 (Operand.tmp 32) 0 from ho, u0]; go_simp) (by rw [ho]; intro c h; cases h) hdst ⟨BFr_upd hB 2 (by decide), rfl, fun _ _ _ q => q⟩
    | 3, _ =>
      intro o a' w' Dn hg ho hdst hk hDi hcl hdep hB hV'
      have u0 : a'.eval (.tmp 33) = .pointer (some ⟨r, 0, none⟩) := hV' 2 (hdep 2 (by decide))
      obtain ⟨cc, _⟩ := hcr w' hB.2
      exact opI_val (v := .pointer (some ⟨v, 0, none⟩)) (by simp only [execOp, show o.op = Op.load 59 (Operand.tmp 33) from ho, u0]; go_simp) (by rw [ho]; intro c h; cases h) hdst ⟨BFr_upd hB 3 (by decide), rfl, fun _ _ _ q => q⟩
    | 4, _ =>
      intro o a' w' Dn hg ho hdst hk hDi hcl hdep hB hV'
      have u0 : a'.eval (.tmp 4) = .int .i64 x := (hk.slot 4 (by omega)).trans e4
      exact opI_val (run_op_move ho u0 w') (by rw [ho]; intro c h; cases h) hdst ⟨BFr_upd hB 4 (by decide), rfl, fun _ _ _ q => q⟩
    | 5, _ =>
      intro o a' w' Dn hg ho hdst hk hDi hcl hdep hB hV'
      have u0 : a'.eval (.tmp 2) = .pointer (some ⟨q, 0, none⟩) := (hk.slot 2 (by omega)).trans e2
      have cc := hcq w' hB.2
      exact opI_val (v := .pointer (some ⟨r, 0, none⟩)) (by simp only [execOp, show o.op = Op.load 191 (Operand.tmp 2) from ho, u0]; go_simp) (by rw [ho]; intro c h; cases h) hdst ⟨BFr_upd hB 5 (by decide), rfl, fun _ _ _ q => q⟩
    | 6, _ =>
      intro o a' w' Dn hg ho hdst hk hDi hcl hdep hB hV'
      have u0 : a'.eval (.tmp 36) = .pointer (some ⟨r, 0, none⟩) := hV' 5 (hdep 5 (by decide))
      exact opI_val (v := .pointer (some ⟨r, 0, none⟩)) (by simp only [execOp, show o.op = Op.nilCheck (Operand.tmp 36) from ho, u0]; go_simp) (by rw [ho]; intro c h; cases h) hdst ⟨BFr_upd hB 6 (by decide), rfl, fun _ _ _ q => q⟩
    | 7, _ =>
      intro o a' w' Dn hg ho hdst hk hDi hcl hdep hB hV'
      have u0 : a'.eval (.tmp 37) = .pointer (some ⟨r, 0, none⟩) := hV' 6 (hdep 6 (by decide))
      exact opI_val (v := .pointer (some ⟨r, 1, none⟩)) (by simp only [execOp, show o.op = Op.fieldAddr 216 (Operand.tmp 37) 1 from ho, u0]; go_simp) (by rw [ho]; intro c h; cases h) hdst ⟨BFr_upd hB 7 (by decide), rfl, fun _ _ _ q => q⟩
    | 8, _ =>
      intro o a' w' Dn hg ho hdst hk hDi hcl hdep hB hV'
      have u0 : a'.eval (.tmp 38) = .pointer (some ⟨r, 1, none⟩) := hV' 7 (hdep 7 (by decide))
      obtain ⟨_, cc⟩ := hcr w' hB.2
      exact opI_val (v := .int .i64 b) (by simp only [execOp, show o.op = Op.load 3 (Operand.tmp 38) from ho, u0]; go_simp) (by rw [ho]; intro c h; cases h) hdst ⟨BFr_upd hB 8 (by decide), rfl, fun _ _ _ q => q⟩
    | 9, _ =>
      intro o a' w' Dn hg ho hdst hk hDi hcl hdep hB hV'
      have u0 : a'.eval (.tmp 34) = .pointer (some ⟨v, 0, none⟩) := hV' 3 (hdep 3 (by decide))
      have u1 : a'.eval (.tmp 35) = .int .i64 x := hV' 4 (hdep 4 (by decide))
      have u2 : a'.eval (.tmp 39) = .int .i64 b := hV' 8 (hdep 8 (by decide))
      have hA : ArrAt w' p A F := by have := hB.1; unfold arFr at this; rw [if_neg (by rw [hDi]; decide)] at this; exact this
      have hVw := hV.turn hF hB.2 hA
      refine opI_call (f := 42) (args := #[.pointer (some ⟨v, 0, none⟩), .int .i64 x, .int .i64 b]) (w1 := w') (by simp only [execOp, show o.op = Op.call { callee := Callee.value (Operand.func 42), args := #[Operand.tmp 34, Operand.tmp 35, Operand.tmp 39], argTypes := #[59, 3, 3] } from ho]; go_simp; exact ⟨by simpa [Act.eval] using u0, by simpa [Act.eval] using u1, by simpa [Act.eval] using u2⟩) (by rw [ho]; intro c h; cases h) hdst (volRead_ok hVw.vol hA hf x b hx hb hw hl hbad (.shard s) hs (makes_shard hs) he hVw.laid hF.g) ?_
      rintro e w'' ⟨rfl, hA', hO'⟩
      refine ⟨_, rfl, ⟨?_, hB.2.trans hO'⟩, rfl, fun _ _ _ q => q⟩
      have e : arFr A x (upd Dn 9) = A.setReads x (wrap64 (A.reads x + 1)) := by unfold arFr; rw [if_pos upd_eq]
      rw [e]; exact hA'
    | 10, _ =>
      intro o a' w' Dn hg ho hdst hk hDi hcl hdep hB hV'
      have u0 : a'.eval (.tmp 40) = .tuple #[recV (.shard s), .nilIface] := hV' 9 (hdep 9 (by decide))
      exact opI_val (run_op_move ho u0 w') (by rw [ho]; intro c h; cases h) hdst ⟨BFr_upd hB 10 (by decide), rfl, fun _ _ _ q => q⟩
    | 11, _ =>
      intro o a' w' Dn hg ho hdst hk hDi hcl hdep hB hV'
      have u0 : a'.eval (.tmp 30) = .tuple #[recV (.shard s), .nilIface] := hV' 10 (hdep 10 (by decide))
      obtain ⟨ty, rx, hrx⟩ := recV_iface (.shard s)
      rw [hrx] at u0
      exact opI_val (v := recV (.shard s)) (by simp only [execOp, show o.op = Op.extract (Operand.tmp 30) 0 from ho, u0]; go_simp) (by rw [ho]; intro c h; cases h) hdst ⟨BFr_upd hB 11 (by decide), rfl, fun _ _ _ q => q⟩
    | 12, _ =>
      intro o a' w' Dn hg ho hdst hk hDi hcl hdep hB hV'
      have u0 : a'.eval (.tmp 30) = .tuple #[recV (.shard s), .nilIface] := hV' 10 (hdep 10 (by decide))
      exact opI_val (v := .nilIface) (by simp only [execOp, show o.op = Op.extract (Operand.tmp 30) 1 from ho, u0]; go_simp) (by rw [ho]; intro c h; cases h) hdst ⟨BFr_upd hB 12 (by decide), rfl, fun _ _ _ q => q⟩
    | 13, _ =>
      intro o a' w' Dn hg ho hdst hk hDi hcl hdep hB hV'
      have u0 : a'.eval (.tmp 41) = recV (.shard s) := hV' 11 (hdep 11 (by decide))
      obtain ⟨ty, rx, hrx⟩ := recV_iface (.shard s)
      rw [hrx] at u0
      exact opI_val (v := recV (.shard s)) (by simp only [execOp, show o.op = Op.assign (Operand.tmp 41) from ho, u0]; go_simp) (by rw [ho]; intro c h; cases h) hdst ⟨BFr_upd hB 13 (by decide), rfl, fun _ _ _ q => q⟩
    | 14, _ =>
      intro o a' w' Dn hg ho hdst hk hDi hcl hdep hB hV'
      have u0 : a'.eval (.tmp 42) = .nilIface := hV' 12 (hdep 12 (by decide))
      exact opI_val (v := .nilIface) (by simp only [execOp, show o.op = Op.assign (Operand.tmp 42) from ho, u0]; go_simp) (by rw [ho]; intro c h; cases h) hdst ⟨BFr_upd hB 14 (by decide), rfl, fun _ _ _ q => q⟩
    | n + 15, hn => exact absurd hn (by show ¬ n + 15 < 15; omega)
  · rintro a' w' hk' hsame ⟨Dn, hD', hB⟩ hV'
    have e : a' = Act.putFrom a 5 [recV (.shard s), .nilIface, a.eval (.tmp 7), a.eval (.tmp 8), a.eval (.tmp 9), a.eval (.tmp 10), a.eval (.tmp 11), a.eval (.tmp 12), a.eval (.tmp 13), a.eval (.tmp 14), a.eval (.tmp 15), a.eval (.tmp 16), a.eval (.tmp 17), a.eval (.tmp 18), a.eval (.tmp 19), a.eval (.tmp 20), a.eval (.tmp 21), a.eval (.tmp 22), a.eval (.tmp 23), a.eval (.tmp 24), a.eval (.tmp 25), a.eval (.tmp 26), a.eval (.tmp 27), a.eval (.tmp 28), a.eval (.tmp 29), .tuple #[recV (.shard s), .nilIface], .pointer (some ⟨r, 0, none⟩), .pointer (some ⟨r, 0, none⟩), .pointer (some ⟨r, 0, none⟩), .pointer (some ⟨v, 0, none⟩), .int .i64 x, .pointer (some ⟨r, 0, none⟩), .pointer (some ⟨r, 0, none⟩), .pointer (some ⟨r, 1, none⟩), .int .i64 b, .tuple #[recV (.shard s), .nilIface], recV (.shard s), .nilIface] := hk'.out _ rfl (by omega) (fun i hi => ?_)
    · rw [e]; exact hQ w' (by have := hB.1; unfold arFr at this; rw [if_pos (hD' 9 (by decide))] at this; exact this) hB.2
    · match i, hi with
      | 0, _ => exact hV' 13 (by decide)
      | 1, _ => exact hV' 14 (by decide)
      | 2, _ => exact hsame 7 (by decide)
      | 3, _ => exact hsame 8 (by decide)
      | 4, _ => exact hsame 9 (by decide)
      | 5, _ => exact hsame 10 (by decide)
      | 6, _ => exact hsame 11 (by decide)
      | 7, _ => exact hsame 12 (by decide)
      | 8, _ => exact hsame 13 (by decide)
      | 9, _ => exact hsame 14 (by decide)
      | 10, _ => exact hsame 15 (by decide)
      | 11, _ => exact hsame 16 (by decide)
      | 12, _ => exact hsame 17 (by decide)
      | 13, _ => exact hsame 18 (by decide)
      | 14, _ => exact hsame 19 (by decide)
      | 15, _ => exact hsame 20 (by decide)
      | 16, _ => exact hsame 21 (by decide)
      | 17, _ => exact hsame 22 (by decide)
      | 18, _ => exact hsame 23 (by decide)
      | 19, _ => exact hsame 24 (by decide)
      | 20, _ => exact hsame 25 (by decide)
      | 21, _ => exact hsame 26 (by decide)
      | 22, _ => exact hsame 27 (by decide)
      | 23, _ => exact hsame 28 (by decide)
      | 24, _ => exact hsame 29 (by decide)
      | 25, _ => exact hV' 10 (by decide)
      | 26, _ => exact hV' 0 (by decide)
      | 27, _ => exact hV' 1 (by decide)
      | 28, _ => exact hV' 2 (by decide)
      | 29, _ => exact hV' 3 (by decide)
      | 30, _ => exact hV' 4 (by decide)
      | 31, _ => exact hV' 5 (by decide)
      | 32, _ => exact hV' 6 (by decide)
      | 33, _ => exact hV' 7 (by decide)
      | 34, _ => exact hV' 8 (by decide)
      | 35, _ => exact hV' 9 (by decide)
      | 36, _ => exact hV' 11 (by decide)
      | 37, _ => exact hV' 12 (by decide)
      | n + 38, hn => exact absurd hn (by simp)
noncomputable def RF8 : Array Oper := ((Tryz.f111.body.bind (rgf · 8))).getD #[]
def shF8 : List (Op × Option Nat × List Nat) := [(Op.load 191 (Operand.tmp 2), some 47, []),
    (Op.nilCheck (Operand.tmp 47), some 48, [0]),
    (Op.fieldAddr 216 (Operand.tmp 48) 2, some 49, [1]),
    (Op.load 132 (Operand.tmp 49), some 50, [2]),
    (Op.move (Operand.tmp 4), some 51, []),
    (Op.fieldAddr 212 (Operand.tmp 7) 0, some 52, []),
    (Op.slice 210 (Operand.tmp 52) none none none, some 53, [5]),
    (Op.indexAddr 132 (Operand.tmp 50) (Operand.tmp 51), some 54, [3, 4, 0, 1, 2, 3, 4, 5, 6]),
    (Op.store 166 (Operand.tmp 54) (Operand.tmp 53), none, [7, 6, 0, 1, 2, 3, 4, 5, 6])]
theorem RF8_shape : RegShape RF8 47 55 shF8 := regShape (by kernel_rfl) (by kernel_rfl)
def vsF8 (r g N x q7 : Nat) : List Value := [.pointer (some ⟨r, 0, none⟩), .pointer (some ⟨r, 0, none⟩), .pointer (some ⟨r, 2, none⟩), .slice (some ⟨g, 0, none⟩) N N, .int .i64 x, .pointer (some ⟨q7, 0, none⟩), .slice (some ⟨q7, 0, none⟩) 44 44, .pointer (some ⟨g, x, none⟩), undef]
set_option maxRecDepth 100000 in
set_option maxHeartbeats 1000000 in
theorem fetch_region8 {l n : Nat} {ops : Array Oper} {Q : Exit → Act → World → Prop} {a : Act} {w : World} {r v b g N q q7 gone sp : Nat} {f : Nat → Value} (h2 : Boxed w q 191 (.pointer (some ⟨r, 0, none⟩))) (hr : RdAt w r v b g N gone sp) (hrow : w.rowIs g 166 N f) (x : Nat) (hx : x < N) (hgq : q ≠ g) (hgr : r ≠ g) (hops : RF8 = ops) (hsz : a.tmps.size = 100)
    (e2 : a.eval (.tmp 2) = .pointer (some ⟨q, 0, none⟩)) (e4 : a.eval (.tmp 4) = .int .i64 x) (e7 : a.eval (.tmp 7) = .pointer (some ⟨q7, 0, none⟩))
    (hQ : ∀ (w' : World), w' = w.drew.setCell ⟨g, x, none⟩ (.slice (some ⟨q7, 0, none⟩) 44 44) → Q .normal (Act.putFrom a 47 [.pointer (some ⟨r, 0, none⟩), .pointer (some ⟨r, 0, none⟩), .pointer (some ⟨r, 2, none⟩), .slice (some ⟨g, 0, none⟩) N N, .int .i64 x, .pointer (some ⟨q7, 0, none⟩), .slice (some ⟨q7, 0, none⟩) 44 44, .pointer (some ⟨g, x, none⟩)]) w') : (Code.region 8 ops true).wpIn (Fence.wide.inRound l) n Tryz.prog Q a w := by
  subst hops
  obtain ⟨_, _, c2, _, _⟩ := hr.cells
  have cq := h2.cell
  have cg := hrow.cell (i := x) hx
  have fg := hrow.frozen x
  refine region_factsI (by kernel_rfl) RF8_shape a w (by omega) (fun i u _ => u = (vsF8 r g N x q7).getD i undef) (BF8 w g x q7) rfl ?_ ?_
  · intro i hi
    match i, hi with
    | 0, _ =>
      intro o a' w' Dn hg ho hdst hk hDi hcl hdep hB hV'
      have u0 : a'.eval (.tmp 2) = .pointer (some ⟨q, 0, none⟩) := (hk.slot 2 (by omega)).trans e2
      have cc : w'.cell? ⟨q, 0, none⟩ = some (.pointer (some ⟨r, 0, none⟩)) := BF8_cell hB hgq cq
      exact opI_val (v := .pointer (some ⟨r, 0, none⟩)) (by simp only [execOp, show o.op = Op.load 191 (Operand.tmp 2) from ho, u0]; go_simp) (by rw [ho]; intro c h; cases h) hdst ⟨BF8_upd hB 0 (by decide), rfl, fun _ _ _ q => q⟩
    | 1, _ =>
      intro o a' w' Dn hg ho hdst hk hDi hcl hdep hB hV'
      have u0 : a'.eval (.tmp 47) = .pointer (some ⟨r, 0, none⟩) := hV' 0 (hdep 0 (by decide))
      exact opI_val (v := .pointer (some ⟨r, 0, none⟩)) (by simp only [execOp, show o.op = Op.nilCheck (Operand.tmp 47) from ho, u0]; go_simp) (by rw [ho]; intro c h; cases h) hdst ⟨BF8_upd hB 1 (by decide), rfl, fun _ _ _ q => q⟩
    | 2, _ =>
      intro o a' w' Dn hg ho hdst hk hDi hcl hdep hB hV'
      have u0 : a'.eval (.tmp 48) = .pointer (some ⟨r, 0, none⟩) := hV' 1 (hdep 1 (by decide))
      exact opI_val (v := .pointer (some ⟨r, 2, none⟩)) (by simp only [execOp, show o.op = Op.fieldAddr 216 (Operand.tmp 48) 2 from ho, u0]; go_simp) (by rw [ho]; intro c h; cases h) hdst ⟨BF8_upd hB 2 (by decide), rfl, fun _ _ _ q => q⟩
    | 3, _ =>
      intro o a' w' Dn hg ho hdst hk hDi hcl hdep hB hV'
      have u0 : a'.eval (.tmp 49) = .pointer (some ⟨r, 2, none⟩) := hV' 2 (hdep 2 (by decide))
      have cc : w'.cell? ⟨r, 2, none⟩ = some (.slice (some ⟨g, 0, none⟩) N N) := BF8_cell hB hgr c2
      exact opI_val (v := .slice (some ⟨g, 0, none⟩) N N) (by simp only [execOp, show o.op = Op.load 132 (Operand.tmp 49) from ho, u0]; go_simp) (by rw [ho]; intro c h; cases h) hdst ⟨BF8_upd hB 3 (by decide), rfl, fun _ _ _ q => q⟩
    | 4, _ =>
      intro o a' w' Dn hg ho hdst hk hDi hcl hdep hB hV'
      have u0 : a'.eval (.tmp 4) = .int .i64 x := (hk.slot 4 (by omega)).trans e4
      exact opI_val (run_op_move ho u0 w') (by rw [ho]; intro c h; cases h) hdst ⟨BF8_upd hB 4 (by decide), rfl, fun _ _ _ q => q⟩
    | 5, _ =>
      intro o a' w' Dn hg ho hdst hk hDi hcl hdep hB hV'
      have u0 : a'.eval (.tmp 7) = .pointer (some ⟨q7, 0, none⟩) := (hk.slot 7 (by omega)).trans e7
      exact opI_val (v := .pointer (some ⟨q7, 0, none⟩)) (by simp only [execOp, show o.op = Op.fieldAddr 212 (Operand.tmp 7) 0 from ho, u0]; go_simp) (by rw [ho]; intro c h; cases h) hdst ⟨BF8_upd hB 5 (by decide), rfl, fun _ _ _ q => q⟩
    | 6, _ =>
      intro o a' w' Dn hg ho hdst hk hDi hcl hdep hB hV'
      have u0 : a'.eval (.tmp 52) = .pointer (some ⟨q7, 0, none⟩) := hV' 5 (hdep 5 (by decide))
      exact opI_val (v := .slice (some ⟨q7, 0, none⟩) 44 44) (by simp only [execOp, show o.op = Op.slice 210 (Operand.tmp 52) none none none from ho, u0]; go_simp) (by rw [ho]; intro c h; cases h) hdst ⟨BF8_upd hB 6 (by decide), rfl, fun _ _ _ q => q⟩
    | 7, _ =>
      intro o a' w' Dn hg ho hdst hk hDi hcl hdep hB hV'
      have u0 : a'.eval (.tmp 50) = .slice (some ⟨g, 0, none⟩) N N := hV' 3 (hdep 3 (by decide))
      have u1 : a'.eval (.tmp 51) = .int .i64 x := hV' 4 (hdep 4 (by decide))
      exact opI_val (v := .pointer (some ⟨g, x, none⟩)) (by simp only [execOp, show o.op = Op.indexAddr 132 (Operand.tmp 50) (Operand.tmp 51) from ho, u0, u1]; go_simp) (by rw [ho]; intro c h; cases h) hdst ⟨BF8_upd hB 7 (by decide), rfl, fun _ _ _ q => q⟩
    | 8, _ =>
      intro o a' w' Dn hg ho hdst hk hDi hcl hdep hB hV'
      have u0 : a'.eval (.tmp 54) = .pointer (some ⟨g, x, none⟩) := hV' 7 (hdep 7 (by decide))
      have u1 : a'.eval (.tmp 53) = .slice (some ⟨q7, 0, none⟩) 44 44 := hV' 6 (hdep 6 (by decide))
      have hw : w' = w.drew := by have := hB; unfold BF8 at this; rw [if_neg (by rw [hDi]; decide)] at this; exact this
      subst hw
      have cc : w.drew.cell? ⟨g, x, none⟩ = some (f x) := cg
      have ff : w.drew.frozen? ⟨g, x, none⟩ = false := fg
      exact opI_skip (w' := w.drew.setCell ⟨g, x, none⟩ (.slice (some ⟨q7, 0, none⟩) 44 44)) (by simp only [execOp, show o.op = Op.store 166 (Operand.tmp 54) (Operand.tmp 53) from ho, u0, u1]; go_simp) (by rw [ho]; intro c h; cases h) ⟨by unfold BF8; rw [if_pos upd_eq], rfl, fun _ _ _ q => q⟩
    | n + 9, hn => exact absurd hn (by show ¬ n + 9 < 9; omega)
  · rintro a' w' hk' hsame ⟨Dn, hD', hB⟩ hV'
    have e : a' = Act.putFrom a 47 [.pointer (some ⟨r, 0, none⟩), .pointer (some ⟨r, 0, none⟩), .pointer (some ⟨r, 2, none⟩), .slice (some ⟨g, 0, none⟩) N N, .int .i64 x, .pointer (some ⟨q7, 0, none⟩), .slice (some ⟨q7, 0, none⟩) 44 44, .pointer (some ⟨g, x, none⟩)] := hk'.out _ rfl (by omega) (fun i hi => ?_)
    · rw [e]; exact hQ w' (by unfold BF8 at hB; rw [if_pos (hD' 8 (by decide))] at hB; exact hB)
    · match i, hi with
      | 0, _ => exact hV' 0 (by decide)
      | 1, _ => exact hV' 1 (by decide)
      | 2, _ => exact hV' 2 (by decide)
      | 3, _ => exact hV' 3 (by decide)
      | 4, _ => exact hV' 4 (by decide)
      | 5, _ => exact hV' 5 (by decide)
      | 6, _ => exact hV' 6 (by decide)
      | 7, _ => exact hV' 7 (by decide)
      | n + 8, hn => exact absurd hn (by simp)
end Go.Proofs.YtogdeaaphdlchaaGreatDoor
