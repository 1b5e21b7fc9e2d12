import Derived.Test.YthhommjlomphdabDoorCkRegions
import Derived.RangeFuncNested
import Derived.RangeFuncBound
import Derived.RangeFuncLeaves
import Derived.Shelf.Abstract
import Derived.Shelf.RegionOpen
import Derived.WalkKit
import Derived.OwnWalkIn
import Derived.TacticsInMore
import Derived.LoopNIn
import Derived.LoopIn
/-
  A frame of which some slots have turned, spelled out. Written by gen_frames.py.
-/
namespace Go.Proofs.YthhommjlomphdabDoor
open Go.RowKit

theorem Kept.split {lo hi : Nat} {a a' : Act} (hk : Kept lo hi a a') (h1 : lo ≤ hi) (h2 : hi ≤ a.tmps.size) :
    ∃ l : List Value, l.length = hi - lo ∧ a' = { tmps := (a.tmps.toList.take lo ++ (l ++ a.tmps.toList.drop hi)).toArray, defers := a.defers } := by
  have hev : ∀ (x : Act) (s : Nat), s < x.tmps.size → x.tmps[s]? = some (x.eval (.tmp s)) := fun x s hs => by
    simp [Act.eval, Array.getD_eq_getD_getElem?, hs]
  refine ⟨(a'.tmps.toList.drop lo).take (hi - lo), ?_, ?_⟩
  · have := hk.size
    simp; omega
  · obtain ⟨t', d'⟩ := a'
    have hs := hk.size
    have hd := hk.defers
    simp only at hs hd
    subst hd
    congr 1
    apply Array.ext_getElem?
    intro i
    simp only [List.getElem?_toArray, List.getElem?_append, List.getElem?_take, List.getElem?_drop, List.length_take, List.length_drop, Array.length_toList, Array.getElem?_toList]
    by_cases c1 : i < lo
    · rw [if_pos (by omega), if_pos c1]
      have e := hk.slot i (.inl c1)
      have x1 := hev ⟨t', a.defers⟩ i (by show i < t'.size; omega)
      have x2 := hev a i (by omega)
      simp only at x1
      rw [x1, x2, e]
    · by_cases c2 : i < hi
      · rw [if_neg (by omega), if_pos (by omega), if_pos (by omega), show lo + (i - min lo a.tmps.size) = i by omega]
      · rw [if_neg (by omega), if_neg (by omega)]
        have ei : hi + (i - min lo a.tmps.size - min (hi - lo) (t'.size - lo)) = i := by omega
        rw [ei]
        by_cases c3 : i < a.tmps.size
        · have e := hk.slot i (.inr (by omega))
          have x1 := hev ⟨t', a.defers⟩ i (by show i < t'.size; omega)
          have x2 := hev a i c3
          simp only at x1
          rw [x1, x2, e]
        · rw [Array.getElem?_eq_none (by omega), Array.getElem?_eq_none (by omega)]
theorem len9 {l : List Value} (h : l.length = 9) : ∃ u0 u1 u2 u3 u4 u5 u6 u7 u8, l = [u0, u1, u2, u3, u4, u5, u6, u7, u8] := by
  match l, h with
  | [u0, u1, u2, u3, u4, u5, u6, u7, u8], _ => exact ⟨u0, u1, u2, u3, u4, u5, u6, u7, u8, rfl⟩
theorem len14 {l : List Value} (h : l.length = 14) : ∃ u0 u1 u2 u3 u4 u5 u6 u7 u8 u9 u10 u11 u12 u13, l = [u0, u1, u2, u3, u4, u5, u6, u7, u8, u9, u10, u11, u12, u13] := by
  match l, h with
  | [u0, u1, u2, u3, u4, u5, u6, u7, u8, u9, u10, u11, u12, u13], _ => exact ⟨u0, u1, u2, u3, u4, u5, u6, u7, u8, u9, u10, u11, u12, u13, rfl⟩
theorem len28 {l : List Value} (h : l.length = 28) : ∃ u0 u1 u2 u3 u4 u5 u6 u7 u8 u9 u10 u11 u12 u13 u14 u15 u16 u17 u18 u19 u20 u21 u22 u23 u24 u25 u26 u27, l = [u0, u1, u2, u3, u4, u5, u6, u7, u8, u9, u10, u11, u12, u13, u14, u15, u16, u17, u18, u19, u20, u21, u22, u23, u24, u25, u26, u27] := by
  match l, h with
  | [u0, u1, u2, u3, u4, u5, u6, u7, u8, u9, u10, u11, u12, u13, u14, u15, u16, u17, u18, u19, u20, u21, u22, u23, u24, u25, u26, u27], _ => exact ⟨u0, u1, u2, u3, u4, u5, u6, u7, u8, u9, u10, u11, u12, u13, u14, u15, u16, u17, u18, u19, u20, u21, u22, u23, u24, u25, u26, u27, rfl⟩
end Go.Proofs.YthhommjlomphdabDoor
/-
  A check is told to tell a lost shard; one is given up.
-/
namespace Go.Proofs.YthhommjlomphdabDoor
open Go.RowKit Go.Deep Gf

set_option maxRecDepth 100000 in
set_option maxHeartbeats 4000000 in
theorem ckLeave_any (b i : Nat) (C : Ck) (w : World) (hC : CkAt w b C) (hf : CkFit C) (hi : i < 16) :
    Calls Tryd.prog 63 #[.pointer (some ⟨b, 0, none⟩), .int .i64 i] w fun e w' =>
      (leave C i = none ∧ e = .returned (.bool false) ∧ w' = w) ∨ (∃ C', leave C i = some C' ∧ e = .returned (.bool true) ∧ CkAt w' b C' ∧ w.grownBy w' (some b)) := by
  go_enter Tryd.func63, Tryd.ntmps63
  go_wp2_with fail
  refine (spare_any b i C w hC hf hi).mono ?_
  rintro e w1 ⟨rfl, hw⟩
  subst hw
  cases hsp : spareAt C i with
  | none =>
    have HN : Hid (leave C i = none) := hide (by unfold leave; rw [hsp]; rfl)
    simp only [spV]
    clear hsp
    go_wp2
    go_ret
    exact .inl ⟨HN.out, rfl, rfl⟩
  | some r =>
    obtain ⟨r1, r2, r3⟩ := spareAt_some hsp
    have HN : Hid (leave C i = some (leaveAt C i r)) := hide (by unfold leave; rw [hsp]; rfl)
    have hmost := hf.most
    simp only [spV]
    clear hsp
    go_wp2_with fail
    refine (ckOff_any b r i C _ hC hf (by omega) hi).mono ?_
    rintro e w2 ⟨rfl, hC2, hg2⟩
    have cc := hC2.countC
    have ff := hC2.frozen 129
    have hcn : (offC C C.count r i).count = C.count := rfl
    rw [hcn] at cc
    have hC3 := count_set hC2 (C.count - 1)
    have hg3 := grown_set hg2 129 (.int .i64 ((C.count - 1 : Nat) : Int))
    have hwr : wrap64 ((C.count : Int) - 1) = ((C.count - 1 : Nat) : Int) := by unfold wrap64; omega
    have hwr2 : IntKind.i64.wrap ((C.count : Int) - 1) = ((C.count - 1 : Nat) : Int) := by rw [IntKind.wrap_i64]; omega
    obtain ⟨w3, hw3⟩ : ∃ w3, w2.setCell ⟨b, 129, none⟩ (.int .i64 ((C.count - 1 : Nat) : Int)) = w3 := ⟨_, rfl⟩
    rw [hw3] at hC3 hg3
    have HC2 := hide hC2
    have HG2 := hide hg2
    have HC3 := hide hC3
    have HG3 := hide hg3
    have c9 := hC3.countC
    have HR := hide (put_row (show CkAt w3.drew b _ from hC3) r (by omega) ((offC C C.count r i).m (C.count - 1)))
    have HGR : Hid (w1.grownBy (w3.drew.setCells b (r * 16) (rowL ((offC C C.count r i).m (C.count - 1)))) (some b)) := hide (ck_grown _ _ _ _ ⟨hg3.os, hg3.tape, hg3.output, hg3.size, hg3.block⟩)
    have HL := hide (rowL_range (show CkAt w3.drew b _ from hC3) (C.count - 1) (by omega))
    have HT := hide (ck_there (show CkAt w3.drew b _ from hC3) r (by omega))
    clear hC2 hg2 hC3 hg3 hC
    go_wp2
    clear hw3 cc ff hwr hwr2 hcn HC2 HG2 HC3 HG3
    refine ck_fill b r (C.count - 1) (offC C C.count r i).m (by kernel_rfl) (fun _ _ _ _ _ h => h) rfl (by omega) (by omega) rfl rfl c9 HL.out HT.out ?_
    intro a' hk
    obtain ⟨l, hl, rfl⟩ := hk.split (by decide) (by simp)
    clear hk
    obtain ⟨u0, u1, u2, u3, u4, u5, u6, u7, u8, u9, u10, u11, u12, u13, rfl⟩ := len14 hl
    clear hl
    simp only [List.take_succ_cons, List.take_zero, List.drop_succ_cons, List.cons_append, List.nil_append, List.drop_nil, List.append_nil]
    obtain ⟨w4, hw4⟩ : ∃ w4, w3.drew.setCells b (r * 16) (rowL ((offC C C.count r i).m (C.count - 1))) = w4 := ⟨_, rfl⟩
    rw [hw4] at HR HGR ⊢
    clear hw4
    go_wp2
    go_ret
    exact .inr ⟨_, HN.out, rfl, HR.out, HGR.out⟩
theorem CkFit.off {C : Ck} (h : CkFit C) (k r i : Nat) : CkFit (offC C k r i) := ⟨off_byte h.byt, h.le, h.most⟩
theorem swap_put (m : Nat → Nat → Nat) (t r : Nat) : putF (putF m t (m r)) r (m t) = swapF m t r := by
  funext k
  unfold putF swapF
  by_cases h1 : k = r
  · rw [if_pos h1]
    by_cases h2 : k = t
    · rw [if_pos h2, ← h1, ← h2]
    · rw [if_neg h2, if_pos h1]
  · rw [if_neg h1]
    by_cases h2 : k = t
    · rw [if_pos h2, if_pos h2]
    · rw [if_neg h2, if_neg h2, if_neg h1]
set_option maxRecDepth 100000 in
set_option maxHeartbeats 4000000 in
theorem ckTell_any (b i : Nat) (C : Ck) (w : World) (hC : CkAt w b C) (hf : CkFit C) (hi : i < 16) :
    Calls Tryd.prog 40 #[.pointer (some ⟨b, 0, none⟩), .int .i64 i] w fun e w' =>
      (tell C i = none ∧ e = .returned (.bool false) ∧ w' = w) ∨ (∃ C', tell C i = some C' ∧ e = .returned (.bool true) ∧ CkAt w' b C' ∧ w.grownBy w' (some b)) := by
  go_enter Tryd.func40, Tryd.ntmps40
  go_wp2_with fail
  refine (spare_any b i C w hC hf hi).mono ?_
  rintro e w1 ⟨rfl, hw⟩
  subst hw
  cases hsp : spareAt C i with
  | none =>
    have HN : Hid (tell C i = none) := hide (by unfold tell; rw [hsp]; rfl)
    simp only [spV]
    clear hsp
    go_wp2
    go_ret
    exact .inl ⟨HN.out, rfl, rfl⟩
  | some r =>
    obtain ⟨r1, r2, r3⟩ := spareAt_some hsp
    have HN : Hid (tell C i = some (tellAt C i r)) := hide (by unfold tell; rw [hsp]; rfl)
    have hmost := hf.most
    simp only [spV]
    clear hsp
    have c8 := hC.toldC
    have h1 := put_row (put_row (show CkAt w1.drew b _ from hC) C.told (by omega) (C.m r)) r (by omega) (C.m C.told)
    have e1 : (⟨putF (putF C.m C.told (C.m r)) r (C.m C.told), C.told, C.count⟩ : Ck) = ⟨swapF C.m C.told r, C.told, C.count⟩ := by rw [swap_put]
    have h2 : CkAt ((w1.drew.setCells b (C.told * 16) (rowL (C.m r))).setCells b (r * 16) (rowL (C.m C.told))) b ⟨swapF C.m C.told r, C.told, C.count⟩ := by rw [← e1]; exact h1
    have hg : w1.grownBy ((w1.drew.setCells b (C.told * 16) (rowL (C.m r))).setCells b (r * 16) (rowL (C.m C.told))) (some b) :=
      ck_grown _ _ _ _ (ck_grown _ _ _ _ ⟨rfl, rfl, rfl, Nat.le_refl _, fun _ _ _ => rfl⟩)
    have HC2 := hide h2
    have HG2 := hide hg
    have HL := hide (rowL_range (show CkAt w1.drew b _ from hC) r (by omega))
    have HL2 := hide (rowL_range (show CkAt w1.drew b _ from hC) C.told (by omega))
    have HT := hide (ck_there (show CkAt w1.drew b _ from hC) r (by omega))
    have HT2 := hide (ck_there (show CkAt w1.drew b _ from hC) C.told (by omega))
    clear h1 e1 h2 hg hC
    go_wp2
    refine ck_exchange b r C.told C.m (by kernel_rfl) (fun _ _ _ _ _ h => h) rfl (by omega) (by omega) rfl rfl c8 HL.out HL2.out HT.out HT2.out ?_
    intro a' hk
    obtain ⟨l, hl, rfl⟩ := hk.split (by decide) (by simp)
    clear hk HL HL2 HT HT2
    obtain ⟨u0, u1, u2, u3, u4, u5, u6, u7, u8, u9, u10, u11, u12, u13, u14, u15, u16, u17, u18, u19, u20, u21, u22, u23, u24, u25, u26, u27, rfl⟩ := len28 hl
    clear hl
    simp only [List.take_succ_cons, List.take_zero, List.drop_succ_cons, List.drop_zero, List.cons_append, List.nil_append]
    obtain ⟨w2, hw2⟩ : ∃ w2, (w1.drew.setCells b (C.told * 16) (rowL (C.m r))).setCells b (r * 16) (rowL (C.m C.told)) = w2 := ⟨_, rfl⟩
    rw [hw2] at HC2 HG2 ⊢
    clear hw2 c8
    have c8 := HC2.out.toldC
    have hf2 : CkFit ⟨swapF C.m C.told r, C.told, C.count⟩ := ⟨swap_byte hf.byt, hf.le, hf.most⟩
    go_wp2_with fail
    refine (ckScale_any b C.told i _ _ HC2.out hf2 (by omega) hi).mono ?_
    rintro e w3 ⟨rfl, hC3, hg3⟩
    have hf3 : CkFit ⟨scaleF (swapF C.m C.told r) C.told i, C.told, C.count⟩ := ⟨scale_byte (swap_byte hf.byt), hf.le, hf.most⟩
    have hg13 := grown_trans HG2.out hg3
    have c8' := hC3.toldC
    have HC3 := hide hC3
    have HG3 := hide hg13
    clear hC3 hg3 hg13 c8 HC2 HG2
    go_wp2_with fail
    refine (ckOff_any b C.told i _ _ HC3.out hf3 (by omega) hi).mono ?_
    rintro e w4 ⟨rfl, hC4, hg4⟩
    have hg14 := grown_trans HG3.out hg4
    have hC5 := told_set hC4 (C.told + 1)
    have hg5 := grown_set hg14 128 (.int .i64 ((C.told + 1 : Nat) : Int))
    have c9 := hC4.toldC
    have f9 := hC4.frozen 128
    have c9' : w4.cell? ⟨b, 128, none⟩ = some (.int .i64 (C.told : Int)) := c9
    have hwr : wrap64 ((C.told : Int) + 1) = ((C.told + 1 : Nat) : Int) := by unfold wrap64; omega
    have hwr2 : IntKind.i64.wrap ((C.told : Int) + 1) = ((C.told + 1 : Nat) : Int) := by rw [IntKind.wrap_i64]; omega
    have HC5 := hide hC5
    have HG5 := hide hg5
    clear hC4 hg4 hg14 hC5 hg5 c9 c8' HC3 HG3
    go_wp2
    go_ret
    exact .inr ⟨_, HN.out, rfl, HC5.out, HG5.out⟩
end Go.Proofs.YthhommjlomphdabDoor
/-
  A range over a function whose rounds the function itself looks at: what the loop's variables hold is told to it, and it keeps to blocks of its own.
-/
namespace Go.Proofs.YthhommjlomphdabDoor
open Go.RowKit Go.Shelf

/-- whatever lay from block B on lies as it lay; below it, what is no cells -/
structure Above (B : Nat) (w w' : World) : Prop where
  os : w'.os = w.os
  tape : w'.tape = w.tape
  output : w'.output = w.output
  size : w.heap.size ≤ w'.heap.size
  block : ∀ k, B ≤ k → k < w.heap.size → w'.heap[k]? = w.heap[k]?
theorem Above.refl (B : Nat) (w : World) : Above B w w := ⟨rfl, rfl, rfl, Nat.le_refl _, fun _ _ _ => rfl⟩
theorem Above.trans {B : Nat} {a b c : World} (h : Above B a b) (k : Above B b c) : Above B a c :=
  ⟨k.os.trans h.os, k.tape.trans h.tape, k.output.trans h.output, Nat.le_trans h.size k.size, fun i h1 h2 => (k.block i h1 (by have := h.size; omega)).trans (h.block i h1 h2)⟩
theorem Above.mono {B B' : Nat} {w w' : World} (h : Above B w w') (hB : B ≤ B') : Above B' w w' := ⟨h.os, h.tape, h.output, h.size, fun k h1 h2 => h.block k (by omega) h2⟩
/-- nothing that lay has turned -/
theorem Above.of_below {B : Nat} {w w' : World} (h : Below w.heap.size w w') : Above B w w' := ⟨h.os, h.tape, h.output, h.size, fun k _ h2 => h.block k h2⟩
theorem Above.zero {w w' : World} (h : Above 0 w w') : Below w.heap.size w w' := ⟨h.os, h.tape, h.output, h.size, fun k hk => h.block k (Nat.zero_le _) hk⟩
theorem Above.setCell {B : Nat} {a w : World} (h : Above B a w) {p : Addr} (hp : p.block < B ∨ a.heap.size ≤ p.block) (u : Value) : Above B a (w.setCell p u) :=
  ⟨h.os, h.tape, h.output, by have := h.size; simpa [World.setCell] using this, fun k h1 h2 => (Below.heap_setCell _ _ _ _ (by omega)).trans (h.block k h1 h2)⟩
theorem Above.putObj {B : Nat} {a w : World} (h : Above B a w) {l : Nat} (hp : l < B ∨ a.heap.size ≤ l) (o : Obj) : Above B a (w.putObj l o) :=
  ⟨h.os, h.tape, h.output, by have := h.size; have := (grownBy_putObj' w l o).size; omega, fun k h1 h2 => (World.putObj_heap_other (by omega)).trans (h.block k h1 h2)⟩
theorem Below.putObj' {B : Nat} {a w : World} (h : Below B a w) {l : Nat} (hp : B ≤ l) (hl : l < w.heap.size) (o : Obj) : Below B a (w.putObj l o) :=
  h.grown (grownBy_putObj' w l o) (by omega) (fun k e => by cases e; exact hp)
theorem Above.keeps {B C : Nat} {w w' : World} (h : Above B w w') (hB : B ≤ C) : KeepsFrom C w w' :=
  ⟨h.size, fun k o h1 h2 _ => (h.block k (by omega) (Array.getElem?_eq_some_iff.1 h2).1).trans h2⟩

/-- a call inside the widest fence, by a plain contract; the same within a round -/
theorem at_wide {n m : Nat} {P : Program} {f : FuncId} {args : Array Value} {w : World} {R R' : Ending → World → Prop} (h : Calls P f args w R) (k : ∀ e w', R e w' → R' e w') :
    Fence.wide.fn f ∧ (Fence.wide.depth.isSome = true → 1 ≤ n) ∧ CallsIn Fence.wide m P f args w R' :=
  ⟨trivial, fun h => (by cases h), callsIn_wide.2 (h.mono k)⟩
theorem at_round {l n m : Nat} {P : Program} {f : FuncId} {args : Array Value} {w : World} {R R' : Ending → World → Prop} (h : Calls P f args w R) (k : ∀ e w', R e w' → R' e w') :
    (Fence.wide.inRound l).fn f ∧ ((Fence.wide.inRound l).depth.isSome = true → 1 ≤ n) ∧ CallsIn (Fence.wide.inRound l) m P f args w R' :=
  ⟨trivial, fun h => (by cases h), CallsIn.inRound l (callsIn_wide.2 (h.mono k))⟩

/-- a scope that no jump leaves, inside a fence -/
def noJump (Q : Exit → Act → World → Prop) : Exit → Act → World → Prop
  | .goto _, _, _ => False
  | .exit _, _, _ => False
  | e, a, w => Q e a w
theorem stepR_scope' {P : Program} {b : Frame} {a : Act} {k : List Item} {cs : List Frame} {w : World} {c : Code} : step P (lone (b.atR a (.code (.scope c) :: k)) cs w) = .next (lone (b.atR a (.code c :: .inScope c :: k)) cs w) :=
  step_lone_go (by simp [stepG, stepG.exec, Frame.atR])
theorem stepR_inScope' {P : Program} {b : Frame} {a : Act} {k : List Item} {cs : List Frame} {w : World} {c : Code} : step P (lone (b.atR a (.inScope c :: k)) cs w) = .next (lone (b.atR a k) cs w) :=
  step_lone_go (by simp [stepG, stepG.exec, Frame.atR])
theorem in_scope {F : Fence} {n : Nat} {P : Program} {c : Code} {Q : Exit → Act → World → Prop} {a : Act} {w : World} (h : c.wpIn F n P (noJump Q) a w) : (Code.scope c).wpIn F n P Q a w := by
  intro b k cs hro hb hr
  have h0 : (lone (b.atR a (.code (.scope c) :: k)) cs w).fenced P F := fenced_calm hb hr rfl
  obtain ⟨e, a₁, w₁, hq, harr⟩ := h b (.inScope c :: k) cs hro hb hr
  cases e with
  | normal => exact ⟨.normal, a₁, w₁, hq, .head h0 stepR_scope' (StepsIn.trans harr (.one (fenced_calm hb hr rfl) stepR_inScope'))⟩
  | exit id => exact hq.elim
  | goto l => exact hq.elim
  | ret => exact ⟨_, a₁, w₁, hq, .of_steps (.one h0 stepR_scope') harr⟩
  | panic ch => exact ⟨_, a₁, w₁, hq, .of_steps (.one h0 stepR_scope') harr⟩
  | outgrown => exact ⟨_, a₁, w₁, hq, .of_steps (.one h0 stepR_scope') harr⟩

/-- how the body of a round is left: off its end alone -/
def lkPost {σ : Type} (B : Nat) (I : σ → World → Prop) (s : σ) (W : World) : Exit → Act → World → Prop
  | .normal, _, W' => I s W' ∧ Above B W W'
  | _, _, _ => False

theorem room_none (k : Nat) : Fence.wide.room k := fun d h => by cases h
theorem round_any {m m' : Nat} {P : Program} {l : Nat} {f : FuncId} {tmps : Array Value} {assign body : Code} {w : World} {R : Ending → World → Prop} (h : RoundIn Fence.wide m P l f tmps assign body w R) : RoundIn Fence.wide m' P l f tmps assign body w R := ⟨h.1, fun c cs _ => h.2 c cs (room_none _)⟩
/-- the statement: I is what the loop's variables hold, in blocks that lay ahead of it -/
theorem range_lk {P : Program} {n : Nat} (m : Nat) {α σ : Type} {g : Operand} {ps : Array Tmp} {assign body : Code} {Q : Exit → Act → World → Prop} {a : Act} {w : World}
    {gf : Nat} {lb : Array Value} (hg : a.eval g = .func (.func gf) #[] lb) (eg : ∀ args w, (callFunc gf args).run P w = .ok (.enter gf args) w)
    {encs : α → Array Value} (hps : ∀ x, (encs x).size = ps.size) (step : σ → α → σ) (Ok : α → Prop)
    (I : σ → World → Prop) (hI : ∀ s A B, I s A → Below w.heap.size A B → I s B) (S : σ → Prop) (s0 : σ)
    (hcall : ∀ (l : Nat) (J : σ → World → Prop) (W : World), Below w.heap.size w W → W.heap.size = w.heap.size + 2 →
      (∀ s A B, J s A → Below (w.heap.size + 2) A B → J s B) → (∀ s A, J s A → I s A ∧ w.heap.size + 2 ≤ A.heap.size) →
      (∀ m s x W1, J s W1 → Ok x → YieldAt Fence.wide m P l (encs x) W1 fun e W' => e = .returned (.bool true) ∧ J (step s x) W' ∧ Above (w.heap.size + 2) W1 W') → J s0 W →
      CallsIn Fence.wide (n - 1) P gf (#[.func (.yield l) #[] #[]] ++ lb) W fun e W' => (∃ v, e = .returned v) ∧ ∃ s, S s ∧ J s W')
    (h0 : I s0 w) (Ax : Nat → α → Act → World → Prop) (hAx : ∀ B x a' A A', Ax B x a' A → Above B A A' → Ax B x a' A')
    (hassign : ∀ (l : Nat) (s : σ) (x : α) (W : World) (K : Act → World → Prop), I s W → Ok x → (∀ a' W', Below W.heap.size W W' → Ax W.heap.size x a' W' → K a' W') →
      assign.wpIn (Fence.wide.inRound l) m P (Exit.then K (fun _ _ _ => False)) { tmps := (ps.zip (encs x)).foldl (fun t (p, v) => t.setIfInBounds p v) a.tmps, defers := [] } W)
    (hbody : ∀ (l B : Nat) (s : σ) (x : α) (a' : Act) (W : World), w.heap.size ≤ l → l < B → B ≤ W.heap.size → (∃ r, W.heap[l]? = some (.loop r)) → I s W → Ok x → Ax B x a' W → body.wpIn (Fence.wide.inRound l) m P (lkPost w.heap.size I (step s x) W) a' W)
    (hdone : ∀ (D : Nat) (s : σ) (W : World), w.heap.size ≤ D → S s → I s W → W.heap[D]? = some (.deferred (some [])) → Q .normal { a with defers := { target := .collected D, args := #[] } :: a.defers } W) :
    (Code.rangeFunc g ps assign body).wpIn Fence.wide n P Q a w := by
  refine wpIn_rangeFunc fun fn hfn => ?_
  obtain ⟨rc, hrc⟩ : ∃ rc : LoopState → Loop, rc = fun st => { state := st, pending := none, fn, tmps := a.tmps, params := ps, assign, body, defers := w.heap.size } := ⟨_, rfl⟩
  obtain ⟨W1, hW1⟩ : ∃ W1, (w.alloc (.deferred (some []))).alloc (.loop (rc .ready)) = W1 := ⟨_, rfl⟩
  have hb1 : Below w.heap.size w W1 := by rw [← hW1]; exact ((Below.refl _ w).alloc (Nat.le_refl _) _).alloc (by simp) _
  have hsz : W1.heap.size = w.heap.size + 2 := by rw [← hW1]; simp
  have hL1 : W1.heap[w.heap.size + 1]? = some (.loop (rc .ready)) := by
    rw [← hW1]; have := World.alloc_heap_new (w.alloc (.deferred (some []))) (.loop (rc .ready)); rwa [World.size_alloc] at this
  have hD1 : W1.heap[w.heap.size]? = some (.deferred (some [])) := by
    rw [← hW1]; exact (Below.heap_alloc _ _ _ (by simp)).trans (World.alloc_heap_new w _)
  refine ⟨w.heap.size + 1, [{ target := .collected w.heap.size, args := #[] }], W1, { target := .fn (.func gf) lb, args := #[.func (.yield (w.heap.size + 1)) #[] #[]] }, W1, gf,
    #[.func (.yield (w.heap.size + 1)) #[] #[]] ++ lb, W1, ?_, ?_, fun _ _ => trivial, ?_, fun h => (by cases h), ?_⟩
  · rw [← hW1, hrc]; exact run_enterLoop_outer _ _ _ _ _
  · simp only [resolve, hg]; simp [go_sem]
  · simp [invoke, go_sem, eg]
  -- what the function is told: the variables, the record, the block for deferred calls
  refine (hcall (w.heap.size + 1) (fun s W => I s W ∧ W.heap[w.heap.size + 1]? = some (.loop (rc .ready)) ∧ W.heap[w.heap.size]? = some (.deferred (some []))) W1 hb1 hsz ?_ ?_ ?_ ⟨hI _ _ _ h0 hb1, hL1, hD1⟩).mono ?_
  · rintro s A B ⟨hi, hl, hd⟩ hb
    exact ⟨hI _ _ _ hi (hb.mono (by omega)), (hb.block _ (by omega)).trans hl, (hb.block _ (by omega)).trans hd⟩
  · rintro s A ⟨hi, hl, _⟩
    exact ⟨hi, (Array.getElem?_eq_some_iff.1 hl).1⟩
  · -- one round
    rintro m' s x W ⟨hi, hl, hd⟩ hok
    have hlt : w.heap.size + 1 < W.heap.size := (Array.getElem?_eq_some_iff.1 hl).1
    have hy := run_yield (P := P) (args := encs x) hl (by rw [hrc]; exact hps x)
    rw [hrc] at hy
    refine ⟨fn, _, assign, body, hy, round_any (roundIn_of_wpIn (n := m) hfn (hassign _ s x W _ hi hok ?_))⟩
    clear hy
    intro a' Wa hba hax
    have hla := (hba.block _ hlt).trans hl
    have hda := (hba.block _ (by omega)).trans hd
    have hlta : w.heap.size + 1 < Wa.heap.size := (Array.getElem?_eq_some_iff.1 hla).1
    refine ⟨_, run_beginRound hla (by rw [hrc]), ?_⟩
    obtain ⟨Wb, hWb⟩ : ∃ Wb, Wa.putObj (w.heap.size + 1) (.loop { rc .ready with state := .busy }) = Wb := ⟨_, rfl⟩
    have hbb : Below w.heap.size Wa Wb := by rw [← hWb]; exact Below.putObj' (Below.refl _ _) (by omega) hlta _
    have hab : Above (w.heap.size + 2) W Wb := by
      rw [← hWb]; exact ((Above.of_below hba).trans ((Above.refl _ Wa).putObj (.inl (by omega)) _))
    have hlb : Wb.heap[w.heap.size + 1]? = some (.loop { rc .ready with state := .busy }) := by rw [← hWb]; exact World.putObj_heap_same hlta
    have hdb : Wb.heap[w.heap.size]? = some (.deferred (some [])) := by rw [← hWb]; exact (World.putObj_heap_other (by omega)).trans hda
    rw [hWb]
    refine wpIn_mono (hbody _ W.heap.size s x a' Wb (by omega) hlt hab.size ⟨_, hlb⟩ (hI _ _ _ (hI _ _ _ hi (hba.mono (by omega))) hbb) hok (hAx _ _ _ _ _ hax (by rw [← hWb]; exact (Above.refl _ Wa).putObj (.inl hlt) _))) ?_
    rintro e a3 W3 hp
    cases e with
    | normal =>
      obtain ⟨hi3, ha3⟩ := hp
      have hl3 := (ha3.block _ (by omega) (Array.getElem?_eq_some_iff.1 hlb).1).trans hlb
      have hd3 := (ha3.block _ (Nat.le_refl _) (Array.getElem?_eq_some_iff.1 hdb).1).trans hdb
      have hlt3 := (Array.getElem?_eq_some_iff.1 hl3).1
      have hr := run_endRound (P := P) none hl3
      refine ⟨_, _, hr, rfl, ⟨hI _ _ _ hi3 (Below.putObj' (Below.refl _ _) (by omega) hlt3 _), ?_, (World.putObj_heap_other (by omega)).trans hd3⟩, ?_⟩
      · rw [World.putObj_heap_same hlt3, hrc]; rfl
      · exact (hab.trans (ha3.mono (by omega))).putObj (.inl (by omega)) _
    | ret => exact hp.elim
    | exit id => exact hp.elim
    | goto t => exact hp.elim
    | panic ch => exact hp.elim
    | outgrown => exact hp.elim
  · -- behind it
    rintro e W2 ⟨⟨v, rfl⟩, s, hS, hi, hl, hd⟩
    have hlt := (Array.getElem?_eq_some_iff.1 hl).1
    refine ⟨none, _, by have := run_endLoop (P := P) hl (by rw [hrc]; simp); rw [hrc] at this; exact this, ?_⟩
    exact hdone _ s _ (Nat.le_refl _) hS (hI _ _ _ hi (Below.putObj' (Below.refl _ _) (by omega) hlt _)) ((World.putObj_heap_other (by omega)).trans hd)
end Go.Proofs.YthhommjlomphdabDoor
/-
  Checks as a value: loaded, stored, put into a block of their own; inside a fence too.
-/
namespace Go.Proofs.YthhommjlomphdabDoor
open Go.RowKit Go.Deep Gf

/-- checks as a value -/
def ckA (C : Ck) : Array Value := ((List.range 130).map (ckV C)).toArray
theorem ckA_size (C : Ck) : (ckA C).size = 130 := by unfold ckA; rw [List.size_toArray, List.length_map, List.length_range]
theorem ckA_get (C : Ck) (i : Nat) (hi : i < 130) : (ckA C)[i]? = some (ckV C i) := by
  unfold ckA; rw [List.getElem?_toArray, List.getElem?_map, List.getElem?_range hi]; rfl
theorem Tryd.infoCk : (Tryd.prog.info? 68).map (fun i => i.size) = some 130 := by kernel_rfl
theorem ckA_info (C : Ck) : (Tryd.prog.info? 68).map (fun i => i.size) = some (ckA C).size := by rw [ckA_size]; exact Tryd.infoCk
theorem ckV_one (C : Ck) (i : Nat) : (ckV C i).oneCell' = true := by
  unfold ckV; split
  · rfl
  · split <;> rfl
theorem ckA_one (C : Ck) : (ckA C).all (fun v => v.oneCell') = true := by
  rw [Array.all_eq_true]
  intro i hi
  have := ckA_get C i (by rw [← ckA_size C]; exact hi)
  rw [Array.getElem?_eq_getElem hi] at this
  rw [Option.some.inj this]; exact ckV_one C i
theorem CkAt.heap {w : World} {b : Nat} {C : Ck} (h : CkAt w b C) : w.heap[b]? = some (.cells (ckA C) 68 (0, 0)) := by
  obtain ⟨c, hc, hs, hg⟩ := h
  have e : c = ckA C := by
    apply Array.ext
    · rw [hs, ckA_size]
    · intro i h1 h2
      have q1 := hg i (by omega)
      have q2 := ckA_get C i (by omega)
      rw [Array.getElem?_eq_getElem h1] at q1
      rw [Array.getElem?_eq_getElem h2] at q2
      rw [Option.some.inj q1, Option.some.inj q2]
  rw [← e]; exact hc
theorem CkAt.of_heap {w : World} {b : Nat} {C : Ck} (h : w.heap[b]? = some (.cells (ckA C) 68 (0, 0))) : CkAt w b C := ⟨_, h, ckA_size C, fun i hi => ckA_get C i hi⟩
theorem CkAt.new (w : World) (C : Ck) : CkAt (w.alloc (.cells (ckA C) 68)) w.heap.size C := CkAt.of_heap (World.alloc_heap_new w _)
theorem CkAt.lt {w : World} {b : Nat} {C : Ck} (h : CkAt w b C) : b < w.heap.size := (Array.getElem?_eq_some_iff.1 h.heap).1
theorem CkAt.keep {w w' : World} {b : Nat} {C : Ck} (h : CkAt w b C) (e : w'.heap[b]? = w.heap[b]?) : CkAt w' b C := CkAt.of_heap (e.trans h.heap)
theorem CkAt.setRow {w : World} {b : Nat} {C' : Ck} (C : Ck) (h : CkAt w b C') : CkAt (w.setRow b (ckA C)) b C := CkAt.of_heap (setRow_heap w b (ckA C') (ckA C) _ _ h.heap)
theorem grown_setRow (w : World) (b : Nat) (cs : Array Value) : w.grownBy (w.setRow b cs) (some b) :=
  ⟨rfl, rfl, rfl, by simp, fun k _ hne => by
    have : b ≠ k := fun e => hne (by rw [e])
    simp [World.setRow, Array.getElem?_modify, this]⟩
theorem ck_loadAt {w : World} {b : Nat} {C : Ck} (h : CkAt w b C) : (Instr.loadAt 68 (.pointer (some ⟨b, 0, none⟩))).run Tryd.prog w = .ok (.agg (ckA C)) w := by
  simp only [Instr.loadAt, Instr.sureAddr, Sem.run_bind, Sem.run_pure, Result.andThen_ok, run_loadVar_row w b 68 68 (ckA C) (0, 0) _ h.heap Tryd.underlying68 rfl (ckA_info C)]
theorem ck_storeAt {w : World} {b : Nat} {C' : Ck} (C : Ck) (h : CkAt w b C') : (Instr.storeAt 68 (.pointer (some ⟨b, 0, none⟩)) (.agg (ckA C))).run Tryd.prog w = .ok () (w.setRow b (ckA C)) := by
  simp only [Instr.storeAt, Instr.sureAddr, Sem.run_bind, Sem.run_pure, Result.andThen_ok, run_storeVar_row w b 68 68 (ckA C') (ckA C) h.heap (ckA_info C) (by rw [ckA_size, ckA_size]) (ckA_one C)]
theorem in_load {F : Fence} {n : Nat} {w : World} {ops : Array Oper} {rest : List Oper} {o : Oper} {a : Act} {Q : Exit → Act → World → Prop} (hg : o.guard = none) (x : Operand) (ho : o.op = .load 68 x) (b : Nat) (C : Ck)
    (hx : a.eval x = .pointer (some ⟨b, 0, none⟩)) (hC : CkAt w b C) (h : wpListIn F n Tryd.prog ops Q rest (a.put o.dst (.agg (ckA C))) w) : wpListIn F n Tryd.prog ops Q (o :: rest) a w := by
  refine wpListIn_plain hg fun K hK => ?_
  unfold Oper.wpIn
  refine ⟨by simp [Oper.about, ho], ?_⟩
  rw [Oper.semAt_plain F _ _ (by rw [ho]; intro c hc'; cases hc')]
  simp [execOp, ho, hx, ck_loadAt hC, Result.andThen]
  exact hK _ _ h
theorem in_store {F : Fence} {n : Nat} {w : World} {ops : Array Oper} {rest : List Oper} {o : Oper} {a : Act} {Q : Exit → Act → World → Prop} (hg : o.guard = none) (x y : Operand) (ho : o.op = .store 68 x y) (b : Nat) (C C' : Ck)
    (hx : a.eval x = .pointer (some ⟨b, 0, none⟩)) (hy : a.eval y = .agg (ckA C)) (hC : CkAt w b C') (h : wpListIn F n Tryd.prog ops Q rest (a.put o.dst undef) (w.setRow b (ckA C))) : wpListIn F n Tryd.prog ops Q (o :: rest) a w := by
  refine wpListIn_plain hg fun K hK => ?_
  unfold Oper.wpIn
  refine ⟨by simp [Oper.about, ho], ?_⟩
  rw [Oper.semAt_plain F _ _ (by rw [ho]; intro c hc'; cases hc')]
  simp [execOp, ho, hx, hy, ck_storeAt C hC, Result.andThen]
  exact hK _ _ h
/-- no checks at all -/
def ckZ : Ck := ⟨fun _ _ => 0, 0, 0⟩
theorem Tryd.zeroCk : (Tryd.prog.info? 68).map (fun i => (i.zero, i.size, i.bytes)) = some (some (.agg (ckA ckZ)), 130, 144) := by kernel_rfl
theorem zeroCk (w : World) : (zeroValue 68).run Tryd.prog w = .ok (.agg (ckA ckZ)) w := by
  obtain ⟨i0, hi0, hz0, _, _⟩ := info_parts Tryd.zeroCk
  simp [zeroValue, typeInfo, Sem.run_bind, hi0, hz0]
/-- what no checks take: the program's new blocks -/
theorem CkAt.mono {w w' : World} {b B : Nat} {C : Ck} (h : CkAt w b C) (hb : Below B w w') (hB : b < B) : CkAt w' b C := h.keep (hb.block b hB)
end Go.Proofs.YthhommjlomphdabDoor
