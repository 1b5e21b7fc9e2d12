import Derived.Test.YtpaemkanfnddoaaGreatDoorM17
import Derived.Deep.RegionHeld
set_option maxRecDepth 100000
set_option maxHeartbeats 8000000
namespace Go.Proofs.YtpaemkanfnddoaaGreatDoor
open Go.RowKit Go.Shelf
variable {a : Act} {A : Arr} {ops : Array Oper} {Q : Exit → Act → World → Prop} {F : Foot} {sh : List (Op × Option Nat × List Nat)} {n lo hi v S i p g x q7 r b N q l gone sp : Nat} {D Dn : Nat → Bool} {o : Oper} {P : Program} {Vi : Value → World → Prop} {w w' : World} {B : World → Prop}
def StepOkW (n : Nat) (P : Program) (Q : Exit → Act → World → Prop) (lo hi : Nat) (sh : List (Op × Option Nat × List Nat)) (a0 : Act) (V : Nat → Value → World → Prop) (B : (Nat → Bool) → World → Prop) (i : Nat) : Prop :=
 ∀ (o : Oper) (a : Act) (w : World) (D : Nat → Bool), o.guard = none → o.op = (shAt sh i).1 → o.dst = (shAt sh i).2.1 → Framed lo hi a0 a → D i = false → (∀ j, D j = true → j < sh.length ∧ ∀ k ∈ (shAt sh j).2.2, D k = true) →
  (∀ k ∈ (shAt sh i).2.2, D k = true) → B D w → (∀ j, D j = true → V j (slotD (shAt sh j).2.1 a) w) →
  o.wpIn Fence.wide n P a w (fun a' w' => ∃ v, a' = a.put o.dst v ∧ (o.dst = none → v = undef) ∧ B (upd D i) w' ∧ V i v w' ∧ ∀ j u, D j = true → V j u w → V j u w') Q
theorem any_factsW (h7 : RegShape ops lo hi sh) (a0 : Act) (hp : hi ≤ a0.tmps.size)
 (V : Nat → Value → World → Prop) (B : (Nat → Bool) → World → Prop) (ha : ∀ i, i < sh.length → StepOkW n P Q lo hi sh a0 V B i)
 (hg : ∀ (a : Act) (w : World), Framed lo hi a0 a → (∀ s, (∀ i, i < sh.length → (shAt sh i).2.1 ≠ some s) → a.eval (.tmp s) = a0.eval (.tmp s)) → (∃ D, (∀ i, i < sh.length → D i = true) ∧ B D w) → (∀ i, i < sh.length → V i (slotD (shAt sh i).2.1 a) w) → Q .normal a w) :
 ∀ (f : Nat) (listed : Array Bool) (a : Act) (w : World), listed.size = sh.length → toCome listed = f → Framed lo hi a0 a → (∀ s, (∀ i, i < sh.length → (shAt sh i).2.1 ≠ some s) → a.eval (.tmp s) = a0.eval (.tmp s)) → (∀ j, listed.getD j false = true → j < sh.length ∧ ∀ k ∈ (shAt sh j).2.2, listed.getD k false = true) → B (fun j => listed.getD j false) w →
  (∀ i, listed.getD i false = true → V i (slotD (shAt sh i).2.1 a) w) → wpAnyIn Fence.wide n P .any ops Q f listed a w := by
 have k6 := h7.size
 have h6 : ∀ listed : Array Bool, listed.size = sh.length → toCome listed ≠ 0 → Region.ready .any ops listed ≠ [] := by
  intro listed hl hc hr
  have hh : ∀ i, i < sh.length → listed.getD i false = true := by
   intro i
   induction i using Nat.strongRecOn with
   | ind i ih =>
    intro h0
    by_cases hd : listed.getD i false = true
    · exact hd
    · exfalso
      have hm : i ∈ Region.ready .any ops listed := ready_iff.2 ⟨by omega, by simpa [Array.getD_eq_getD_getElem?, show i < listed.size by omega] using hd, fun k hk => by
       obtain ⟨o, _, _, _, _, e⟩ := h7.get i h0
       rw [e] at hk
       have := h7.early i h0 k hk
       exact ih k this (by omega)⟩
      rw [hr] at hm
      cases hm
  apply hc
  unfold toCome
  rw [List.length_eq_zero_iff, List.filter_eq_nil_iff]
  intro b hb
  obtain ⟨i, h0, rfl⟩ := List.getElem_of_mem hb
  have hq : i < listed.size := by simpa using h0
  have := hh i (by omega)
  simp [Array.getD_eq_getD_getElem?, hq] at this
  simp [this]
 intro f
 induction f with
 | zero =>
  intro listed a w hl hc hk h4 hf hB hV
  refine ⟨?_, hg a w hk h4 ⟨_, fun i h0 => toCome_zero hc i (by omega), hB⟩ fun i h0 => hV i (toCome_zero hc i (by omega))⟩
  rw [List.eq_nil_iff_forall_not_mem]
  intro i hm
  obtain ⟨h1, h2, _⟩ := ready_iff.1 hm
  have := toCome_zero hc i (by omega)
  simp [Array.getD_eq_getD_getElem?, show i < listed.size by omega] at this h2
  rw [this] at h2
  cases h2
 | succ f ih =>
  intro listed a w hl hc hk h4 hf hB hV
  refine ⟨fun e => absurd e (h6 listed hl (by omega)), fun i hm => ?_⟩
  obtain ⟨h1, h2, h3⟩ := ready_iff.1 hm
  have h0 : i < sh.length := by omega
  have hn : i < listed.size := by omega
  obtain ⟨o, e1, e2, e3, e4, e5⟩ := h7.get i h0
  have hx : listed.getD i false = false := by simpa [Array.getD_eq_getD_getElem?, hn] using h2
  have h5 : ∀ j, (listed.setIfInBounds i true).getD j false = upd (fun j => listed.getD j false) i j := by
   intro j
   unfold upd
   by_cases ej : j = i
   · subst ej
     rw [if_pos rfl]
     simp [Array.getD_eq_getD_getElem?, hn]
   · rw [if_neg ej, Array.getD_eq_getD_getElem?, Array.getElem?_setIfInBounds, if_neg (fun q : i = j => ej q.symm), ← Array.getD_eq_getD_getElem?]
  unfold wpOpIn
  rw [e1]
  show if Region.wanted o (yielded ops a.tmps) = true then _ else _
  rw [if_pos (by simp [Region.wanted, e4])]
  refine (Oper.wpIn_mono (fun a' w' h => ?_) (ha i h0 o a w (fun j => listed.getD j false) e4 e2 e3 hk hx hf (fun k h8 => ?_) hB hV))
  · obtain ⟨v, rfl, hu, hy, hz, k0⟩ := h
    have he : ∀ d, o.dst = some d → lo ≤ d ∧ d < hi := fun d hd => by rw [e3] at hd; exact (h7.slots i i d h0 h0 hd).1
    refine ih _ _ _ (by simpa using hl) (by have := toCome_set h2; omega) (hk.put v he) (fun s hs => ?_) (fun j hj => ?_) ?_ fun j h9 => ?_
    · refine Eq.trans ?_ (h4 s hs)
      cases hd : o.dst with
      | none => rfl
      | some d => exact rf_other _ _ _ _ (fun e => hs i h0 (by rw [show (shAt sh i).2.1 = o.dst from e3.symm, hd, e]))
    · rw [h5] at hj
      unfold upd at hj
      by_cases ej : j = i
      · subst ej
        refine ⟨h0, fun k h8 => ?_⟩
        rw [h5]; unfold upd
        by_cases ek : k = j
        · rw [if_pos ek]
        · rw [if_neg ek]; rw [← e5] at h8; exact h3 k h8
      · rw [if_neg ej] at hj
        obtain ⟨q1, q2⟩ := hf j hj
        refine ⟨q1, fun k h8 => ?_⟩
        rw [h5]; unfold upd
        by_cases ek : k = i
        · rw [if_pos ek]
        · rw [if_neg ek]; exact q2 k h8
    · have e : (fun j => (listed.setIfInBounds i true).getD j false) = upd (fun j => listed.getD j false) i := funext h5
      rw [e]; exact hy
    · rw [h5] at h9
      unfold upd at h9
      by_cases ej : j = i
      · subst ej
        have : slotD (shAt sh j).2.1 (a.put o.dst v) = v := by
         show slotD (sh.getD j (.move (.const undef), none, [])).2.1 (a.put o.dst v) = v
         rw [← e3]
         cases hd : o.dst with
         | none => exact (hu hd).symm
         | some d => exact rf_same _ _ _ (Nat.lt_of_lt_of_le (he d hd).2 (by rw [hk.size]; exact hp))
        rw [this]; exact hz
      · rw [if_neg ej] at h9
        have : slotD (shAt sh j).2.1 (a.put o.dst v) = slotD (shAt sh j).2.1 a := by
         cases k5 : (shAt sh j).2.1 with
         | none => rfl
         | some d' =>
          cases hd : o.dst with
          | none => rfl
          | some d =>
           refine rf_other _ _ _ _ fun q => ej ?_
           subst q
           rw [e3] at hd
           exact (h7.slots j i d (hf j h9).1 h0 k5).2 hd
        rw [this]
        exact k0 j _ h9 (hV j h9)
  · exact h3 k (by rw [e5]; exact h8)
theorem region_factsW {m : Nat} (hm : P.follows .mixedOrders = true) (h3 : RegShape ops lo hi sh) (a0 : Act) (w0 : World) (h4 : hi ≤ a0.tmps.size)
 (V : Nat → Value → World → Prop) (B : (Nat → Bool) → World → Prop) (hB : B (fun _ => false) w0.drew) (h1 : ∀ i, i < sh.length → StepOkW n P Q lo hi sh a0 V B i)
 (h2 : ∀ (a : Act) (w : World), Framed lo hi a0 a → (∀ s, (∀ i, i < sh.length → (shAt sh i).2.1 ≠ some s) → a.eval (.tmp s) = a0.eval (.tmp s)) → (∃ D, (∀ i, i < sh.length → D i = true) ∧ B D w) → (∀ i, i < sh.length → V i (slotD (shAt sh i).2.1 a) w) → Q .normal a w) : (Code.region m ops true).wpIn Fence.wide n P Q a0 w0 := by
 refine wpIn_region_any hm ?_
 have h5 := h3.size
 have h0 : ∀ i, (Array.replicate ops.size false).getD i false = false := fun i => by
  simp only [Array.getD_eq_getD_getElem?, Array.getElem?_replicate]
  split <;> rfl
 refine any_factsW h3 a0 h4 V B h1 h2 _ _ a0 w0.drew (by simp [h5]) ?_ (Framed.refl _ _ _) (fun _ _ => rfl) (fun j hj => ?_) ?_ fun i h => ?_
 · unfold toCome
   simp
 · rw [h0] at hj; cases hj
 · have e : (fun j => (Array.replicate ops.size false).getD j false) = fun _ => false := funext h0
   rw [e]; exact hB
 · rw [h0] at h; cases h
theorem opW_val {v : Value} {S : World → Prop} (hr : (execOp a.eval o).run P w = .ok (.value v) w') (h0 : ∀ c, o.op ≠ .defer c) {d : Nat} (hd : o.dst = some d) (h : B w' ∧ Vi v w' ∧ S w') :
 o.wpIn Fence.wide n P a w (fun a' w' => ∃ v, a' = a.put o.dst v ∧ (o.dst = none → v = undef) ∧ B w' ∧ Vi v w' ∧ S w') Q := by
 refine ⟨fun _ _ => trivial, ?_⟩
 rw [Oper.semAt_plain _ _ _ h0, hr]
 exact ⟨v, rfl, fun e => (by rw [hd] at e; cases e), h.1, h.2.1, h.2.2⟩
theorem opW_call {w1 : World} {f : FuncId} {args : Array Value} {Rr : Ending → World → Prop} {S : World → Prop} (hr : (execOp a.eval o).run P w = .ok (.enter f args) w1) (h0 : ∀ c, o.op ≠ .defer c) {d : Nat} (hd : o.dst = some d) (hc : Calls P f args w1 Rr)
 (h : ∀ e w', Rr e w' → ∃ v, e = .returned v ∧ B w' ∧ Vi v w' ∧ S w') : o.wpIn Fence.wide n P a w (fun a' w' => ∃ v, a' = a.put o.dst v ∧ (o.dst = none → v = undef) ∧ B w' ∧ Vi v w' ∧ S w') Q := by
 refine ⟨fun _ _ => trivial, ?_⟩
 rw [Oper.semAt_plain _ _ _ h0, hr]
 refine ⟨fun h => (by cases h), (callsIn_wide.2 (hc.mono fun e w' hR => ?_))⟩
 obtain ⟨v, rfl, q1, q2, q3⟩ := h e w' hR
 exact ⟨v, rfl, fun e => (by rw [hd] at e; cases e), q1, q2, q3⟩
section
open Go.Deep Gf
theorem upd_ne {j : Nat} (h : j ≠ i) : upd D i j = D j := if_neg h
theorem upd_eq : upd D i i = true := if_pos rfl
theorem andNot_zero (S : Nat) (hS : S < 65536) : bits .andNot .u64 (S : Int) 0 = (S : Int) := by
 have := behind_key S 0 hS (by omega)
 simpa using this
def BF1 (w : World) (S : Nat) (Dn : Nat → Bool) (w' : World) : Prop := w' = if Dn 11 = true then w.drew.alloc (.cells #[.int .u64 S] 115) else w.drew
theorem BF1_upd (h : BF1 w S Dn w') (i : Nat) (hi : 11 ≠ i) : BF1 w S (upd Dn i) w' := by unfold BF1; rw [upd_ne hi]; exact h
theorem BF1_cell (h : BF1 w S Dn w') {a : Addr} {v : Value} (hc : w.cell? a = some v) : w'.cell? a = some v := by
 unfold BF1 at h
 subst h
 split
 · exact (World.cell?_alloc_some w.drew a _ (by rw [show w.drew.cell? a = w.cell? a from rfl, hc]; rfl)).trans hc
 · exact hc
def arFr (A : Arr) (d : Nat) (D : Nat → Bool) : Arr := if D 9 = true then A.setReads d (wrap64 (A.reads d + 1)) else A
def BFr (w0 : World) (p : Nat) (A : Arr) (F : Foot) (d : Nat) (Dn : Nat → Bool) (w : World) : Prop := ArrAt w p (arFr A d Dn) F ∧ Outside (F.has p A.n) w0 w
theorem BFr_upd {w0 : World} {d : Nat} (h : BFr w0 p A F d Dn w) (i : Nat) (hi : 9 ≠ i) : BFr w0 p A F d (upd Dn i) w := by
 refine ⟨?_, h.2⟩
 have e : arFr A d (upd Dn i) = arFr A d Dn := by unfold arFr; rw [upd_ne hi]
 rw [e]; exact h.1
def BF8 (w : World) (g x q7 : Nat) (Dn : Nat → Bool) (w' : World) : Prop := w' = if Dn 8 = true then w.drew.setCell ⟨g, x, none⟩ (.slice (some ⟨q7, 0, none⟩) 44 44) else w.drew
theorem BF8_upd (h : BF8 w g x q7 Dn w') (i : Nat) (hi : 8 ≠ i) : BF8 w g x q7 (upd Dn i) w' := by unfold BF8; rw [upd_ne hi]; exact h
theorem BF8_cell (h : BF8 w g x q7 Dn w') {a : Addr} (hg : a.block ≠ g) {v : Value} (hc : w.cell? a = some v) : w'.cell? a = some v := by
 unfold BF8 at h
 subst h
 split
 · exact (World.cell?_of_block (blk_setCell_other _ _ _ _ hg)).trans hc
 · exact hc
noncomputable def RF1 : Array Oper := ((Tryz.f110.body.bind (rgf · 1))).getD #[]
def shF1 : List (Op × Option Nat × List Nat) := [(Op.move (.tmp 1), some 9, []),
 (Op.load 128 (.tmp 2), some 10, []),
 (Op.nilCheck (.tmp 10), some 11, [1]),
 (Op.fieldAddr 178 (.tmp 11) 3, some 12, [2]),
 (Op.load 115 (.tmp 12), some 13, [3]),
 (Op.binOp BinOp.andNot 115 (.tmp 9) (.tmp 13) 115, some 14, [0, 4]),
 (Op.load 128 (.tmp 2), some 15, []),
 (Op.nilCheck (.tmp 15), some 16, [6]),
 (Op.fieldAddr 178 (.tmp 16) 4, some 17, [7]),
 (Op.load 115 (.tmp 17), some 18, [8]),
 (Op.binOp BinOp.andNot 115 (.tmp 14) (.tmp 18) 115, some 19, [5, 9]),
 (Op.call { callee := Callee.value (Operand.func 113), args := #[.tmp 19], argTypes := #[115] }, some 20, [10])]
theorem RF1_shape : RegShape RF1 9 21 shF1 := regShape (by kernel_rfl) (by kernel_rfl)
def vsF1 (w : World) (r S : Nat) : List Value := [.int .u64 S, .pointer (some ⟨r, 0, none⟩), .pointer (some ⟨r, 0, none⟩), .pointer (some ⟨r, 3, none⟩), .int .u64 0, .int .u64 S, .pointer (some ⟨r, 0, none⟩), .pointer (some ⟨r, 0, none⟩), .pointer (some ⟨r, 4, none⟩), .int .u64 0, .int .u64 S, .func (.func 137) #[] #[.pointer (some ⟨w.heap.size, 0, none⟩)]]
theorem fetch_region1 (h2 : Boxed w q 128 (.pointer (some ⟨r, 0, none⟩))) (hr : RdAt w r v b g N 0 0) (hS : S < 65536) (h6 : RF1 = ops) (ha : a.tmps.size = 100)
 (e1 : a.eval (.tmp 1) = .int .u64 S) (e2 : a.eval (.tmp 2) = .pointer (some ⟨q, 0, none⟩))
 (hQ : ∀ (w' : World), w' = w.drew.alloc (.cells #[.int .u64 S] 115) → Q .normal (Act.putFrom a 9 [.int .u64 S, .pointer (some ⟨r, 0, none⟩), .pointer (some ⟨r, 0, none⟩), .pointer (some ⟨r, 3, none⟩), .int .u64 0, .int .u64 S, .pointer (some ⟨r, 0, none⟩), .pointer (some ⟨r, 0, none⟩), .pointer (some ⟨r, 4, none⟩), .int .u64 0, .int .u64 S, .func (.func 137) #[] #[.pointer (some ⟨w.heap.size, 0, none⟩)]]) w') : (Code.region 1 ops true).wpIn Fence.wide n Tryz.prog Q a w := by
 subst h6
 obtain ⟨_, _, _, c3, c4⟩ := hr.cells
 have cq := h2.cell
 have hc := andNot_zero S hS
 refine region_factsW (by kernel_rfl) RF1_shape a w (by omega) (fun i u _ => u = (vsF1 w r S).getD i undef) (BF1 w S) rfl ?_ ?_
 · intro i hi
   match i, hi with
   | 0, _ =>
    intro o a' w' Dn hg ho h0 hk h4 h5 h1 hB h3
    have u0 : a'.eval (.tmp 1) = .int .u64 S := (hk.slot 1 (by omega)).trans e1
    exact opW_val (run_op_move ho u0 w') (by rw [ho]; intro c h; cases h) h0 ⟨BF1_upd hB 0 (by decide), rfl, kq⟩
   | 1, _ =>
    intro o a' w' Dn hg ho h0 hk h4 h5 h1 hB h3
    have u0 : a'.eval (.tmp 2) = .pointer (some ⟨q, 0, none⟩) := (hk.slot 2 (by omega)).trans e2
    have cc : w'.cell? ⟨q, 0, none⟩ = some (.pointer (some ⟨r, 0, none⟩)) := BF1_cell hB cq
    exact opW_val (v := .pointer (some ⟨r, 0, none⟩)) (by simp only [execOp, show o.op = Op.load 128 (.tmp 2) from ho, u0]; go_simp) (by rw [ho]; intro c h; cases h) h0 ⟨BF1_upd hB 1 (by decide), rfl, kq⟩
   | 2, _ =>
    intro o a' w' Dn hg ho h0 hk h4 h5 h1 hB h3
    have u0 : a'.eval (.tmp 10) = .pointer (some ⟨r, 0, none⟩) := h3 1 (h1 1 (by decide))
    exact opW_val (run_op_nil ho u0 w') (by rw [ho]; intro c h; cases h) h0 ⟨BF1_upd hB 2 (by decide), rfl, kq⟩
   | 3, _ =>
    intro o a' w' Dn hg ho h0 hk h4 h5 h1 hB h3
    have u0 : a'.eval (.tmp 11) = .pointer (some ⟨r, 0, none⟩) := h3 2 (h1 2 (by decide))
    exact opW_val (v := .pointer (some ⟨r, 3, none⟩)) (by simp only [execOp, show o.op = Op.fieldAddr 178 (.tmp 11) 3 from ho, u0]; go_simp) (by rw [ho]; intro c h; cases h) h0 ⟨BF1_upd hB 3 (by decide), rfl, kq⟩
   | 4, _ =>
    intro o a' w' Dn hg ho h0 hk h4 h5 h1 hB h3
    have u0 : a'.eval (.tmp 12) = .pointer (some ⟨r, 3, none⟩) := h3 3 (h1 3 (by decide))
    have cc : w'.cell? ⟨r, 3, none⟩ = some (.int .u64 0) := BF1_cell hB c3
    exact opW_val (v := .int .u64 0) (by simp only [execOp, show o.op = Op.load 115 (.tmp 12) from ho, u0]; go_simp) (by rw [ho]; intro c h; cases h) h0 ⟨BF1_upd hB 4 (by decide), rfl, kq⟩
   | 5, _ =>
    intro o a' w' Dn hg ho h0 hk h4 h5 h1 hB h3
    have u0 : a'.eval (.tmp 9) = .int .u64 S := h3 0 (h1 0 (by decide))
    have u1 : a'.eval (.tmp 13) = .int .u64 0 := h3 4 (h1 4 (by decide))
    exact opW_val (v := .int .u64 S) (by simp only [execOp, show o.op = Op.binOp BinOp.andNot 115 (.tmp 9) (.tmp 13) 115 from ho, u0, u1]; go_simp) (by rw [ho]; intro c h; cases h) h0 ⟨BF1_upd hB 5 (by decide), rfl, kq⟩
   | 6, _ =>
    intro o a' w' Dn hg ho h0 hk h4 h5 h1 hB h3
    have u0 : a'.eval (.tmp 2) = .pointer (some ⟨q, 0, none⟩) := (hk.slot 2 (by omega)).trans e2
    have cc : w'.cell? ⟨q, 0, none⟩ = some (.pointer (some ⟨r, 0, none⟩)) := BF1_cell hB cq
    exact opW_val (v := .pointer (some ⟨r, 0, none⟩)) (by simp only [execOp, show o.op = Op.load 128 (.tmp 2) from ho, u0]; go_simp) (by rw [ho]; intro c h; cases h) h0 ⟨BF1_upd hB 6 (by decide), rfl, kq⟩
   | 7, _ =>
    intro o a' w' Dn hg ho h0 hk h4 h5 h1 hB h3
    have u0 : a'.eval (.tmp 15) = .pointer (some ⟨r, 0, none⟩) := h3 6 (h1 6 (by decide))
    exact opW_val (run_op_nil ho u0 w') (by rw [ho]; intro c h; cases h) h0 ⟨BF1_upd hB 7 (by decide), rfl, kq⟩
   | 8, _ =>
    intro o a' w' Dn hg ho h0 hk h4 h5 h1 hB h3
    have u0 : a'.eval (.tmp 16) = .pointer (some ⟨r, 0, none⟩) := h3 7 (h1 7 (by decide))
    exact opW_val (v := .pointer (some ⟨r, 4, none⟩)) (by simp only [execOp, show o.op = Op.fieldAddr 178 (.tmp 16) 4 from ho, u0]; go_simp) (by rw [ho]; intro c h; cases h) h0 ⟨BF1_upd hB 8 (by decide), rfl, kq⟩
   | 9, _ =>
    intro o a' w' Dn hg ho h0 hk h4 h5 h1 hB h3
    have u0 : a'.eval (.tmp 17) = .pointer (some ⟨r, 4, none⟩) := h3 8 (h1 8 (by decide))
    have cc : w'.cell? ⟨r, 4, none⟩ = some (.int .u64 0) := BF1_cell hB c4
    exact opW_val (v := .int .u64 0) (by simp only [execOp, show o.op = Op.load 115 (.tmp 17) from ho, u0]; go_simp) (by rw [ho]; intro c h; cases h) h0 ⟨BF1_upd hB 9 (by decide), rfl, kq⟩
   | 10, _ =>
    intro o a' w' Dn hg ho h0 hk h4 h5 h1 hB h3
    have u0 : a'.eval (.tmp 14) = .int .u64 S := h3 5 (h1 5 (by decide))
    have u1 : a'.eval (.tmp 18) = .int .u64 0 := h3 9 (h1 9 (by decide))
    exact opW_val (v := .int .u64 S) (by simp only [execOp, show o.op = Op.binOp BinOp.andNot 115 (.tmp 14) (.tmp 18) 115 from ho, u0, u1]; go_simp) (by rw [ho]; intro c h; cases h) h0 ⟨BF1_upd hB 10 (by decide), rfl, kq⟩
   | 11, _ =>
    intro o a' w' Dn hg ho h0 hk h4 h5 h1 hB h3
    have u0 : a'.eval (.tmp 19) = .int .u64 S := h3 10 (h1 10 (by decide))
    refine opW_call (f := 113) (args := #[.int .u64 S]) (w1 := w') (by simp only [execOp, show o.op = Op.call { callee := Callee.value (Operand.func 113), args := #[.tmp 19], argTypes := #[115] } from ho]; go_simp; simpa [Act.eval] using u0) (by rw [ho]; intro c h; cases h) h0 (members_any S w') ?_
    rintro e w'' ⟨rfl, rfl⟩
    have hw : w' = w.drew := by have := hB; unfold BF1 at this; rw [if_neg (by rw [h4]; decide)] at this; exact this
    subst hw
    exact ⟨_, rfl, by unfold BF1; rw [if_pos upd_eq], rfl, kq⟩
   | n + 12, hn => exact absurd hn (by show ¬ n + 12 < 12; omega)
 · rintro a' w' h8 h7 ⟨Dn, h9, hB⟩ h3
   have e : a' = Act.putFrom a 9 [.int .u64 S, .pointer (some ⟨r, 0, none⟩), .pointer (some ⟨r, 0, none⟩), .pointer (some ⟨r, 3, none⟩), .int .u64 0, .int .u64 S, .pointer (some ⟨r, 0, none⟩), .pointer (some ⟨r, 0, none⟩), .pointer (some ⟨r, 4, none⟩), .int .u64 0, .int .u64 S, .func (.func 137) #[] #[.pointer (some ⟨w.heap.size, 0, none⟩)]] := h8.out _ rfl (by omega) (fun i hi => ?_)
   · rw [e]; exact hQ w' (by unfold BF1 at hB; rw [if_pos (h9 11 (by decide))] at hB; exact hB)
   · match i, hi with
     | 0, _ => exact h3 0 (by decide)
     | 1, _ => exact h3 1 (by decide)
     | 2, _ => exact h3 2 (by decide)
     | 3, _ => exact h3 3 (by decide)
     | 4, _ => exact h3 4 (by decide)
     | 5, _ => exact h3 5 (by decide)
     | 6, _ => exact h3 6 (by decide)
     | 7, _ => exact h3 7 (by decide)
     | 8, _ => exact h3 8 (by decide)
     | 9, _ => exact h3 9 (by decide)
     | 10, _ => exact h3 10 (by decide)
     | 11, _ => exact h3 11 (by decide)
     | n + 12, hn => exact absurd hn (by simp)
noncomputable def RF4 : Array Oper := ((Tryz.f110.body.bind (rgf · 4))).getD #[]
def shF4 : List (Op × Option Nat × List Nat) := [(Op.load 128 (.tmp 2), some 31, []),
 (Op.nilCheck (.tmp 31), some 32, [0]),
 (Op.fieldAddr 178 (.tmp 32) 0, some 33, [1]),
 (Op.load 104 (.tmp 33), some 34, [2]),
 (Op.move (.tmp 4), some 35, []),
 (Op.load 128 (.tmp 2), some 36, []),
 (Op.nilCheck (.tmp 36), some 37, [5]),
 (Op.fieldAddr 178 (.tmp 37) 1, some 38, [6]),
 (Op.load 3 (.tmp 38), some 39, [7]),
 (Op.call { callee := Callee.value (Operand.func 118), args := #[.tmp 34, .tmp 35, .tmp 39], argTypes := #[104, 3, 3] }, some 40, [3, 4, 8]),
 (Op.move (.tmp 40), some 30, [9]),
 (Op.extract (.tmp 30) 0, some 41, [10]),
 (Op.extract (.tmp 30) 1, some 42, [10]),
 (Op.assign (.tmp 41), some 5, [11, 9, 0, 1, 2, 3, 4, 5, 6, 7, 8, 9, 10, 11]),
 (Op.assign (.tmp 42), some 6, [12, 13, 0, 1, 2, 3, 4, 5, 6, 7, 8, 9, 10, 11, 12, 13])]
theorem RF4_shape : RegShape RF4 5 43 shF4 := regShape (by kernel_rfl) (by kernel_rfl)
def vsF4 (r v x b : Nat) (s : List Nat) : List Value := [.pointer (some ⟨r, 0, none⟩), .pointer (some ⟨r, 0, none⟩), .pointer (some ⟨r, 0, none⟩), .pointer (some ⟨v, 0, none⟩), .int .i64 x, .pointer (some ⟨r, 0, none⟩), .pointer (some ⟨r, 0, none⟩), .pointer (some ⟨r, 1, none⟩), .int .i64 b, .tuple #[recV (.shard s), .nilIface], .tuple #[recV (.shard s), .nilIface], recV (.shard s), .nilIface, recV (.shard s), .nilIface]
theorem fetch_region4 {D L G ps ho : Nat} (hV : Vol w v p D L G ps ho A F) (hF : Free F p A.n v) (hf : A.fit) (x : Nat) (hx : x < A.n) (hb : b < A.nb) (hw : A.wait ≠ 0) (hl : A.lost x = false) (h7 : A.bad x b = false) (h2 : Boxed w q 128 (.pointer (some ⟨r, 0, none⟩))) (hr : RdAt w r v b g N gone sp) (hm : ¬ F.has p A.n q) (ha : ¬ F.has p A.n r) (s : List Nat) (hs : (Rec.shard s).ok) (he : A.blk x b = (Rec.shard s).blk) (h8 : RF4 = ops) (k0 : a.tmps.size = 100)
 (e2 : a.eval (.tmp 2) = .pointer (some ⟨q, 0, none⟩)) (e4 : a.eval (.tmp 4) = .int .i64 x)
 (hQ : ∀ (w' : World), ArrAt w' p (A.setReads x (wrap64 (A.reads x + 1))) F → Outside (F.has p A.n) w w' → Q .normal (Act.putFrom a 5 [recV (.shard s), .nilIface, a.eval (.tmp 7), a.eval (.tmp 8), a.eval (.tmp 9), a.eval (.tmp 10), a.eval (.tmp 11), a.eval (.tmp 12), a.eval (.tmp 13), a.eval (.tmp 14), a.eval (.tmp 15), a.eval (.tmp 16), a.eval (.tmp 17), a.eval (.tmp 18), a.eval (.tmp 19), a.eval (.tmp 20), a.eval (.tmp 21), a.eval (.tmp 22), a.eval (.tmp 23), a.eval (.tmp 24), a.eval (.tmp 25), a.eval (.tmp 26), a.eval (.tmp 27), a.eval (.tmp 28), a.eval (.tmp 29), .tuple #[recV (.shard s), .nilIface], .pointer (some ⟨r, 0, none⟩), .pointer (some ⟨r, 0, none⟩), .pointer (some ⟨r, 0, none⟩), .pointer (some ⟨v, 0, none⟩), .int .i64 x, .pointer (some ⟨r, 0, none⟩), .pointer (some ⟨r, 0, none⟩), .pointer (some ⟨r, 1, none⟩), .int .i64 b, .tuple #[recV (.shard s), .nilIface], recV (.shard s), .nilIface]) w') : (Code.region 4 ops true).wpIn (Fence.wide.inRound l) n Tryz.prog Q a w := by
 subst h8
 have hc : ∀ w', Outside (F.has p A.n) w w' → w'.cell? ⟨q, 0, none⟩ = some (.pointer (some ⟨r, 0, none⟩)) := fun w' hO => (show Boxed w' q 128 (.pointer (some ⟨r, 0, none⟩)) from (hO.block _ h2.lt hm).trans h2).cell
 have hh : ∀ w', Outside (F.has p A.n) w w' → w'.cell? ⟨r, 0, none⟩ = some (.pointer (some ⟨v, 0, none⟩)) ∧ w'.cell? ⟨r, 1, none⟩ = some (.int .i64 b) := fun w' hO => ⟨(hr.keep (hO.block _ hr.lt ha)).cells.1, (hr.keep (hO.block _ hr.lt ha)).cells.2.1⟩
 refine region_factsI (by kernel_rfl) RF4_shape a w (by omega) (fun i u _ => u = (vsF4 r v x b s).getD i undef) (BFr w p A F x) ⟨hV.arr.keep fun _ _ => rfl, Outside.drew w⟩ ?_ ?_
 · intro i hi
   match i, hi with
   | 0, _ =>
    intro o a' w' Dn hg ho h1 hk h5 h6 h3 hB h4
    have u0 : a'.eval (.tmp 2) = .pointer (some ⟨q, 0, none⟩) := (hk.slot 2 (by omega)).trans e2
    have cc := hc w' hB.2
    exact opI_val (v := .pointer (some ⟨r, 0, none⟩)) (by simp only [execOp, show o.op = Op.load 128 (.tmp 2) from ho, u0]; go_simp) (by rw [ho]; intro c h; cases h) h1 ⟨BFr_upd hB 0 (by decide), rfl, kq⟩
   | 1, _ =>
    intro o a' w' Dn hg ho h1 hk h5 h6 h3 hB h4
    have u0 : a'.eval (.tmp 31) = .pointer (some ⟨r, 0, none⟩) := h4 0 (h3 0 (by decide))
    exact opI_val (run_op_nil ho u0 w') (by rw [ho]; intro c h; cases h) h1 ⟨BFr_upd hB 1 (by decide), rfl, kq⟩
   | 2, _ =>
    intro o a' w' Dn hg ho h1 hk h5 h6 h3 hB h4
    have u0 : a'.eval (.tmp 32) = .pointer (some ⟨r, 0, none⟩) := h4 1 (h3 1 (by decide))
    exact opI_val (v := .pointer (some ⟨r, 0, none⟩)) (by simp only [execOp, show o.op = Op.fieldAddr 178 (.tmp 32) 0 from ho, u0]; go_simp) (by rw [ho]; intro c h; cases h) h1 ⟨BFr_upd hB 2 (by decide), rfl, kq⟩
   | 3, _ =>
    intro o a' w' Dn hg ho h1 hk h5 h6 h3 hB h4
    have u0 : a'.eval (.tmp 33) = .pointer (some ⟨r, 0, none⟩) := h4 2 (h3 2 (by decide))
    obtain ⟨cc, _⟩ := hh w' hB.2
    exact opI_val (v := .pointer (some ⟨v, 0, none⟩)) (by simp only [execOp, show o.op = Op.load 104 (.tmp 33) from ho, u0]; go_simp) (by rw [ho]; intro c h; cases h) h1 ⟨BFr_upd hB 3 (by decide), rfl, kq⟩
   | 4, _ =>
    intro o a' w' Dn hg ho h1 hk h5 h6 h3 hB h4
    have u0 : a'.eval (.tmp 4) = .int .i64 x := (hk.slot 4 (by omega)).trans e4
    exact opI_val (run_op_move ho u0 w') (by rw [ho]; intro c h; cases h) h1 ⟨BFr_upd hB 4 (by decide), rfl, kq⟩
   | 5, _ =>
    intro o a' w' Dn hg ho h1 hk h5 h6 h3 hB h4
    have u0 : a'.eval (.tmp 2) = .pointer (some ⟨q, 0, none⟩) := (hk.slot 2 (by omega)).trans e2
    have cc := hc w' hB.2
    exact opI_val (v := .pointer (some ⟨r, 0, none⟩)) (by simp only [execOp, show o.op = Op.load 128 (.tmp 2) from ho, u0]; go_simp) (by rw [ho]; intro c h; cases h) h1 ⟨BFr_upd hB 5 (by decide), rfl, kq⟩
   | 6, _ =>
    intro o a' w' Dn hg ho h1 hk h5 h6 h3 hB h4
    have u0 : a'.eval (.tmp 36) = .pointer (some ⟨r, 0, none⟩) := h4 5 (h3 5 (by decide))
    exact opI_val (run_op_nil ho u0 w') (by rw [ho]; intro c h; cases h) h1 ⟨BFr_upd hB 6 (by decide), rfl, kq⟩
   | 7, _ =>
    intro o a' w' Dn hg ho h1 hk h5 h6 h3 hB h4
    have u0 : a'.eval (.tmp 37) = .pointer (some ⟨r, 0, none⟩) := h4 6 (h3 6 (by decide))
    exact opI_val (v := .pointer (some ⟨r, 1, none⟩)) (by simp only [execOp, show o.op = Op.fieldAddr 178 (.tmp 37) 1 from ho, u0]; go_simp) (by rw [ho]; intro c h; cases h) h1 ⟨BFr_upd hB 7 (by decide), rfl, kq⟩
   | 8, _ =>
    intro o a' w' Dn hg ho h1 hk h5 h6 h3 hB h4
    have u0 : a'.eval (.tmp 38) = .pointer (some ⟨r, 1, none⟩) := h4 7 (h3 7 (by decide))
    obtain ⟨_, cc⟩ := hh w' hB.2
    exact opI_val (v := .int .i64 b) (by simp only [execOp, show o.op = Op.load 3 (.tmp 38) from ho, u0]; go_simp) (by rw [ho]; intro c h; cases h) h1 ⟨BFr_upd hB 8 (by decide), rfl, kq⟩
   | 9, _ =>
    intro o a' w' Dn hg ho h1 hk h5 h6 h3 hB h4
    have u0 : a'.eval (.tmp 34) = .pointer (some ⟨v, 0, none⟩) := h4 3 (h3 3 (by decide))
    have u1 : a'.eval (.tmp 35) = .int .i64 x := h4 4 (h3 4 (by decide))
    have u2 : a'.eval (.tmp 39) = .int .i64 b := h4 8 (h3 8 (by decide))
    have hA : ArrAt w' p A F := by have := hB.1; unfold arFr at this; rw [if_neg (by rw [h5]; decide)] at this; exact this
    have hj := hV.turn hF hB.2 hA
    refine opI_call (f := 118) (args := #[.pointer (some ⟨v, 0, none⟩), .int .i64 x, .int .i64 b]) (w1 := w') (by simp only [execOp, show o.op = Op.call { callee := Callee.value (Operand.func 118), args := #[.tmp 34, .tmp 35, .tmp 39], argTypes := #[104, 3, 3] } from ho]; go_simp; exact ⟨by simpa [Act.eval] using u0, by simpa [Act.eval] using u1, by simpa [Act.eval] using u2⟩) (by rw [ho]; intro c h; cases h) h1 (volRead_ok hj.vol hA hf x b hx hb hw hl h7 (.shard s) hs (makes_shard hs) he hj.laid hF.g) ?_
    rintro e w'' ⟨rfl, hp, hq⟩
    refine ⟨_, rfl, ⟨?_, hB.2.trans hq⟩, rfl, kq⟩
    have e : arFr A x (upd Dn 9) = A.setReads x (wrap64 (A.reads x + 1)) := by unfold arFr; rw [if_pos upd_eq]
    rw [e]; exact hp
   | 10, _ =>
    intro o a' w' Dn hg ho h1 hk h5 h6 h3 hB h4
    have u0 : a'.eval (.tmp 40) = .tuple #[recV (.shard s), .nilIface] := h4 9 (h3 9 (by decide))
    exact opI_val (run_op_move ho u0 w') (by rw [ho]; intro c h; cases h) h1 ⟨BFr_upd hB 10 (by decide), rfl, kq⟩
   | 11, _ =>
    intro o a' w' Dn hg ho h1 hk h5 h6 h3 hB h4
    have u0 : a'.eval (.tmp 30) = .tuple #[recV (.shard s), .nilIface] := h4 10 (h3 10 (by decide))
    obtain ⟨ty, rx, h9⟩ := recV_iface (.shard s)
    rw [h9] at u0
    exact opI_val (v := recV (.shard s)) (by simp only [execOp, show o.op = Op.extract (.tmp 30) 0 from ho, u0]; go_simp) (by rw [ho]; intro c h; cases h) h1 ⟨BFr_upd hB 11 (by decide), rfl, kq⟩
   | 12, _ =>
    intro o a' w' Dn hg ho h1 hk h5 h6 h3 hB h4
    have u0 : a'.eval (.tmp 30) = .tuple #[recV (.shard s), .nilIface] := h4 10 (h3 10 (by decide))
    exact opI_val (v := .nilIface) (by simp only [execOp, show o.op = Op.extract (.tmp 30) 1 from ho, u0]; go_simp) (by rw [ho]; intro c h; cases h) h1 ⟨BFr_upd hB 12 (by decide), rfl, kq⟩
   | 13, _ =>
    intro o a' w' Dn hg ho h1 hk h5 h6 h3 hB h4
    have u0 : a'.eval (.tmp 41) = recV (.shard s) := h4 11 (h3 11 (by decide))
    obtain ⟨ty, rx, h9⟩ := recV_iface (.shard s)
    rw [h9] at u0
    exact opI_val (v := recV (.shard s)) (by simp only [execOp, show o.op = Op.assign (.tmp 41) from ho, u0]; go_simp) (by rw [ho]; intro c h; cases h) h1 ⟨BFr_upd hB 13 (by decide), rfl, kq⟩
   | 14, _ =>
    intro o a' w' Dn hg ho h1 hk h5 h6 h3 hB h4
    have u0 : a'.eval (.tmp 42) = .nilIface := h4 12 (h3 12 (by decide))
    exact opI_val (v := .nilIface) (by simp only [execOp, show o.op = Op.assign (.tmp 42) from ho, u0]; go_simp) (by rw [ho]; intro c h; cases h) h1 ⟨BFr_upd hB 14 (by decide), rfl, kq⟩
   | n + 15, hn => exact absurd hn (by show ¬ n + 15 < 15; omega)
 · rintro a' w' hy h0 ⟨Dn, hz, hB⟩ h4
   have e : a' = Act.putFrom a 5 [recV (.shard s), .nilIface, a.eval (.tmp 7), a.eval (.tmp 8), a.eval (.tmp 9), a.eval (.tmp 10), a.eval (.tmp 11), a.eval (.tmp 12), a.eval (.tmp 13), a.eval (.tmp 14), a.eval (.tmp 15), a.eval (.tmp 16), a.eval (.tmp 17), a.eval (.tmp 18), a.eval (.tmp 19), a.eval (.tmp 20), a.eval (.tmp 21), a.eval (.tmp 22), a.eval (.tmp 23), a.eval (.tmp 24), a.eval (.tmp 25), a.eval (.tmp 26), a.eval (.tmp 27), a.eval (.tmp 28), a.eval (.tmp 29), .tuple #[recV (.shard s), .nilIface], .pointer (some ⟨r, 0, none⟩), .pointer (some ⟨r, 0, none⟩), .pointer (some ⟨r, 0, none⟩), .pointer (some ⟨v, 0, none⟩), .int .i64 x, .pointer (some ⟨r, 0, none⟩), .pointer (some ⟨r, 0, none⟩), .pointer (some ⟨r, 1, none⟩), .int .i64 b, .tuple #[recV (.shard s), .nilIface], recV (.shard s), .nilIface] := hy.out _ rfl (by omega) (fun i hi => ?_)
   · rw [e]; exact hQ w' (by have := hB.1; unfold arFr at this; rw [if_pos (hz 9 (by decide))] at this; exact this) hB.2
   · match i, hi with
     | 0, _ => exact h4 13 (by decide)
     | 1, _ => exact h4 14 (by decide)
     | 2, _ => exact h0 7 (by decide)
     | 3, _ => exact h0 8 (by decide)
     | 4, _ => exact h0 9 (by decide)
     | 5, _ => exact h0 10 (by decide)
     | 6, _ => exact h0 11 (by decide)
     | 7, _ => exact h0 12 (by decide)
     | 8, _ => exact h0 13 (by decide)
     | 9, _ => exact h0 14 (by decide)
     | 10, _ => exact h0 15 (by decide)
     | 11, _ => exact h0 16 (by decide)
     | 12, _ => exact h0 17 (by decide)
     | 13, _ => exact h0 18 (by decide)
     | 14, _ => exact h0 19 (by decide)
     | 15, _ => exact h0 20 (by decide)
     | 16, _ => exact h0 21 (by decide)
     | 17, _ => exact h0 22 (by decide)
     | 18, _ => exact h0 23 (by decide)
     | 19, _ => exact h0 24 (by decide)
     | 20, _ => exact h0 25 (by decide)
     | 21, _ => exact h0 26 (by decide)
     | 22, _ => exact h0 27 (by decide)
     | 23, _ => exact h0 28 (by decide)
     | 24, _ => exact h0 29 (by decide)
     | 25, _ => exact h4 10 (by decide)
     | 26, _ => exact h4 0 (by decide)
     | 27, _ => exact h4 1 (by decide)
     | 28, _ => exact h4 2 (by decide)
     | 29, _ => exact h4 3 (by decide)
     | 30, _ => exact h4 4 (by decide)
     | 31, _ => exact h4 5 (by decide)
     | 32, _ => exact h4 6 (by decide)
     | 33, _ => exact h4 7 (by decide)
     | 34, _ => exact h4 8 (by decide)
     | 35, _ => exact h4 9 (by decide)
     | 36, _ => exact h4 11 (by decide)
     | 37, _ => exact h4 12 (by decide)
     | n + 38, hn => exact absurd hn (by simp)
noncomputable def RF8 : Array Oper := ((Tryz.f110.body.bind (rgf · 8))).getD #[]
def shF8 : List (Op × Option Nat × List Nat) := [(Op.load 128 (.tmp 2), some 47, []),
 (Op.nilCheck (.tmp 47), some 48, [0]),
 (Op.fieldAddr 178 (.tmp 48) 2, some 49, [1]),
 (Op.load 153 (.tmp 49), some 50, [2]),
 (Op.move (.tmp 4), some 51, []),
 (Op.fieldAddr 200 (.tmp 7) 0, some 52, []),
 (Op.slice 198 (.tmp 52) none none none, some 53, [5]),
 (Op.indexAddr 153 (.tmp 50) (.tmp 51), some 54, [3, 4, 0, 1, 2, 3, 4, 5, 6]),
 (Op.store 31 (.tmp 54) (.tmp 53), none, [7, 6, 0, 1, 2, 3, 4, 5, 6])]
theorem RF8_shape : RegShape RF8 47 55 shF8 := regShape (by kernel_rfl) (by kernel_rfl)
def vsF8 (r g N x q7 : Nat) : List Value := [.pointer (some ⟨r, 0, none⟩), .pointer (some ⟨r, 0, none⟩), .pointer (some ⟨r, 2, none⟩), .slice (some ⟨g, 0, none⟩) N N, .int .i64 x, .pointer (some ⟨q7, 0, none⟩), .slice (some ⟨q7, 0, none⟩) 44 44, .pointer (some ⟨g, x, none⟩), undef]
theorem fetch_region8 {f : Nat → Value} (h2 : Boxed w q 128 (.pointer (some ⟨r, 0, none⟩))) (hr : RdAt w r v b g N gone sp) (h6 : w.rowIs g 31 N f) (x : Nat) (hx : x < N) (h9 : q ≠ g) (ha : r ≠ g) (h7 : RF8 = ops) (hf : a.tmps.size = 100)
 (e2 : a.eval (.tmp 2) = .pointer (some ⟨q, 0, none⟩)) (e4 : a.eval (.tmp 4) = .int .i64 x) (e7 : a.eval (.tmp 7) = .pointer (some ⟨q7, 0, none⟩))
 (hQ : ∀ (w' : World), w' = w.drew.setCell ⟨g, x, none⟩ (.slice (some ⟨q7, 0, none⟩) 44 44) → Q .normal (Act.putFrom a 47 [.pointer (some ⟨r, 0, none⟩), .pointer (some ⟨r, 0, none⟩), .pointer (some ⟨r, 2, none⟩), .slice (some ⟨g, 0, none⟩) N N, .int .i64 x, .pointer (some ⟨q7, 0, none⟩), .slice (some ⟨q7, 0, none⟩) 44 44, .pointer (some ⟨g, x, none⟩)]) w') : (Code.region 8 ops true).wpIn (Fence.wide.inRound l) n Tryz.prog Q a w := by
 subst h7
 obtain ⟨_, _, c2, _, _⟩ := hr.cells
 have cq := h2.cell
 have cg := h6.cell (i := x) hx
 have fg := h6.frozen x
 refine region_factsI (by kernel_rfl) RF8_shape a w (by omega) (fun i u _ => u = (vsF8 r g N x q7).getD i undef) (BF8 w g x q7) rfl ?_ ?_
 · intro i hi
   match i, hi with
   | 0, _ =>
    intro o a' w' Dn hg ho h0 hk h4 h5 h1 hB h3
    have u0 : a'.eval (.tmp 2) = .pointer (some ⟨q, 0, none⟩) := (hk.slot 2 (by omega)).trans e2
    have cc : w'.cell? ⟨q, 0, none⟩ = some (.pointer (some ⟨r, 0, none⟩)) := BF8_cell hB h9 cq
    exact opI_val (v := .pointer (some ⟨r, 0, none⟩)) (by simp only [execOp, show o.op = Op.load 128 (.tmp 2) from ho, u0]; go_simp) (by rw [ho]; intro c h; cases h) h0 ⟨BF8_upd hB 0 (by decide), rfl, kq⟩
   | 1, _ =>
    intro o a' w' Dn hg ho h0 hk h4 h5 h1 hB h3
    have u0 : a'.eval (.tmp 47) = .pointer (some ⟨r, 0, none⟩) := h3 0 (h1 0 (by decide))
    exact opI_val (run_op_nil ho u0 w') (by rw [ho]; intro c h; cases h) h0 ⟨BF8_upd hB 1 (by decide), rfl, kq⟩
   | 2, _ =>
    intro o a' w' Dn hg ho h0 hk h4 h5 h1 hB h3
    have u0 : a'.eval (.tmp 48) = .pointer (some ⟨r, 0, none⟩) := h3 1 (h1 1 (by decide))
    exact opI_val (v := .pointer (some ⟨r, 2, none⟩)) (by simp only [execOp, show o.op = Op.fieldAddr 178 (.tmp 48) 2 from ho, u0]; go_simp) (by rw [ho]; intro c h; cases h) h0 ⟨BF8_upd hB 2 (by decide), rfl, kq⟩
   | 3, _ =>
    intro o a' w' Dn hg ho h0 hk h4 h5 h1 hB h3
    have u0 : a'.eval (.tmp 49) = .pointer (some ⟨r, 2, none⟩) := h3 2 (h1 2 (by decide))
    have cc : w'.cell? ⟨r, 2, none⟩ = some (.slice (some ⟨g, 0, none⟩) N N) := BF8_cell hB ha c2
    exact opI_val (v := .slice (some ⟨g, 0, none⟩) N N) (by simp only [execOp, show o.op = Op.load 153 (.tmp 49) from ho, u0]; go_simp) (by rw [ho]; intro c h; cases h) h0 ⟨BF8_upd hB 3 (by decide), rfl, kq⟩
   | 4, _ =>
    intro o a' w' Dn hg ho h0 hk h4 h5 h1 hB h3
    have u0 : a'.eval (.tmp 4) = .int .i64 x := (hk.slot 4 (by omega)).trans e4
    exact opI_val (run_op_move ho u0 w') (by rw [ho]; intro c h; cases h) h0 ⟨BF8_upd hB 4 (by decide), rfl, kq⟩
   | 5, _ =>
    intro o a' w' Dn hg ho h0 hk h4 h5 h1 hB h3
    have u0 : a'.eval (.tmp 7) = .pointer (some ⟨q7, 0, none⟩) := (hk.slot 7 (by omega)).trans e7
    exact opI_val (v := .pointer (some ⟨q7, 0, none⟩)) (by simp only [execOp, show o.op = Op.fieldAddr 200 (.tmp 7) 0 from ho, u0]; go_simp) (by rw [ho]; intro c h; cases h) h0 ⟨BF8_upd hB 5 (by decide), rfl, kq⟩
   | 6, _ =>
    intro o a' w' Dn hg ho h0 hk h4 h5 h1 hB h3
    have u0 : a'.eval (.tmp 52) = .pointer (some ⟨q7, 0, none⟩) := h3 5 (h1 5 (by decide))
    exact opI_val (v := .slice (some ⟨q7, 0, none⟩) 44 44) (by simp only [execOp, show o.op = Op.slice 198 (.tmp 52) none none none from ho, u0]; go_simp) (by rw [ho]; intro c h; cases h) h0 ⟨BF8_upd hB 6 (by decide), rfl, kq⟩
   | 7, _ =>
    intro o a' w' Dn hg ho h0 hk h4 h5 h1 hB h3
    have u0 : a'.eval (.tmp 50) = .slice (some ⟨g, 0, none⟩) N N := h3 3 (h1 3 (by decide))
    have u1 : a'.eval (.tmp 51) = .int .i64 x := h3 4 (h1 4 (by decide))
    exact opI_val (v := .pointer (some ⟨g, x, none⟩)) (by simp only [execOp, show o.op = Op.indexAddr 153 (.tmp 50) (.tmp 51) from ho, u0, u1]; go_simp) (by rw [ho]; intro c h; cases h) h0 ⟨BF8_upd hB 7 (by decide), rfl, kq⟩
   | 8, _ =>
    intro o a' w' Dn hg ho h0 hk h4 h5 h1 hB h3
    have u0 : a'.eval (.tmp 54) = .pointer (some ⟨g, x, none⟩) := h3 7 (h1 7 (by decide))
    have u1 : a'.eval (.tmp 53) = .slice (some ⟨q7, 0, none⟩) 44 44 := h3 6 (h1 6 (by decide))
    have hw : w' = w.drew := by have := hB; unfold BF8 at this; rw [if_neg (by rw [h4]; decide)] at this; exact this
    subst hw
    have cc : w.drew.cell? ⟨g, x, none⟩ = some (f x) := cg
    have ff : w.drew.frozen? ⟨g, x, none⟩ = false := fg
    exact opI_skip (w' := w.drew.setCell ⟨g, x, none⟩ (.slice (some ⟨q7, 0, none⟩) 44 44)) (by simp only [execOp, show o.op = Op.store 31 (.tmp 54) (.tmp 53) from ho, u0, u1]; go_simp) (by rw [ho]; intro c h; cases h) ⟨by unfold BF8; rw [if_pos upd_eq], rfl, kq⟩
   | n + 9, hn => exact absurd hn (by show ¬ n + 9 < 9; omega)
 · rintro a' w' hc h8 ⟨Dn, he, hB⟩ h3
   have e : a' = Act.putFrom a 47 [.pointer (some ⟨r, 0, none⟩), .pointer (some ⟨r, 0, none⟩), .pointer (some ⟨r, 2, none⟩), .slice (some ⟨g, 0, none⟩) N N, .int .i64 x, .pointer (some ⟨q7, 0, none⟩), .slice (some ⟨q7, 0, none⟩) 44 44, .pointer (some ⟨g, x, none⟩)] := hc.out _ rfl (by omega) (fun i hi => ?_)
   · rw [e]; exact hQ w' (by unfold BF8 at hB; rw [if_pos (he 8 (by decide))] at hB; exact hB)
   · match i, hi with
     | 0, _ => exact h3 0 (by decide)
     | 1, _ => exact h3 1 (by decide)
     | 2, _ => exact h3 2 (by decide)
     | 3, _ => exact h3 3 (by decide)
     | 4, _ => exact h3 4 (by decide)
     | 5, _ => exact h3 5 (by decide)
     | 6, _ => exact h3 6 (by decide)
     | 7, _ => exact h3 7 (by decide)
     | n + 8, hn => exact absurd hn (by simp)
end
end Go.Proofs.YtpaemkanfnddoaaGreatDoor
