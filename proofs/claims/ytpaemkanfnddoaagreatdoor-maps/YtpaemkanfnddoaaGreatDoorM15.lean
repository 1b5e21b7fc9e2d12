import Derived.Test.YtpaemkanfnddoaaGreatDoorM14
set_option maxRecDepth 100000
set_option maxHeartbeats 8000000
namespace Go.Proofs.YtpaemkanfnddoaaGreatDoor
open Go.RowKit Go.Shelf
variable {a : Act} {A : Arr} {ops : Array Oper} {Q : Exit → Act → World → Prop} {F : Foot} {R : List (List Nat)} {sh : List (Op × Option Nat × List Nat)} {l n lo hi m v g p b D L G ps ho : Nat} {o : Oper} {P : Program} {Vi : Value → World → Prop} {w w' : World} {B S : World → Prop}
def StepOkI (l n : Nat) (P : Program) (Q : Exit → Act → World → Prop) (lo hi : Nat) (sh : List (Op × Option Nat × List Nat)) (a0 : Act) (V : Nat → Value → World → Prop) (B : (Nat → Bool) → World → Prop) (i : Nat) : Prop :=
 ∀ (o : Oper) (a : Act) (w : World) (D : Nat → Bool), o.guard = none → o.op = (shAt sh i).1 → o.dst = (shAt sh i).2.1 → Framed lo hi a0 a → D i = false → (∀ j, D j = true → j < sh.length ∧ ∀ k ∈ (shAt sh j).2.2, D k = true) →
  (∀ k ∈ (shAt sh i).2.2, D k = true) → B D w → (∀ j, D j = true → V j (slotD (shAt sh j).2.1 a) w) →
  o.wpIn (Fence.wide.inRound l) n P a w (fun a' w' => ∃ v, a' = a.put o.dst v ∧ (o.dst = none → v = undef) ∧ B (upd D i) w' ∧ V i v w' ∧ ∀ j u, D j = true → V j u w → V j u w') Q
theorem any_factsI (h7 : RegShape ops lo hi sh) (a0 : Act) (hp : hi ≤ a0.tmps.size)
 (V : Nat → Value → World → Prop) (B : (Nat → Bool) → World → Prop) (ha : ∀ i, i < sh.length → StepOkI l n P Q lo hi sh a0 V B i)
 (hg : ∀ (a : Act) (w : World), Framed lo hi a0 a → (∀ s, (∀ i, i < sh.length → (shAt sh i).2.1 ≠ some s) → a.eval (.tmp s) = a0.eval (.tmp s)) → (∃ D, (∀ i, i < sh.length → D i = true) ∧ B D w) → (∀ i, i < sh.length → V i (slotD (shAt sh i).2.1 a) w) → Q .normal a w) :
 ∀ (f : Nat) (listed : Array Bool) (a : Act) (w : World), listed.size = sh.length → toCome listed = f → Framed lo hi a0 a → (∀ s, (∀ i, i < sh.length → (shAt sh i).2.1 ≠ some s) → a.eval (.tmp s) = a0.eval (.tmp s)) → (∀ j, listed.getD j false = true → j < sh.length ∧ ∀ k ∈ (shAt sh j).2.2, listed.getD k false = true) → B (fun j => listed.getD j false) w →
  (∀ i, listed.getD i false = true → V i (slotD (shAt sh i).2.1 a) w) → wpAnyIn (Fence.wide.inRound l) n P .any ops Q f listed a w := by
 have k6 := h7.size
 have h6 : ∀ listed : Array Bool, listed.size = sh.length → toCome listed ≠ 0 → Region.ready .any ops listed ≠ [] := by
  intro listed hl hc hr
  have hh : ∀ i, i < sh.length → listed.getD i false = true := by
   intro i
   induction i using Nat.strongRecOn with
   | ind i ih =>
    intro h0
    by_cases hd : listed.getD i false = true
    · exact hd
    · exfalso
      have hm : i ∈ Region.ready .any ops listed := ready_iff.2 ⟨by omega, by simpa [Array.getD_eq_getD_getElem?, show i < listed.size by omega] using hd, fun k hk => by
       obtain ⟨o, _, _, _, _, e⟩ := h7.get i h0
       rw [e] at hk
       have := h7.early i h0 k hk
       exact ih k this (by omega)⟩
      rw [hr] at hm
      cases hm
  apply hc
  unfold toCome
  rw [List.length_eq_zero_iff, List.filter_eq_nil_iff]
  intro b hb
  obtain ⟨i, h0, rfl⟩ := List.getElem_of_mem hb
  have hq : i < listed.size := by simpa using h0
  have := hh i (by omega)
  simp [Array.getD_eq_getD_getElem?, hq] at this
  simp [this]
 intro f
 induction f with
 | zero =>
  intro listed a w hl hc hk h4 hf hB hV
  refine ⟨?_, hg a w hk h4 ⟨_, fun i h0 => toCome_zero hc i (by omega), hB⟩ fun i h0 => hV i (toCome_zero hc i (by omega))⟩
  rw [List.eq_nil_iff_forall_not_mem]
  intro i hm
  obtain ⟨h1, h2, _⟩ := ready_iff.1 hm
  have := toCome_zero hc i (by omega)
  simp [Array.getD_eq_getD_getElem?, show i < listed.size by omega] at this h2
  rw [this] at h2
  cases h2
 | succ f ih =>
  intro listed a w hl hc hk h4 hf hB hV
  refine ⟨fun e => absurd e (h6 listed hl (by omega)), fun i hm => ?_⟩
  obtain ⟨h1, h2, h3⟩ := ready_iff.1 hm
  have h0 : i < sh.length := by omega
  have hn : i < listed.size := by omega
  obtain ⟨o, e1, e2, e3, e4, e5⟩ := h7.get i h0
  have hx : listed.getD i false = false := by simpa [Array.getD_eq_getD_getElem?, hn] using h2
  have h5 : ∀ j, (listed.setIfInBounds i true).getD j false = upd (fun j => listed.getD j false) i j := by
   intro j
   unfold upd
   by_cases ej : j = i
   · subst ej
     rw [if_pos rfl]
     simp [Array.getD_eq_getD_getElem?, hn]
   · rw [if_neg ej, Array.getD_eq_getD_getElem?, Array.getElem?_setIfInBounds, if_neg (fun q : i = j => ej q.symm), ← Array.getD_eq_getD_getElem?]
  unfold wpOpIn
  rw [e1]
  show if Region.wanted o (yielded ops a.tmps) = true then _ else _
  rw [if_pos (by simp [Region.wanted, e4])]
  refine (Oper.wpIn_mono (fun a' w' h => ?_) (ha i h0 o a w (fun j => listed.getD j false) e4 e2 e3 hk hx hf (fun k h8 => ?_) hB hV))
  · obtain ⟨v, rfl, hu, hy, hz, k0⟩ := h
    have he : ∀ d, o.dst = some d → lo ≤ d ∧ d < hi := fun d hd => by rw [e3] at hd; exact (h7.slots i i d h0 h0 hd).1
    refine ih _ _ _ (by simpa using hl) (by have := toCome_set h2; omega) (hk.put v he) (fun s hs => ?_) (fun j hj => ?_) ?_ fun j h9 => ?_
    · refine Eq.trans ?_ (h4 s hs)
      cases hd : o.dst with
      | none => rfl
      | some d => exact rf_other _ _ _ _ (fun e => hs i h0 (by rw [show (shAt sh i).2.1 = o.dst from e3.symm, hd, e]))
    · rw [h5] at hj
      unfold upd at hj
      by_cases ej : j = i
      · subst ej
        refine ⟨h0, fun k h8 => ?_⟩
        rw [h5]; unfold upd
        by_cases ek : k = j
        · rw [if_pos ek]
        · rw [if_neg ek]; rw [← e5] at h8; exact h3 k h8
      · rw [if_neg ej] at hj
        obtain ⟨q1, q2⟩ := hf j hj
        refine ⟨q1, fun k h8 => ?_⟩
        rw [h5]; unfold upd
        by_cases ek : k = i
        · rw [if_pos ek]
        · rw [if_neg ek]; exact q2 k h8
    · have e : (fun j => (listed.setIfInBounds i true).getD j false) = upd (fun j => listed.getD j false) i := funext h5
      rw [e]; exact hy
    · rw [h5] at h9
      unfold upd at h9
      by_cases ej : j = i
      · subst ej
        have : slotD (shAt sh j).2.1 (a.put o.dst v) = v := by
         show slotD (sh.getD j (.move (.const undef), none, [])).2.1 (a.put o.dst v) = v
         rw [← e3]
         cases hd : o.dst with
         | none => exact (hu hd).symm
         | some d => exact rf_same _ _ _ (Nat.lt_of_lt_of_le (he d hd).2 (by rw [hk.size]; exact hp))
        rw [this]; exact hz
      · rw [if_neg ej] at h9
        have : slotD (shAt sh j).2.1 (a.put o.dst v) = slotD (shAt sh j).2.1 a := by
         cases k5 : (shAt sh j).2.1 with
         | none => rfl
         | some d' =>
          cases hd : o.dst with
          | none => rfl
          | some d =>
           refine rf_other _ _ _ _ fun q => ej ?_
           subst q
           rw [e3] at hd
           exact (h7.slots j i d (hf j h9).1 h0 k5).2 hd
        rw [this]
        exact k0 j _ h9 (hV j h9)
  · exact h3 k (by rw [e5]; exact h8)
theorem region_factsI (hm : P.follows .mixedOrders = true) (h3 : RegShape ops lo hi sh) (a0 : Act) (w0 : World) (h4 : hi ≤ a0.tmps.size)
 (V : Nat → Value → World → Prop) (B : (Nat → Bool) → World → Prop) (hB : B (fun _ => false) w0.drew) (h1 : ∀ i, i < sh.length → StepOkI l n P Q lo hi sh a0 V B i)
 (h2 : ∀ (a : Act) (w : World), Framed lo hi a0 a → (∀ s, (∀ i, i < sh.length → (shAt sh i).2.1 ≠ some s) → a.eval (.tmp s) = a0.eval (.tmp s)) → (∃ D, (∀ i, i < sh.length → D i = true) ∧ B D w) → (∀ i, i < sh.length → V i (slotD (shAt sh i).2.1 a) w) → Q .normal a w) : (Code.region m ops true).wpIn (Fence.wide.inRound l) n P Q a0 w0 := by
 refine wpIn_region_any hm ?_
 have h5 := h3.size
 have h0 : ∀ i, (Array.replicate ops.size false).getD i false = false := fun i => by
  simp only [Array.getD_eq_getD_getElem?, Array.getElem?_replicate]
  split <;> rfl
 refine any_factsI h3 a0 h4 V B h1 h2 _ _ a0 w0.drew (by simp [h5]) ?_ (Framed.refl _ _ _) (fun _ _ => rfl) (fun j hj => ?_) ?_ fun i h => ?_
 · unfold toCome
   simp
 · rw [h0] at hj; cases hj
 · have e : (fun j => (Array.replicate ops.size false).getD j false) = fun _ => false := funext h0
   rw [e]; exact hB
 · rw [h0] at h; cases h
theorem opI_val {v : Value} (hr : (execOp a.eval o).run P w = .ok (.value v) w') (h0 : ∀ c, o.op ≠ .defer c) {d : Nat} (hd : o.dst = some d) (h : B w' ∧ Vi v w' ∧ S w') :
 o.wpIn (Fence.wide.inRound l) n P a w (fun a' w' => ∃ v, a' = a.put o.dst v ∧ (o.dst = none → v = undef) ∧ B w' ∧ Vi v w' ∧ S w') Q := by
 refine ⟨fun _ _ => trivial, ?_⟩
 rw [Oper.semAt_plain _ _ _ h0, hr]
 exact ⟨v, rfl, fun e => (by rw [hd] at e; cases e), h.1, h.2.1, h.2.2⟩
theorem opI_skip (hr : (execOp a.eval o).run P w = .ok .skip w') (h0 : ∀ c, o.op ≠ .defer c) (h : B w' ∧ Vi undef w' ∧ S w') :
 o.wpIn (Fence.wide.inRound l) n P a w (fun a' w' => ∃ v, a' = a.put o.dst v ∧ (o.dst = none → v = undef) ∧ B w' ∧ Vi v w' ∧ S w') Q := by
 refine ⟨fun _ _ => trivial, ?_⟩
 rw [Oper.semAt_plain _ _ _ h0, hr]
 exact ⟨undef, rfl, fun _ => rfl, h.1, h.2.1, h.2.2⟩
theorem opI_call {w1 : World} {f : FuncId} {args : Array Value} {Rr : Ending → World → Prop} (hr : (execOp a.eval o).run P w = .ok (.enter f args) w1) (h0 : ∀ c, o.op ≠ .defer c) {d : Nat} (hd : o.dst = some d) (hc : Calls P f args w1 Rr)
 (h : ∀ e w', Rr e w' → ∃ v, e = .returned v ∧ B w' ∧ Vi v w' ∧ S w') : o.wpIn (Fence.wide.inRound l) n P a w (fun a' w' => ∃ v, a' = a.put o.dst v ∧ (o.dst = none → v = undef) ∧ B w' ∧ Vi v w' ∧ S w') Q := by
 refine ⟨fun _ _ => trivial, ?_⟩
 rw [Oper.semAt_plain _ _ _ h0, hr]
 refine ⟨fun h => (by cases h), CallsIn.inRound l (callsIn_wide.2 (hc.mono fun e w' hR => ?_))⟩
 obtain ⟨v, rfl, q1, q2, q3⟩ := h e w' hR
 exact ⟨v, rfl, fun e => (by rw [hd] at e; cases e), q1, q2, q3⟩
section
open Go.Deep Gf
attribute [local go_sem] Oper.semAt_some
def Rws (w : World) (base g : Nat) (R : List (List Nat)) : Prop := base ≤ g ∧ g < w.heap.size ∧ ∀ i (hi : i < R.length), ∃ b off c, w.cell? ⟨g, i, none⟩ = some (.slice (some ⟨b, off, none⟩) 44 c) ∧ base ≤ b ∧ b < w.heap.size ∧ w.rangeAt b off (bts R[i]) ∧ R[i].length = 44 ∧ ∀ x ∈ R[i], x < 256
theorem Rws.keep {base : Nat} (h : Rws w base g R) (hz : w.heap.size ≤ w'.heap.size) (hk : ∀ k, base ≤ k → k < w.heap.size → w'.heap[k]? = w.heap[k]?) : Rws w' base g R := by
 obtain ⟨h1, h2, h3⟩ := h
 refine ⟨h1, Nat.lt_of_lt_of_le h2 hz, fun i hi => ?_⟩
 obtain ⟨b, off, c, q1, q2, q3, q4, q5⟩ := h3 i hi
 exact ⟨b, off, c, (World.cell?_of_block (hk g h1 h2)).trans q1, q2, Nat.lt_of_lt_of_le q3 hz, fun j v hv => (World.cell?_of_block (hk b q2 q3)).trans (q4 j v hv), q5⟩
noncomputable def RWs : Array Oper := ((Tryz.f74.body.bind (rgf · 3))).getD #[]
def shWs : List (Op × Option Nat × List Nat) := [(Op.load 104 (.tmp 4), some 13, []),
 (Op.move (.tmp 9), some 14, []),
 (Op.load 3 (.tmp 5), some 15, []),
 (Op.load 153 (.tmp 6), some 16, []),
 (Op.move (.tmp 9), some 17, []),
 (Op.indexAddr 153 (.tmp 16) (.tmp 17), some 18, [3, 4]),
 (Op.load 31 (.tmp 18), some 19, [5]),
 (Op.sliceToArrayPointer 198 (.tmp 19), some 20, [6]),
 (Op.load 198 (.tmp 20), some 21, [7]),
 (Op.build 200 #[(0, .tmp 21)], some 22, [8]),
 (Op.makeInterface 200 (.tmp 22), some 23, [9]),
 (Op.call { callee := Callee.value (Operand.func 114), args := #[.tmp 13, .tmp 14, .tmp 15, .tmp 23], argTypes := #[104, 3, 3, 202] }, some 24, [0, 1, 2, 10]),
 (Op.binOp BinOp.neq 49 (.tmp 24) (Operand.const Value.nilIface) 49, some 25, [11])]
theorem RWs_shape : RegShape RWs 13 26 shWs := regShape (by kernel_rfl) (by kernel_rfl)
def vsWs (v g m c bl off rc x b : Nat) (l : List Nat) : List Value := [.pointer (some ⟨v, 0, none⟩), .int .i64 x, .int .i64 b, .slice (some ⟨g, 0, none⟩) m c, .int .i64 x, .pointer (some ⟨g, x, none⟩), .slice (some ⟨bl, off, none⟩) 44 rc, .pointer (some ⟨bl, off, none⟩), .agg (bts l).toArray, .agg (bts l).toArray, recV (.shard l), .nilIface, .bool false]
def arWs (A : Arr) (d b : Nat) (r : Rec) (D : Nat → Bool) : Arr := if D 11 = true then (A.setBlk d b r.blk).setBad d b false else A
def BWs (w0 : World) (p : Nat) (A : Arr) (F : Foot) (d b : Nat) (r : Rec) (Dn : Nat → Bool) (w : World) : Prop := ArrAt w p (arWs A d b r Dn) F ∧ Outside (F.has p A.n) w0 w
theorem BWs_upd {w0 : World} {d : Nat} {r : Rec} {Dn : Nat → Bool} (h : BWs w0 p A F d b r Dn w) (i : Nat) (hi : i ≠ 11) : BWs w0 p A F d b r (upd Dn i) w := by
 refine ⟨?_, h.2⟩
 have e : arWs A d b r (upd Dn i) = arWs A d b r Dn := by unfold arWs upd; rw [if_neg (fun e : 11 = i => hi e.symm)]
 rw [e]; exact h.1
theorem writeShards_region (ha : RWs = ops) (hV : Vol w v p D L G ps ho A F) (hF : Free F p A.n v) (hf : A.fit) (x b : Nat) (hx : x < A.n) (hb : b < A.nb) (hw : A.wait < 0) (hl : A.lost x = false)
 {q4 q5 q6 g m c : Nat} (h4 : Boxed w q4 104 (.pointer (some ⟨v, 0, none⟩))) (h5 : Boxed w q5 3 (.int .i64 b)) (h6 : Boxed w q6 153 (.slice (some ⟨g, 0, none⟩) m c)) {base : Nat} {R : List (List Nat)} (hR : Rws w base g R) (hh : x < R.length) (hm : R.length ≤ m)
 (hn : ∀ k, F.has p A.n k → k < base ∧ k ≠ q4 ∧ k ≠ q5 ∧ k ≠ q6) (kk : a.tmps.size = 30)
 (e4 : a.eval (.tmp 4) = .pointer (some ⟨q4, 0, none⟩)) (e5 : a.eval (.tmp 5) = .pointer (some ⟨q5, 0, none⟩)) (e6 : a.eval (.tmp 6) = .pointer (some ⟨q6, 0, none⟩)) (e9 : a.eval (.tmp 9) = .int .i64 x)
 (hQ : ∀ (w' : World) (vs : List Value), vs.length = 12 → ArrAt w' p ((A.setBlk x b (Rec.shard (R.getD x [])).blk).setBad x b false) F → Outside (F.has p A.n) w w' → Q .normal (Act.putFrom a 13 (vs ++ [.bool false])) w') :
 (Code.region 3 ops true).wpIn (Fence.wide.inRound l) n Tryz.prog Q a w := by
 subst ha
 obtain ⟨k7, k8, h8⟩ := hR
 obtain ⟨bl, off, rc, k9, ka, kb, hj, h9, hp⟩ := h8 x hh
 have kc : R.getD x [] = R[x] := by simp [hh]
 rw [kc] at hQ
 obtain ⟨s, hs⟩ : ∃ s, R[x] = s := ⟨_, rfl⟩
 rw [hs] at hj h9 hp hQ
 have hq : (Rec.shard s).ok := ⟨h9, hp⟩
 have hy : ∀ w', Outside (F.has p A.n) w w' → ∀ k, k < w.heap.size → ¬ F.has p A.n k → w'.heap[k]? = w.heap[k]? := fun w' hO k hk kd => hO.block k hk kd
 have k0 : ∀ k, base ≤ k → ¬ F.has p A.n k := fun k hk q => by have := (hn k q).1; omega
 have k5 : (bts s).toArray.size = 44 := by rw [List.size_toArray, bts_len, h9]
 refine region_factsI (by kernel_rfl) RWs_shape a w (by omega) (fun i u _ => u = (vsWs v g m c bl off rc x b s).getD i undef) (BWs w p A F x b (.shard s)) ⟨hV.arr.keep fun _ _ => rfl, Outside.drew w⟩ ?_ ?_
 · intro i hi
   match i, hi with
   | 0, _ =>
    intro o a' w' Dn hg ho h0 hk h3 h7 h1 hB h2
    have u0 : a'.eval (.tmp 4) = .pointer (some ⟨q4, 0, none⟩) := (hk.slot 4 (by omega)).trans e4
    have cc := (show Boxed w' q4 104 (.pointer (some ⟨v, 0, none⟩)) from (hB.2.block _ h4.lt (fun q => (hn _ q).2.1 rfl)).trans h4).cell
    exact opI_val (v := .pointer (some ⟨v, 0, none⟩)) (by simp only [execOp, show o.op = Op.load 104 (.tmp 4) from ho, u0]; go_simp) (by rw [ho]; intro c h; cases h) h0 ⟨BWs_upd hB _ (by decide), rfl, kq⟩
   | 1, _ => exact fun o a' w' Dn hg ho h0 hk h3 h7 h1 hB h2 => opI_val (run_op_move ho ((hk.slot 9 (by omega)).trans e9) w') (by rw [ho]; intro c h; cases h) h0 ⟨BWs_upd hB _ (by decide), rfl, kq⟩
   | 2, _ =>
    intro o a' w' Dn hg ho h0 hk h3 h7 h1 hB h2
    have u0 : a'.eval (.tmp 5) = .pointer (some ⟨q5, 0, none⟩) := (hk.slot 5 (by omega)).trans e5
    have cc := (show Boxed w' q5 3 (.int .i64 b) from (hB.2.block _ h5.lt (fun q => (hn _ q).2.2.1 rfl)).trans h5).cell
    exact opI_val (v := .int .i64 b) (by simp only [execOp, show o.op = Op.load 3 (.tmp 5) from ho, u0]; go_simp) (by rw [ho]; intro c h; cases h) h0 ⟨BWs_upd hB _ (by decide), rfl, kq⟩
   | 3, _ =>
    intro o a' w' Dn hg ho h0 hk h3 h7 h1 hB h2
    have u0 : a'.eval (.tmp 6) = .pointer (some ⟨q6, 0, none⟩) := (hk.slot 6 (by omega)).trans e6
    have cc := (show Boxed w' q6 153 (.slice (some ⟨g, 0, none⟩) m c) from (hB.2.block _ h6.lt (fun q => (hn _ q).2.2.2 rfl)).trans h6).cell
    exact opI_val (v := .slice (some ⟨g, 0, none⟩) m c) (by simp only [execOp, show o.op = Op.load 153 (.tmp 6) from ho, u0]; go_simp) (by rw [ho]; intro c h; cases h) h0 ⟨BWs_upd hB _ (by decide), rfl, kq⟩
   | 4, _ => exact fun o a' w' Dn hg ho h0 hk h3 h7 h1 hB h2 => opI_val (run_op_move ho ((hk.slot 9 (by omega)).trans e9) w') (by rw [ho]; intro c h; cases h) h0 ⟨BWs_upd hB _ (by decide), rfl, kq⟩
   | 5, _ =>
    intro o a' w' Dn hg ho h0 hk h3 h7 h1 hB h2
    have u0 : a'.eval (.tmp 16) = .slice (some ⟨g, 0, none⟩) m c := h2 3 (h1 3 (by decide))
    have u1 : a'.eval (.tmp 17) = .int .i64 x := h2 4 (h1 4 (by decide))
    have km : x < m := by omega
    exact opI_val (v := .pointer (some ⟨g, x, none⟩)) (by simp only [execOp, show o.op = Op.indexAddr 153 (.tmp 16) (.tmp 17) from ho, u0, u1]; go_simp) (by rw [ho]; intro c h; cases h) h0 ⟨BWs_upd hB _ (by decide), rfl, kq⟩
   | 6, _ =>
    intro o a' w' Dn hg ho h0 hk h3 h7 h1 hB h2
    have u0 : a'.eval (.tmp 18) = .pointer (some ⟨g, x, none⟩) := h2 5 (h1 5 (by decide))
    have cc : w'.cell? ⟨g, x, none⟩ = some (.slice (some ⟨bl, off, none⟩) 44 rc) := (World.cell?_of_block (hB.2.block g k8 (k0 g k7))).trans k9
    exact opI_val (v := .slice (some ⟨bl, off, none⟩) 44 rc) (by simp only [execOp, show o.op = Op.load 31 (.tmp 18) from ho, u0]; go_simp) (by rw [ho]; intro c h; cases h) h0 ⟨BWs_upd hB _ (by decide), rfl, kq⟩
   | 7, _ =>
    intro o a' w' Dn hg ho h0 hk h3 h7 h1 hB h2
    have u0 : a'.eval (.tmp 19) = .slice (some ⟨bl, off, none⟩) 44 rc := h2 6 (h1 6 (by decide))
    have ke : (Instr.arrayAt 198 (.slice (some ⟨bl, off, none⟩) 44 rc)).run Tryz.prog w' = .ok (.pointer (some ⟨bl, off, none⟩)) w' := by simp [Instr.arrayAt, run_underlying Tryz.underlying198]
    exact opI_val (v := .pointer (some ⟨bl, off, none⟩)) (by simp [execOp, show o.op = Op.sliceToArrayPointer 198 (.tmp 19) from ho, u0, ke]) (by rw [ho]; intro c h; cases h) h0 ⟨BWs_upd hB _ (by decide), rfl, kq⟩
   | 8, _ =>
    intro o a' w' Dn hg ho h0 hk h3 h7 h1 hB h2
    have u0 : a'.eval (.tmp 20) = .pointer (some ⟨bl, off, none⟩) := h2 7 (h1 7 (by decide))
    have hr : w'.rangeAt bl off (bts s) := fun j u hu => (World.cell?_of_block (hB.2.block bl kb (k0 bl ka))).trans (hj j u hu)
    have kf := run_loadAt_mid (P := Tryz.prog) w' bl off 198 (bts s) _ hr Tryz.underlying198 rfl (by rw [bts_len, h9]; kernel_rfl)
    exact opI_val (v := .agg (bts s).toArray) (by simp [execOp, show o.op = Op.load 198 (.tmp 20) from ho, u0, kf]) (by rw [ho]; intro c h; cases h) h0 ⟨BWs_upd hB _ (by decide), rfl, kq⟩
   | 9, _ =>
    intro o a' w' Dn hg ho h0 hk h3 h7 h1 hB h2
    have u0 : a'.eval (.tmp 21) = .agg (bts s).toArray := h2 8 (h1 8 (by decide))
    have kg : ∀ z : Array Value, z.size = 44 → Array.foldl (fun cs x => cs.setIfInBounds x.snd x.fst) z (bts s).toArray.zipIdx 0 44 = (bts s).toArray := fun z hz => build_one z _ 44 hz k5
    obtain ⟨sa, hc⟩ : ∃ sa, (bts s).toArray = sa := ⟨_, rfl⟩
    refine opI_val (v := .agg (bts s).toArray) ?_ (by rw [ho]; intro c h; cases h) h0 ⟨BWs_upd hB _ (by decide), rfl, kq⟩
    rw [hc] at u0 kg k5 ⊢
    simp only [execOp, show o.op = Op.build 200 #[(0, .tmp 21)] from ho, List.map_toArray, List.map_cons, List.map_nil, u0]
    go_simp
   | 10, _ =>
    intro o a' w' Dn hg ho h0 hk h3 h7 h1 hB h2
    have u0 : a'.eval (.tmp 22) = .agg (bts s).toArray := h2 9 (h1 9 (by decide))
    exact opI_val (v := recV (.shard s)) (by simp only [execOp, show o.op = Op.makeInterface 200 (.tmp 22) from ho, u0, recV]; go_simp) (by rw [ho]; intro c h; cases h) h0 ⟨BWs_upd hB _ (by decide), rfl, kq⟩
   | 11, _ =>
    intro o a' w' Dn kn ho h0 hk h3 h7 h1 hB h2
    have u0 : a'.eval (.tmp 13) = .pointer (some ⟨v, 0, none⟩) := h2 0 (h1 0 (by decide))
    have u1 : a'.eval (.tmp 14) = .int .i64 x := h2 1 (h1 1 (by decide))
    have u2 : a'.eval (.tmp 15) = .int .i64 b := h2 2 (h1 2 (by decide))
    have u3 : a'.eval (.tmp 23) = recV (.shard s) := h2 10 (h1 10 (by decide))
    have hA : ArrAt w' p A F := by have := hB.1; unfold arWs at this; rw [if_neg (by rw [h3]; decide)] at this; exact this
    have k6 := hV.turn hF hB.2 hA
    refine opI_call (f := 114) (args := #[.pointer (some ⟨v, 0, none⟩), .int .i64 x, .int .i64 b, recV (.shard s)]) (w1 := w') (by simp only [execOp, show o.op = Op.call { callee := Callee.value (Operand.func 114), args := #[.tmp 13, .tmp 14, .tmp 15, .tmp 23], argTypes := #[104, 3, 3, 202] } from ho]; go_simp; exact ⟨by simpa [Act.eval] using u0, by simpa [Act.eval] using u1, by simpa [Act.eval] using u2, by simpa [Act.eval] using u3⟩) (by rw [ho]; intro c h; cases h) h0 (volWrite_ok k6.vol hA hf x b hx hb hw hl (.shard s) hq (makes_shard hq) k6.laid hF.g hF.v) ?_
    rintro e w'' ⟨rfl, kh, ki⟩
    refine ⟨_, rfl, ⟨?_, hB.2.trans ki⟩, rfl, kq⟩
    have e : arWs A x b (.shard s) (upd Dn 11) = (A.setBlk x b (Rec.shard s).blk).setBad x b false := by unfold arWs upd; rw [if_pos (by rw [if_pos rfl])]
    rw [e]; exact kh
   | 12, _ =>
    intro o a' w' Dn hg ho h0 hk h3 h7 h1 hB h2
    have u0 : a'.eval (.tmp 24) = .nilIface := h2 11 (h1 11 (by decide))
    exact opI_val (v := .bool false) (by simp only [execOp, show o.op = Op.binOp BinOp.neq 49 (.tmp 24) (Operand.const Value.nilIface) 49 from ho, u0]; go_simp) (by rw [ho]; intro c h; cases h) h0 ⟨BWs_upd hB _ (by decide), rfl, kq⟩
   | n + 13, hn => exact absurd hn (by show ¬ n + 13 < 13; omega)
 · rintro a' w' kj _ ⟨Dn, hD, hB⟩ h2
   have e : arWs A x b (.shard s) Dn = (A.setBlk x b (Rec.shard s).blk).setBad x b false := by unfold arWs; rw [if_pos (hD 11 (by decide))]
   have hA := hB.1
   rw [e] at hA
   have e : a' = Act.putFrom a 13 (((List.range 12).map fun i => a'.eval (.tmp (13 + i))) ++ [.bool false]) := kj.out _ (by simp) (by omega) (fun i hi => by
    simp at hi
    by_cases he : i = 12
    · subst he
      have := h2 12 (by decide)
      simpa [slotD, shAt, shWs, vsWs] using this
    · rw [List.getD_eq_getElem?_getD, List.getElem?_append_left (by simp; omega), List.getElem?_map, List.getElem?_range (by omega)]; rfl)
   rw [e]
   exact hQ w' _ (by rw [List.length_map, List.length_range]) hA hB.2
theorem list12 {vs : List Value} (h : vs.length = 12) : ∃ x0 x1 x2 x3 x4 x5 x6 x7 x8 x9 xa xb, vs = [x0, x1, x2, x3, x4, x5, x6, x7, x8, x9, xa, xb] := by
 match vs, h with
 | [x0, x1, x2, x3, x4, x5, x6, x7, x8, x9, xa, xb], _ => exact ⟨x0, x1, x2, x3, x4, x5, x6, x7, x8, x9, xa, xb, rfl⟩
structure WsI (w : World) (v p b g m c : Nat) (R : List (List Nat)) (A : Arr) (F : Foot) (B S : Nat) (pre : List (Mb S)) (X : World) : Prop where
 b0 : Boxed X w.heap.size 104 (.pointer (some ⟨v, 0, none⟩))
 b1 : Boxed X (w.heap.size + 1) 3 (.int .i64 b)
 b2 : Boxed X (w.heap.size + 1 + 1) 153 (.slice (some ⟨g, 0, none⟩) m c)
 b3 : Boxed X (w.heap.size + 1 + 1 + 1) 115 (.int .u64 0)
 arr : ArrAt X p (A.putAt (preM pre) b (fun i => (Rec.shard (R.getD i [])).blk)) F
 out : Outside (F.has p A.n) w X
 size : B ≤ X.heap.size
theorem WsI.own {c : Nat} {B S : Nat} (hB : w.heap.size + 4 ≤ B) (hF : ∀ k, F.has p A.n k → k < w.heap.size) : OwnFrom B (WsI w v p b g m c R A F B S) := by
 rintro pre X Y row ⟨h0, h1, h2, h3, h4, h5, h6⟩ hg hr
 have hk : ∀ k, k < w.heap.size + 4 → Y.heap[k]? = X.heap[k]? := fun k hk => hg.block k (by omega) (fun e => by have := (hr k e.symm).1; omega)
 have hO : Outside (F.has p A.n) w Y := h5.later (T := fun k => w.heap.size ≤ k) ⟨hg.os, hg.tape, hg.output, hg.size, fun k h7 h8 => hk k (by omega)⟩ (fun k h7 h8 => by omega)
 exact ⟨(hk _ (by omega)).trans h0, (hk _ (by omega)).trans h1, (hk _ (by omega)).trans h2, (hk _ (by omega)).trans h3, h4.keep fun k h9 => hk k (by have := hF k h9; omega), hO, Nat.le_trans h6 hg.size⟩
theorem writeShards_ok (hV : Vol w v p D L G ps ho A F) (hF : Free F p A.n v) (hf : A.fit) (b S : Nat) (hb : b < A.nb) (hS : S < 65536) (kb : ∀ i, i ∈ mems S → i < A.n) (hw : A.wait < 0) (hl : ∀ i, i ∈ mems S → A.lost i = false)
 {g m c base : Nat} {R : List (List Nat)} (hR : Rws w base g R) (hy : ∀ i, i ∈ mems S → i < R.length) (hm : R.length ≤ m) (h5 : ∀ k, F.has p A.n k → k < base) :
 Calls Tryz.prog 74 #[.pointer (some ⟨v, 0, none⟩), .int .i64 b, .slice (some ⟨g, 0, none⟩) m c, .int .u64 S] w fun e w' => e = .returned (.int .u64 0) ∧ ArrAt w' p (A.putAt (mems S) b (fun i => (Rec.shard (R.getD i [])).blk)) F ∧ Outside (F.has p A.n) w w' := by
 obtain ⟨n, HN⟩ : ∃ n : Nat, Hid (9 ≤ n) := ⟨9, Nat.le_refl _⟩
 have hg : ∀ k, F.has p A.n k → k < w.heap.size := fun k hk => hV.arr.has_lt hk
 have h9 : ∀ i, i ∈ mems S → (Rec.shard (R.getD i [])).ok := fun i hi => by
  have hz := hy i hi
  obtain ⟨_, _, _, _, _, _, _, q1, q2⟩ := hR.2.2 i hz
  have e : R.getD i [] = R[i] := by simp [hz]
  rw [e]; exact ⟨q1, q2⟩
 refine (callsIn_wide (n := n)).1 ?_
 refine callsIn_of_wp_marks Tryz.func74 rfl trivial ?_ rfl
 simp only [Tryz.ntmps74, List.size_toArray, List.length_cons, List.length_nil, Nat.reduceAdd, Nat.reduceSub, Array.replicate_succ, Array.replicate_zero, List.push_toArray, List.append_toArray, List.nil_append, List.cons_append]
 gi_wp2
 obtain ⟨w4, h6⟩ : ∃ w4, (((w.alloc (.cells #[.pointer (some ⟨v, 0, none⟩)] 104)).alloc (.cells #[.int .i64 (b : Int)] 3)).alloc (.cells #[.slice (some ⟨g, 0, none⟩) m c] 153)).alloc (.cells #[.int .u64 0] 115) = w4 := ⟨_, rfl⟩
 have h0 : Boxed w4 w.heap.size 104 (.pointer (some ⟨v, 0, none⟩)) := by rw [← h6]; exact (((Boxed.new w _ _).alloc _).alloc _).alloc _
 have h1 : Boxed w4 (w.heap.size + 1) 3 (.int .i64 b) := by
  rw [← h6]
  have := Boxed.new (w.alloc (.cells #[.pointer (some ⟨v, 0, none⟩)] 104)) 3 (.int .i64 b)
  rw [World.size_alloc] at this
  exact (this.alloc _).alloc _
 have h2 : Boxed w4 (w.heap.size + 1 + 1) 153 (.slice (some ⟨g, 0, none⟩) m c) := by
  rw [← h6]
  have := Boxed.new ((w.alloc (.cells #[.pointer (some ⟨v, 0, none⟩)] 104)).alloc (.cells #[.int .i64 (b : Int)] 3)) 153 (.slice (some ⟨g, 0, none⟩) m c)
  rw [World.size_alloc, World.size_alloc] at this
  exact this.alloc _
 have h3 : Boxed w4 (w.heap.size + 1 + 1 + 1) 115 (.int .u64 0) := by
  rw [← h6]
  have := Boxed.new (((w.alloc (.cells #[.pointer (some ⟨v, 0, none⟩)] 104)).alloc (.cells #[.int .i64 (b : Int)] 3)).alloc (.cells #[.slice (some ⟨g, 0, none⟩) m c] 153)) 115 (.int .u64 0)
  rw [World.size_alloc, World.size_alloc, World.size_alloc] at this
  exact this
 have hn : w4.heap.size = w.heap.size + 4 := by rw [← h6]; simp
 have k0 : Below w.heap.size w w4 := by rw [← h6]; exact ((((Below.refl _ w).alloc (Nat.le_refl _) _).alloc (by simp) _).alloc (by simp; omega) _).alloc (by simp; omega) _
 rw [h6]
 clear h6
 refine at_wide (members_any S w4) ?_
 rintro e w' ⟨rfl, rfl⟩
 have k5 : (w4.alloc (.cells #[.int .u64 (S : Int)] 115)).heap.size = w4.heap.size + 1 := by simp
 have k6 : (w4.alloc (.cells #[.int .u64 (S : Int)] 115)).cell? ⟨w4.heap.size, 0, none⟩ = some (.int .u64 (S : Int)) := (Boxed.new w4 115 (.int .u64 (S : Int))).cell
 have hh : Below w.heap.size w (w4.alloc (.cells #[.int .u64 (S : Int)] 115)) := k0.alloc (by omega) _
 have k7 : WsI w v p b g m c R A F (w4.heap.size + 1) S [] (w4.alloc (.cells #[.int .u64 (S : Int)] 115)) :=
  ⟨h0.alloc _, h1.alloc _, h2.alloc _, h3.alloc _, by rw [show preM ([] : List (Mb S)) = [] from rfl, putAt_nil]; exact hV.arr.below hh (Nat.le_refl _), Outside.of_all hh _, by omega⟩
 obtain ⟨w6, k8⟩ : ∃ w6, w4.alloc (.cells #[.int .u64 (S : Int)] 115) = w6 := ⟨_, rfl⟩
 have k9 := hide k6
 have hj := hide2 k7 hh
 have kc := hide hn
 clear k6 k7 h0 h1 h2 h3 k0 hh hn
 gi_wp2
 obtain ⟨hn, kd⟩ : w.heap.size + 4 ≤ w4.heap.size ∧ w4.heap.size ≤ w.heap.size + 4 := by have := kc.out; omega
 rw [k8] at k5 k9 hj
 clear k8
 rw [← k5] at hj
 refine wpIn_rangeFunc_ownG rfl (by have := HN.out; omega) (gf := 137) (lb := #[.pointer (some ⟨w4.heap.size, 0, none⟩)]) rfl trivial (enters_of Tryz.func137 (by kernel_rfl) rfl)
  (members_mb (n - 1) w4.heap.size S hS w6 (by omega) k9.out (by have := hV.room; omega) (hV.tab.mono (by exact hV.tab.lt) hj.out.2)) (fun h k => kpT_t h k) (kpT_b (by have := hV.room; omega)) (Below.refl _ _) (fun _ => rfl)
  (WsI w v p b g m c R A F w6.heap.size S) (fun _ _ _ => False) (WsI.own (by omega) hg) (fun _ _ _ _ _ h _ _ => h.elim) hj.out.1
  (fun x => { tmps := #[.pointer (some ⟨v, 0, none⟩), .int .i64 (b : Int), .slice (some ⟨g, 0, none⟩) m c, .int .u64 (S : Int), .pointer (some ⟨w.heap.size, 0, none⟩), .pointer (some ⟨w.heap.size + 1, 0, none⟩), .pointer (some ⟨w.heap.size + 1 + 1, 0, none⟩), undef, .pointer (some ⟨w.heap.size + 1 + 1 + 1, 0, none⟩), .int .i64 (x.1 : Int), .int .u64 (S : Int), .func (.func 137) #[] #[.pointer (some ⟨w4.heap.size, 0, none⟩)], .int .i64 (x.1 : Int), undef, undef, undef, undef, undef, undef, undef, undef, undef, undef, undef, undef, undef, undef, undef, undef, undef], defers := [] }) ?assign ?body ?done ?stop
 case assign =>
  intro l2 x X Kk hK
  unfold encMb
  gi_wp2
  exact hK
 case body =>
  rintro l2 pre x X hi hp
  have hq : x.1 ∈ mems S := mem_mems.2 x.2
  have ha := hV.turn hF hi.out hi.arr
  have hc : Rws X base g R := hR.keep hi.out.size (fun k hk ke => hi.out.block k ke (fun q => by have := h5 k q; omega))
  have h4 := hi.b3.lt
  have HI := hide3 hi ha hc
  clear hp hi ha hc
  gi_wp2
  obtain ⟨hi, ha, hc⟩ := HI.out
  refine writeShards_region (by kernel_rfl) ha hF (hf.putAt _ _ _ fun i hr => ?_) x.1 b (kb _ hq) hb hw (hl _ hq) hi.b0 hi.b1 hi.b2 hc (hy _ hq) hm (fun k q => ?_) rfl rfl rfl rfl rfl ?_
  · refine ⟨blk_len (h9 i ?_), blk_lt (h9 i ?_)⟩
    all_goals
     unfold preM at hr
     rw [List.mem_map] at hr
     obtain ⟨y, _, rfl⟩ := hr
     exact mem_mems.2 y.2
  · have h1 : k < w.heap.size := hg k q
    exact ⟨h5 k q, by omega, by omega, by omega⟩
  intro w2 vs ka he h8
  rw [putAt_snoc A (preM pre) x.1 b (fun i => (Rec.shard (R.getD i [])).blk)] at he
  obtain ⟨x0, x1, x2, x3, x4, x5, x6, x7, x8, x9, xa, xb, rfl⟩ := list12 ka
  have h7 : ∀ k, w.heap.size ≤ k → k < X.heap.size → w2.heap[k]? = X.heap[k]? := fun k hk kf => h8.block k kf (fun q => by have := hg k q; omega)
  have H2 := hide3 he h8 h7
  clear he h8 h7 hi ha hc ka
  rename_i hK
  refine hK _ _ ?_
  clear hK
  simp only [Act.putFrom, Act.put, List.setIfInBounds_toArray, List.set_cons_succ, List.set_cons_zero, List.cons_append, List.nil_append]
  gi_wp2
  obtain ⟨he, h8, h7⟩ := H2.out
  have hi := HI.out.1
  have hO : Outside (F.has p A.n) w w2 := hi.out.trans h8
  refine ⟨⟨h8.size, fun k o hk ho _ => (h7 k (by omega) (Array.getElem?_eq_some_iff.1 ho).1).trans ho⟩, fun _ => hV.tab.keep (hO.block _ hV.tab.lt hF.t), ?_⟩
  exact ⟨(h7 _ (by omega) (by omega)).trans hi.b0, (h7 _ (by omega) (by omega)).trans hi.b1, (h7 _ (by omega) (by omega)).trans hi.b2, (h7 _ (by omega) (by omega)).trans hi.b3, by rw [preM_snoc]; exact he, hO, Nat.le_trans hi.size h8.size⟩
 case done =>
  rintro D' xs X kg kh hi hK
  have c3 := hi.b3.cell
  have f3 := hi.b3.frozen
  have HI := hide2 hi hK
  clear hi hK
  gi_wp2
  obtain ⟨hi, hK⟩ := HI.out
  have hs : preM xs = mems S := kh
  have ki := hi.b3.set (.int .u64 0)
  have kj := KeepsOthers.setCell X ⟨w.heap.size + 1 + 1 + 1, 0, none⟩ (.int .u64 0)
  have kk := kj.same D' _ hK rfl
  have ko := (Array.getElem?_eq_some_iff.1 hK).1
  refine end_cell (b := w.heap.size + 1 + 1 + 1) (t8 := 8) Tryz.results74 rfl rfl (load_set (s := 0) ki) kk (by omega) ⟨rfl, ?_, ?_⟩
  · have h4 := hi.arr
    rw [hs] at h4
    exact h4.keep fun k hk => by have := hg k hk; exact (World.putObj_heap_other (by omega)).trans (blk_setCell_other _ _ _ _ (by show k ≠ w.heap.size + 1 + 1 + 1; omega))
  · exact hi.out.later (T := fun k => w.heap.size ≤ k) ⟨rfl, rfl, rfl, by simp [World.setCell, World.putObj], fun k _ km => (World.putObj_heap_other (by omega)).trans (blk_setCell_other _ _ _ _ (by show k ≠ w.heap.size + 1 + 1 + 1; omega))⟩ (fun k kp km => by omega)
 case stop =>
  rintro D' cc pre X kg kn hx hK
  exact hx.elim
end
end Go.Proofs.YtpaemkanfnddoaaGreatDoor
