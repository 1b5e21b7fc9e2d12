import Derived.Test.YtogdeaaphdlchaaGreatDoorPart09
import Derived.Test.YtogdeaaphdlchaaGreatDoorPart06
import Derived.Defers
import Derived.Recover
/-
  WriteShards: the shards of a stripe, on drives of a set.
-/
namespace Go.Proofs.YtogdeaaphdlchaaGreatDoor
open Go.RowKit Go.Shelf Go.Deep Gf

attribute [local go_sem] Oper.semAt_some
/-- rows of 44 bytes, wherever they lie from block base on -/
def Rws (w : World) (base g : Nat) (R : List (List Nat)) : Prop := base ≤ g ∧ g < w.heap.size ∧ ∀ i (hi : i < R.length), ∃ b off c, w.cell? ⟨g, i, none⟩ = some (.slice (some ⟨b, off, none⟩) 44 c) ∧ base ≤ b ∧ b < w.heap.size ∧ w.rangeAt b off (bts R[i]) ∧ R[i].length = 44 ∧ ∀ x ∈ R[i], x < 256
theorem Rws.keep {w w' : World} {base g : Nat} {R : List (List Nat)} (h : Rws w base g R) (hz : w.heap.size ≤ w'.heap.size) (hk : ∀ k, base ≤ k → k < w.heap.size → w'.heap[k]? = w.heap[k]?) : Rws w' base g R := by
  obtain ⟨h1, h2, h3⟩ := h
  refine ⟨h1, Nat.lt_of_lt_of_le h2 hz, fun i hi => ?_⟩
  obtain ⟨b, off, c, q1, q2, q3, q4, q5⟩ := h3 i hi
  exact ⟨b, off, c, (World.cell?_of_block (hk g h1 h2)).trans q1, q2, Nat.lt_of_lt_of_le q3 hz, fun j v hv => (World.cell?_of_block (hk b q2 q3)).trans (q4 j v hv), q5⟩
noncomputable def RWs : Array Oper := ((Tryz.f109.body.bind (rgf · 3))).getD #[]
def shWs : List (Op × Option Nat × List Nat) := [(Op.load 59 (Operand.tmp 4), some 13, []),
    (Op.move (Operand.tmp 9), some 14, []),
    (Op.load 3 (Operand.tmp 5), some 15, []),
    (Op.load 132 (Operand.tmp 6), some 16, []),
    (Op.move (Operand.tmp 9), some 17, []),
    (Op.indexAddr 132 (Operand.tmp 16) (Operand.tmp 17), some 18, [3, 4]),
    (Op.load 166 (Operand.tmp 18), some 19, [5]),
    (Op.sliceToArrayPointer 210 (Operand.tmp 19), some 20, [6]),
    (Op.load 210 (Operand.tmp 20), some 21, [7]),
    (Op.build 212 #[(0, Operand.tmp 21)], some 22, [8]),
    (Op.makeInterface 212 (Operand.tmp 22), some 23, [9]),
    (Op.call { callee := Callee.value (Operand.func 62), args := #[Operand.tmp 13, Operand.tmp 14, Operand.tmp 15, Operand.tmp 23], argTypes := #[59, 3, 3, 125] }, some 24, [0, 1, 2, 10]),
    (Op.binOp BinOp.neq 29 (Operand.tmp 24) (Operand.const Value.nilIface) 29, some 25, [11])]
theorem RWs_shape : RegShape RWs 13 26 shWs := regShape (by kernel_rfl) (by kernel_rfl)
def vsWs (v g m c bl off rc x b : Nat) (l : List Nat) : List Value := [.pointer (some ⟨v, 0, none⟩), .int .i64 x, .int .i64 b, .slice (some ⟨g, 0, none⟩) m c, .int .i64 x, .pointer (some ⟨g, x, none⟩), .slice (some ⟨bl, off, none⟩) 44 rc, .pointer (some ⟨bl, off, none⟩), .agg (bts l).toArray, .agg (bts l).toArray, recV (.shard l), .nilIface, .bool false]
def arWs (A : Arr) (d b : Nat) (r : Rec) (D : Nat → Bool) : Arr := if D 11 = true then (A.setBlk d b r.blk).setBad d b false else A
def BWs (w0 : World) (p : Nat) (A : Arr) (F : Foot) (d b : Nat) (r : Rec) (Dn : Nat → Bool) (w : World) : Prop := ArrAt w p (arWs A d b r Dn) F ∧ Outside (F.has p A.n) w0 w
theorem BWs_upd {w0 : World} {p : Nat} {A : Arr} {F : Foot} {d b : Nat} {r : Rec} {Dn : Nat → Bool} {w : World} (h : BWs w0 p A F d b r Dn w) (i : Nat) (hi : i ≠ 11) : BWs w0 p A F d b r (upd Dn i) w := by
  refine ⟨?_, h.2⟩
  have e : arWs A d b r (upd Dn i) = arWs A d b r Dn := by unfold arWs upd; rw [if_neg (fun e : 11 = i => hi e.symm)]
  rw [e]; exact h.1
set_option maxRecDepth 100000 in
set_option maxHeartbeats 1000000 in
theorem writeShards_region {l n : Nat} {ops : Array Oper} {Q : Exit → Act → World → Prop} {a : Act} {w : World} {v p D L G ps ho : Nat} {A : Arr} {F : Foot} (hops : RWs = ops) (hV : Vol w v p D L G ps ho A F) (hF : Free F p A.n v) (hf : A.fit) (x b : Nat) (hx : x < A.n) (hb : b < A.nb) (hw : A.wait < 0) (hl : A.lost x = false)
    {q4 q5 q6 g m c : Nat} (h4 : Boxed w q4 59 (.pointer (some ⟨v, 0, none⟩))) (h5 : Boxed w q5 3 (.int .i64 b)) (h6 : Boxed w q6 132 (.slice (some ⟨g, 0, none⟩) m c)) {base : Nat} {R : List (List Nat)} (hR : Rws w base g R) (hxR : x < R.length) (hm : R.length ≤ m)
    (hn : ∀ k, F.has p A.n k → k < base ∧ k ≠ q4 ∧ k ≠ q5 ∧ k ≠ q6) (hsz : a.tmps.size = 30)
    (e4 : a.eval (.tmp 4) = .pointer (some ⟨q4, 0, none⟩)) (e5 : a.eval (.tmp 5) = .pointer (some ⟨q5, 0, none⟩)) (e6 : a.eval (.tmp 6) = .pointer (some ⟨q6, 0, none⟩)) (e9 : a.eval (.tmp 9) = .int .i64 x)
    (hQ : ∀ (w' : World) (vs : List Value), vs.length = 12 → ArrAt w' p ((A.setBlk x b (Rec.shard (R.getD x [])).blk).setBad x b false) F → Outside (F.has p A.n) w w' → Q .normal (Act.putFrom a 13 (vs ++ [.bool false])) w') :
    (Code.region 3 ops true).wpIn (Fence.wide.inRound l) n Tryz.prog Q a w := by
  subst hops
  obtain ⟨hg1, hg2, hrows⟩ := hR
  obtain ⟨bl, off, rc, hc1, hc2, hc3, hc4, hc5, hc6⟩ := hrows x hxR
  have hRx : R.getD x [] = R[x] := by simp [hxR]
  rw [hRx] at hQ
  obtain ⟨s, hs⟩ : ∃ s, R[x] = s := ⟨_, rfl⟩
  rw [hs] at hc4 hc5 hc6 hQ
  have hok : (Rec.shard s).ok := ⟨hc5, hc6⟩
  have hkeep : ∀ w', Outside (F.has p A.n) w w' → ∀ k, k < w.heap.size → ¬ F.has p A.n k → w'.heap[k]? = w.heap[k]? := fun w' hO k hk hnk => hO.block k hk hnk
  have hnb : ∀ k, base ≤ k → ¬ F.has p A.n k := fun k hk q => by have := (hn k q).1; omega
  have hsa : (bts s).toArray.size = 44 := by rw [List.size_toArray, bts_len, hc5]
  refine region_factsI (by kernel_rfl) RWs_shape a w (by omega) (fun i u _ => u = (vsWs v g m c bl off rc x b s).getD i undef) (BWs w p A F x b (.shard s)) ⟨hV.arr.keep fun _ _ => rfl, Outside.drew w⟩ ?_ ?_
  · intro i hi
    match i, hi with
    | 0, _ =>
      intro o a' w' Dn hg ho hdst hk hDi hcl hdep hB hV'
      have u0 : a'.eval (.tmp 4) = .pointer (some ⟨q4, 0, none⟩) := (hk.slot 4 (by omega)).trans e4
      have cc := (show Boxed w' q4 59 (.pointer (some ⟨v, 0, none⟩)) from (hB.2.block _ h4.lt (fun q => (hn _ q).2.1 rfl)).trans h4).cell
      exact opI_val (v := .pointer (some ⟨v, 0, none⟩)) (by simp only [execOp, show o.op = Op.load 59 (.tmp 4) from ho, u0]; go_simp) (by rw [ho]; intro c h; cases h) hdst ⟨BWs_upd hB _ (by decide), rfl, fun _ _ _ q => q⟩
    | 1, _ => exact fun o a' w' Dn hg ho hdst hk hDi hcl hdep hB hV' => opI_val (run_op_move ho ((hk.slot 9 (by omega)).trans e9) w') (by rw [ho]; intro c h; cases h) hdst ⟨BWs_upd hB _ (by decide), rfl, fun _ _ _ q => q⟩
    | 2, _ =>
      intro o a' w' Dn hg ho hdst hk hDi hcl hdep hB hV'
      have u0 : a'.eval (.tmp 5) = .pointer (some ⟨q5, 0, none⟩) := (hk.slot 5 (by omega)).trans e5
      have cc := (show Boxed w' q5 3 (.int .i64 b) from (hB.2.block _ h5.lt (fun q => (hn _ q).2.2.1 rfl)).trans h5).cell
      exact opI_val (v := .int .i64 b) (by simp only [execOp, show o.op = Op.load 3 (.tmp 5) from ho, u0]; go_simp) (by rw [ho]; intro c h; cases h) hdst ⟨BWs_upd hB _ (by decide), rfl, fun _ _ _ q => q⟩
    | 3, _ =>
      intro o a' w' Dn hg ho hdst hk hDi hcl hdep hB hV'
      have u0 : a'.eval (.tmp 6) = .pointer (some ⟨q6, 0, none⟩) := (hk.slot 6 (by omega)).trans e6
      have cc := (show Boxed w' q6 132 (.slice (some ⟨g, 0, none⟩) m c) from (hB.2.block _ h6.lt (fun q => (hn _ q).2.2.2 rfl)).trans h6).cell
      exact opI_val (v := .slice (some ⟨g, 0, none⟩) m c) (by simp only [execOp, show o.op = Op.load 132 (.tmp 6) from ho, u0]; go_simp) (by rw [ho]; intro c h; cases h) hdst ⟨BWs_upd hB _ (by decide), rfl, fun _ _ _ q => q⟩
    | 4, _ => exact fun o a' w' Dn hg ho hdst hk hDi hcl hdep hB hV' => opI_val (run_op_move ho ((hk.slot 9 (by omega)).trans e9) w') (by rw [ho]; intro c h; cases h) hdst ⟨BWs_upd hB _ (by decide), rfl, fun _ _ _ q => q⟩
    | 5, _ =>
      intro o a' w' Dn hg ho hdst hk hDi hcl hdep hB hV'
      have u0 : a'.eval (.tmp 16) = .slice (some ⟨g, 0, none⟩) m c := hV' 3 (hdep 3 (by decide))
      have u1 : a'.eval (.tmp 17) = .int .i64 x := hV' 4 (hdep 4 (by decide))
      have hxm : x < m := by omega
      exact opI_val (v := .pointer (some ⟨g, x, none⟩)) (by simp only [execOp, show o.op = Op.indexAddr 132 (.tmp 16) (.tmp 17) from ho, u0, u1]; go_simp) (by rw [ho]; intro c h; cases h) hdst ⟨BWs_upd hB _ (by decide), rfl, fun _ _ _ q => q⟩
    | 6, _ =>
      intro o a' w' Dn hg ho hdst hk hDi hcl hdep hB hV'
      have u0 : a'.eval (.tmp 18) = .pointer (some ⟨g, x, none⟩) := hV' 5 (hdep 5 (by decide))
      have cc : w'.cell? ⟨g, x, none⟩ = some (.slice (some ⟨bl, off, none⟩) 44 rc) := (World.cell?_of_block (hB.2.block g hg2 (hnb g hg1))).trans hc1
      exact opI_val (v := .slice (some ⟨bl, off, none⟩) 44 rc) (by simp only [execOp, show o.op = Op.load 166 (.tmp 18) from ho, u0]; go_simp) (by rw [ho]; intro c h; cases h) hdst ⟨BWs_upd hB _ (by decide), rfl, fun _ _ _ q => q⟩
    | 7, _ =>
      intro o a' w' Dn hg ho hdst hk hDi hcl hdep hB hV'
      have u0 : a'.eval (.tmp 19) = .slice (some ⟨bl, off, none⟩) 44 rc := hV' 6 (hdep 6 (by decide))
      have hat : (Instr.arrayAt 210 (.slice (some ⟨bl, off, none⟩) 44 rc)).run Tryz.prog w' = .ok (.pointer (some ⟨bl, off, none⟩)) w' := by simp [Instr.arrayAt, run_underlying Tryz.underlying210]
      exact opI_val (v := .pointer (some ⟨bl, off, none⟩)) (by simp [execOp, show o.op = Op.sliceToArrayPointer 210 (.tmp 19) from ho, u0, hat]) (by rw [ho]; intro c h; cases h) hdst ⟨BWs_upd hB _ (by decide), rfl, fun _ _ _ q => q⟩
    | 8, _ =>
      intro o a' w' Dn hg ho hdst hk hDi hcl hdep hB hV'
      have u0 : a'.eval (.tmp 20) = .pointer (some ⟨bl, off, none⟩) := hV' 7 (hdep 7 (by decide))
      have hr : w'.rangeAt bl off (bts s) := fun j u hu => (World.cell?_of_block (hB.2.block bl hc3 (hnb bl hc2))).trans (hc4 j u hu)
      have hld := run_loadAt_mid (P := Tryz.prog) w' bl off 210 (bts s) _ hr Tryz.underlying210 rfl (by rw [bts_len, hc5]; kernel_rfl)
      exact opI_val (v := .agg (bts s).toArray) (by simp [execOp, show o.op = Op.load 210 (.tmp 20) from ho, u0, hld]) (by rw [ho]; intro c h; cases h) hdst ⟨BWs_upd hB _ (by decide), rfl, fun _ _ _ q => q⟩
    | 9, _ =>
      intro o a' w' Dn hg ho hdst hk hDi hcl hdep hB hV'
      have u0 : a'.eval (.tmp 21) = .agg (bts s).toArray := hV' 8 (hdep 8 (by decide))
      have hbo : ∀ z : Array Value, z.size = 44 → Array.foldl (fun cs x => cs.setIfInBounds x.snd x.fst) z (bts s).toArray.zipIdx 0 44 = (bts s).toArray := fun z hz => build_one z _ 44 hz hsa
      obtain ⟨sa, hsa'⟩ : ∃ sa, (bts s).toArray = sa := ⟨_, rfl⟩
      refine opI_val (v := .agg (bts s).toArray) ?_ (by rw [ho]; intro c h; cases h) hdst ⟨BWs_upd hB _ (by decide), rfl, fun _ _ _ q => q⟩
      rw [hsa'] at u0 hbo hsa ⊢
      simp only [execOp, show o.op = Op.build 212 #[(0, Operand.tmp 21)] from ho, List.map_toArray, List.map_cons, List.map_nil, u0]
      go_simp
    | 10, _ =>
      intro o a' w' Dn hg ho hdst hk hDi hcl hdep hB hV'
      have u0 : a'.eval (.tmp 22) = .agg (bts s).toArray := hV' 9 (hdep 9 (by decide))
      exact opI_val (v := recV (.shard s)) (by simp only [execOp, show o.op = Op.makeInterface 212 (.tmp 22) from ho, u0, recV]; go_simp) (by rw [ho]; intro c h; cases h) hdst ⟨BWs_upd hB _ (by decide), rfl, fun _ _ _ q => q⟩
    | 11, _ =>
      intro o a' w' Dn hg' ho hdst hk hDi hcl hdep hB hV'
      have u0 : a'.eval (.tmp 13) = .pointer (some ⟨v, 0, none⟩) := hV' 0 (hdep 0 (by decide))
      have u1 : a'.eval (.tmp 14) = .int .i64 x := hV' 1 (hdep 1 (by decide))
      have u2 : a'.eval (.tmp 15) = .int .i64 b := hV' 2 (hdep 2 (by decide))
      have u3 : a'.eval (.tmp 23) = recV (.shard s) := hV' 10 (hdep 10 (by decide))
      have hA : ArrAt w' p A F := by have := hB.1; unfold arWs at this; rw [if_neg (by rw [hDi]; decide)] at this; exact this
      have hVw := hV.turn hF hB.2 hA
      refine opI_call (f := 62) (args := #[.pointer (some ⟨v, 0, none⟩), .int .i64 x, .int .i64 b, recV (.shard s)]) (w1 := w') (by simp only [execOp, show o.op = Op.call { callee := Callee.value (Operand.func 62), args := #[Operand.tmp 13, Operand.tmp 14, Operand.tmp 15, Operand.tmp 23], argTypes := #[59, 3, 3, 125] } from ho]; go_simp; exact ⟨by simpa [Act.eval] using u0, by simpa [Act.eval] using u1, by simpa [Act.eval] using u2, by simpa [Act.eval] using u3⟩) (by rw [ho]; intro c h; cases h) hdst (volWrite_ok hVw.vol hA hf x b hx hb hw hl (.shard s) hok (makes_shard hok) hVw.laid hF.g hF.v) ?_
      rintro e w'' ⟨rfl, hA', hO'⟩
      refine ⟨_, rfl, ⟨?_, hB.2.trans hO'⟩, rfl, fun _ _ _ q => q⟩
      have e : arWs A x b (.shard s) (upd Dn 11) = (A.setBlk x b (Rec.shard s).blk).setBad x b false := by unfold arWs upd; rw [if_pos (by rw [if_pos rfl])]
      rw [e]; exact hA'
    | 12, _ =>
      intro o a' w' Dn hg ho hdst hk hDi hcl hdep hB hV'
      have u0 : a'.eval (.tmp 24) = .nilIface := hV' 11 (hdep 11 (by decide))
      exact opI_val (v := .bool false) (by simp only [execOp, show o.op = Op.binOp BinOp.neq 29 (Operand.tmp 24) (Operand.const Value.nilIface) 29 from ho, u0]; go_simp) (by rw [ho]; intro c h; cases h) hdst ⟨BWs_upd hB _ (by decide), rfl, fun _ _ _ q => q⟩
    | n + 13, hn => exact absurd hn (by show ¬ n + 13 < 13; omega)
  · rintro a' w' hk' _ ⟨Dn, hD, hB⟩ hV'
    have e : arWs A x b (.shard s) Dn = (A.setBlk x b (Rec.shard s).blk).setBad x b false := by unfold arWs; rw [if_pos (hD 11 (by decide))]
    have hA := hB.1
    rw [e] at hA
    have e : a' = Act.putFrom a 13 (((List.range 12).map fun i => a'.eval (.tmp (13 + i))) ++ [.bool false]) := hk'.out _ (by simp) (by omega) (fun i hi => by
      simp at hi
      by_cases hi12 : i = 12
      · subst hi12
        have := hV' 12 (by decide)
        simpa [slotD, shAt, shWs, vsWs] using this
      · rw [List.getD_eq_getElem?_getD, List.getElem?_append_left (by simp; omega), List.getElem?_map, List.getElem?_range (by omega)]; rfl)
    rw [e]
    exact hQ w' _ (by rw [List.length_map, List.length_range]) hA hB.2
theorem list12 {vs : List Value} (h : vs.length = 12) : ∃ x0 x1 x2 x3 x4 x5 x6 x7 x8 x9 xa xb, vs = [x0, x1, x2, x3, x4, x5, x6, x7, x8, x9, xa, xb] := by
  match vs, h with
  | [x0, x1, x2, x3, x4, x5, x6, x7, x8, x9, xa, xb], _ => exact ⟨x0, x1, x2, x3, x4, x5, x6, x7, x8, x9, xa, xb, rfl⟩
/-- what lies in the blocks of WriteShards, when some drives are written -/
structure WsI (w : World) (v p b g m c : Nat) (R : List (List Nat)) (A : Arr) (F : Foot) (B S : Nat) (pre : List (Mb S)) (X : World) : Prop where
  b0 : Boxed X w.heap.size 59 (.pointer (some ⟨v, 0, none⟩))
  b1 : Boxed X (w.heap.size + 1) 3 (.int .i64 b)
  b2 : Boxed X (w.heap.size + 1 + 1) 132 (.slice (some ⟨g, 0, none⟩) m c)
  b3 : Boxed X (w.heap.size + 1 + 1 + 1) 89 (.int .u64 0)
  arr : ArrAt X p (A.putAt (preM pre) b (fun i => (Rec.shard (R.getD i [])).blk)) F
  out : Outside (F.has p A.n) w X
  size : B ≤ X.heap.size
theorem WsI.own {w : World} {v p b g m c : Nat} {R : List (List Nat)} {A : Arr} {F : Foot} {B S : Nat} (hB : w.heap.size + 4 ≤ B) (hF : ∀ k, F.has p A.n k → k < w.heap.size) : OwnFrom B (WsI w v p b g m c R A F B S) := by
  rintro pre X Y row ⟨h0, h1, h2, h3, h4, h5, h6⟩ hg hr
  have hk : ∀ k, k < w.heap.size + 4 → Y.heap[k]? = X.heap[k]? := fun k hk => hg.block k (by omega) (fun e => by have := (hr k e.symm).1; omega)
  have hO : Outside (F.has p A.n) w Y := h5.later (T := fun k => w.heap.size ≤ k) ⟨hg.os, hg.tape, hg.output, hg.size, fun k hk1 hk2 => hk k (by omega)⟩ (fun k hk1 hk2 => by omega)
  exact ⟨(hk _ (by omega)).trans h0, (hk _ (by omega)).trans h1, (hk _ (by omega)).trans h2, (hk _ (by omega)).trans h3, h4.keep fun k hk' => hk k (by have := hF k hk'; omega), hO, Nat.le_trans h6 hg.size⟩
set_option maxRecDepth 100000 in
set_option maxHeartbeats 4000000 in
theorem writeShards_ok {w : World} {v p D L G ps ho : Nat} {A : Arr} {F : Foot} (hV : Vol w v p D L G ps ho A F) (hF : Free F p A.n v) (hf : A.fit) (b S : Nat) (hb : b < A.nb) (hS : S < 65536) (hSn : ∀ i, i ∈ mems S → i < A.n) (hw : A.wait < 0) (hl : ∀ i, i ∈ mems S → A.lost i = false)
    {g m c base : Nat} {R : List (List Nat)} (hR : Rws w base g R) (hSR : ∀ i, i ∈ mems S → i < R.length) (hm : R.length ≤ m) (hbase : ∀ k, F.has p A.n k → k < base) :
    Calls Tryz.prog 109 #[.pointer (some ⟨v, 0, none⟩), .int .i64 b, .slice (some ⟨g, 0, none⟩) m c, .int .u64 S] w fun e w' => e = .returned (.int .u64 0) ∧ ArrAt w' p (A.putAt (mems S) b (fun i => (Rec.shard (R.getD i [])).blk)) F ∧ Outside (F.has p A.n) w w' := by
  obtain ⟨n, HN⟩ : ∃ n : Nat, Hid (9 ≤ n) := ⟨9, Nat.le_refl _⟩
  have hFl : ∀ k, F.has p A.n k → k < w.heap.size := fun k hk => hV.arr.has_lt hk
  have hbok : ∀ i, i ∈ mems S → (Rec.shard (R.getD i [])).ok := fun i hi => by
    have hiR := hSR i hi
    obtain ⟨_, _, _, _, _, _, _, q1, q2⟩ := hR.2.2 i hiR
    have e : R.getD i [] = R[i] := by simp [hiR]
    rw [e]; exact ⟨q1, q2⟩
  refine (callsIn_wide (n := n)).1 ?_
  refine callsIn_of_wp_marks Tryz.func109 rfl trivial ?_ rfl
  simp only [Tryz.ntmps109, List.size_toArray, List.length_cons, List.length_nil, Nat.reduceAdd, Nat.reduceSub, Array.replicate_succ, Array.replicate_zero, List.push_toArray, List.append_toArray, List.nil_append, List.cons_append]
  gi_wp2
  obtain ⟨w4, hw4⟩ : ∃ w4, (((w.alloc (.cells #[.pointer (some ⟨v, 0, none⟩)] 59)).alloc (.cells #[.int .i64 (b : Int)] 3)).alloc (.cells #[.slice (some ⟨g, 0, none⟩) m c] 132)).alloc (.cells #[.int .u64 0] 89) = w4 := ⟨_, rfl⟩
  have h0 : Boxed w4 w.heap.size 59 (.pointer (some ⟨v, 0, none⟩)) := by rw [← hw4]; exact (((Boxed.new w _ _).alloc _).alloc _).alloc _
  have h1 : Boxed w4 (w.heap.size + 1) 3 (.int .i64 b) := by
    rw [← hw4]
    have := Boxed.new (w.alloc (.cells #[.pointer (some ⟨v, 0, none⟩)] 59)) 3 (.int .i64 b)
    rw [World.size_alloc] at this
    exact (this.alloc _).alloc _
  have h2 : Boxed w4 (w.heap.size + 1 + 1) 132 (.slice (some ⟨g, 0, none⟩) m c) := by
    rw [← hw4]
    have := Boxed.new ((w.alloc (.cells #[.pointer (some ⟨v, 0, none⟩)] 59)).alloc (.cells #[.int .i64 (b : Int)] 3)) 132 (.slice (some ⟨g, 0, none⟩) m c)
    rw [World.size_alloc, World.size_alloc] at this
    exact this.alloc _
  have h3 : Boxed w4 (w.heap.size + 1 + 1 + 1) 89 (.int .u64 0) := by
    rw [← hw4]
    have := Boxed.new (((w.alloc (.cells #[.pointer (some ⟨v, 0, none⟩)] 59)).alloc (.cells #[.int .i64 (b : Int)] 3)).alloc (.cells #[.slice (some ⟨g, 0, none⟩) m c] 132)) 89 (.int .u64 0)
    rw [World.size_alloc, World.size_alloc, World.size_alloc] at this
    exact this
  have hz4 : w4.heap.size = w.heap.size + 4 := by rw [← hw4]; simp
  have hb4 : Below w.heap.size w w4 := by rw [← hw4]; exact ((((Below.refl _ w).alloc (Nat.le_refl _) _).alloc (by simp) _).alloc (by simp; omega) _).alloc (by simp; omega) _
  rw [hw4]
  clear hw4
  refine at_wide (members_any S w4) ?_
  rintro e w' ⟨rfl, rfl⟩
  have hz6 : (w4.alloc (.cells #[.int .u64 (S : Int)] 89)).heap.size = w4.heap.size + 1 := by simp
  have hc6 : (w4.alloc (.cells #[.int .u64 (S : Int)] 89)).cell? ⟨w4.heap.size, 0, none⟩ = some (.int .u64 (S : Int)) := (Boxed.new w4 89 (.int .u64 (S : Int))).cell
  have hb6 : Below w.heap.size w (w4.alloc (.cells #[.int .u64 (S : Int)] 89)) := hb4.alloc (by omega) _
  have hi6 : WsI w v p b g m c R A F (w4.heap.size + 1) S [] (w4.alloc (.cells #[.int .u64 (S : Int)] 89)) :=
    ⟨h0.alloc _, h1.alloc _, h2.alloc _, h3.alloc _, by rw [show preM ([] : List (Mb S)) = [] from rfl, putAt_nil]; exact hV.arr.below hb6 (Nat.le_refl _), Outside.of_all hb6 _, by omega⟩
  obtain ⟨w6, hw6⟩ : ∃ w6, w4.alloc (.cells #[.int .u64 (S : Int)] 89) = w6 := ⟨_, rfl⟩
  have HC6 := hide hc6
  have HI6 := hide (And.intro hi6 hb6)
  have HZ4 := hide hz4
  clear hc6 hi6 h0 h1 h2 h3 hb4 hb6 hz4
  gi_wp2
  obtain ⟨hz4, hz4'⟩ : w.heap.size + 4 ≤ w4.heap.size ∧ w4.heap.size ≤ w.heap.size + 4 := by have := HZ4.out; omega
  rw [hw6] at hz6 HC6 HI6
  clear hw6
  rw [← hz6] at HI6
  refine wpIn_rangeFunc_ownG rfl (by have := HN.out; omega) (gf := 85) (lb := #[.pointer (some ⟨w4.heap.size, 0, none⟩)]) rfl trivial (enters_of Tryz.func85 (by kernel_rfl) rfl)
    (members_mb (n - 1) w4.heap.size S hS w6 (by omega) HC6.out (by have := hV.room; omega) (hV.tab.mono (by exact hV.tab.lt) HI6.out.2)) (fun h k => kpT_t h k) (kpT_b (by have := hV.room; omega)) (Below.refl _ _) (fun _ => rfl)
    (WsI w v p b g m c R A F w6.heap.size S) (fun _ _ _ => False) (WsI.own (by omega) hFl) (fun _ _ _ _ _ h _ _ => h.elim) HI6.out.1
    (fun x => { tmps := #[.pointer (some ⟨v, 0, none⟩), .int .i64 (b : Int), .slice (some ⟨g, 0, none⟩) m c, .int .u64 (S : Int), .pointer (some ⟨w.heap.size, 0, none⟩), .pointer (some ⟨w.heap.size + 1, 0, none⟩), .pointer (some ⟨w.heap.size + 1 + 1, 0, none⟩), undef, .pointer (some ⟨w.heap.size + 1 + 1 + 1, 0, none⟩), .int .i64 (x.1 : Int), .int .u64 (S : Int), .func (.func 85) #[] #[.pointer (some ⟨w4.heap.size, 0, none⟩)], .int .i64 (x.1 : Int), undef, undef, undef, undef, undef, undef, undef, undef, undef, undef, undef, undef, undef, undef, undef, undef, undef], defers := [] }) ?assign ?body ?done ?stop
  case assign =>
    intro l2 x X Kk hK
    unfold encMb
    gi_wp2
    exact hK
  case body =>
    rintro l2 pre x X hi hlen
    have hxm : x.1 ∈ mems S := mem_mems.2 x.2
    have hVX := hV.turn hF hi.out hi.arr
    have hRX : Rws X base g R := hR.keep hi.out.size (fun k hk hkz => hi.out.block k hkz (fun q => by have := hbase k q; omega))
    have h4 := hi.b3.lt
    have HI := hide (And.intro hi (And.intro hVX hRX))
    clear hlen hi hVX hRX
    gi_wp2
    obtain ⟨hi, hVX, hRX⟩ := HI.out
    refine writeShards_region (by kernel_rfl) hVX hF (hf.putAt _ _ _ fun i hi' => ?_) x.1 b (hSn _ hxm) hb hw (hl _ hxm) hi.b0 hi.b1 hi.b2 hRX (hSR _ hxm) hm (fun k q => ?_) rfl rfl rfl rfl rfl ?_
    · refine ⟨blk_len (hbok i ?_), blk_lt (hbok i ?_)⟩
      all_goals
        unfold preM at hi'
        rw [List.mem_map] at hi'
        obtain ⟨y, _, rfl⟩ := hi'
        exact mem_mems.2 y.2
    · have h1 : k < w.heap.size := hFl k q
      exact ⟨hbase k q, by omega, by omega, by omega⟩
    intro w2 vs hvs hA2 hO2
    rw [putAt_snoc A (preM pre) x.1 b (fun i => (Rec.shard (R.getD i [])).blk)] at hA2
    obtain ⟨x0, x1, x2, x3, x4, x5, x6, x7, x8, x9, xa, xb, rfl⟩ := list12 hvs
    have hsz : ∀ k, w.heap.size ≤ k → k < X.heap.size → w2.heap[k]? = X.heap[k]? := fun k hk hkX => hO2.block k hkX (fun q => by have := hFl k q; omega)
    have H2 := hide (And.intro hA2 (And.intro hO2 hsz))
    clear hA2 hO2 hsz hi hVX hRX hvs
    rename_i hK
    refine hK _ _ ?_
    clear hK
    simp only [Act.putFrom, Act.put, List.setIfInBounds_toArray, List.set_cons_succ, List.set_cons_zero, List.cons_append, List.nil_append]
    gi_wp2
    obtain ⟨hA2, hO2, hsz⟩ := H2.out
    have hi := HI.out.1
    have hO : Outside (F.has p A.n) w w2 := hi.out.trans hO2
    refine ⟨⟨hO2.size, fun k o hk ho _ => (hsz k (by omega) (Array.getElem?_eq_some_iff.1 ho).1).trans ho⟩, fun _ => hV.tab.keep (hO.block _ hV.tab.lt hF.t), ?_⟩
    exact ⟨(hsz _ (by omega) (by omega)).trans hi.b0, (hsz _ (by omega) (by omega)).trans hi.b1, (hsz _ (by omega) (by omega)).trans hi.b2, (hsz _ (by omega) (by omega)).trans hi.b3, by rw [preM_snoc]; exact hA2, hO, Nat.le_trans hi.size hO2.size⟩
  case done =>
    rintro D' xs X hD' hxs hi hK
    have c3 := hi.b3.cell
    have f3 := hi.b3.frozen
    have HI := hide (And.intro hi hK)
    clear hi hK
    gi_wp2
    obtain ⟨hi, hK⟩ := HI.out
    have hxs' : preM xs = mems S := hxs
    have hb3 := hi.b3.set (.int .u64 0)
    have hko := KeepsOthers.setCell X ⟨w.heap.size + 1 + 1 + 1, 0, none⟩ (.int .u64 0)
    have hK9 := hko.same D' _ hK rfl
    have hDX := (Array.getElem?_eq_some_iff.1 hK).1
    refine end_cell (b := w.heap.size + 1 + 1 + 1) (t8 := 8) Tryz.results109 rfl rfl (load_set (s := 0) hb3) hK9 (by omega) ⟨rfl, ?_, ?_⟩
    · have h4 := hi.arr
      rw [hxs'] at h4
      exact h4.keep fun k hk => by have := hFl k hk; exact (World.putObj_heap_other (by omega)).trans (blk_setCell_other _ _ _ _ (by show k ≠ w.heap.size + 1 + 1 + 1; omega))
    · exact hi.out.later (T := fun k => w.heap.size ≤ k) ⟨rfl, rfl, rfl, by simp [World.setCell, World.putObj], fun k _ hk2 => (World.putObj_heap_other (by omega)).trans (blk_setCell_other _ _ _ _ (by show k ≠ w.heap.size + 1 + 1 + 1; omega))⟩ (fun k hk1 hk2 => by omega)
  case stop =>
    rintro D' cc pre X hD' hpre hx hK
    exact hx.elim
end Go.Proofs.YtogdeaaphdlchaaGreatDoor
/-
  slices.Chunk of bytes by 44, its iterator and its contract; slices.Collect of it.
-/
namespace Go.Proofs.YtogdeaaphdlchaaGreatDoor
open Go.RowKit Go.Shelf Go.Deep Gf

attribute [local go_sem] Oper.semAt_some
/-- a chunk's number -/
abbrev Ch (D : Nat) := { i : Nat // i < D }
def chV (g i : Nat) : Value := .slice (some ⟨g, i * 44, none⟩) 44 44
def encCh (g : Nat) {D : Nat} (x : Ch D) : Array Value := #[chV g x.1]
noncomputable def RCh : Array Oper := ((Tryz.f125.body.bind (rgf · 3))).getD #[]
def shCh : List (Op × Option Nat × List Nat) := [(Op.load 3 (Operand.tmp 2), some 13, []),
    (Op.load 166 (Operand.tmp 1), some 14, []),
    (Op.move (Operand.tmp 4), some 15, []),
    (Op.slice 166 (Operand.tmp 14) (some (Operand.tmp 15)) none none, some 16, [1, 2]),
    (Op.call { callee := Callee.builtin Builtin.len, args := #[Operand.tmp 16], argTypes := #[166] }, some 17, [3]),
    (Op.call { callee := Callee.builtin Builtin.min, args := #[Operand.tmp 13, Operand.tmp 17], argTypes := #[3, 3] }, some 18, [0, 4]),
    (Op.assign (Operand.tmp 18), some 5, [5, 0, 1, 2, 3, 4, 5])]
theorem RCh_shape : RegShape RCh 5 19 shCh := regShape (by kernel_rfl) (by kernel_rfl)
def vsCh (g D k : Nat) : List Value := [.int .i64 44, .slice (some ⟨g, 0, none⟩) (D * 44) (D * 44), .int .i64 (k * 44 : Nat), .slice (some ⟨g, k * 44, none⟩) (D * 44 - k * 44) (D * 44 - k * 44), .int .i64 (D * 44 - k * 44 : Nat), .int .i64 44, .int .i64 44]
set_option maxRecDepth 100000 in
set_option maxHeartbeats 1000000 in
theorem chunk_region {ops : Array Oper} {Q : Exit → Act → World → Prop} {a : Act} {w : World} {b1 b2 g D k : Nat} (hops : RCh = ops) (hk : k < D) (h1 : w.cell? ⟨b1, 0, none⟩ = some (.slice (some ⟨g, 0, none⟩) (D * 44) (D * 44))) (h2 : w.cell? ⟨b2, 0, none⟩ = some (.int .i64 44)) (hsz : a.tmps.size = 31)
    (e1 : a.eval (.tmp 1) = .pointer (some ⟨b1, 0, none⟩)) (e2 : a.eval (.tmp 2) = .pointer (some ⟨b2, 0, none⟩)) (e4 : a.eval (.tmp 4) = .int .i64 (k * 44 : Nat))
    (hQ : Q .normal (Act.putFrom a 5 [.int .i64 44, a.eval (.tmp 6), a.eval (.tmp 7), a.eval (.tmp 8), a.eval (.tmp 9), a.eval (.tmp 10), a.eval (.tmp 11), a.eval (.tmp 12), .int .i64 44, .slice (some ⟨g, 0, none⟩) (D * 44) (D * 44), .int .i64 (k * 44 : Nat), .slice (some ⟨g, k * 44, none⟩) (D * 44 - k * 44) (D * 44 - k * 44), .int .i64 (D * 44 - k * 44 : Nat), .int .i64 44]) w.drew) :
    (Code.region 3 ops true).wp Tryz.prog Q a w := by
  subst hops
  refine region_factsS (by kernel_rfl) RCh_shape a w (by omega) (fun i u _ => u = (vsCh g D k).getD i undef) (fun _ w' => w' = w.drew) rfl ?_ ?_
  · intro i hi
    have c1 : w.drew.cell? ⟨b1, 0, none⟩ = some (.slice (some ⟨g, 0, none⟩) (D * 44) (D * 44)) := h1
    have c2 : w.drew.cell? ⟨b2, 0, none⟩ = some (.int .i64 44) := h2
    match i, hi with
    | 0, _ =>
      intro o a' w' Dn hg ho hdst hk hDi hcl hdep hB hV'
      subst hB
      have u0 : a'.eval (.tmp 2) = .pointer (some ⟨b2, 0, none⟩) := (hk.slot 2 (by omega)).trans e2
      exact op_val (v := .int .i64 44) (by simp only [execOp, show o.op = Op.load 3 (.tmp 2) from ho, u0]; go_simp) hdst ⟨rfl, rfl, fun _ _ _ q => q⟩
    | 1, _ =>
      intro o a' w' Dn hg ho hdst hk hDi hcl hdep hB hV'
      subst hB
      have u0 : a'.eval (.tmp 1) = .pointer (some ⟨b1, 0, none⟩) := (hk.slot 1 (by omega)).trans e1
      exact op_val (v := .slice (some ⟨g, 0, none⟩) (D * 44) (D * 44)) (by simp only [execOp, show o.op = Op.load 166 (.tmp 1) from ho, u0]; go_simp) hdst ⟨rfl, rfl, fun _ _ _ q => q⟩
    | 2, _ => exact fun o a' w' Dn hg ho hdst hk hDi hcl hdep hB hV' => op_val (run_op_move ho ((hk.slot 4 (by omega)).trans e4) w') hdst ⟨hB, rfl, fun _ _ _ q => q⟩
    | 3, _ =>
      intro o a' w' Dn hg ho hdst hk' hDi hcl hdep hB hV'
      have u0 : a'.eval (.tmp 14) = .slice (some ⟨g, 0, none⟩) (D * 44) (D * 44) := hV' 1 (hdep 1 (by decide))
      have u1 : a'.eval (.tmp 15) = .int .i64 (k * 44 : Nat) := hV' 2 (hdep 2 (by decide))
      have hle : k * 44 < D * 44 := by omega
      have u1' : a'.tmps[15]?.getD undef = .int .i64 (k * 44 : Nat) := by simpa [Act.eval] using u1
      have hne : ¬ D * 44 = k * 44 := by omega
      refine op_val (v := .slice (some ⟨g, k * 44, none⟩) (D * 44 - k * 44) (D * 44 - k * 44)) ?_ hdst ⟨hB, rfl, fun _ _ _ q => q⟩
      simp only [execOp, show o.op = Op.slice 166 (Operand.tmp 14) (some (Operand.tmp 15)) none none from ho, u0]
      generalize k * 44 = kk at *
      generalize D * 44 = dd at *
      go_simp
      intro h
      omega
    | 4, _ =>
      intro o a' w' Dn hg ho hdst hk' hDi hcl hdep hB hV'
      have u0 : a'.eval (.tmp 16) = .slice (some ⟨g, k * 44, none⟩) (D * 44 - k * 44) (D * 44 - k * 44) := hV' 3 (hdep 3 (by decide))
      refine op_val (v := .int .i64 (D * 44 - k * 44 : Nat)) ?_ hdst ⟨hB, rfl, fun _ _ _ q => q⟩
      simp only [execOp, show o.op = Op.call { callee := Callee.builtin Builtin.len, args := #[Operand.tmp 16], argTypes := #[166] } from ho, resolve, invoke, builtin, Sem.run_bind, Sem.run_pure, Result.andThen_ok, List.map_toArray, List.map_cons, List.map_nil, u0]
      generalize D * 44 - k * 44 = dd at *
      go_simp
    | 5, _ =>
      intro o a' w' Dn hg ho hdst hk' hDi hcl hdep hB hV'
      have u0 : a'.eval (.tmp 13) = .int .i64 44 := hV' 0 (hdep 0 (by decide))
      have u1 : a'.eval (.tmp 17) = .int .i64 (D * 44 - k * 44 : Nat) := hV' 4 (hdep 4 (by decide))
      refine op_val (v := .int .i64 44) ?_ hdst ⟨hB, rfl, fun _ _ _ q => q⟩
      simp only [execOp, show o.op = Op.call { callee := Callee.builtin Builtin.min, args := #[Operand.tmp 13, Operand.tmp 17], argTypes := #[3, 3] } from ho, resolve, invoke, builtin, Sem.run_bind, Sem.run_pure, Result.andThen_ok, List.map_toArray, List.map_cons, List.map_nil, u0, u1, run_min_int]
      rw [if_neg (by omega)]
    | 6, _ =>
      intro o a' w' Dn hg ho hdst hk' hDi hcl hdep hB hV'
      have u0 : a'.eval (.tmp 18) = .int .i64 44 := hV' 5 (hdep 5 (by decide))
      exact op_val (v := .int .i64 44) (by simp [execOp, show o.op = Op.assign (.tmp 18) from ho, u0]) hdst ⟨hB, rfl, fun _ _ _ q => q⟩
    | n + 7, hn => exact absurd hn (by show ¬ n + 7 < 7; omega)
  · rintro a' w' hk' hsame ⟨Dn, hD, hB⟩ hV'
    subst hB
    have e : a' = Act.putFrom a 5 [.int .i64 44, a.eval (.tmp 6), a.eval (.tmp 7), a.eval (.tmp 8), a.eval (.tmp 9), a.eval (.tmp 10), a.eval (.tmp 11), a.eval (.tmp 12), .int .i64 44, .slice (some ⟨g, 0, none⟩) (D * 44) (D * 44), .int .i64 (k * 44 : Nat), .slice (some ⟨g, k * 44, none⟩) (D * 44 - k * 44) (D * 44 - k * 44), .int .i64 (D * 44 - k * 44 : Nat), .int .i64 44] := hk'.out _ rfl (by omega) (fun i hi => ?_)
    · rw [e]; exact hQ
    · match i, hi with
      | 0, _ => exact hV' 6 (by decide)
      | 1, _ => exact hsame 6 (by decide)
      | 2, _ => exact hsame 7 (by decide)
      | 3, _ => exact hsame 8 (by decide)
      | 4, _ => exact hsame 9 (by decide)
      | 5, _ => exact hsame 10 (by decide)
      | 6, _ => exact hsame 11 (by decide)
      | 7, _ => exact hsame 12 (by decide)
      | 8, _ => exact hV' 0 (by decide)
      | 9, _ => exact hV' 1 (by decide)
      | 10, _ => exact hV' 2 (by decide)
      | 11, _ => exact hV' 3 (by decide)
      | 12, _ => exact hV' 4 (by decide)
      | 13, _ => exact hV' 5 (by decide)
      | n + 14, hn => exact absurd hn (by simp)
/-- what a round must leave: the iterator's own variables -/
def Kp2 (b1 b2 : Nat) (W W' : World) : Prop := W'.heap[b1]? = W.heap[b1]? ∧ W'.heap[b2]? = W.heap[b2]?
set_option maxRecDepth 100000 in
set_option maxHeartbeats 2000000 in
theorem chunks1_in (n l b1 b2 g D : Nat) (hD : D ≤ 1000) (J Jx : List (Ch D) → World → Prop) (hJd : ∀ pre W, J pre W → J pre W.drew)
    (hY : ∀ pre x W, J pre W → pre.length < D → YieldAt Fence.wide (n - 1) Tryz.prog l (encCh g x) W fun e W' =>
      (e = .returned (.bool true) ∧ J (pre ++ [x]) W' ∧ Kp2 b1 b2 W W') ∨ (e = .returned (.bool false) ∧ Jx (pre ++ [x]) W'))
    (W : World) (h1 : W.cell? ⟨b1, 0, none⟩ = some (.slice (some ⟨g, 0, none⟩) (D * 44) (D * 44))) (h2 : W.cell? ⟨b2, 0, none⟩ = some (.int .i64 44)) (h0 : J [] W) :
    CallsIn Fence.wide n Tryz.prog 125 #[.func (.yield l) #[] #[], .pointer (some ⟨b1, 0, none⟩), .pointer (some ⟨b2, 0, none⟩)] W fun e W' => (∃ v, e = .returned v) ∧
      ((∃ ys, ys.map (·.1) = List.range D ∧ J ys W') ∨ (∃ pre, pre.map (·.1) <+: List.range D ∧ Jx pre W')) := by
  refine callsIn_of_wp Tryz.func125 rfl trivial ?_ rfl
  simp only [Tryz.ntmps125, List.size_toArray, List.length_cons, List.length_nil, Nat.reduceAdd, Nat.reduceSub, Array.replicate_succ, Array.replicate_zero, List.push_toArray, List.append_toArray, List.nil_append, List.cons_append]
  gi_wp2
  gi_loopw [4] (fun p wr => ∃ (pre : List (Ch D)) (k : Nat), p = .int .i64 (k * 44 : Nat) ∧ k ≤ D ∧ pre.map (·.1) = List.range k ∧ J pre wr ∧ wr.cell? ⟨b1, 0, none⟩ = some (.slice (some ⟨g, 0, none⟩) (D * 44) (D * 44)) ∧ wr.cell? ⟨b2, 0, none⟩ = some (.int .i64 44))
    (fun p _ => D * 44 - (intOf p).toNat)
  case atStart =>
    exact ⟨[], 0, rfl, Nat.zero_le _, rfl, h0, h1, h2⟩
  case round =>
    obtain ⟨pre, k, rfl, hkD, hpre, hJ, c1, c2⟩ := hrel
    have hlen : pre.length = k := by have := congrArg List.length hpre; simpa using this
    by_cases hk : k < D
    · have hlt : ((k * 44 : Nat) : Int) < ((D * 44 : Nat) : Int) := by omega
      have c1' : wr.drew.cell? ⟨b1, 0, none⟩ = some (.slice (some ⟨g, 0, none⟩) (D * 44) (D * 44)) := c1
      have c2' : wr.drew.cell? ⟨b2, 0, none⟩ = some (.int .i64 44) := c2
      obtain ⟨fn, tmps, assign, body, hy, hR⟩ := hY pre ⟨k, hk⟩ wr.drew (hJd _ _ hJ) (by omega)
      unfold encCh chV at hy
      simp only at hy
      have H := hide (And.intro hR (And.intro hJ (And.intro hpre hlen)))
      clear hR hJ hpre hlen
      gi_wp2
      refine wpIn_wide.2 (chunk_region (by kernel_rfl) hk c1 c2 rfl rfl rfl rfl ?_)
      rename_i hK
      refine hK _ _ ?_
      clear hK
      simp only [Act.putFrom, Act.put, List.setIfInBounds_toArray, List.set_cons_succ, List.set_cons_zero]
      have hend : wrap64 (((k * 44 : Nat) : Int) + 44) = ((k * 44 + 44 : Nat) : Int) := by unfold wrap64; omega
      have hsub : k * 44 + 44 - k * 44 = 44 := by omega
      have hb3 : k * 44 + 44 ≤ D * 44 := by omega
      have hb4 : ¬ ((D * 44 : Nat) : Int) < ((k * 44 + 44 : Nat) : Int) := by omega
      have hb5 : ¬ ((k * 44 + 44 : Nat) : Int) < ((k * 44 : Nat) : Int) := by omega
      have hb6 : ¬ k * 44 + 44 = k * 44 := by omega
      generalize hkk : k * 44 = kk at *
      generalize hdd : D * 44 = dd at *
      generalize hee : kk + 44 = ee at *
      gi_wp2
      refine ⟨fun h => (by cases h), H.out.1.mono ?_⟩
      rintro e W3 (⟨rfl, hJ3, hK3⟩ | ⟨rfl, hJx3⟩)
      · have d1 : W3.cell? ⟨b1, 0, none⟩ = some (.slice (some ⟨g, 0, none⟩) dd dd) := (World.cell?_of_block hK3.1).trans c1'
        have d2 : W3.cell? ⟨b2, 0, none⟩ = some (.int .i64 44) := (World.cell?_of_block hK3.2).trans c2'
        have HJ := hide hJ3
        clear hJ3
        gi_wp2
        go_roundw
        case rel => exact ⟨pre ++ [⟨k, hk⟩], k + 1, by rw [show (k + 1) * 44 = ee by omega]; congr 1; omega, by omega, by rw [List.map_append, H.out.2.2.1, List.range_succ]; rfl, HJ.out, by rw [hdd]; exact d1, d2⟩
        case measure => simp only [intOf]; omega
      · have HJ := hide hJx3
        clear hJx3
        gi_wp2
        refine bodyPost_ret (results_none rfl _ _ _) rfl ?_
        refine ⟨⟨_, rfl⟩, .inr ⟨pre ++ [⟨k, hk⟩], ?_, HJ.out⟩⟩
        rw [List.map_append, H.out.2.2.1]
        refine ⟨(List.range D).drop (k + 1), ?_⟩
        show List.range k ++ [k] ++ _ = _
        rw [← List.range_succ]
        have : List.range (k + 1) = (List.range D).take (k + 1) := by rw [List.take_range, Nat.min_eq_left (by omega)]
        rw [this, List.take_append_drop]
    · have hkk : k = D := by omega
      subst hkk
      gi_wp2
      go_end0
      exact ⟨⟨_, rfl⟩, .inl ⟨pre, hpre, hJ⟩⟩
/-- the contract -/
theorem chunks_stops (n b1 b2 g D : Nat) (hD : D ≤ 1000) (w : World) (hb1 : b1 < w.heap.size) (hb2 : b2 < w.heap.size) (h1 : w.cell? ⟨b1, 0, none⟩ = some (.slice (some ⟨g, 0, none⟩) (D * 44) (D * 44))) (h2 : w.cell? ⟨b2, 0, none⟩ = some (.int .i64 44)) :
    SeqStopsK Fence.wide n Tryz.prog 125 #[.pointer (some ⟨b1, 0, none⟩), .pointer (some ⟨b2, 0, none⟩)] (encCh g (D := D)) (Kp2 b1 b2) (fun ys => ys.map (·.1) = List.range D) (fun pre => pre.map (·.1) <+: List.range D) D w := fun l J Jx W hW hJ _ hY h0 =>
  chunks1_in n l b1 b2 g D hD J Jx (fun pre X h => hJ pre X X.drew none h ⟨rfl, rfl, rfl, Nat.le_refl _, fun _ _ _ => rfl⟩ (fun r e => by cases e)) hY W ((hW.cell (p := ⟨b1, 0, none⟩) hb1).trans h1) ((hW.cell (p := ⟨b2, 0, none⟩) hb2).trans h2) h0
set_option maxHeartbeats 1000000 in
theorem chunk_any (g D : Nat) (w : World) :
    Calls Tryz.prog 121 #[.slice (some ⟨g, 0, none⟩) (D * 44) (D * 44), .int .i64 44] w fun e w' => e = .returned (.func (.func 125) #[] #[.pointer (some ⟨w.heap.size, 0, none⟩), .pointer (some ⟨w.heap.size + 1, 0, none⟩)]) ∧ w' = (w.alloc (.cells #[.slice (some ⟨g, 0, none⟩) (D * 44) (D * 44)] 166)).alloc (.cells #[.int .i64 44] 3) := by
  generalize D * 44 = dd
  have hmf : ∀ (fn : Fn) (first cap : Array Value) (w : World), (Instr.makeFunc fn first cap).run Tryz.prog w = .ok (.func fn first cap) w := fun _ _ _ _ => rfl
  go_enter Tryz.func121, Tryz.ntmps121
  go_wp2
  go_ret
  exact ⟨rfl, rfl⟩
end Go.Proofs.YtogdeaaphdlchaaGreatDoor
/-
  Powered: what is to be done with a volume, where the power is not cut.
-/
namespace Go.Proofs.YtogdeaaphdlchaaGreatDoor
open Go.RowKit Go.Deep

set_option maxRecDepth 100000 in
set_option maxHeartbeats 1000000 in
/-- the deferred closure, where nothing panics -/
theorem catch_idle (p : Addr) (w : World) : CallsD Tryz.prog 40 #[.pointer (some p)] .returning w fun e u' w' => e = .returned (.tuple #[]) ∧ u' = .returning ∧ w' = w := by
  refine callsD_of_wpS Tryz.func40 rfl fun c₀ cs hu => ?_
  have hn : ∀ w, (binOp .eql 20 .nilIface .nilIface).run Tryz.prog w = .ok (.bool true) w := fun w => by
    have he0 : ∀ d, (Op.equalIn (d + 1) 20 .nilIface .nilIface).run Tryz.prog w = .ok true w := fun d => by
      simp only [Op.equalIn, Sem.run_bind, run_underlying Tryz.underlying20, Result.andThen_ok]
      rfl
    have he := he0 9999
    simp only [binOp]
    simp [Op.equal, Op.maxDepth, he]
  apply wpS_seq
  apply wpS_region
  generalize hN : Code.wpS Tryz.prog _ _ = N
  simp [wpOpsS, go_sem, recoverD, hu, Tryz.ntmps40, Exit.thenS]
  rw [← hN]
  clear hN
  refine wpS_of_wp ?_
  simp only [Array.replicate_succ, Array.replicate_zero, List.push_toArray, List.nil_append, List.cons_append, List.setIfInBounds_toArray, List.set_cons_succ, List.set_cons_zero, List.append_toArray]
  go_wp2
  cases c₀
  simp_all [bodyPostS, results, Tryz.results40]
/-- an error's value -/
def isErr (v : Value) : Prop := v = .nilIface ∨ ∃ t u, v = .iface t u
set_option maxRecDepth 100000 in
set_option maxHeartbeats 1000000 in
theorem powered_ok (k : FuncId) (first cap : Array Value) (hcf : ∀ (args : Array Value) (w : World), (callFunc k args).run Tryz.prog w = .ok (.enter k args) w) (w : World) (R : World → Value → World → Prop)
    (hdo : ∀ w1, Below w.heap.size w w1 → w1.heap.size = w.heap.size + 1 → Calls Tryz.prog k (first ++ cap) w1 fun e w2 => ∃ v, e = .returned v ∧ isErr v ∧ R w1 v w2 ∧ w2.heap[w.heap.size]? = w1.heap[w.heap.size]?) :
    Calls Tryz.prog 27 #[.func (.func k) first cap] w fun e w' => ∃ v w1 w2, e = .returned v ∧ isErr v ∧ Below w.heap.size w w1 ∧ w1.heap.size = w.heap.size + 1 ∧ R w1 v w2 ∧ w' = w2.setCell ⟨w.heap.size, 0, none⟩ v := by
  have hmf : ∀ (fn : Fn) (first cap : Array Value) (w : World), (Instr.makeFunc fn first cap).run Tryz.prog w = .ok (.func fn first cap) w := fun _ _ _ _ => rfl
  have hc := hdo (w.alloc (.cells #[.nilIface] 29)) ((Below.refl _ w).alloc (Nat.le_refl _) _) (by simp)
  have hcell : (w.alloc (.cells #[.nilIface] 29)).heap[w.heap.size]? = some (.cells #[.nilIface] 29 (0, 0)) := blk_alloc_new _ _
  go_enter_defers Tryz.func27, Tryz.ntmps27
  go_wp2_with fail
  refine hc.mono ?_
  clear hc
  rintro e w2 ⟨v, rfl, hv, hR, hsame⟩
  have ht : w2.heap[w.heap.size]? = some (.cells #[.nilIface] 29 (0, 0)) := hsame.trans hcell
  have c2 : w2.cell? ⟨w.heap.size, 0, none⟩ = some .nilIface := by simp [World.cell?, ht]
  have f2 : w2.frozen? ⟨w.heap.size, 0, none⟩ = false := by simp [World.frozen?, ht]
  have c3 : (w2.setCell ⟨w.heap.size, 0, none⟩ v).cell? ⟨w.heap.size, 0, none⟩ = some v := by simp [World.cell?, World.setCell, Array.getElem?_modify, ht]
  have H := hide (And.intro hR hv)
  clear hR hsame ht hcell hdo
  rcases hv with rfl | ⟨t, u, rfl⟩
  · go_wp2
    refine leaves_cons (f := 40) (args := #[.pointer (some ⟨w.heap.size, 0, none⟩)]) (by simp) (by simp [go_sem]) ?_
    refine (catch_idle ⟨w.heap.size, 0, none⟩ _).mono ?_
    rintro e u' w'' ⟨rfl, rfl, rfl⟩
    refine ⟨.nilIface, by simp [results, Tryz.results27, go_sem, c3], _, _, w2, rfl, .inl rfl, (Below.refl _ w).alloc (Nat.le_refl _) (.cells #[.nilIface] 29), by simp, H.out.1, rfl⟩
  · go_wp2
    refine leaves_cons (f := 40) (args := #[.pointer (some ⟨w.heap.size, 0, none⟩)]) (by simp) (by simp [go_sem]) ?_
    refine (catch_idle ⟨w.heap.size, 0, none⟩ _).mono ?_
    rintro e u' w'' ⟨rfl, rfl, rfl⟩
    refine ⟨.iface t u, by simp [results, Tryz.results27, go_sem, c3], _, _, w2, rfl, .inr ⟨t, u, rfl⟩, (Below.refl _ w).alloc (Nat.le_refl _) (.cells #[.nilIface] 29), by simp, H.out.1, rfl⟩
end Go.Proofs.YtogdeaaphdlchaaGreatDoor
