import Derived.Test.YtpaemkanfnddoaaGreatDoorM46
set_option maxRecDepth 100000
set_option maxHeartbeats 8000000
namespace Go.Proofs.YtpaemkanfnddoaaGreatDoor
open Go.RowKit Go.Deep
variable {E F : Foot} {P : List Nat} {os : List Ob} {n t q p c D L G : Nat} {xs : Obs} {w wr : World}
section
open Gf
def LiS (w : World) (g : Nat) (os : List Ob) (i : Value) (wr : World) : Prop :=
 ∃ k : Nat, k ≤ os.length ∧ i = .int .i64 (k : Nat) ∧ Below w.heap.size w wr ∧ ∃ cur : List Value, RowC wr g 65 cur ∧ os.length * 2 ≤ cur.length ∧ ∀ j (hj : j < os.length), k ≤ j → cur[j * 2]? = some (.string os[j].name) ∧ cur[j * 2 + 1]? = some (.int .i64 (os[j].size : Nat))
theorem enc2_get : ∀ (os : List Ob) (j : Nat) (hj : j < os.length), (enc2 os)[j * 2]? = some (.string os[j].name) ∧ (enc2 os)[j * 2 + 1]? = some (.int .i64 (os[j].size : Nat))
 | [], j, hj => absurd hj (by simp)
 | o :: os, 0, _ => ⟨rfl, rfl⟩
 | o :: os, j + 1, hj => by
  have e : enc2 (o :: os) = [.string o.name, .int .i64 (o.size : Nat)] ++ enc2 os := by unfold enc2; rw [List.flatMap_cons]; rfl
  obtain ⟨h1, h2⟩ := enc2_get os j (by simpa using hj)
  rw [e]
  refine ⟨?_, ?_⟩
  · rw [List.getElem?_append_right (by simp; omega), show (j + 1) * 2 - [Value.string o.name, .int .i64 (o.size : Nat)].length = j * 2 by simp; omega]; exact h1
  · rw [List.getElem?_append_right (by simp; omega), show (j + 1) * 2 + 1 - [Value.string o.name, .int .i64 (o.size : Nat)].length = j * 2 + 1 by simp; omega]; exact h2
theorem LiS.start {base : Nat} {u : Value} (h : wr.ownsRow base 65 2 u n (enc2 os)) (hn : os.length = n) (h0 : 0 < n) (hb : Below w.heap.size w wr) (hB : w.heap.size ≤ base) : ∃ g cap, u = .slice (some ⟨g, 0, none⟩) n cap ∧ w.heap.size ≤ g ∧ LiS w g os (.int .i64 0) wr := by
 rcases h.2 with ⟨_, e⟩ | ⟨g, cap, cur, e1, e2, e3, e4, e5, e6, e7⟩
 · omega
 · refine ⟨g, cap, e1, by omega, 0, Nat.zero_le _, rfl, hb, cur.toList, ?_, ?_, fun j hj _ => ?_⟩
   · unfold RowC; rw [e3, Array.toArray_toList]
   · have h1 : cur.toList.length = cap * 2 := by rw [Array.length_toList]; exact e6
     rw [h1, hn]; exact Nat.mul_le_mul_right 2 e4
   · obtain ⟨q1, q2⟩ := enc2_get os j hj
     have hl : j * 2 + 1 < n * 2 := by omega
     rw [← e7] at q1 q2
     rw [List.getElem?_take_of_lt (by omega)] at q1 q2
     exact ⟨q1, q2⟩
theorem LiS.next {g k : Nat} {cur : List Value} (x y : Value) (hk : k < os.length) (hb : Below w.heap.size w wr) (hg : w.heap.size ≤ g) (hr : RowC wr g 65 cur) (hl : os.length * 2 ≤ cur.length) (hc : ∀ j (hj : j < os.length), k ≤ j → cur[j * 2]? = some (.string os[j].name) ∧ cur[j * 2 + 1]? = some (.int .i64 (os[j].size : Nat))) : LiS w g os (.int .i64 ((k : Int) + 1)) ((wr.setCell ⟨g, k * 2, none⟩ x).setCell ⟨g, k * 2 + 1, none⟩ y) := by
 have h1 := RowC.set hr (k * 2) [x, y] (by simp; omega)
 have h0 : Below w.heap.size w ((wr.setCell ⟨g, k * 2, none⟩ x).setCell ⟨g, k * 2 + 1, none⟩ y) := (hb.setCell (p := ⟨g, k * 2, none⟩) hg _).setCell (p := ⟨g, k * 2 + 1, none⟩) hg _
 refine ⟨k + 1, by omega, rfl, h0, _, h1, ?_, fun j hj h3 => ?_⟩
 · simp only [List.length_append, List.length_take, List.length_drop, List.length_cons, List.length_nil]; omega
 · obtain ⟨q1, q2⟩ := hc j hj (by omega)
   have e : ∀ i, k * 2 + 2 ≤ i → (cur.take (k * 2) ++ [x, y] ++ cur.drop (k * 2 + [x, y].length))[i]? = cur[i]? := fun i hi => by
    have h2 : (cur.take (k * 2) ++ [x, y]).length = k * 2 + 2 := by rw [List.length_append, List.length_take]; simp; omega
    rw [List.getElem?_append_right (by omega), h2, List.getElem?_drop]
    congr 1
    simp; omega
   exact ⟨(e _ (by omega)).trans q1, (e _ (by omega)).trans q2⟩
section
variable {w0 w : World} {wb D L G nb t : Nat} {xs : Obs} {Q : List (ByteArray × Value)} {p r sa ar v ps : Nat} {pg ob : Value} {P : List Nat} {A : Arr} {F : Foot} {out want : Value} {cache : Int}
theorem step_list (h : MB w0 w wb D L G nb t xs p r sa ar v ps pg ob P A F out want cache) (hc : Dc w r Q xs out want) (o : Stp) (dv : Value) (kc : ∃ da m dc, dv = .slice da m dc) (hk : o.kind = 4) :
 Calls Tryz.prog 7 #[.pointer (some ⟨wb, 0, none⟩), .agg #[.int .i64 o.kind, .int .i64 o.a, .string o.s, dv]] w fun e w' => e = .returned (.bool true) ∧ MS w0 w' wb D L G nb (t + 1) := by
 obtain ⟨da, m, dc, rfl⟩ := kc
 obtain ⟨w1, hq⟩ : ∃ w1, w.alloc (.cells #[.int .i64 o.kind, .int .i64 o.a, .string o.s, .slice da m dc] 33) = w1 := ⟨_, rfl⟩
 have hS := st0 h hc o _ hq
 have k5 := sList hS.b.box hS.b.live
 obtain ⟨x0, x1, x2, x3⟩ := hS.op.cells
 have s1 := hS.b.wbA.cells.2.2.2.2.1
 have h6 : ∀ w', Below w1.heap.size w1 w' → MS w0 w' wb D L G nb (t + 1) := fun w' hb => ⟨_, _, _, _, _, _, _, _, _, _, _, _, _, _, _, _, _, hS.b.below hb, hS.c.keep (Kds.below hb _) (Nat.le_refl _), by omega⟩
 obtain ⟨rb, rv, hr⟩ := hS.c.ref
 obtain ⟨N, hN⟩ : ∃ N, xs.os.length = N := ⟨_, rfl⟩
 have h5 : Q.length = N := by rw [hS.c.rel.len, ← hN]; simp [Obs.os]
 have kd : N ≤ 1000 := by rw [← hN]; exact hS.b.live.few.1
 have HS := hide5 hS h6 hr hN h5
 clear hS h hc h6 hr hN h5
 rw [hk] at x0 hq ⊢
 have HK := hide hk
 clear hk
 go_enter Tryz.func7, Tryz.ntmps7
 go_wp2_with fail
 clear hq x0 x1 x2 x3
 refine k5.mono ?_
 rintro e w2 ⟨u, rfl, h8, he⟩
 clear k5 s1
 have H2 := hide2 h8 he
 clear h8 he
 go_wp2_with fail
 refine (tell_nil w2).mono ?_
 rintro e w3 ⟨rfl, hp⟩
 obtain ⟨hS, h6, hr, hN, h5⟩ := HS.out
 obtain ⟨h8, he⟩ := H2.out
 have h4 : Below w1.heap.size w1 w3 := h8.trans (hp.mono h8.size)
 have hh := ownsRow_below he hp
 rw [hN] at hh
 have hs : WbAt w3 wb D L G (.pointer (some ⟨p, 0, none⟩)) (.pointer (some ⟨sa, 0, none⟩)) (.pointer (some ⟨r, 0, none⟩)) nb out want cache := RowC.keep hS.b.wbA (h4.block _ (RowC.lt hS.b.wbA))
 have r3 := hs.cells.2.2.2.2.2.1
 have hi : RAt w3 r rb rv Q := Kds.ref hr (Kds.below h4 _) (Nat.le_refl _)
 have t3 := hi.cell.1
 by_cases h0 : N = 0
 · have hu : ∃ ua uc, u = .slice ua 0 uc := by
    obtain ⟨ua, uc, e⟩ := own_slice hh
    exact ⟨ua, uc, by rw [e, h0]⟩
   have ke : ∃ va vc, rv = .slice va 0 vc := by
    obtain ⟨va, vc, e⟩ := own_slice hi.own
    exact ⟨va, vc, by rw [e, h5, h0]⟩
   obtain ⟨ua, uc, rfl⟩ := hu
   obtain ⟨va, vc, rfl⟩ := ke
   have H3 := hide (h6 _ h4)
   clear hS h6 hr hN h5 h8 he hp h4 hh hs hi h0 kd
   go_wp2
   refine wp_loop_rounds 1 ?_
   rw [rounds_succ]
   go_wp2
   go_ret
   exact ⟨rfl, H3.out⟩
 · obtain ⟨g, cap, rfl, hg, k6⟩ := LiS.start hh hN (by omega) h4 (Nat.le_refl _)
   obtain ⟨va, vc, k7⟩ := own_slice hi.own
   rw [h5] at k7
   subst k7
   have H3 := hide2 k6 hg
   clear k6 hg hS h6 hr hN h5 h8 he hp h4 hh hs hi h0
   go_wp2_with fail
   go_loopw [19] (fun i wr => LiS w1 g xs.os i wr) (fun i _ => N - (intOf i).toNat)
   case atStart => exact H3.out.1
   case round =>
    clear r3 t3
    obtain ⟨k, hk, rfl, hf, cur, h3, h9, h7⟩ := hrel
    obtain ⟨hS, h6, hr, hN, h5⟩ := HS.out
    rw [hN] at hk
    by_cases kh : k < N
    · have ki : (k : Int) < (N : Int) := by omega
      have hx : k < xs.os.length := by omega
      have ha : k < xs.length := by
       have e : xs.os.length = xs.length := by simp [Obs.os]
       omega
      obtain ⟨q1, q2⟩ := h7 k hx (Nat.le_refl _)
      have e1 := RowC.cell h3 q1
      have e2 := RowC.cell h3 q2
      have g1 := RowC.thaw h3 (k * 2)
      have g2 := RowC.thaw h3 (k * 2 + 1)
      have k8 : WbAt wr wb D L G (.pointer (some ⟨p, 0, none⟩)) (.pointer (some ⟨sa, 0, none⟩)) (.pointer (some ⟨r, 0, none⟩)) nb out want cache := RowC.keep hS.b.wbA (hf.block _ (RowC.lt hS.b.wbA))
      have rr := k8.cells.2.2.2.2.2.1
      have hy : RAt wr r rb (.slice va N vc) Q := Kds.ref hr (Kds.below hf _) (Nat.le_refl _)
      have tr := hy.cell.1
      obtain ⟨qn, qo⟩ := hS.c.rel.at k (by omega) ha
      obtain ⟨⟨ba, bn, bc, hz, _⟩, k0⟩ := qo.sl
      rw [hz] at k0
      have k9 : bn = xs.os[k].size := by
       have h1 := (hS.b.live.disk.fits _ (List.getElem_mem ha)).len
       have h2 : xs.os[k] = xs[k].1 := by simp [Obs.os]
       rw [h2, ← h1]; exact k0
      have ka : Q[k].1 = xs.os[k].name := by rw [qn]; simp [Obs.os]
      obtain ⟨g', kf, d1, d2⟩ : ∃ g', va = some ⟨g', 0, none⟩ ∧ wr.cell? ⟨g', k * 2, none⟩ = some (.string xs.os[k].name) ∧ wr.cell? ⟨g', k * 2 + 1, none⟩ = some (.slice ba bn bc) := by
       rcases hy.shape with ⟨_, e⟩ | ⟨g', cap', e, _, _, hj⟩
       · rw [e] at h5; simp at h5; omega
       · simp only [Value.slice.injEq] at e
         obtain ⟨c1, c2⟩ := hj k (by omega)
         rw [ka] at c1
         rw [hz] at c2
         exact ⟨g', e.1, c1, c2⟩
      subst kf
      rw [k9] at d2
      have kb : ∀ m, LiS w1 g xs.os (.int .i64 ((k : Int) + 1)) (((wr.drewN m).setCell ⟨g, k * 2, none⟩ (.string ⟨#[109, 105, 110, 101]⟩)).setCell ⟨g, k * 2 + 1, none⟩ (.int .i64 0)) := fun m => LiS.next _ _ hx (hf.trans ⟨rfl, rfl, rfl, Nat.le_refl _, fun _ _ => rfl⟩) H3.out.2 (RowC.keep h3 rfl) h9 h7
      obtain ⟨nm, hm⟩ : ∃ nm, xs.os[k].name = nm := ⟨_, rfl⟩
      obtain ⟨sz, hn⟩ : ∃ sz, xs.os[k].size = sz := ⟨_, rfl⟩
      rw [hm] at e1 d1
      rw [hn] at e2 d2
      have HN := hide kb
      clear kb hf h3 h9 h7 q1 q2 hS h6 hr hN h5 k8 hy qn qo hz k0 k9 ka hm hn hx ha hk
      go_upto_region 30 with fail
      go_quiet (fail)
      go_wp2
      exact ⟨HN.out _, by simp [intOf]; omega⟩
    · have kg : k = N := by omega
      subst kg
      have HB := hide (h6 _ hf)
      clear hf h3 h9 h7 hS h6 hr hN h5
      go_wp2
      go_ret
      exact ⟨rfl, HB.out⟩
end
end
section
variable {X : World} {p : Nat} {A : Arr} {F : Foot}
def Arr.setBlks (A : Arr) (i : Nat) (f : Nat → List Nat) : Arr := { A with blk := fun k m => if k = i then f m else A.blk k m }
def Arr.setBads (A : Arr) (i : Nat) (g : Nat → Bool) : Arr := { A with bad := fun k m => if k = i then g m else A.bad k m }
def cellsB (f : Nat → List Nat) (nb : Nat) : List Value := (List.range (64 * nb)).map fun k => .int .u8 (((f (k / 64)).getD (k % 64) 0 : Nat) : Int)
def cellsD (g : Nat → Bool) (nb : Nat) : List Value := (List.range nb).map fun k => .bool (g k)
theorem ArrAt.setBlks (h : ArrAt X p A F) (i : Nat) (hi : i < A.n) (f : Nat → List Nat) : ArrAt (X.setCells (F.bb i) 0 (cellsB f A.nb)) p (A.setBlks i f) F := by
 obtain ⟨a1, a2, a3⟩ := h.apart
 have hk : ∀ k, k ≠ F.bb i → (X.setCells (F.bb i) 0 (cellsB f A.nb)).heap[k]? = X.heap[k]? := fun k hk => heap_setCells_other _ _ _ _ _ hk
 obtain ⟨cs, h1, h2⟩ := h.drv
 refine ⟨(hk _ (fun e => (a2 i hi).1 e.symm)).trans h.top, ⟨cs, (hk _ (fun e => (a2 i hi).2.1 e.symm)).trans h1, h2⟩, fun k h0 => ?_, fun k h0 => (h.bad k h0).of_block (hk _ (fun e => a3 i k hi h0 e.symm)), h.inj⟩
 by_cases e : k = i
 · subst e
   refine (rowIs_setCells (cellsB f A.nb) 0 X _ (h.blk k h0)).congr fun m hm => ?_
   have h4 : m < 64 * A.nb := hm
   have h3 : (cellsB f A.nb).length = 64 * A.nb := by unfold cellsB; rw [List.length_map, List.length_range]
   rw [if_pos ⟨Nat.zero_le _, by rw [h3]; omega⟩]
   show (cellsB f A.nb).getD (m - 0) undef = Value.int .u8 (((if k = k then f (m / 64) else A.blk k (m / 64)).getD (m % 64) 0 : Nat) : Int)
   rw [if_pos rfl, Nat.sub_zero, List.getD_eq_getElem?_getD]
   unfold cellsB
   rw [List.getElem?_map, List.getElem?_range h4]; rfl
 · refine ((h.blk k h0).of_block (hk _ (fun q => e ((h.inj k i h0 hi).1 q)))).congr fun m hm => ?_
   show byV A k m = Value.int .u8 (((if k = i then f (m / 64) else A.blk k (m / 64)).getD (m % 64) 0 : Nat) : Int)
   rw [if_neg e]; rfl
theorem ArrAt.setBads (h : ArrAt X p A F) (i : Nat) (hi : i < A.n) (g : Nat → Bool) : ArrAt (X.setCells (F.bd i) 0 (cellsD g A.nb)) p (A.setBads i g) F := by
 obtain ⟨a1, a2, a3⟩ := h.apart
 have hk : ∀ k, k ≠ F.bd i → (X.setCells (F.bd i) 0 (cellsD g A.nb)).heap[k]? = X.heap[k]? := fun k hk => heap_setCells_other _ _ _ _ _ hk
 obtain ⟨cs, h1, h2⟩ := h.drv
 refine ⟨(hk _ (fun e => (a2 i hi).2.2.1 e.symm)).trans h.top, ⟨cs, (hk _ (fun e => (a2 i hi).2.2.2 e.symm)).trans h1, h2⟩, fun k h0 => (h.blk k h0).of_block (hk _ (a3 k i h0 hi)), fun k h0 => ?_, h.inj⟩
 by_cases e : k = i
 · subst e
   refine (rowIs_setCells (cellsD g A.nb) 0 X _ (h.bad k h0)).congr fun m hm => ?_
   have h4 : m < A.nb := hm
   have h3 : (cellsD g A.nb).length = A.nb := by unfold cellsD; rw [List.length_map, List.length_range]
   rw [if_pos ⟨Nat.zero_le _, by rw [h3]; omega⟩]
   show (cellsD g A.nb).getD (m - 0) undef = Value.bool (if k = k then g m else A.bad k m)
   rw [if_pos rfl, Nat.sub_zero, List.getD_eq_getElem?_getD]
   unfold cellsD
   rw [List.getElem?_map, List.getElem?_range h4]; rfl
 · refine ((h.bad k h0).of_block (hk _ (fun q => e ((h.inj k i h0 hi).2 q)))).congr fun m hm => ?_
   show Value.bool (A.bad k m) = Value.bool (if k = i then g m else A.bad k m)
   rw [if_neg e]
def cpTo (A : Arr) (k : Nat) : Arr := ⟨A.n, A.nb, -1, fun i => if i < k then A.lost i else false, fun i m => if i < k then A.bad i m else false, fun i m => if i < k then A.blk i m else zb, fun _ => 0⟩
theorem cpTo_zero (A : Arr) : cpTo A 0 = newArr A.n A.nb := by unfold cpTo newArr; simp
theorem cpTo_step (A : Arr) (k : Nat) : (((cpTo A k).setLost k (A.lost k)).setBlks k (A.blk k)).setBads k (A.bad k) = cpTo A (k + 1) := by
 unfold cpTo Arr.setLost Arr.setBlks Arr.setBads
 simp only [Arr.mk.injEq, true_and, and_true]
 refine ⟨?_, ?_, ?_⟩
 · funext i
   by_cases e : i = k
   · subst e; simp
   · rw [if_neg e]
     by_cases q : i < k
     · rw [if_pos q, if_pos (by omega)]
     · rw [if_neg q, if_neg (by omega)]
 · funext i m
   by_cases e : i = k
   · subst e; simp
   · rw [if_neg e]
     by_cases q : i < k
     · rw [if_pos q, if_pos (by omega)]
     · rw [if_neg q, if_neg (by omega)]
 · funext i m
   by_cases e : i = k
   · subst e; simp
   · rw [if_neg e]
     by_cases q : i < k
     · rw [if_pos q, if_pos (by omega)]
     · rw [if_neg q, if_neg (by omega)]
theorem Tryz.infoBlkS : (Tryz.prog.info? 240).map (·.size) = some 64 := by kernel_rfl
theorem Tryz.infoBoolS : (Tryz.prog.info? 4).map (·.size) = some 1 := by kernel_rfl
theorem rowIs_rowC {b : Nat} {f : Nat → Value} (h : w.rowIs b t n f) : ∃ cur : List Value, RowC w b t cur ∧ cur.length = n := by
 obtain ⟨c, hc, hs, _⟩ := h
 refine ⟨c.toList, ?_, by simpa using hs⟩
 unfold RowC
 rw [hc, Array.toArray_toList]
theorem run_blks {B : Arr} (h : ArrAt w p A F) (k : ArrAt w q B E) (i : Nat) (hi : i < A.n) (hk : i < B.n) (h3 : B.nb = A.nb) (ty : TypeId) :
 (Builtin.copy_ #[73, 73] ty #[.slice (some ⟨E.bb i, 0, none⟩) A.nb A.nb, .slice (some ⟨F.bb i, 0, none⟩) A.nb A.nb]).run Tryz.prog w = .ok (goInt A.nb) (w.setCells (E.bb i) 0 (cellsB (A.blk i) A.nb)) := by
 obtain ⟨cur, hc, h4⟩ := rowIs_rowC (k.blk i hk)
 have h0 : (cellsB (A.blk i) A.nb).length = 64 * A.nb := by unfold cellsB; rw [List.length_map, List.length_range]
 have h1 : Nat.min A.nb A.nb = A.nb := Nat.min_self _
 have := run_copy_wide (P := Tryz.prog) w 73 73 ty 240 64 (E.bb i) 0 A.nb A.nb (F.bb i) 0 A.nb A.nb 240 cur (cellsB (A.blk i) A.nb) Tryz.underlying73 Tryz.infoBlkS (by rw [h0, h1]; omega) (fun j v hj => by
  unfold cellsB at hj
  rw [List.getElem?_map] at hj
  by_cases h2 : j < 64 * A.nb
  · rw [List.getElem?_range h2] at hj
    rw [Nat.zero_add, (h.blk i hi).cell h2]
    exact hj
  · rw [List.getElem?_eq_none (by rw [List.length_range]; omega)] at hj; cases hj) hc (by rw [h0, h4, h3]; omega) (fun v hv => by
  unfold cellsB at hv
  obtain ⟨x, _, rfl⟩ := List.mem_map.1 hv
  rfl)
 rw [h1] at this
 exact this
theorem run_bads {B : Arr} (h : ArrAt w p A F) (k : ArrAt w q B E) (i : Nat) (hi : i < A.n) (hk : i < B.n) (h3 : B.nb = A.nb) (ty : TypeId) :
 (Builtin.copy_ #[74, 74] ty #[.slice (some ⟨E.bd i, 0, none⟩) A.nb A.nb, .slice (some ⟨F.bd i, 0, none⟩) A.nb A.nb]).run Tryz.prog w = .ok (goInt A.nb) (w.setCells (E.bd i) 0 (cellsD (A.bad i) A.nb)) := by
 obtain ⟨cur, hc, h4⟩ := rowIs_rowC (k.bad i hk)
 have h0 : (cellsD (A.bad i) A.nb).length = A.nb := by unfold cellsD; rw [List.length_map, List.length_range]
 have h1 : Nat.min A.nb A.nb = A.nb := Nat.min_self _
 have := run_copy_wide (P := Tryz.prog) w 74 74 ty 4 1 (E.bd i) 0 A.nb A.nb (F.bd i) 0 A.nb A.nb 4 cur (cellsD (A.bad i) A.nb) Tryz.underlying74 Tryz.infoBoolS (by rw [h0, h1]; omega) (fun j v hj => by
  unfold cellsD at hj
  rw [List.getElem?_map] at hj
  by_cases h2 : j < A.nb
  · rw [List.getElem?_range h2] at hj
    rw [Nat.zero_add, (h.bad i hi).cell h2]
    exact hj
  · rw [List.getElem?_eq_none (by rw [List.length_range]; omega)] at hj; cases hj) hc (by rw [h0, h4, h3]; omega) (fun v hv => by
  unfold cellsD at hv
  obtain ⟨x, _, rfl⟩ := List.mem_map.1 hv
  rfl)
 rw [h1] at this
 exact this
structure CpAt (w : World) (p c : Nat) (A B : Arr) (F E : Foot) : Prop where
 a : ArrAt w p A F
 b : ArrAt w c B E
 n : B.n = A.n
 nb : B.nb = A.nb
 ap : ∀ k, F.has p A.n k → ¬ E.has c A.n k
theorem CpAt.facts {A B : Arr} (h : CpAt w p c A B F E) (i : Nat) (hi : i < A.n) :
 (w.cell? ⟨p, 0, none⟩ = some (.slice (some ⟨F.g, 0, none⟩) A.n F.cap) ∧ w.cell? ⟨c, 0, none⟩ = some (.slice (some ⟨E.g, 0, none⟩) A.n E.cap)) ∧ (p ≠ E.g ∧ c ≠ E.g ∧ F.g ≠ E.g) ∧ (p ≠ E.bb i ∧ c ≠ E.bb i ∧ F.g ≠ E.bb i ∧ E.g ≠ E.bb i) ∧ (p ≠ E.bd i ∧ c ≠ E.bd i ∧ F.g ≠ E.bd i ∧ E.g ≠ E.bd i) := by
 obtain ⟨c0, _⟩ := h.a.p_cells
 obtain ⟨c1, _⟩ := h.b.p_cells
 rw [h.n] at c1
 have h0 : i < B.n := by rw [h.n]; exact hi
 have a := (h.b.apart.2.1 i h0)
 have hp : F.has p A.n p := .inl rfl
 have hg : F.has p A.n F.g := .inr (.inl rfl)
 have eb : E.has c A.n (E.bb i) := .inr (.inr ⟨i, hi, .inl rfl⟩)
 have ed : E.has c A.n (E.bd i) := .inr (.inr ⟨i, hi, .inr rfl⟩)
 have eg : E.has c A.n E.g := .inr (.inl rfl)
 exact ⟨⟨c0, c1⟩, ⟨fun e => h.ap _ hp (e ▸ eg), h.b.apart.1, fun e => h.ap _ hg (e ▸ eg)⟩, ⟨fun e => h.ap _ hp (e ▸ eb), Ne.symm a.1, fun e => h.ap _ hg (e ▸ eb), Ne.symm a.2.1⟩, ⟨fun e => h.ap _ hp (e ▸ ed), Ne.symm a.2.2.1, fun e => h.ap _ hg (e ▸ ed), Ne.symm a.2.2.2⟩⟩
def CpR (w : World) (c : Nat) (A : Arr) (E : Foot) (i : Value) (wr : World) : Prop := ∃ k : Nat, k ≤ A.n ∧ i = .int .i64 (k : Nat) ∧ Below w.heap.size w wr ∧ ArrAt wr c (cpTo A k) E
def CpPost (w : World) (A : Arr) (e : Ending) (w' : World) : Prop := ∃ E : Foot, e = .returned (.pointer (some ⟨w.heap.size, 0, none⟩)) ∧ Below w.heap.size w w' ∧ ArrAt w' w.heap.size (cpTo A A.n) E ∧ ∀ k, E.has w.heap.size A.n k → w.heap.size ≤ k
theorem arrCopy_any {A : Arr} (h : ArrAt w p A F) (hf : A.fit) (hn : 0 < A.n) :
 Calls Tryz.prog 22 #[.pointer (some ⟨p, 0, none⟩)] w (CpPost w A) := by
 have HA := hide2 h hf
 clear h
 go_enter Tryz.func22, Tryz.ntmps22
 have h6 := HA.out.1.p_cells.1
 have k5 := blocks_any (HA.out.1.keep (Y := w.drew) fun _ _ => rfl) hn
 have k6 := newArray_any A.n A.nb w.drew hf.n hf.nb
 go_upto_region 1 with fail
 go_cut [3] from 5 to 72 (fun v3 wx => v3 = .pointer (some ⟨w.heap.size, 0, none⟩) ∧ NaPost A.n A.nb w.drew (.returned (.pointer (some ⟨w.heap.size, 0, none⟩))) wx)
 case first =>
  go_region_with (first | (go_at_call 34; refine k5.mono ?_; rintro e wz ⟨rfl, rfl⟩) | (go_at_call 9; refine k6.mono ?_; rintro e wz hz; obtain ⟨rfl, _⟩ := id hz; have HZ := hide hz; clear hz))
  all_goals (go_wp2_with fail; go_meet; case rel => exact ⟨rfl, HZ.out⟩)
 case rest =>
 obtain ⟨rfl, kg, k7, hF⟩ := hcut
 clear kg k5 k6 h6
 obtain ⟨E, hE, hi⟩ : ∃ E : Foot, ArrAt wc w.heap.size (newArr A.n A.nb) E ∧ ∀ k, E.has w.heap.size A.n k → w.heap.size ≤ k := by
  rcases hF with ⟨h0, _⟩ | ⟨_, E, h1, h2⟩
  · omega
  · exact ⟨E, h1, h2⟩
 have h7 : Below w.heap.size w wc := ((Below.refl _ w).drew).trans k7
 have k8 : ArrAt wc p A F := HA.out.1.below h7 (Nat.le_refl _)
 have q0 := k8.p_cells.1
 have k9 : ∀ k, F.has p A.n k → k < w.heap.size := fun k hk => HA.out.1.has_lt hk
 obtain ⟨c, hc⟩ : ∃ c, w.heap.size = c := ⟨_, rfl⟩
 rw [← cpTo_zero] at hE
 rw [hc] at hE hi
 have H1 := hide5 hE hi h7 k9 hc
 rw [hc]
 clear hE hi k7 h7 hF k8 k9 hc
 go_wp2_with fail
 go_loopw [18] (fun i wr => CpR w c A E i wr) (fun i _ => A.n - (intOf i).toNat)
 case atStart => exact ⟨0, Nat.zero_le _, rfl, H1.out.2.2.1, H1.out.1⟩
 case round =>
  obtain ⟨k, hk, rfl, ha, hg⟩ := hrel
  by_cases h3 : k < A.n
  · have kj : (k : Int) < (A.n : Int) := by omega
    have kk : A.n ≤ 1000 := hf.n
    have h9 : CpAt wr p c A (cpTo A k) F E := ⟨HA.out.1.below ha (Nat.le_refl _), hg, rfl, rfl, fun j h1 h2 => by have := H1.out.2.2.2.1 j h1; have := H1.out.2.1 j h2; have := H1.out.2.2.2.2; omega⟩
    obtain ⟨⟨h6, he⟩, _, _, _⟩ := h9.facts k h3
    have l0 := (h9.a.drvs k h3).1
    have m0 := (h9.b.drvs k h3).1
    have f0 := h9.b.unfrozen (k * 4)
    have HC := hide2 h9 ha
    clear ha hg h9
    go_wp2_with fail
    go_region
    clear h6 he l0 m0 f0
    have hm : ArrAt (wr.setCell ⟨E.g, k * 4, none⟩ (.bool (A.lost k))).drew c ((cpTo A k).setLost k (A.lost k)) E := (HC.out.1.b.setLost k (A.lost k)).keep fun _ _ => rfl
    have hp : Outside (fun j => j = E.g) wr (wr.setCell ⟨E.g, k * 4, none⟩ (.bool (A.lost k))).drew := (Outside.setCell (S := fun j => j = E.g) wr ⟨E.g, k * 4, none⟩ _ rfl).trans (Outside.drew _)
    obtain ⟨w2, ka⟩ : ∃ w2, (wr.setCell ⟨E.g, k * 4, none⟩ (.bool (A.lost k))).drew = w2 := ⟨_, rfl⟩
    rw [ka] at hm hp ⊢
    have hh : ∀ j, E.has c A.n j → w.heap.size ≤ j := fun j hj => by have := H1.out.2.1 j hj; have := H1.out.2.2.2.2; omega
    have kh := hh _ (.inr (.inl rfl))
    have kb := hh _ (.inr (.inr ⟨k, h3, .inl rfl⟩))
    have kc := hh _ (.inr (.inr ⟨k, h3, .inr rfl⟩))
    have hq : Below w.heap.size w w2 := HC.out.2.trans (hp.below fun j hj => ⟨Nat.lt_of_lt_of_le hj HC.out.2.size, fun e => by omega⟩)
    have h4 : CpAt w2 p c A ((cpTo A k).setLost k (A.lost k)) F E := ⟨HA.out.1.below hq (Nat.le_refl _), hm, rfl, rfl, HC.out.1.ap⟩
    have h8 := run_blks (h4.a.keep (Y := w2.drew) fun _ _ => rfl) (h4.b.keep (Y := w2.drew) fun _ _ => rfl) k h3 h3 rfl
    obtain ⟨⟨h6, he⟩, _, _, _⟩ := h4.facts k h3
    have l1 := (h4.a.drvs k h3).2.1
    have m1 : w2.cell? ⟨E.g, k * 4 + 1, none⟩ = some (.slice (some ⟨E.bb k, 0, none⟩) A.nb A.nb) := (h4.b.drvs k h3).2.1
    have H2 := hide4 h4 hq kb kc
    clear hm hp ka hh kh kb kc hq h4
    go_wp2_with fail
    go_region
    clear h6 he l1 m1 h8
    have hr : ArrAt (w2.drew.setCells (E.bb k) 0 (cellsB (A.blk k) A.nb)) c (((cpTo A k).setLost k (A.lost k)).setBlks k (A.blk k)) E := (H2.out.1.b.keep (Y := w2.drew) fun _ _ => rfl).setBlks k h3 (A.blk k)
    have hs : Outside (fun j => j = E.bb k) w2 (w2.drew.setCells (E.bb k) 0 (cellsB (A.blk k) A.nb)) := (Outside.drew w2).trans (Outside.setCells _ _ _ _ rfl)
    obtain ⟨w3, kd⟩ : ∃ w3, w2.drew.setCells (E.bb k) 0 (cellsB (A.blk k) A.nb) = w3 := ⟨_, rfl⟩
    rw [kd] at hr hs ⊢
    have hx : Below w.heap.size w w3 := H2.out.2.1.trans (hs.below fun j hj => ⟨Nat.lt_of_lt_of_le hj H2.out.2.1.size, fun e => by have := H2.out.2.2.1; omega⟩)
    have h5 : CpAt w3 p c A (((cpTo A k).setLost k (A.lost k)).setBlks k (A.blk k)) F E := ⟨HA.out.1.below hx (Nat.le_refl _), hr, rfl, rfl, HC.out.1.ap⟩
    have h8 := run_bads (h5.a.keep (Y := w3.drew) fun _ _ => rfl) (h5.b.keep (Y := w3.drew) fun _ _ => rfl) k h3 h3 rfl
    obtain ⟨⟨h6, he⟩, _, _, _⟩ := h5.facts k h3
    have l2 := (h5.a.drvs k h3).2.2.1
    have m2 : w3.cell? ⟨E.g, k * 4 + 2, none⟩ = some (.slice (some ⟨E.bd k, 0, none⟩) A.nb A.nb) := (h5.b.drvs k h3).2.2.1
    have H3 := hide2 h5 hx
    clear hr hs kd hx h5
    go_wp2_with fail
    go_region
    clear h6 he l2 m2 h8
    have hy : ArrAt (w3.drew.setCells (E.bd k) 0 (cellsD (A.bad k) A.nb)) c (cpTo A (k + 1)) E := by
     have := (H3.out.1.b.keep (Y := w3.drew) fun _ _ => rfl).setBads k h3 (A.bad k)
     rw [cpTo_step] at this
     exact this
    have k0 : Outside (fun j => j = E.bd k) w3 (w3.drew.setCells (E.bd k) 0 (cellsD (A.bad k) A.nb)) := (Outside.drew w3).trans (Outside.setCells _ _ _ _ rfl)
    obtain ⟨w4, ke⟩ : ∃ w4, w3.drew.setCells (E.bd k) 0 (cellsD (A.bad k) A.nb) = w4 := ⟨_, rfl⟩
    rw [ke] at hy k0 ⊢
    have kf : Below w.heap.size w w4 := H3.out.2.trans (k0.below fun j hj => ⟨Nat.lt_of_lt_of_le hj H3.out.2.size, fun e => by have := H2.out.2.2.2; omega⟩)
    have hN : CpR w c A E (.int .i64 ((k : Int) + 1)) w4 := ⟨k + 1, by omega, rfl, kf, hy⟩
    have H4 := hide hN
    clear hy k0 ke kf hN
    go_wp2
    exact ⟨H4.out, by simp [intOf]; omega⟩
  · have ki : k = A.n := by omega
    subst ki
    have HK := hide2 ha hg
    clear ha hg
    go_wp2
    go_ret
    have e := H1.out.2.2.2.2
    subst e
    exact ⟨E, rfl, HK.out.1, HK.out.2, H1.out.2.1⟩
end
section
open Gf
theorem OnDisk.cp {A : Arr} (h : OnDisk A D L G t P xs) : OnDisk (cpTo A A.n) D L G t P xs := by
 have h' := h.congr (B := { cpTo A A.n with wait := A.wait }) rfl rfl rfl (fun i => by
  show (if i < A.n then A.lost i else false) = A.lost i
  split
  · rfl
  · exact (h.lost i).symm) (fun i m => by
  show (if i < A.n then A.bad i m else false) = A.bad i m
  split
  · rfl
  · exact (h.bad i m).symm) (fun i m hi => by
  show (if i < A.n then A.blk i m else zb) = A.blk i m
  rw [if_pos hi])
 exact ⟨h'.n, by show (-1 : Int) < 0; decide, h'.lost, h'.bad, h'.turn, h'.root, h'.fill, h'.pl, h'.page, h'.nod, h'.inb, h'.fits, h'.up, h'.held, h'.room⟩
theorem cpTo_fit {A : Arr} (h : A.fit) (k : Nat) : (cpTo A k).fit := by
 refine ⟨h.n, h.nb, fun i j => ?_, fun i j => ?_⟩
 · show (if i < k then A.blk i j else zb).length = 64
   split
   · exact h.len i j
   · exact zb_len
 · show ∀ x ∈ (if i < k then A.blk i j else zb), x < 256
   split
   · exact h.byt i j
   · intro x hx
     have := List.eq_of_mem_replicate hx
     omega
def ReO (w3 : World) (c D L G t : Nat) (P : List Nat) (xs : Obs) (B : Arr) (E : Foot) (sa : Nat) (w' : World) : Prop :=
 ∃ ar v ps pg ob rs, Boxed w' sa 86 (.pointer (some ⟨ar, 0, none⟩)) ∧ w3.heap.size ≤ ar ∧ w3.heap.size ≤ sa ∧ Live w' ar v c ps D L G t pg ob P xs (B.rd rs) E ∧ Outside (E.has c B.n) w3 w'
theorem reopen_by {w3 : World} {cache : Int} {B : Arr} (hA : ArrAt w3 c B E) (hf : B.fit) (hd : OnDisk B D L G t P xs) (hr : Pars D L G) (h6 : 0 ≤ cache) (h7 : cache ≤ 64) (h8 : 8 ≤ B.nb) (h0 : B.nb ≤ 1000) (h9 : t ≤ 1000000) (hv : hvLaid w3) (ht : tabLaid w3) (hK : 3 ≤ w3.heap.size) (ha : ¬ E.has c B.n 2) (hc : ¬ E.has c B.n 1) :
 Calls Tryz.prog 24 #[.pointer (some ⟨c, 0, none⟩), .agg #[.int .i64 D, .int .i64 L, .int .i64 G], .agg #[.int .i64 cache]] w3.drew fun e w2 => ∃ sa, e = .returned (.tuple #[.pointer (some ⟨sa, 0, none⟩), .nilIface]) ∧ ReO w3 c D L G t P xs B E sa w2 := by
 have h5 : Below w3.heap.size w3 w3.drew := (Below.refl _ w3).drew
 refine (sopen_by (w := w3.drew) (fun w2 ar w' => ∃ v ps pg ob rs, w2.heap.size ≤ ar ∧ Live w' ar v c ps D L G t pg ob P xs (B.rd rs) E ∧ Outside (E.has c B.n) w2 w') ?_ fun w2 h4 => ?_).mono ?_
 · rintro w2 ar w3' w4 ⟨v, ps, pg, ob, rs, h1, h2, h3⟩ hb
   exact ⟨v, ps, pg, ob, rs, h1, h2.below hb, h3.trans (Outside.of_all hb _)⟩
 · have hb : Below w3.heap.size w3 w2 := h5.trans h4
   refine (open_live (hA.below hb (Nat.le_refl _)) hf hd hr h6 h7 h8 h0 h9 (hv.below hb hv.lt) (ht.keep (hb.block _ ht.lt)) (Nat.le_trans hK hb.size) ha hc).mono ?_
   rintro e w' ⟨ar, v, ps, pg, ob, rs, rfl, h1, h2, h3⟩
   exact ⟨ar, rfl, h3.size, v, ps, pg, ob, rs, h1, h2, h3⟩
 · rintro e w' ⟨sa, ar, w2, rfl, h4, he, hg, v, ps, pg, ob, rs, h1, h2, h3⟩
   have hb : Below w3.heap.size w3 w2 := h5.trans h4
   exact ⟨sa, rfl, ar, v, ps, pg, ob, rs, hg, Nat.le_trans hb.size h1, he, h2, (Outside.of_all hb _).trans h3⟩
section
variable {w0 w : World} {wb D L G nb t : Nat} {xs : Obs} {Q : List (ByteArray × Value)} {p r sa ar v ps : Nat} {pg ob : Value} {P : List Nat} {A : Arr} {F : Foot} {out want : Value} {cache : Int}
theorem step_open (h : MB w0 w wb D L G nb t xs p r sa ar v ps pg ob P A F out want cache) (hc : Dc w r Q xs out want) (o : Stp) (dv : Value) (ke : ∃ da m dc, dv = .slice da m dc) (hr : 8 ≤ nb) (hk : o.kind = 5) :
 Calls Tryz.prog 7 #[.pointer (some ⟨wb, 0, none⟩), .agg #[.int .i64 o.kind, .int .i64 o.a, .string o.s, dv]] w fun e w' => e = .returned (.bool true) ∧ MS w0 w' wb D L G nb (t + 1) := by
 obtain ⟨da, m, dc, rfl⟩ := ke
 obtain ⟨kc, ko, ekc⟩ := rem_key o.a 65 (by decide) (by decide)
 have ekc' : wrap64 ((IntKind.u64.wrap o.a).tmod 65) = (kc : Int) := by simpa using ekc
 clear ekc
 obtain ⟨w1, hs⟩ : ∃ w1, w.alloc (.cells #[.int .i64 o.kind, .int .i64 o.a, .string o.s, .slice da m dc] 33) = w1 := ⟨_, rfl⟩
 have hS := st0 h hc o _ hs
 have k5 := arrCopy_any hS.b.live.vol.arr hS.b.live.fit hS.b.live.n0
 obtain ⟨x0, x1, x2, x3⟩ := hS.op.cells
 have a1 := hS.b.wbA.cells.2.2.2.1
 obtain ⟨q0, h7⟩ : ∃ q0, w.heap.size = q0 := ⟨_, rfl⟩
 have HS := hide2 hS h7
 clear hS h hc
 rw [hk] at x0 hs ⊢
 rw [h7] at x0 x1 x2 x3
 have HK := hide hk
 clear hk
 go_enter Tryz.func7, Tryz.ntmps7
 go_wp2_with fail
 clear h7 hs x0 x1 x2 x3
 refine k5.mono ?_
 rintro e w2 ⟨E, rfl, h5, hx, hE⟩
 clear k5 a1
 obtain ⟨hS, h7⟩ := HS.out
 have hf : WbAt w2 wb D L G (.pointer (some ⟨p, 0, none⟩)) (.pointer (some ⟨sa, 0, none⟩)) (.pointer (some ⟨r, 0, none⟩)) nb out want cache := RowC.keep hS.b.wbA (h5.block _ (RowC.lt hS.b.wbA))
 obtain ⟨_, _, _, c3, _, _, _, _, _, c9⟩ := hf.cells
 have f3 := RowC.thaw hf 3
 have f9 := RowC.thaw hf 9
 have k6 : OpAt w2 q0 o (.slice da m dc) := by rw [← h7]; exact RowC.keep hS.op (h5.block _ hS.lt)
 have y1 := k6.cells.2.1
 obtain ⟨c, hm⟩ : ∃ c, w1.heap.size = c := ⟨_, rfl⟩
 rw [hm] at hx hE ⊢
 have h8 : wb < w1.heap.size := RowC.lt hS.b.wbA
 obtain ⟨w3, hn⟩ : ∃ w3, (w2.setCell ⟨wb, 3, none⟩ (.pointer (some ⟨c, 0, none⟩))).setCell ⟨wb, 9, none⟩ (.int .i64 (kc : Nat)) = w3 := ⟨_, rfl⟩
 have h4 : ∀ j, j ≠ wb → w3.heap[j]? = w2.heap[j]? := fun j hj => by rw [← hn]; exact (blk_setCell_other _ _ _ _ hj).trans (blk_setCell_other _ _ _ _ hj)
 have h9 : Outside (fun j => j = wb) w2 w3 := by rw [← hn]; exact (Outside.setCell (S := fun j => j = wb) w2 ⟨wb, 3, none⟩ _ rfl).trans (Outside.setCell (S := fun j => j = wb) _ ⟨wb, 9, none⟩ _ rfl)
 have k7 : WbAt w3 wb D L G (.pointer (some ⟨c, 0, none⟩)) (.pointer (some ⟨sa, 0, none⟩)) (.pointer (some ⟨r, 0, none⟩)) nb out want (kc : Int) := by
  rw [← hn]
  exact RowC.set (RowC.set hf 3 [.pointer (some ⟨c, 0, none⟩)] (by simp [wbL])) 9 [.int .i64 (kc : Nat)] (by simp [wbL])
 have hy : ∀ k, E.has c A.n k → k ≠ wb := fun k hk e => by have := hE k hk; omega
 have k8 : ArrAt w3 c (cpTo A A.n) E := hx.keep fun k hk => h4 k (hy k hk)
 have k1 : 2 < 3 := by decide
 have k2 : 1 < 3 := by decide
 have hz : 3 ≤ wb := Nat.le_trans hS.b.hK hS.b.wbB
 have h3 : ∀ j, j < w1.heap.size → j ≠ wb → w3.heap[j]? = w1.heap[j]? := fun j hj hp => (h4 j hp).trans (h5.block j hj)
 have hv3 : hvLaid w3 := hS.b.live.vol.laid.keep (h3 _ (by omega) (by omega))
 have k9 : tabLaid w3 := hS.b.live.vol.tab.keep (h3 _ (by omega) (by omega))
 have ha : w1.heap.size ≤ w3.heap.size := Nat.le_trans h5.size h9.size
 have ka := wopen_any k7 ⟨_, rfl⟩ (ReO w3 c D L G t P xs (cpTo A A.n) E) (fun sa' w' hR => by
  obtain ⟨_, _, _, _, _, _, _, _, _, _, hO⟩ := hR
  exact hO.block wb (by omega) (fun e => hy wb e rfl)) (reopen_by k8 (cpTo_fit hS.b.live.fit _) hS.b.live.disk.cp hS.b.live.par (by omega) (by omega) (by show 8 ≤ A.nb; rw [hS.b.nb]; exact hr) hS.b.live.nb hS.b.live.turn hv3 k9 (by omega) (fun e => by have := hE _ e; omega) (fun e => by have := hE _ e; omega))
 have H3 := hide7 h3 hE h8 hm ha h9 h5
 clear hS h7 h5 hx hE hf k6 hm h8 h4 h9 k7 hy k8 k1 k2 hz h3 hv3 k9 ha
 go_wp2_with fail
 clear hn
 refine ka.mono ?_
 rintro e w4 ⟨rfl, sa', w5, w6, hR, h0, hg, kb⟩
 have H4 := hide4 hR h0 hg kb
 clear hR h0 hg kb ka
 go_wp2
 go_ret
 obtain ⟨⟨ar', v', ps', pg', ob', rs, k0, kf, kg, kh, hh⟩, h0, hg, rfl⟩ := H4.out
 obtain ⟨h3, hE, h8, hm, ha, h9, h5⟩ := H3.out
 obtain ⟨hS, h7⟩ := HS.out
 have kd := kh.below h0
 have ki : ¬ E.has c A.n wb := fun e => by have := hE _ e; omega
 have kj : w6.heap[wb]? = some (.cells (wbL D L G (.pointer (some ⟨c, 0, none⟩)) (.pointer (some ⟨sa', 0, none⟩)) (.pointer (some ⟨r, 0, none⟩)) nb out want (kc : Int)).toArray 40 (0, 0)) ∨ ∃ cs, w6.heap[wb]? = some (.cells cs 40 (0, 0)) := by
  have : (w6.setCell ⟨wb, 4, none⟩ (.pointer (some ⟨sa', 0, none⟩))).heap[wb]? = _ := hg
  refine .inr ?_
  simp [World.setCell, Array.getElem?_modify] at this
  obtain ⟨ob, h1, h2⟩ := this
  cases ob <;> simp at h2
  exact ⟨_, by rw [h1, h2.2.1, h2.2.2]⟩
 have kk : wb ≠ v' := fun e => by
  have h2 := kd.vol.vol
  unfold VolAt at h2
  rw [← e] at h2
  rcases kj with h | ⟨cs, h⟩ <;> (rw [h] at h2; cases h2)
 have he : ∀ j, j ≠ wb → j < w6.heap.size → (w6.setCell ⟨wb, 4, none⟩ (.pointer (some ⟨sa', 0, none⟩))).heap[j]? = w6.heap[j]? := fun j hj _ => blk_setCell_other _ _ _ _ hj
 have hz : 3 ≤ wb := Nat.le_trans hS.b.hK hS.b.wbB
 have km := kd.other (w' := w6.setCell ⟨wb, 4, none⟩ (.pointer (some ⟨sa', 0, none⟩))) (by simp [World.setCell]) he (by omega) kk ki hz
 have kp := hh.size
 have h6 : ∀ j, j < w1.heap.size → j ≠ wb → (w6.setCell ⟨wb, 4, none⟩ (.pointer (some ⟨sa', 0, none⟩))).heap[j]? = w1.heap[j]? := fun j hj hp =>
  (he j hp (by have := h0.size; omega)).trans ((h0.block j (by omega)).trans ((hh.block j (by omega) (fun e => by have := hE j e; omega)).trans (h3 j hj hp)))
 have hi : Below w0.heap.size w0 (w6.setCell ⟨wb, 4, none⟩ (.pointer (some ⟨sa', 0, none⟩))) := by
  refine hS.b.base.trans ⟨h0.os.trans (hh.os.trans (h9.os.trans h5.os)), h0.tape.trans (hh.tape.trans (h9.tape.trans h5.tape)), h0.output.trans (hh.output.trans (h9.output.trans h5.output)), by have := h0.size; simp [World.setCell]; omega, fun j hj => h6 j (Nat.lt_of_lt_of_le hj hS.b.base.size) (by have := hS.b.wbB; omega)⟩
 have hM : MB w0 (w6.setCell ⟨wb, 4, none⟩ (.pointer (some ⟨sa', 0, none⟩))) wb D L G nb t xs c r sa' ar' v' ps' pg' ob' P ((cpTo A A.n).rd rs) E out want (kc : Int) :=
  ⟨hg, (he _ (by omega) (Nat.lt_of_lt_of_le k0.lt h0.size)).trans ((h0.block _ k0.lt).trans k0), km, hS.b.nb, hi, hS.b.glob, hS.b.hK, hS.b.wbB, by omega, fun k hk => by have := hE k hk; have := hS.b.base.size; omega⟩
 have kn : Kds w1.heap.size w1 (w6.setCell ⟨wb, 4, none⟩ (.pointer (some ⟨sa', 0, none⟩))) := fun T hT j cs hj hq => h6 j hj (fun e => by
  subst e
  have hw : w1.heap[j]? = some (.cells _ 40 (0, 0)) := hS.b.wbA
  rw [hw] at hq; simp only [Option.some.injEq, Obj.cells.injEq] at hq
  have e := hq.2.1
  rcases hT with q | q | q | q <;> exact absurd (e.trans q) (by decide))
 exact ⟨rfl, _, _, _, _, _, _, _, _, _, _, _, _, _, _, _, _, _, hM, hS.c.keep kn (Nat.le_refl _), by omega⟩
theorem step_none (h : MB w0 w wb D L G nb t xs p r sa ar v ps pg ob P A F out want cache) (hc : Dc w r Q xs out want) (o : Stp) (dv : Value) (h2 : ∃ da m dc, dv = .slice da m dc) (hk : o.kind < 1) :
 Calls Tryz.prog 7 #[.pointer (some ⟨wb, 0, none⟩), .agg #[.int .i64 o.kind, .int .i64 o.a, .string o.s, dv]] w fun e w' => e = .returned (.bool true) ∧ MS w0 w' wb D L G nb (t + 1) := by
 obtain ⟨da, m, dc, rfl⟩ := h2
 obtain ⟨kd, h0⟩ : ∃ kd, o.kind = kd := ⟨_, rfl⟩
 obtain ⟨w1, h1⟩ : ∃ w1, w.alloc (.cells #[.int .i64 o.kind, .int .i64 o.a, .string o.s, .slice da m dc] 33) = w1 := ⟨_, rfl⟩
 have hS := st0 h hc o _ h1
 obtain ⟨x0, x1, x2, x3⟩ := hS.op.cells
 have HM := hide (show MS w0 w1 wb D L G nb (t + 1) from ⟨_, _, _, _, _, _, _, _, _, _, _, _, _, _, _, _, _, hS.b, hS.c, by omega⟩)
 clear hS h hc
 rw [h0] at x0 h1 hk ⊢
 have n1 : ¬ kd = 1 := by omega
 have n2 : ¬ kd = 2 := by omega
 have n3 : ¬ kd = 3 := by omega
 have n4 : ¬ kd = 4 := by omega
 have n5 : ¬ kd = 5 := by omega
 have n6 : ¬ kd = 6 := by omega
 clear hk h0
 go_enter Tryz.func7, Tryz.ntmps7
 go_wp2
 go_ret
 exact ⟨rfl, HM.out⟩
end
end
end Go.Proofs.YtpaemkanfnddoaaGreatDoor
