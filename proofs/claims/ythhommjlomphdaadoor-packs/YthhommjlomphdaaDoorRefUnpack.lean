/-
  Unpack: the document's.
-/
import Derived.Test.YthhommjlomphdaaDoorUnpack
import Derived.Deep.RegionHeld3
namespace Go.Proofs.YthhommjlomphdaaDoor
open Go.RowKit Go.Deep

def RuPost (l : List Nat) (w : World) (r : Ending) (w' : World) : Prop :=
  (Good l → ∃ v, r = .returned (.tuple #[.agg #[.int .i64 ((l.getD 0 0 : Nat) : Int), v], .bool true]) ∧ Ps .i64 w' v (stpTo l (nOf l))) ∧
  (¬ Good l → ∃ ao n c, r = .returned (.tuple #[.agg #[.int .i64 0, .slice ao n c], .bool false])) ∧ Below w.heap.size w w'
/-- a step that bytes tell is one, if .. -/
def okB (l : List Nat) (i : Nat) : Prop := l.getD (3 + 4 * i) 0 ≤ 2 ∧ (l.getD (3 + 4 * i) 0 = 1 ∨ l.getD (6 + 4 * i) 0 = 0)
theorem good_iff (l : List Nat) (hx : ∀ x ∈ l, x < 256) : Good l ↔ 3 ≤ l.length ∧ l.getD 0 0 ≤ 32 ∧ nOf l ≤ 2000 ∧ l.length = 3 + 4 * nOf l ∧ ∀ i, i < nOf l → okB l i := by
  have hlen := stpTo_len l (nOf l)
  unfold Good okPack okHead okPk okB
  constructor
  · rintro ⟨h1, h2, ⟨h3, h4, h5⟩, h6⟩
    refine ⟨h1, by omega, by omega, h2, fun i hi => ?_⟩
    have := h6 i (by omega)
    simp only [stpTo, List.getElem_map, List.getElem_range, stp] at this
    exact ⟨this.1, this.2.2.2.2.2⟩
  · rintro ⟨h1, h2, h3, h4, h5⟩
    refine ⟨h1, h4, ⟨by omega, by omega, by omega⟩, fun i hi => ?_⟩
    have hi' : i < nOf l := by omega
    have q1 := getD_lt hx (4 + 4 * i)
    have q2 := getD_lt hx (5 + 4 * i)
    simp only [stpTo, List.getElem_map, List.getElem_range, stp]
    exact ⟨(h5 i hi').1, by omega, by omega, by omega, by omega, (h5 i hi').2⟩
def RuR (w2 : World) (ob : Nat) (l : List Nat) (iv : Value) (wr : World) : Prop :=
  ∃ (k : Nat) (v : Value), k ≤ nOf l ∧ iv = .int .i64 k ∧ (∀ i, i < k → okB l i) ∧ wr.heap[ob]? = some (.cells #[.int .i64 0, v] 53 (0, 0)) ∧ wr.ownsRow w2.heap.size 94 4 v k (stcs .i64 (stpTo l k)) ∧ w2.grownBy wr (some ob)
theorem alloc2 (w : World) (a b : Obj) : ((w.alloc a).alloc b).heap.size = w.heap.size + 2 ∧ ((w.alloc a).alloc b).heap[w.heap.size]? = some a ∧ ((w.alloc a).alloc b).heap[w.heap.size + 1]? = some b ∧ Below w.heap.size w ((w.alloc a).alloc b) := by
  have n1 := nblk_alloc w a
  have n2 := nblk_alloc (w.alloc a) b
  refine ⟨by omega, ?_, ?_, ((Below.refl _ _).alloc (Nat.le_refl _) _).alloc (by simp) _⟩
  · rw [heap_old _ _ _ (by omega)]; exact heap_alloc_last w a
  · rw [← n1]; exact heap_alloc_last _ b
set_option maxRecDepth 100000 in
set_option maxHeartbeats 4000000 in
theorem runpack_any (b off c : Nat) (l : List Nat) (w : World) (hc : ∀ k, k < l.length → w.cell? ⟨b, off + k, none⟩ = some (.int .u8 ((l.getD k 0 : Nat) : Int))) (hx : ∀ x ∈ l, x < 256) (h3 : 3 ≤ l.length) (hl : l.length ≤ 1000000) :
    Calls Tryd.prog 49 #[.slice (some ⟨b, off, none⟩) l.length c] w fun r w' => RuPost l w r w' := by
  obtain ⟨i0, hi0, hz0, hz1, hz2⟩ := info_parts Tryd.infoRstep
  obtain ⟨hs2, hx2, hy2, hb2⟩ := alloc2 w (.cells #[.int .i64 0, .slice none 0 0] 53) (.cells #[.int .i64 0, .slice none 0 0] 53)
  have HGI := hide (good_iff l hx)
  have c0 := hc 0 (by omega)
  have c1 := hc 1 (by omega)
  have c2 := hc 2 (by omega)
  have l0 := getD_lt hx 0
  have l1 := getD_lt hx 1
  have l2 := getD_lt hx 2
  have HN : Hid (nOf l = l.getD 1 0 * 256 + l.getD 2 0) := rfl
  have hnn : nOf l ≤ 65535 := by have := HN.out; omega
  have HX := hide hx
  have HC := hide hc
  obtain ⟨r0, hr0⟩ : ∃ r0, l.getD 0 0 = r0 := ⟨_, rfl⟩
  have HR0 := hide hr0
  rw [hr0, Nat.add_zero] at c0
  rw [hr0] at l0
  clear hr0 hx hc
  generalize l.getD 1 0 = x1 at *
  generalize l.getD 2 0 = x2 at *
  have hlI : ¬ ((l.length : Nat) : Int) < 3 := by omega
  have hlt0 := block_lt_of_cell c0
  obtain ⟨w2, hw2⟩ : ∃ w2, (w.alloc (.cells #[.int .i64 0, .slice none 0 0] 53)).alloc (.cells #[.int .i64 0, .slice none 0 0] 53) = w2 := ⟨_, rfl⟩
  rw [hw2] at hs2 hx2 hy2 hb2
  have d0 := (hb2.cell hlt0).trans c0
  have d1 := (hb2.cell (block_lt_of_cell c1)).trans c1
  have d2 := (hb2.cell (block_lt_of_cell c2)).trans c2
  obtain ⟨p0, p1, p2, p3⟩ := obj_cells hx2
  obtain ⟨q0, q1, q2, q3⟩ := obj_cells hy2
  by_cases hr32 : r0 ≤ 32
  · have hrI : ¬ (32 : Int) < (r0 : Int) := by omega
    by_cases hn2 : nOf l ≤ 2000 ∧ l.length = 3 + 4 * nOf l
    · obtain ⟨hn2, hll⟩ := hn2
      have hv : (x1 : Int) * 256 + (x2 : Int) = ((nOf l : Nat) : Int) := by have := HN.out; omega
      have t0 : (((l.length : Nat) : Int) != 3 + 4 * ((nOf l : Nat) : Int)) = false := by simp; omega
      have HLL := hide hll
      clear hll
      go_enter Tryd.func49, Tryd.ntmps49
      go_wp2
      go_quiet (fail)
      go_wp2
      clear hw2 d0 d1 d2 c0 c1 c2 q0 q1 q2 q3 p0 p1 p2 p3 t0 hv
      go_loopw [6] (fun iv wr => RuR w2 (w.heap.size + 1) l iv wr) (fun iv _ => nOf l - (intOf iv).toNat)
      case atStart => exact ⟨0, _, Nat.zero_le _, rfl, fun i hi => absurd hi (by omega), hy2, World.ownsRow_nil _ _ _ _, ⟨rfl, rfl, rfl, Nat.le_refl _, fun _ _ _ => rfl⟩⟩
      case round =>
        rename World => wo
        obtain ⟨k, vv, hk, rfl, hok, hob, hown, hgr⟩ := hrel
        obtain ⟨o0, o1, f1, f0⟩ := obj_cells hob
        have hso := hgr.size
        have hbo : Below w.heap.size w wo := ⟨hgr.os.trans hb2.os, hgr.tape.trans hb2.tape, hgr.output.trans hb2.output, by omega, fun j hj => (hgr.block j (by omega) (by simp; omega)).trans (hb2.block j hj)⟩
        have hxo := (hgr.block w.heap.size (by omega) (by simp)).trans hx2
        have hBo : ∀ k, k < l.length → wo.cell? ⟨b, off + k, none⟩ = some (.int .u8 ((l.getD k 0 : Nat) : Int)) := fun k hk => (hbo.cell (block_lt_of_cell (HC.out k hk))).trans (HC.out k hk)
        by_cases hlt : k < nOf l
        · have hlen := HLL.out
          have c0 := hBo (3 + 4 * k) (by omega)
          have c1 := hBo (4 + 4 * k) (by omega)
          have c2 := hBo (5 + 4 * k) (by omega)
          have c3 := hBo (6 + 4 * k) (by omega)
          have x0 := getD_lt HX.out (3 + 4 * k)
          have x1' := getD_lt HX.out (4 + 4 * k)
          have x2' := getD_lt HX.out (5 + 4 * k)
          have HOKB : Hid (okB l k ↔ l.getD (3 + 4 * k) 0 ≤ 2 ∧ (l.getD (3 + 4 * k) 0 = 1 ∨ l.getD (6 + 4 * k) 0 = 0)) := Iff.rfl
          have HSP : Hid (stc .i64 (stp l k) = [.int .i64 ((l.getD (3 + 4 * k) 0 : Nat) : Int), .int .i64 ((l.getD (4 + 4 * k) 0 : Nat) : Int), .int .i64 ((l.getD (5 + 4 * k) 0 : Nat) : Int), .int .u8 ((l.getD (6 + 4 * k) 0 : Nat) : Int)]) := (rfl : _ = _)
          have HOB := hide hob
          have HG := hide hgr
          have HLT := hide hown.lt
          have HOW := hide hown
          have HBO := hide hbo
          have HOK := hide hok
          have hlb := block_lt_of_cell c0
          have HXO := hide hxo
          have hbw := block_lt_of_cell (HC.out 0 (by omega))
          clear hob hgr hown hBo hbo hok hxo
          generalize l.getD (3 + 4 * k) 0 = y0 at *
          generalize l.getD (4 + 4 * k) 0 = y1 at *
          generalize l.getD (5 + 4 * k) 0 = y2 at *
          generalize l.getD (6 + 4 * k) 0 = y3 at *
          have j0 : IntKind.i64.wrap (y0 : Int) = (y0 : Int) := by rw [IntKind.wrap_i64]; omega
          have j1 : IntKind.i64.wrap (y1 : Int) = (y1 : Int) := by rw [IntKind.wrap_i64]; omega
          have j2 : IntKind.i64.wrap (y2 : Int) = (y2 : Int) := by rw [IntKind.wrap_i64]; omega
          obtain ⟨a0, ha0⟩ : ∃ a0, 3 + 4 * k = a0 := ⟨_, rfl⟩
          obtain ⟨a1, ha1⟩ : ∃ a1, 4 + 4 * k = a1 := ⟨_, rfl⟩
          obtain ⟨a2, ha2⟩ : ∃ a2, 5 + 4 * k = a2 := ⟨_, rfl⟩
          obtain ⟨a3, ha3⟩ : ∃ a3, 6 + 4 * k = a3 := ⟨_, rfl⟩
          rw [ha0] at c0
          rw [ha1] at c1
          rw [ha2] at c2
          rw [ha3] at c3
          have u : IntKind.i64.wrap (4 * (k : Int)) = 4 * (k : Int) := by rw [IntKind.wrap_i64]; omega
          have u0 : IntKind.i64.wrap (3 + 4 * (k : Int)) = (a0 : Int) := by rw [IntKind.wrap_i64]; omega
          have u1 : IntKind.i64.wrap (4 + 4 * (k : Int)) = (a1 : Int) := by rw [IntKind.wrap_i64]; omega
          have u2 : IntKind.i64.wrap (5 + 4 * (k : Int)) = (a2 : Int) := by rw [IntKind.wrap_i64]; omega
          have u3 : IntKind.i64.wrap (6 + 4 * (k : Int)) = (a3 : Int) := by rw [IntKind.wrap_i64]; omega
          have i0' : a0 < l.length := by omega
          have i1 : a1 < l.length := by omega
          have i2 : a2 < l.length := by omega
          have i3 : a3 < l.length := by omega
          clear ha0 ha1 ha2 ha3
          have hnw : wo.heap.size ≠ b := by omega
          clear hlen
          go_wp2
          go_region_held3 (fun w' => w'.cell? ⟨b, off + a0, none⟩ = some (.int .u8 (y0 : Int)) ∧ w'.cell? ⟨b, off + a1, none⟩ = some (.int .u8 (y1 : Int)) ∧ w'.cell? ⟨b, off + a2, none⟩ = some (.int .u8 (y2 : Int)) ∧ w'.cell? ⟨b, off + a3, none⟩ = some (.int .u8 (y3 : Int))) (first | exact ⟨c0, c1, c2, c3⟩ | go_keep) (fail)
          obtain ⟨w4, hw4, hz4, hb4⟩ : ∃ w4, (wo.alloc (.cells #[.int .i64 (y0 : Int), .int .i64 (y1 : Int), .int .i64 (y2 : Int), .int .u8 (y3 : Int)] 94)).drew = w4 ∧ w4.heap[wo.heap.size]? = some (.cells #[.int .i64 (y0 : Int), .int .i64 (y1 : Int), .int .i64 (y2 : Int), .int .u8 (y3 : Int)] 94 (0, 0)) ∧ Below wo.heap.size wo w4 :=
            ⟨_, rfl, heap_alloc_last wo _, ⟨rfl, rfl, rfl, by show _ ≤ (wo.alloc _).heap.size; rw [nblk_alloc]; omega, fun k hk => heap_old wo _ k hk⟩⟩
          have hs4 : w4.heap.size = wo.heap.size + 1 := by rw [← hw4]; exact nblk_alloc _ _
          rw [hw4]
          have n0 : w4.cell? ⟨wo.heap.size, 0, none⟩ = some (.int .i64 (y0 : Int)) := by simp [World.cell?, hz4]
          have n1 : w4.cell? ⟨wo.heap.size, 1, none⟩ = some (.int .i64 (y1 : Int)) := by simp [World.cell?, hz4]
          have n2 : w4.cell? ⟨wo.heap.size, 2, none⟩ = some (.int .i64 (y2 : Int)) := by simp [World.cell?, hz4]
          have n3 : w4.cell? ⟨wo.heap.size, 3, none⟩ = some (.int .u8 (y3 : Int)) := by simp [World.cell?, hz4]
          have hob4 : w4.heap[w.heap.size + 1]? = some (.cells #[.int .i64 0, vv] 53 (0, 0)) := (hb4.block _ (by omega)).trans HOB.out
          have hxo4 : w4.heap[w.heap.size]? = some (.cells #[.int .i64 0, .slice none 0 0] 53 (0, 0)) := (hb4.block _ (by omega)).trans HXO.out
          obtain ⟨m0, m1, m2, m3⟩ := obj_cells hob4
          obtain ⟨v0, v1, v2, v3⟩ := obj_cells hxo4
          have hps := owns_ps (P := stpTo l k) (by rw [stpTo_len]; exact HOW.out) (by rw [stpTo_len]; omega)
          have hbw4 := HBO.out.trans (hb4.mono (by omega))
          clear hw4 u u0 u1 u2 u3 i0' i1 i2 i3 c0 c1 c2 c3 o0 o1 f1 f0 hz4
          rename_i hHeld
          clear hHeld
          by_cases hst : okB l k
          · obtain ⟨z0, z1⟩ := HOKB.out.1 hst
            have HST := hide hst
            have HOB4 := hide hob4
            have HOW4 := hide (ownsRow_below (ownsRow_below HOW.out hb4) ((Below.refl _ _).alloc (Nat.le_refl _) (.cells #[.int .i64 (y0 : Int), .int .i64 (y1 : Int), .int .i64 (y2 : Int), .int .u8 (y3 : Int)] 94)))
            have e1 : ¬ (2 : Int) < (y0 : Int) := by omega
            obtain ⟨tb, htb⟩ : ∃ tb : Bool, ((y0 : Int) != 1) = tb := ⟨_, rfl⟩
            obtain ⟨tc, htc⟩ : ∃ tc : Bool, ((y3 : Int) != 0) = tc := ⟨_, rfl⟩
            have hbc : tb = false ∨ tc = false := by
              rcases z1 with h | h
              · left; rw [← htb]; simp [h]
              · right; rw [← htc]; simp [h]
            have HZ := hide z1
            clear hst hob4 hxo4 hps z0 z1 v0 v1 v2 v3 HXO
            rcases hbc with rfl | rfl
            all_goals
              go_wp2_with (at_builtin; refine wpList_append_own _ rfl (.tmp 88) (.tmp 90) 51 rfl w2.heap.size 94 i0 (.agg #[.int .i64 0, .int .i64 0, .int .i64 0, .int .u8 0]) 4 32 Tryd.underlying51 hi0 hz0 hz1 hz2 rfl (by decide) vv k (stcs .i64 (stpTo l k)) rfl HOW4.out ⟨wo.heap.size + 1, 0, none⟩ 1 1 [.int .i64 (y0 : Int), .int .i64 (y1 : Int), .int .i64 (y2 : Int), .int .u8 (y3 : Int)] rfl rfl (four_new _ _ hs4.symm _ _ _ _ _) (by intro q hq; simp at hq; rcases hq with rfl | rfl | rfl | rfl <;> rfl) (by unfold maxLen; omega) (by omega) (by rw [nblk_alloc]; omega) ?_; intro v' w5 hown' hgrow hnn
                           have hob5 : w5.heap[w.heap.size + 1]? = some (.cells #[.int .i64 0, vv] 53 (0, 0)) := by
                             rw [hgrow.block _ (by rw [nblk_alloc]; omega) (fun e => by have := (HLT.out _ e.symm).1; omega), heap_old _ _ _ (by omega)]; exact HOB4.out
                           obtain ⟨_, s1, s2, _⟩ := obj_cells hob5
                           obtain ⟨g', cap', rfl, hg1⟩ : ∃ g' cap', v' = .slice (some ⟨g', 0, none⟩) (k + 1) cap' ∧ w2.heap.size ≤ g' := by
                             rcases hown'.2 with ⟨_, h0⟩ | ⟨g, cap, cur, hv, hb, _⟩
                             · omega
                             · exact ⟨g, cap, hv, hb⟩
                           have HO2 := hide hown'
                           have HG2 := hide hgrow
                           have HB2 := hide hob5
                           clear hown' hgrow hnn hob5)
            all_goals
              have hset : w5.grownBy (w5.setCell ⟨w.heap.size + 1, 1, none⟩ (.slice (some ⟨g', 0, none⟩) (k + 1) cap')) (some (w.heap.size + 1)) := grown_set' _ _ _ _
              refine ⟨⟨k + 1, .slice (some ⟨g', 0, none⟩) (k + 1) cap', by omega, by go_num, ?_, ?_, ?_, ?_⟩, by simp [intOf]; omega⟩
              · intro i hi
                by_cases e : i = k
                · subst e; exact HST.out
                · exact HOK.out i (by omega)
              · simp [World.setCell, Array.getElem?_modify, HB2.out]
              · rw [stpTo_succ, stcs_append]
                simp only [stcs, List.append_nil]
                rw [HSP.out]
                exact HO2.out.kept hset (.inr (by simp [Value.ownBlock]; omega))
              · have h0 : w2.grownBy w4 (some (w.heap.size + 1)) := ⟨hb4.os.trans HG.out.os, hb4.tape.trans HG.out.tape, hb4.output.trans HG.out.output, Nat.le_trans HG.out.size hb4.size, fun q hq hne => (hb4.block q (Nat.lt_of_lt_of_le hq HG.out.size)).trans (HG.out.block q hq hne)⟩
                have h1 := grown_alloc h0 (.cells #[.int .i64 (y0 : Int), .int .i64 (y1 : Int), .int .i64 (y2 : Int), .int .u8 (y3 : Int)] 94)
                have h2 := grown_own h1 HG2.out (fun q hq => (HLT.out q hq).1)
                exact ⟨hset.os.trans h2.os, hset.tape.trans h2.tape, hset.output.trans h2.output, Nat.le_trans h2.size hset.size, fun q hq hne => (hset.block q (Nat.lt_of_lt_of_le hq h2.size) hne).trans (h2.block q hq hne)⟩
          · have HBAD : Hid (¬ Good l) := fun hg => hst ((HGI.out.1 hg).2.2.2.2 k hlt)
            have hbad : ¬ (y0 ≤ 2 ∧ (y0 = 1 ∨ y3 = 0)) := fun h => hst (HOKB.out.2 h)
            obtain ⟨av, cv, rfl⟩ := hps.slice
            have hfin : Below w.heap.size w ((w4.setCell ⟨w.heap.size, 0, none⟩ (.int .i64 0)).setCell ⟨w.heap.size, 1, none⟩ (.slice av (stpTo l k).length cv)) := (hbw4.setCell (by simp) _).setCell (by simp) _
            clear hst HOKB HOW HLT HG HOK HSP hob4 hxo4 hps HOB HXO
            by_cases h2 : (2 : Int) < (y0 : Int)
            · clear hbad
              go_wp2
              exact bodyPost_ret (v := .tuple #[.agg #[.int .i64 0, .slice av (stpTo l k).length cv], .bool false]) (by simp [results, Tryd.results49, go_sem, v0, v1]) rfl ⟨fun hg => absurd hg HBAD.out, fun _ => ⟨_, _, _, rfl⟩, hfin⟩
            · have t1 : ((y0 : Int) != 1) = true := by simp; omega
              have t2 : ((y3 : Int) != 0) = true := by simp; omega
              clear hbad
              go_wp2
              exact bodyPost_ret (v := .tuple #[.agg #[.int .i64 0, .slice av (stpTo l k).length cv], .bool false]) (by simp [results, Tryd.results49, go_sem, v0, v1]) rfl ⟨fun hg => absurd hg HBAD.out, fun _ => ⟨_, _, _, rfl⟩, hfin⟩
        · have hkk : k = nOf l := by omega
          rw [hkk] at hown hok
          have hgood : Good l := HGI.out.2 ⟨h3, by rw [HR0.out]; exact hr32, hn2, HLL.out, hok⟩
          have HGOOD := hide hgood
          have c0 := hBo 0 (by omega)
          rw [HR0.out, Nat.add_zero] at c0
          have hps := owns_ps (P := stpTo l (nOf l)) (by rw [stpTo_len]; exact hown) (by rw [stpTo_len]; omega)
          obtain ⟨av, cv, rfl⟩ := hps.slice
          have hne1 : (Value.slice av (stpTo l (nOf l)).length cv).ownBlock ≠ some (w.heap.size + 1) := fun e => by have := (hown.lt _ e).1; omega
          have hne0 : (Value.slice av (stpTo l (nOf l)).length cv).ownBlock ≠ some w.heap.size := fun e => by have := (hown.lt _ e).1; omega
          obtain ⟨w6, hw6, hb6, hx6, hy6, ho6⟩ : ∃ w6, wo.setCell ⟨w.heap.size + 1, 0, none⟩ (.int .i64 (r0 : Int)) = w6 ∧ Below w.heap.size w w6 ∧ w6.heap[w.heap.size]? = some (.cells #[.int .i64 0, .slice none 0 0] 53 (0, 0)) ∧ w6.heap[w.heap.size + 1]? = some (.cells #[.int .i64 (r0 : Int), .slice av (stpTo l (nOf l)).length cv] 53 (0, 0)) ∧ w6.ownsRow w2.heap.size 94 4 (.slice av (stpTo l (nOf l)).length cv) (nOf l) (stcs .i64 (stpTo l (nOf l))) :=
            ⟨_, rfl, hbo.setCell (by simp) _, by rw [(grown_set' wo (w.heap.size + 1) 0 _).block _ (by omega) (by simp)]; exact hxo, by simp [World.setCell, Array.getElem?_modify, hob], hown.kept (grown_set' _ _ _ _) (.inr hne1)⟩
          obtain ⟨v0, v1, v2, v3⟩ := obj_cells hx6
          obtain ⟨m0, m1, m2, m3⟩ := obj_cells hy6
          have HP6 := hide (owns_ps (P := stpTo l (nOf l)) ((((show w6.ownsRow w2.heap.size 94 4 _ (stpTo l (nOf l)).length (stcs .i64 (stpTo l (nOf l))) by rw [stpTo_len] at *; exact ho6).kept (grown_set' w6 w.heap.size 0 (.int .i64 (r0 : Int))) (.inr hne0)).kept (grown_set' _ w.heap.size 1 (.slice av (stpTo l (nOf l)).length cv)) (.inr hne0))) (by rw [stpTo_len]; omega))
          have hfin : Below w.heap.size w ((w6.setCell ⟨w.heap.size, 0, none⟩ (.int .i64 (r0 : Int))).setCell ⟨w.heap.size, 1, none⟩ (.slice av (stpTo l (nOf l)).length cv)) := (hb6.setCell (by simp) _).setCell (by simp) _
          clear hown hps hok hgood hBo hob hxo hgr ho6 hne0 hne1
          go_wp2
          exact bodyPost_ret (v := .tuple #[.agg #[.int .i64 (r0 : Int), .slice av (stpTo l (nOf l)).length cv], .bool true]) (by simp [results, Tryd.results49, go_sem, v0, v1]) rfl ⟨fun _ => ⟨_, by rw [HR0.out], HP6.out⟩, fun hg => absurd HGOOD.out hg, hfin⟩
    · have HB : Hid (¬ Good l) := fun hg => hn2 ⟨(HGI.out.1 hg).2.2.1, (HGI.out.1 hg).2.2.2.1⟩
      have hv : (x1 : Int) * 256 + (x2 : Int) = ((nOf l : Nat) : Int) := by have := HN.out; omega
      by_cases hbig : (2000 : Int) < ((nOf l : Nat) : Int)
      · clear hn2
        go_enter Tryd.func49, Tryd.ntmps49
        go_wp2
        go_quiet (fail)
        go_wp2
        exact bodyPost_ret (v := .tuple #[.agg #[.int .i64 0, .slice none 0 0], .bool false]) (by simp [results, Tryd.results49, go_sem, p0, p1]) rfl ⟨fun hg => absurd hg HB.out, fun _ => ⟨_, _, _, rfl⟩, ((show Below w.heap.size w (w2.drewN _) from ⟨hb2.os, hb2.tape, hb2.output, hb2.size, hb2.block⟩).setCell (by simp) _).setCell (by simp) _⟩
      · have t0 : (((l.length : Nat) : Int) != 3 + 4 * ((nOf l : Nat) : Int)) = true := by simp; omega
        clear hn2
        go_enter Tryd.func49, Tryd.ntmps49
        go_wp2
        go_quiet (fail)
        go_wp2
        exact bodyPost_ret (v := .tuple #[.agg #[.int .i64 0, .slice none 0 0], .bool false]) (by simp [results, Tryd.results49, go_sem, p0, p1]) rfl ⟨fun hg => absurd hg HB.out, fun _ => ⟨_, _, _, rfl⟩, ((show Below w.heap.size w (w2.drewN _) from ⟨hb2.os, hb2.tape, hb2.output, hb2.size, hb2.block⟩).setCell (by simp) _).setCell (by simp) _⟩
  · have hrI : (32 : Int) < (r0 : Int) := by omega
    have HB : Hid (¬ Good l) := fun hg => by have := (HGI.out.1 hg).2.1; rw [HR0.out] at this; omega
    go_enter Tryd.func49, Tryd.ntmps49
    go_wp2
    exact bodyPost_ret (v := .tuple #[.agg #[.int .i64 0, .slice none 0 0], .bool false]) (by simp [results, Tryd.results49, go_sem, p0, p1]) rfl ⟨fun hg => absurd hg HB.out, fun _ => ⟨_, _, _, rfl⟩, (hb2.setCell (by simp) _).setCell (by simp) _⟩
end Go.Proofs.YthhommjlomphdaaDoor
