import Derived.Test.YtpaemkanfnddoaaGreatDoorM47
import Derived.SizedLaws
import Derived.Carry
import Derived.Lib.LaidTab
set_option maxRecDepth 100000
set_option maxHeartbeats 8000000
namespace Go.Proofs.YtpaemkanfnddoaaGreatDoor
open Go.RowKit
variable {D L G nb wb T n : Nat} {P : Program} {H : Type} {w w0 w' W : World}
section
open Go.Deep
def BgPost (w : World) (D L G nb : Nat) (e : Ending) (w' : World) : Prop :=
 ∃ wb p r sa ar v ps cache F pg A, e = .returned (.tuple #[.pointer (some ⟨wb, 0, none⟩), .bool true]) ∧ WbAt w' wb D L G (.pointer (some ⟨p, 0, none⟩)) (.pointer (some ⟨sa, 0, none⟩)) (.pointer (some ⟨r, 0, none⟩)) nb (.slice none 0 0) (.slice none 0 0) cache ∧
  RAt w' r (r + 1) (.slice none 0 0) [] ∧ Boxed w' sa 86 (.pointer (some ⟨ar, 0, none⟩)) ∧ Live w' ar v p ps D L G 1 pg (.slice none 0 0) [2] [] A F ∧ A.nb = nb ∧ w.heap.size ≤ p ∧ (∀ k, F.has p A.n k → w.heap.size ≤ k) ∧ w.heap.size ≤ r ∧ w.heap.size ≤ wb ∧ wb < ar ∧ wb < v ∧ ¬ F.has p A.n wb ∧ ¬ F.has p A.n r ∧ r < ar ∧ r < v ∧ wb ≠ r ∧ 0 ≤ cache ∧ cache ≤ 64 ∧ wb < sa ∧ r < sa ∧ Below w.heap.size w w'
theorem begin_any (hr : Pars D L G) (kf : 8 ≤ nb) (k8 : nb ≤ 1000) (c : Int) (hv : hvLaid w) (ht : tabLaid w) (hK : 3 ≤ w.heap.size) :
 Calls Tryz.prog 6 #[.agg #[.int .i64 (D : Nat), .int .i64 (L : Nat), .int .i64 (G : Nat)], .int .i64 (nb : Nat), .int .i64 c] w (BgPost w D L G nb) := by
 obtain ⟨kc, ky, ekc⟩ := rem_key c 65 (by decide) (by decide)
 have ekc' : wrap64 ((IntKind.u64.wrap c).tmod 65) = (kc : Int) := by simpa using ekc
 clear ekc
 obtain ⟨w1, k9⟩ : ∃ w1, w.alloc (.cells #[.int .i64 (D : Nat), .int .i64 (L : Nat), .int .i64 (G : Nat)] 25) = w1 := ⟨_, rfl⟩
 have hm : RowC w1 w.heap.size 25 [.int .i64 (D : Nat), .int .i64 (L : Nat), .int .i64 (G : Nat)] := by rw [← k9]; exact heap_alloc_last w _
 have x0 := hm.cell (j := 0) (u := .int .i64 (D : Nat)) rfl
 have x1 := hm.cell (j := 1) (u := .int .i64 (L : Nat)) rfl
 have x2 := hm.cell (j := 2) (u := .int .i64 (G : Nat)) rfl
 have kg : Below w.heap.size w w1 := by rw [← k9]; exact (Below.refl _ w).alloc (Nat.le_refl _) _
 have kh := shards_sz (D : Int) (L : Int) (G : Int) w1 ⟨by omega, by have := hr.d; omega⟩ ⟨by omega, by have := hr.l4; omega⟩ ⟨by omega, by have := hr.g; omega⟩
 have H1 := hide2 hm kg
 clear hm kg
 go_enter Tryz.func6, Tryz.ntmps6
 go_wp2_with fail
 refine kh.mono ?_
 rintro e w2 ⟨rfl, ki⟩
 have hz : Below w1.heap.size w1 w2 := by rw [ki]; exact (Below.refl _ w1).alloc (Nat.le_refl _) _
 clear ki k9 x0 x1 x2 kh
 have ka := newArray_any (D + L + G) nb w2 (by have := hr.s; omega) (by omega)
 rw [show ((D + L + G : Nat) : Int) = (D : Int) + (L : Int) + (G : Int) by omega] at ka
 go_wp2_with fail
 refine ka.mono ?_
 rintro e w3 ⟨rfl, hh, hF⟩
 obtain ⟨F, hc, h9⟩ : ∃ F : Foot, ArrAt w3 w2.heap.size (newArr (D + L + G) nb) F ∧ ∀ k, F.has w2.heap.size (D + L + G) k → w2.heap.size ≤ k := by
  rcases hF with ⟨h0, _⟩ | ⟨_, F, h1, h2⟩
  · have := hr.d1; omega
  · exact ⟨F, h1, h2⟩
 have h4 : Below w.heap.size w w2 := H1.out.2.trans (hz.mono H1.out.2.size)
 have h5 : Below w.heap.size w w3 := h4.trans (hh.mono h4.size)
 have k0 : RowC w3 w.heap.size 25 _ := H1.out.1.keep ((hh.block _ (Nat.lt_of_lt_of_le H1.out.1.lt hz.size)).trans (hz.block _ H1.out.1.lt))
 have y0 := k0.cell (j := 0) (u := .int .i64 (D : Nat)) rfl
 have y1 := k0.cell (j := 1) (u := .int .i64 (L : Nat)) rfl
 have y2 := k0.cell (j := 2) (u := .int .i64 (G : Nat)) rfl
 obtain ⟨p, hp⟩ : ∃ p, w2.heap.size = p := ⟨_, rfl⟩
 rw [hp] at hc h9 ⊢
 have H3 := hide6 hc h9 h5 hh hp h4
 clear hc h9 h5 hh hp h4 k0 hF ka hz
 dsimp only
 go_wp2_with fail
 obtain ⟨w5, hi⟩ : ∃ w5, (w3.alloc (.cells #[.slice none 0 0] 46)).alloc (.cells #[.int .i64 (D : Nat), .int .i64 (L : Nat), .int .i64 (G : Nat), .pointer (some ⟨p, 0, none⟩), .pointer none, .pointer (some ⟨w3.heap.size, 0, none⟩), .int .i64 (nb : Nat), .slice none 0 0, .slice none 0 0, .int .i64 (kc : Nat)] 40) = w5 := ⟨_, rfl⟩
 have k5 : w5.heap[w3.heap.size]? = some (.cells #[.slice none 0 0] 46 (0, 0)) := by rw [← hi]; exact (blk_alloc_lt _ _ _ (by simp)).trans (heap_alloc_last w3 _)
 have k6 : WbAt w5 (w3.heap.size + 1) D L G (.pointer (some ⟨p, 0, none⟩)) (.pointer none) (.pointer (some ⟨w3.heap.size, 0, none⟩)) nb (.slice none 0 0) (.slice none 0 0) (kc : Int) := by
  rw [← hi]
  have := heap_alloc_last (w3.alloc (.cells #[.slice none 0 0] 46)) (.cells #[.int .i64 (D : Nat), .int .i64 (L : Nat), .int .i64 (G : Nat), .pointer (some ⟨p, 0, none⟩), .pointer none, .pointer (some ⟨w3.heap.size, 0, none⟩), .int .i64 (nb : Nat), .slice none 0 0, .slice none 0 0, .int .i64 (kc : Nat)] 40)
  rw [World.size_alloc] at this
  exact this
 have he : Below w3.heap.size w3 w5 := by rw [← hi]; exact ((Below.refl _ w3).alloc (Nat.le_refl _) _).alloc (by simp) _
 have kb : w5.heap.size = w3.heap.size + 2 := by rw [← hi]; simp
 obtain ⟨hc, h9, h5, hh, hp, h4⟩ := H3.out
 have h7 : Below w.heap.size w w5 := h5.trans (he.mono h5.size)
 have hf : Below w5.heap.size w5 w5.drew := (Below.refl _ w5).drew
 have hn : ArrAt w5.drew p (newArr (D + L + G) nb) F := (hc.below he (Nat.le_refl _)).below hf (Nat.le_refl _)
 have k1 : 2 < 3 := by decide
 have k2 : 1 < 3 := by decide
 have hq := h4.size
 have h8 : ∀ k, F.has p (D + L + G) k → k < w3.heap.size := fun k hk => hc.has_lt hk
 have hs : ¬ F.has p (D + L + G) 2 := fun e => by have := h9 _ e; omega
 have hx : ¬ F.has p (D + L + G) 1 := fun e => by have := h9 _ e; omega
 have ha : Below w.heap.size w w5.drew := h7.trans (hf.mono h7.size)
 have kj := sopen_new (cache := (kc : Int)) (A := newArr (D + L + G) nb) hn (newArr_fit (by have := hr.s; omega) (by omega)) rfl hr.r hr.d1 hr.d hr.l1 hr.l4 hr.g hr.div hr.s (by omega) (by omega) kf (by show (-1 : Int) < 0; omega) (fun _ => rfl) (fun _ => rfl) (fun _ _ => rfl) (hv.below ha hv.lt) (ht.keep (ha.block _ ht.lt)) (Nat.le_trans hK ha.size) hs hx
 have kk := wopen_any k6 ⟨_, rfl⟩ (fun sa w2 => ∃ ar v ps u, w5.heap.size ≤ sa ∧ Boxed w2 sa 86 (.pointer (some ⟨ar, 0, none⟩)) ∧ NewArc w5.drew w2 p D L G ar v ps u (newArr (D + L + G) nb) F)
  (fun sa w2 hR => by
   obtain ⟨ar, v, ps, u, _, _, hN⟩ := hR
   exact hN.out.block _ (by show w3.heap.size + 1 < w5.heap.size; omega) (fun e => by have := h8 _ e; omega))
  (kj.mono (by
   rintro e w2 ⟨sa, ar, v, ps, u, rfl, h1, h2, h3⟩
   exact ⟨sa, rfl, ar, v, ps, u, h1, h2, h3⟩))
 have H5 := hide8 k5 k6 h7 kb hn h8 hs hx
 clear k5 k6 he kb hc h9 h5 hh hp h4 h7 hf hn k1 k2 hq h8 hs hx ha kj
 rw [hi]
 refine kk.mono ?_
 rintro e w6 ⟨rfl, sa, w7, w8, ⟨ar, v, ps, u, kd, hy, hN⟩, h6, k7, km⟩
 have H6 := hide6 kd hy hN h6 k7 km
 clear kd hy hN h6 k7 km kk hi
 dsimp only
 go_wp2
 go_ret2
 obtain ⟨k5, k6, h7, kb, hn, h8, hs, hx⟩ := H5.out
 obtain ⟨kd, hy, hN, h6, k7, rfl⟩ := H6.out
 obtain ⟨_, h9, h5, _, hp, h4⟩ := H3.out
 have kp := h5.size
 have hq := h4.size
 have kr : w5.heap.size ≤ ar := hN.arGe
 have kz : w5.heap.size ≤ v := hN.vGe
 have hg : ∀ j, j ≠ w3.heap.size + 1 → (w8.setCell ⟨w3.heap.size + 1, 4, none⟩ (.pointer (some ⟨sa, 0, none⟩))).heap[j]? = w8.heap[j]? := fun j hj => blk_setCell_other _ _ _ _ hj
 have q0 : w5.heap.size ≤ w7.heap.size := hN.out.size
 have q1 := h6.size
 have kn : ¬ F.has p (D + L + G) w3.heap.size := fun e => by have := h8 _ e; omega
 have ko : ¬ F.has p (D + L + G) (w3.heap.size + 1) := fun e => by have := h8 _ e; omega
 have ks := live_new hN hn rfl hr kf k8 (by show (-1 : Int) < 0; omega) (fun _ => rfl) (fun _ _ => rfl) (Nat.le_trans hK h7.size) hs hx (newArc_fit ((newArr_fit (by have := hr.s; omega) (by omega)).readTo _) hr.d hr.l4 hr.g rfl)
 have kv := ks.below h6
 have kx := kv.other (w' := w8.setCell ⟨w3.heap.size + 1, 4, none⟩ (.pointer (some ⟨sa, 0, none⟩))) (by simp [World.setCell]) (fun j hj _ => hg j hj) (by omega) (by omega) ko (by omega)
 have hO : Outside (F.has p (D + L + G)) w5 w7 := (Outside.drew w5).trans hN.out
 have ke : Below w.heap.size w (w8.setCell ⟨w3.heap.size + 1, 4, none⟩ (.pointer (some ⟨sa, 0, none⟩))) := by
  have h1 : Below w.heap.size w w7 := h7.trans (hO.below (B := w.heap.size) fun k hk => ⟨by omega, fun e => by have := h9 _ e; omega⟩)
  exact Below.setCell (p := ⟨w3.heap.size + 1, 4, none⟩) (h1.trans (h6.mono h1.size)) (by show w.heap.size ≤ w3.heap.size + 1; omega) _
 refine ⟨w3.heap.size + 1, p, w3.heap.size, sa, ar, v, ps, kc, F, u, _, rfl, k7, ⟨?_, World.ownsRow_nil _ _ _ _⟩, ?_, kx, rfl, by omega, fun k hk => by have := h9 k hk; omega, by omega, by omega, by omega, by omega, ko, kn, by omega, by omega, by omega, by omega, by omega, by omega, by omega, ke⟩
 · exact (hg _ (by omega)).trans ((h6.block _ (by omega)).trans ((hO.block _ (by omega) kn).trans k5))
 · exact (hg _ (by omega)).trans ((h6.block _ hy.lt).trans hy)
end
section
open Go.Deep Gf
theorem step_any (h : MS w0 w wb D L G nb T) (o : Stp) (dv : Value) (hd : Bs w0 dv o.d) (h2 : o.d.length ≤ 100000) (hT : T + 1 ≤ 1000000) (h3 : D ≤ 6) (h1 : 8 ≤ nb) (hk : o.kind ≤ 5) :
 Calls Tryz.prog 7 #[.pointer (some ⟨wb, 0, none⟩), .agg #[.int .i64 o.kind, .int .i64 o.a, .string o.s, dv]] w fun e w' => e = .returned (.bool true) ∧ MS w0 w' wb D L G nb (T + 1) := by
 obtain ⟨t, xs, Q, p, r, sa, ar, v, ps, pg, ob, P, A, F, out, want, cache, hM, hC, ht⟩ := h
 have h0 : ∃ da m dc, dv = .slice da m dc := by obtain ⟨da, dc, e, _⟩ := hd; exact ⟨da, _, dc, e⟩
 have hm : ∀ (e : Ending) (w' : World), e = .returned (.bool true) ∧ MS w0 w' wb D L G nb (t + 1) → e = .returned (.bool true) ∧ MS w0 w' wb D L G nb (T + 1) := fun e w' q => ⟨q.1, q.2.mono (by omega)⟩
 by_cases k0 : o.kind < 1
 · exact (step_none hM hC o dv h0 k0).mono hm
 by_cases k1 : o.kind = 1
 · exact (step_put hM hC o dv hd h2 (by omega) h3 k1).mono hm
 by_cases k2 : o.kind = 2
 · exact (step_get hM hC o dv h0 k2).mono hm
 by_cases k3 : o.kind = 3
 · exact (step_del hM hC o dv h0 (by omega) k3).mono hm
 by_cases k4 : o.kind = 4
 · exact (step_list hM hC o dv h0 k4).mono hm
 · exact (step_open hM hC o dv h0 h1 (by omega)).mono hm
theorem MS.same (h : MS w0 w wb D L G nb T) : ∃ oa om oc wa wm wc l, w.cell? ⟨wb, 7, none⟩ = some (.slice oa om oc) ∧ w.cell? ⟨wb, 8, none⟩ = some (.slice wa wm wc) ∧ Bs w (.slice oa om oc) l ∧ Bs w (.slice wa wm wc) l := by
 obtain ⟨t, xs, Q, p, r, sa, ar, v, ps, pg, ob, P, A, F, out, want, cache, hM, hC, ht⟩ := h
 obtain ⟨l, o1, o2⟩ := hC.ow
 obtain ⟨⟨oa, om, oc, rfl, _⟩, _⟩ := o1.sl
 obtain ⟨⟨wa, wm, wc, rfl, _⟩, _⟩ := o2.sl
 exact ⟨oa, om, oc, wa, wm, wc, l, hM.wbA.cells.2.2.2.2.2.2.2.1, hM.wbA.cells.2.2.2.2.2.2.2.2.1, o1.bs, o2.bs⟩
theorem MS.below (h : MS w0 w wb D L G nb T) (hb : Below w.heap.size w w') : MS w0 w' wb D L G nb T := by
 obtain ⟨t, xs, Q, p, r, sa, ar, v, ps, pg, ob, P, A, F, out, want, cache, hM, hC, ht⟩ := h
 exact ⟨t, xs, Q, p, r, sa, ar, v, ps, pg, ob, P, A, F, out, want, cache, hM.below hb, hC.keep (Kds.below hb _) (Nat.le_refl _), ht⟩
theorem MS.base (h : MS w0 w wb D L G nb T) : Below w0.heap.size w0 w := by
 obtain ⟨t, xs, Q, p, r, sa, ar, v, ps, pg, ob, P, A, F, out, want, cache, hM, hC, ht⟩ := h
 exact hM.base
theorem MS.start {e : Ending} (h : BgPost w D L G nb e w') (hb : Below w0.heap.size w0 w) (hg : globalLaid w0) (hK : 3 ≤ w0.heap.size) : ∃ wb, e = .returned (.tuple #[.pointer (some ⟨wb, 0, none⟩), .bool true]) ∧ MS w0 w' wb D L G nb 1 := by
 obtain ⟨wb, p, r, sa, ar, v, ps, cache, F, pg, A, rfl, hW, hR, hB, hl, h0, hp, hF, hr, hc, h1, h2, h3, h4, h5, h6, h7, h8, h9, he, hf, ha⟩ := h
 have hz := hb.size
 refine ⟨wb, rfl, 1, [], [], p, r, sa, ar, v, ps, pg, _, [2], A, F, _, _, cache, ⟨hW, hB, hl, h0, hb.trans (ha.mono hz), hg, hK, by omega, h1, fun k hk => by have := hF k hk; omega⟩, ⟨⟨_, _, hR⟩, trivial, [], Ow.nil _, Ow.nil _⟩, Nat.le_refl _⟩
def MpR (w0 : World) (wb D L G nb : Nat) (l : List Stp) (ok i : Value) (wr : World) : Prop := ∃ k : Nat, k ≤ l.length ∧ i = .int .i64 (k : Nat) ∧ ok = .bool true ∧ MS w0 wr wb D L G nb (1 + k)
theorem scr_row (l : List Stp) (k : Nat) (hk : k < l.length) : l[k].d.length ≤ scrLen l := by
 have h1 := scrLen_take l k hk
 have h2 := scrLen_mono l (k + 1)
 omega
def MpPost (w : World) (e : Ending) (w' : World) : Prop := e = .returned (.bool true) ∧ Below w.heap.size w w'
theorem maps_any {sv : Value} {l : List Stp} (h : Scr w sv l) (hs : ∀ x ∈ l, x.s.size ≤ 140737488355328 ∧ x.d.length ≤ 140737488355328) (a b c blocks cache : Int) (hg : globalLaid w) (hv : hvLaid w) (ht : tabLaid w) (hK : 3 ≤ w.heap.size) :
 Calls Tryz.prog 3 #[sv, .int .i64 a, .int .i64 b, .int .i64 c, .int .i64 blocks, .int .i64 cache] w (MpPost w) := by
 obtain ⟨kb, kd, ekb⟩ := rem_key blocks 400 (by decide) (by decide)
 have ekb' : wrap64 ((IntKind.u64.wrap blocks).tmod 400) = (kb : Int) := by simpa using ekb
 clear ekb
 have hp := small_any h hs
 obtain ⟨ao, cp, rfl, h0⟩ := h
 have H := hide4 h0 hg hv ht
 clear h0 hg hv ht hs
 go_enter Tryz.func3, Tryz.ntmps3
 go_wp2_with fail
 refine hp.mono ?_
 rintro e w1 ⟨bb, rfl, he, h9⟩
 clear hp
 cases bb with
 | false =>
  have H1 := hide h9
  clear h9 he
  go_wp2
  go_ret
  exact ⟨rfl, H1.out⟩
 | true =>
  obtain ⟨hq, hf⟩ := he rfl
  have H1 := hide h9
  clear h9 he
  go_wp2_with fail
  refine (few_any a b c w1).mono ?_
  rintro e w2 ⟨D, L, G, rfl, hP, k7, hr⟩
  have H2 := hide2 hP (H1.out.trans (hr.mono H1.out.size))
  clear hP hr
  go_wp2_with fail
  obtain ⟨w3, hh⟩ : ∃ w3, w2.alloc (.cells #[.int .i64 (D : Nat), .int .i64 (L : Nat), .int .i64 (G : Nat)] 25) = w3 := ⟨_, rfl⟩
  have h6 : Below w.heap.size w w3 := by rw [← hh]; exact H2.out.2.alloc H2.out.2.size _
  rw [hh]
  have hi := begin_any (nb := 8 + kb) H2.out.1 (by omega) (by omega) cache (H.out.2.2.1.below h6 H.out.2.2.1.lt) (H.out.2.2.2.keep (h6.block _ H.out.2.2.2.lt)) (Nat.le_trans hK h6.size)
  rw [show ((8 + kb : Nat) : Int) = 8 + (kb : Int) by omega] at hi
  have H3 := hide h6
  clear h6 hh
  refine hi.mono ?_
  rintro e w4 hx
  obtain ⟨wb, rfl, h1⟩ := MS.start hx H3.out H.out.2.1 hK
  have HM := hide h1
  clear h1 hx hi
  go_wp2_with fail
  go_loopw [16, 17] (fun ok i wr => MpR w wb D L G (8 + kb) l ok i wr) (fun _ i _ => l.length - (intOf i).toNat)
  case atStart => exact ⟨0, Nat.zero_le _, rfl, rfl, HM.out⟩
  case round =>
   obtain ⟨k, hk, rfl, rfl, h1⟩ := hrel
   by_cases ha : k < l.length
   · obtain ⟨sb, off, rfl, hc, hy⟩ := H.out.1 (fun e => by rw [e] at ha; simp at ha)
     obtain ⟨dv, r1, r2, r3, r4, r5⟩ := hy k ha
     have hj : l[k].d.length ≤ 100000 := Nat.le_trans (scr_row l k ha) hf
     obtain ⟨o, ho⟩ : ∃ o, l[k] = o := ⟨_, rfl⟩
     rw [ho] at r1 r2 r3 r5 hj
     have h7 := h1.base
     have q1 := (h7.cell (p := ⟨sb, off + k * 4, none⟩) hc).trans r1
     have q2 := (h7.cell (p := ⟨sb, off + k * 4 + 1, none⟩) hc).trans r2
     have q3 := (h7.cell (p := ⟨sb, off + k * 4 + 2, none⟩) hc).trans r3
     have q4 := (h7.cell (p := ⟨sb, off + k * 4 + 3, none⟩) hc).trans r4
     obtain ⟨da, dc, k8, _⟩ := id r5
     subst k8
     obtain ⟨m, hm⟩ : ∃ m, o.d.length = m := ⟨_, rfl⟩
     rw [hm] at q4 r5
     have k9 : (k : Int) < (l.length : Int) := by omega
     obtain ⟨w5, hn⟩ : ∃ w5, wr.alloc (.cells #[.int .i64 o.kind, .int .i64 o.a, .string o.s, .slice da m dc] 33) = w5 := ⟨_, rfl⟩
     have hz : Below wr.heap.size wr w5 := by rw [← hn]; exact (Below.refl _ wr).alloc (Nat.le_refl _) _
     have h3 := h1.below hz
     have h8 : OpAt w5 wr.heap.size o (.slice da m dc) := by rw [← hn]; exact heap_alloc_last wr _
     have h2 := fun h5 => step_any h3 o _ r5 hj (by omega) k7 (by omega) h5
     obtain ⟨y0, y1, y2, y3⟩ := h8.cells
     have k0 : MpR w wb D L G (8 + kb) l (.bool true) (.int .i64 ((k : Int) + 1)) w5 := ⟨k + 1, by omega, rfl, rfl, h3.mono (by omega)⟩
     have H5 := hide2 h2 k0
     clear h2 k0 h8 h3 hz h7 r1 r2 r3 r4 r5 hj h1 hy hm ho
     by_cases h5 : o.kind ≤ 5
     · have ka : ¬ (5 : Int) < o.kind := by omega
       go_wp2_with fail
       clear q1 q2 q3 q4 y0 y1 y2 y3 hn
       refine (H5.out.1 h5).mono ?_
       rintro e w6 ⟨rfl, h4⟩
       obtain ⟨oa, om, oc, wa, wm, wd, lo, c7, c8, b1, b2⟩ := h4.same
       have k5 : ∀ z, MpR w wb D L G (8 + kb) l (.bool true) (.int .i64 ((k : Int) + 1)) (w6.drewN z) := fun z => ⟨k + 1, by omega, rfl, rfl, (h4.below (w' := w6.drewN z) ⟨rfl, rfl, rfl, Nat.le_refl _, fun _ _ => rfl⟩).mono (by omega)⟩
       have k6 : ∀ z, Calls Tryz.prog 8 #[.slice oa om oc, .slice wa wm wd] (w6.drewN z) fun e w' => e = .returned (.bool true) ∧ ∃ m, w' = (w6.drewN z).drewN m := fun z => same_eq _ _ lo _ (b1.mono ⟨rfl, rfl, rfl, Nat.le_refl _, fun _ _ => rfl⟩) (b2.mono ⟨rfl, rfl, rfl, Nat.le_refl _, fun _ _ => rfl⟩)
       have H6 := hide2 k5 k6
       clear k5 k6 h4 b1 b2
       go_upto_region 12 with fail
       go_quiet ((go_at_call 8; exact Calls.quiet_of (H6.out.2 _)))
       clear c7 c8
       go_wp2
       exact ⟨H6.out.1 _, by simp [intOf]; omega⟩
     · have ka : (5 : Int) < o.kind := by omega
       clear h5
       go_wp2
       exact ⟨H5.out.2, by simp [intOf]; omega⟩
   · have kc : k = l.length := by omega
     subst kc
     have HB := hide h1.base
     clear h1
     go_wp2
     go_ret
     exact ⟨rfl, HB.out⟩
end
section
open Go.Deep Go.ChangeShapes Go.WideShapes Go.Joins
theorem Tryz.laidOutM : laidOutB Tryz.prog = true := by kernel_rfl
theorem Tryz.cellsOp : Tryz.prog.cellsOf 33 = 4 := by kernel_rfl
theorem Tryz.cellsIntM : Tryz.prog.cellsOf 3 = 1 := by kernel_rfl
theorem Tryz.cellsStrM : Tryz.prog.cellsOf 9 = 1 := by kernel_rfl
theorem Tryz.cellsBytesM : Tryz.prog.cellsOf 31 = 1 := by kernel_rfl
theorem Tryz.cellsByteM : Tryz.prog.cellsOf 5 = 1 := by kernel_rfl
theorem Tryz.bytesByteM : Tryz.prog.bytesOf 5 = 1 := by kernel_rfl
instance : Inhabited Stp := ⟨⟨0, 0, ByteArray.empty, []⟩⟩
theorem reach_isM : reachBytes = 140737488351232 := rfl
theorem list4M {l : List Value} (h : l.length = 4) : ∃ a b c d, l = [a, b, c, d] := by
 match l, h with
 | [a, b, c, d], _ => exact ⟨a, b, c, d, rfl⟩
theorem weightsAll_memM {e : TypeId} : ∀ {ds : List (DataW H)} {d : DataW H}, d ∈ ds → ∀ n ∈ d.weights P e, n ∈ DataW.weightsAll P e ds
 | d0 :: ds, d, hd, n, hn => by
  simp only [DataW.weightsAll, List.mem_append]
  rcases List.mem_cons.1 hd with rfl | hd
  · exact .inl hn
  · exact .inr (weightsAll_memM hd n hn)
theorem bytes_cell {enc : TypeId × Value → H} {v : Value} {x : DataW H × List MemPlace} (h : DataW.trod enc Tryz.prog W 0 (fun _ => true) true n 31 [v] = some x) (h5 : ∀ k ∈ x.1.weights Tryz.prog 31, k ≤ reachBytes) : ∃ l : List Nat, Bs W v l := by
 rcases open_ints Tryz.underlying31 Tryz.underlying5 Tryz.cellsByteM h with ⟨h1, _⟩ | ⟨a, len, cap, zs, h1, _, hl, hm, hz, hx, h0, hw⟩
 · simp at h1
   exact ⟨[], none, 0, h1, by simp, by simp, by simp, fun h => absurd rfl h⟩
 · simp at h1
   simp only [if_true] at hz
   subst hx
   have hb := h5 (zs.length * 1) (by
    simp only [DataW.weights, Tryz.underlying31, lits, Tryz.bytesByteM]
    refine List.mem_cons.2 (.inl ?_)
    simp only [List.length_map, List.length_take, List.length_drop]
    omega)
   rw [reach_isM] at hb
   have h2 : ((zs.take len).map Int.toNat).length = len := by simp; omega
   refine ⟨(zs.take len).map Int.toNat, some a, cap, by rw [h2]; exact h1, by rw [h2]; exact hl, by rw [h2]; omega, fun y hy => ?_, fun h6 => ?_⟩
   · obtain ⟨z, h7, rfl⟩ := List.mem_map.1 hy
     have := bounds_u8 (hw z (List.mem_of_mem_take h7))
     omega
   · have h8 : 0 < len := by
      rcases Nat.eq_zero_or_pos len with e | e
      · subst e; exact absurd rfl h6
      · exact e
     obtain ⟨b, o, sp⟩ := a
     have h9 := h0 0 (by omega)
     have ha : sp = none := by simpa [Addr.add] using World.cell?_spot h9
     subst ha
     refine ⟨b, o, rfl, fun k hk => ?_⟩
     have hc : k < len := by rw [h2] at hk; exact hk
     have h3 : k < zs.length := by omega
     have h4 := h0 k h3
     rw [add_plain] at h4
     rw [h4]
     have he := bounds_u8 (hw _ (List.getElem_mem h3))
     simp [h3, hc]
     omega
theorem op_of_trod {enc : TypeId × Value → H} {cs : List Value} {x : DataW H × List MemPlace} (h : DataW.trod enc Tryz.prog W 0 (fun _ => true) true n 33 cs = some x) (h4 : ∀ k ∈ x.1.weights Tryz.prog 33, k ≤ reachBytes) :
 ∃ o : Stp × Value, cs = [.int .i64 o.1.kind, .int .i64 o.1.a, .string o.1.s, o.2] ∧ Bs W o.2 o.1.d ∧ o.1.s.size ≤ 140737488355328 := by
 obtain ⟨y0, y1, y2, y3, m, rfl, hl, h0, h1, h2, h3⟩ := trod_struct4 Tryz.underlying33 h
 rw [Tryz.cellsOp] at hl
 obtain ⟨a, b, c, d, rfl⟩ := list4M hl
 obtain ⟨z0, e0, _, w0⟩ := DataW.trod_int Tryz.underlying3 h0
 obtain ⟨z1, e1, _, w1⟩ := DataW.trod_int Tryz.underlying3 h1
 obtain ⟨s, e2, h5, _⟩ := DataW.trod_string Tryz.underlying9 h2
 rw [show Tryz.prog.cellsOf 3 = 1 from Tryz.cellsIntM] at e0 e1
 rw [show Tryz.prog.cellsOf 9 = 1 from Tryz.cellsStrM] at e2
 rw [show Tryz.prog.cellsOf 31 = 1 from Tryz.cellsBytesM] at h3
 simp at e0 e1 e2
 subst e0 e1 e2
 simp only [DataW.weights, Tryz.underlying33] at h4
 obtain ⟨dl, hd⟩ := bytes_cell (v := d) (by simpa using h3) (fun k hk => h4 k (by
  show k ∈ y0.1.weights Tryz.prog _ ++ (y1.1.weights Tryz.prog _ ++ (y2.1.weights Tryz.prog _ ++ (y3.1.weights Tryz.prog 31 ++ [])))
  simp only [List.mem_append]
  exact .inr (.inr (.inr (.inl hk)))))
 refine ⟨(⟨z0, z1, s, dl⟩, d), rfl, hd, ?_⟩
 have := h4 s.size (by
  show s.size ∈ y0.1.weights Tryz.prog _ ++ (y1.1.weights Tryz.prog _ ++ (y2.1.weights Tryz.prog 9 ++ (y3.1.weights Tryz.prog _ ++ [])))
  simp only [List.mem_append]
  refine .inr (.inr (.inl ?_))
  rw [h5]
  simp only [DataW.weights, List.mem_cons]
  exact .inl (show s.data.size = s.data.toList.length from Array.length_toList.symm))
 rw [reach_isM] at this
 show s.size ≤ _
 omega
theorem script_of_trod {enc : TypeId × Value → H} {ao : Option Addr} {len0 cap0 : Nat} {d : DataW H} {ps : List MemPlace} (h : DataW.Trod enc Tryz.prog W 0 (fun _ => true) true 22 (.slice ao len0 cap0) d ps) (h6 : ∀ n ∈ d.weights Tryz.prog 22, n ≤ reachBytes) :
 ∃ l : List Stp, Scr W (.slice ao len0 cap0) l ∧ ∀ x ∈ l, x.s.size ≤ 140737488355328 ∧ x.d.length ≤ 140737488355328 := by
 obtain ⟨fuel, hf⟩ := h
 rcases open_slice Tryz.underlying22 hf with ⟨h0, _⟩ | ⟨a, len, cap, m, n', D, Pl, h0, _, hl, hm, h7, hx, h8⟩
 · simp [Value.cells] at h0
   obtain ⟨rfl, rfl, rfl⟩ := h0
   exact ⟨[], ⟨none, 0, rfl, fun h => absurd rfl h⟩, fun x hx => (by cases hx)⟩
 · simp [Value.cells] at h0
   obtain ⟨rfl, rfl, rfl⟩ := h0
   simp only [Prod.mk.injEq] at hx
   obtain ⟨rfl, _⟩ := hx
   simp only [DataW.weights, Tryz.underlying22] at h6
   simp only [if_true] at h7
   have h4 := h7.symm
   subst h4
   rw [Tryz.cellsOp] at h8
   obtain ⟨f, hf⟩ := choose_lt (α := Stp × Value) (n := len0) (p := fun i s => (∀ j, j < 4 → W.cell? ((a.add (i * 4)).add j) = ([.int .i64 s.1.kind, .int .i64 s.1.a, .string s.1.s, s.2] : List Value)[j]?) ∧ Bs W s.2 s.1.d ∧ s.1.s.size ≤ 140737488355328) (fun i hi => by
    obtain ⟨cs', h1, h2⟩ := h8 i (by omega)
    obtain ⟨s, rfl, hs⟩ := op_of_trod h2 (fun k hk => h6 k (List.mem_cons_of_mem _ (List.mem_append_left _ (weightsAll_memM (d := D i) (List.mem_map.2 ⟨i, List.mem_range.2 hi, rfl⟩) k hk))))
    obtain ⟨_, _, hc⟩ := World.cells?_some h1
    exact ⟨s, hc, hs⟩)
   obtain ⟨b, o, sp⟩ := a
   refine ⟨(List.range len0).map fun i => (f i).1, ⟨some ⟨b, o, sp⟩, cap0, by simp, fun ha => ?_⟩, fun x hx => ?_⟩
   · have h3 : 0 < len0 := by
      rcases Nat.eq_zero_or_pos len0 with e | e
      · subst e; exact absurd rfl ha
      · exact e
     have he := (hf 0 h3).1 0 (by decide)
     have hg : sp = none := by
      have : W.cell? (((⟨b, o, sp⟩ : Addr).add (0 * 4)).add 0) = some (.int .i64 (f 0).1.kind) := he
      simpa [Addr.add] using World.cell?_spot this
     subst hg
     have h9 := (hf 0 h3).1 0 (by decide)
     rw [add_plain, add_plain] at h9
     refine ⟨b, o, rfl, block_lt_of_cell (show W.cell? _ = some _ from h9), fun i hi => ?_⟩
     have hh : i < len0 := by simpa using hi
     obtain ⟨hc, h5, _⟩ := hf i hh
     have q0 := hc 0 (by decide)
     have q1 := hc 1 (by decide)
     have q2 := hc 2 (by decide)
     have q3 := hc 3 (by decide)
     rw [add_plain, add_plain] at q0 q1 q2 q3
     simp only [List.getElem_map, List.getElem_range]
     exact ⟨(f i).2, q0, q1, q2, q3, h5⟩
   · obtain ⟨i, hi, rfl⟩ := List.mem_map.1 hx
     obtain ⟨_, h5, hs⟩ := hf i (by simpa using hi)
     obtain ⟨_, _, _, _, hj, _⟩ := h5
     exact ⟨hs, hj⟩
end
section
open Go.ChangeShapes Go.WideShapes
abbrev laids3 : List (String × DataW Unit) := [("math/bits.deBruijn64tab", Rows.laid_math_bits_deBruijn64tab), ("errors.errorType", Rows.laid_errors_errorType), ("stripes/record.halves", Rows.laid_stripes_record_halves)]
def tabZ3 : List Int := (List.range 64).map fun j => ((Lib.deBruijn64tab.getD j 0 : Nat) : Int)
def halvesZ : List Int := halvesL.map fun (x : Nat) => (x : Int)
theorem Tryz.bt3 : Tryz.prog.globalNamed "math/bits.deBruijn64tab" = some 1 := by kernel_rfl
theorem Tryz.bt3Type : (Tryz.prog.globals[1]?).map (·.type) = some 239 := by kernel_rfl
theorem Tryz.bt3Cells : Tryz.prog.cellsOf 239 = 64 := by kernel_rfl
theorem Tryz.byteCells3 : Tryz.prog.cellsOf 5 = 1 := by kernel_rfl
theorem Tryz.hv3 : Tryz.prog.globalNamed "stripes/record.halves" = some 2 := by kernel_rfl
theorem Tryz.hv3Type : (Tryz.prog.globals[2]?).map (·.type) = some 308 := by kernel_rfl
theorem Tryz.hv3Cells : Tryz.prog.cellsOf 308 = 16 := by kernel_rfl
theorem Tryz.u32Cells3 : Tryz.prog.cellsOf 286 = 1 := by kernel_rfl
theorem tab_data3 : (Rows.laid_math_bits_deBruijn64tab : DataW Unit) = Lib.tabData .u8 tabZ3 := by rfl
theorem hv_data3 : (Rows.laid_stripes_record_halves : DataW Unit) = Lib.tabData .u32 halvesZ := by rfl
theorem laid_tail {x : String × DataW Unit} {r : List (String × DataW Unit)} (h : laidMet P (x :: r) w) : laidMet P r w := by
 obtain ⟨ps, hv, h1, h0⟩ := h
 obtain ⟨n, d⟩ := x
 obtain ⟨g, t, cs, fuel, p, q, _, _, _, _, hq, rfl⟩ := hv
 exact ⟨q, hq, List.Nodup.sublist (List.sublist_append_right _ _) h1, fun b off hm => h0 b off (List.mem_append_right _ hm)⟩
theorem all_of_laid (h : laidMetH Tryz.prog laids3 W) : globalLaid W ∧ tabLaid W ∧ hvLaid W ∧ 3 ≤ W.heap.size := by
 have h' : laidMet Tryz.prog [("math/bits.deBruijn64tab", Rows.laid_math_bits_deBruijn64tab), ("stripes/record.halves", Rows.laid_stripes_record_halves)] W ∧ handlesMet Tryz.prog [("errors.errorType", Rows.laid_errors_errorType)] W := h
 have hg : globalLaid W := handle_of_laid (show laidMetH Tryz.prog [("errors.errorType", Rows.laid_errors_errorType)] W from ⟨⟨[], rfl, List.nodup_nil, fun b off hb => by cases hb⟩, h'.2⟩)
 have hd := h'.1
 have h0 := laid_tail hd
 rw [tab_data3] at hd
 rw [hv_data3] at h0
 have ht := Lib.tabIs_of_head Tryz.bt3 Tryz.bt3Type Tryz.underlying239 Tryz.underlying5 Tryz.byteCells3 Tryz.bt3Cells hd
 have hh := Lib.tabIs_of_head Tryz.hv3 Tryz.hv3Type Tryz.underlying308 Tryz.underlying286 Tryz.u32Cells3 Tryz.hv3Cells h0
 have h5 : tabLaid W := fun j hj => by
  have := ht.cell Tryz.bt3 j (by simpa [tabZ3] using hj)
  rw [this]
  unfold tabZ3
  simp [hj]
 have h6 : hvLaid W := fun j hj => by
  have hl : halvesL.length = 16 := rfl
  have := hh.cell Tryz.hv3 j (by unfold halvesZ; rw [List.length_map, hl]; exact hj)
  rw [this]
  unfold halvesZ
  congr 2
  rw [List.getD_eq_getElem?_getD, List.getD_eq_getElem?_getD, List.getElem?_map, List.getElem?_eq_getElem (by omega)]
  rfl
 refine ⟨hg, h5, h6, ?_⟩
 have h1 := block_lt_of_cell (h5 0 (by decide))
 have h2 := block_lt_of_cell (h6 0 (by decide))
 have h3 : 1 < W.heap.size := h1
 have h4 : 2 < W.heap.size := h2
 omega
noncomputable def laidWorld3 (os : Os) : World :=
 { World.holding Tryz.prog os ⟨#[], #[], []⟩ with heap := (((World.holding Tryz.prog os ⟨#[], #[], []⟩).heap.modify 0 fun | .cells _ t frozen => .cells #[.iface 132 (.agg #[.pointer (some ⟨3, 49, none⟩)])] t frozen | o => o).modify 1 fun | .cells _ t frozen => .cells (tabZ3.map fun z => Value.int .u8 z).toArray t frozen | o => o).modify 2 fun | .cells _ t frozen => .cells (halvesZ.map fun z => Value.int .u32 z).toArray t frozen | o => o }
theorem laidWorld3_met (os : Os) (args : Array Value) : laidMetH Tryz.prog laids3 ((laidWorld3 os).forCall (fun _ _ => 0) ⟨#[], args, []⟩).memory :=
 laidMetH_of_parts (laidMet_of_run' 8 (by kernel_rfl) (by kernel_rfl)) (by kernel_rfl)
theorem trodAll_mk5 {enc : TypeId × Value → H} {base : Nat} {spare : Nat → Bool} {held : Bool} {t0 t1 t2 t3 t4 : TypeId} {v0 v1 v2 v3 v4 : Value} {d0 d1 d2 d3 d4 : DataW H} {p0 p1 p2 p3 p4 : List MemPlace} (h0 : DataW.Trod enc P w base spare held t0 v0 d0 p0) (h1 : DataW.Trod enc P w base spare held t1 v1 d1 p1) (h2 : DataW.Trod enc P w base spare held t2 v2 d2 p2) (h3 : DataW.Trod enc P w base spare held t3 v3 d3 p3) (h4 : DataW.Trod enc P w base spare held t4 v4 d4 p4) :
 DataW.TrodAll enc P w base spare held [t0, t1, t2, t3, t4] [v0, v1, v2, v3, v4] [d0, d1, d2, d3, d4] (p0 ++ (p1 ++ (p2 ++ (p3 ++ p4)))) := ⟨p0, p1 ++ (p2 ++ (p3 ++ p4)), h0, trodAll_mk4 h1 h2 h3 h4, rfl⟩
end
end Go.Proofs.YtpaemkanfnddoaaGreatDoor
