import Derived.Test.YtpaemkanfnddoaaGreatDoorM04
set_option maxRecDepth 100000
set_option maxHeartbeats 8000000
namespace Go.Proofs.YtpaemkanfnddoaaGreatDoor
open Go.RowKit Go.Deep
variable {vals : Array Value} {l : List Nat} {b off c q : Nat} {w w0 : World}
def rootA (D L G t f n : Nat) : Array Value := #[.int .i64 D, .int .i64 L, .int .i64 G, .int .u64 t, .int .i64 f, .int .i64 n]
theorem Bs.of_owns {base : Nat} {v : Value} {n : Nat} (h : w.ownsRow base 5 1 v n (bts l)) (hx : ∀ x ∈ l, x < 256) (hl : l.length ≤ 1000000) : Bs w v l := by
 have hn : l.length = n := by have := h.1; rw [bts_len] at this; omega
 rcases h.2 with ⟨rfl, h0⟩ | ⟨g, cap, cur, rfl, e2, e3, e4, e5, e6, e7⟩
 · subst h0
   have : l = [] := List.eq_nil_of_length_eq_zero hn
   subst this
   exact ⟨none, 0, rfl, by simp, by simp, hx, fun h => absurd rfl h⟩
 · refine ⟨some ⟨g, 0, none⟩, cap, by rw [hn], by omega, by omega, hx, fun _ => ⟨g, 0, rfl, fun k hk => ?_⟩⟩
   have := h.cells (g := g) rfl k (.int .u8 ((l.getD k 0 : Nat) : Int)) (by unfold bts; rw [List.getElem?_map, List.getElem?_eq_getElem hk, List.getD_eq_getElem?_getD, List.getElem?_eq_getElem hk]; rfl)
   rw [add0] at this
   rw [Nat.zero_add]; exact this
theorem owns_lit4 (w : World) (a b c d : Nat) : (w.alloc (.cells #[.int .u8 (a : Int), .int .u8 (b : Int), .int .u8 (c : Int), .int .u8 (d : Int)] 5)).ownsRow w.heap.size 5 1 (.slice (some ⟨w.heap.size, 0, none⟩) 4 4) 4 (bts [a, b, c, d]) :=
 ⟨rfl, .inr ⟨w.heap.size, 4, _, rfl, Nat.le_refl _, blk_alloc_new _ _, Nat.le_refl _, by unfold maxLen; omega, rfl, rfl⟩⟩
theorem blank_body (w : World) : Calls Tryz.prog 248 #[.agg #[]] w fun e w' => e = .returned (.slice none 0 0) ∧ Below w.heap.size w w' := by
 go_enter Tryz.func248, Tryz.ntmps248
 go_wp2
 go_ret
 exact ⟨rfl, (Below.refl _ w).alloc (Nat.le_refl _) _⟩
theorem root_body (D L G t f n : Nat) (w : World) (k8 : (Rec.root D L G t f n).ok) :
 Calls Tryz.prog 234 #[.agg (rootA D L G t f n)] w fun e w' => ∃ v, e = .returned v ∧ Bs w' v (Rec.root D L G t f n).body ∧ Below w.heap.size w w' := by
 obtain ⟨h1, h2, h3, h4, h5, h6⟩ := k8
 have hx : (w.alloc (.cells (rootA D L G t f n) 107)).heap[w.heap.size]? = some (.cells (rootA D L G t f n) 107 (0, 0)) := blk_alloc_new _ _
 have hy : (w.alloc (.cells (rootA D L G t f n) 107)).heap.size = w.heap.size + 1 := by simp
 have hm := owns_lit4 (w.alloc (.cells (rootA D L G t f n) 107)) 1 D L G
 have hh : ((w.alloc (.cells (rootA D L G t f n) 107)).alloc (.cells #[.int .u8 1, .int .u8 (D : Int), .int .u8 (L : Int), .int .u8 (G : Int)] 5)).heap[w.heap.size]? = some (.cells (rootA D L G t f n) 107 (0, 0)) := (blk_alloc_lt _ _ _ (by simp)).trans hx
 have hn : Below w.heap.size w ((w.alloc (.cells (rootA D L G t f n) 107)).alloc (.cells #[.int .u8 1, .int .u8 (D : Int), .int .u8 (L : Int), .int .u8 (G : Int)] 5)) := ((Below.refl _ w).alloc (Nat.le_refl _) _).alloc (by simp) _
 have hp : ((w.alloc (.cells (rootA D L G t f n) 107)).alloc (.cells #[.int .u8 1, .int .u8 (D : Int), .int .u8 (L : Int), .int .u8 (G : Int)] 5)).heap.size = w.heap.size + 2 := by simp
 rw [hy] at hm
 unfold rootA at *
 obtain ⟨w1, hq⟩ : ∃ w1, (w.alloc (.cells #[.int .i64 D, .int .i64 L, .int .i64 G, .int .u64 t, .int .i64 f, .int .i64 n] 107)).alloc (.cells #[.int .u8 1, .int .u8 (D : Int), .int .u8 (L : Int), .int .u8 (G : Int)] 5) = w1 := ⟨_, rfl⟩
 have ha : w1.ownsRow (w.heap.size + 1) 5 1 (.slice (some ⟨w.heap.size + 1, 0, none⟩) 4 4) 4 (bts [1, D, L, G]) := by rw [← hq]; exact hm
 rw [hq] at hh hn hp
 have c1 : w1.cell? ⟨w.heap.size, 3, none⟩ = some (.int .u64 t) := by simp [World.cell?, hh]
 have H1 := hide4 ha hh hn hp
 clear hm ha hh hn hx hy hp
 go_enter Tryz.func234, Tryz.ntmps234
 go_wp2_with fail
 refine (append_num (w.heap.size + 1) _ 4 (bts [1, D, L, G]) t 8 w1 H1.out.1 (by have := H1.out.2.2.2; omega) (by decide) (by decide)).mono ?_
 rintro e w2 ⟨v2, rfl, hz, hi, hc⟩
 have h7 : w2.heap[w.heap.size]? = some (.cells #[.int .i64 D, .int .i64 L, .int .i64 G, .int .u64 t, .int .i64 f, .int .i64 n] 107 (0, 0)) := (hi.block _ (by have := H1.out.2.2.2; omega) (fun e => by simp [Value.ownBlock] at e)).trans H1.out.2.1
 have he : Below w.heap.size w w2 := H1.out.2.2.1.trans (hi.below fun k hk => ⟨by have := H1.out.2.2.2; omega, fun e => by simp [Value.ownBlock] at e; omega⟩)
 have k0 := hi.size
 have c2 : w2.cell? ⟨w.heap.size, 4, none⟩ = some (.int .i64 f) := by simp [World.cell?, h7]
 have H2 := hide5 hz h7 he k0 hc
 clear hz hi hc h7 he k0 hq
 go_wp2_with fail
 refine (append_num (w.heap.size + 1) _ (4 + 8) (bts [1, D, L, G] ++ bts (be t 8)) f 4 w2 H2.out.1 (by have := H1.out.2.2.2; have := H2.out.2.2.2.1; omega) (by decide) (by decide)).mono ?_
 rintro e w3 ⟨v3, rfl, k5, hj, hr⟩
 have h8 : ∀ k, k ≤ w.heap.size → ¬ v2.ownBlock = some k := fun k hk e => by have := (H2.out.1.lt k e).1; omega
 have h9 : w3.heap[w.heap.size]? = some (.cells #[.int .i64 D, .int .i64 L, .int .i64 G, .int .u64 t, .int .i64 f, .int .i64 n] 107 (0, 0)) := (hj.block _ (by have := H1.out.2.2.2; have := H2.out.2.2.2.1; omega) (h8 _ (Nat.le_refl _))).trans H2.out.2.1
 have hf : Below w.heap.size w w3 := H2.out.2.2.1.trans (hj.below fun k hk => ⟨by have := H1.out.2.2.2; have := H2.out.2.2.2.1; omega, h8 k (by omega)⟩)
 have k6 := Nat.le_trans H2.out.2.2.2.1 hj.size
 have c3 : w3.cell? ⟨w.heap.size, 5, none⟩ = some (.int .i64 n) := by simp [World.cell?, h9]
 have H3 := hide4 k5 h9 hf k6
 clear k5 hj hr h9 hf k6 c2 h8
 go_wp2_with fail
 refine (append_num (w.heap.size + 1) _ (4 + 8 + 4) (bts [1, D, L, G] ++ bts (be t 8) ++ bts (be f 4)) n 4 w3 H3.out.1 (by have := H1.out.2.2.2; have := H3.out.2.2.2; omega) (by decide) (by decide)).mono ?_
 rintro e w4 ⟨v4, rfl, hg, k7, hs⟩
 have h0 : Below w.heap.size w w4 := H3.out.2.2.1.trans (k7.below fun k hk => ⟨by have := H1.out.2.2.2; have := H3.out.2.2.2; omega, fun e => by have := (H3.out.1.lt k e).1; omega⟩)
 have H4 := hide2 hg h0
 clear hg k7 hs h0 c3
 go_wp2
 go_ret
 obtain ⟨hg, h0⟩ := H4.out
 refine ⟨v4, rfl, ?_, h0⟩
 have hl : bts [1, D, L, G] ++ bts (be t 8) ++ bts (be f 4) ++ bts (be n 4) = bts (Rec.root D L G t f n).body := by
  rw [← bts_append, ← bts_append, ← bts_append]
  simp only [Rec.body, Nat.mod_eq_of_lt h1, Nat.mod_eq_of_lt h2, Nat.mod_eq_of_lt h3, List.append_assoc]
 rw [hl] at hg
 exact Bs.of_owns hg (body_lt (r := .root D L G t f n) ⟨h1, h2, h3, h4, h5, h6⟩) (Nat.le_trans (body_len (r := .root D L G t f n) ⟨h1, h2, h3, h4, h5, h6⟩) (by decide))
theorem Bs.mid (hc : l.length ≤ c) (hl : l.length ≤ 1000000) (hx : ∀ x ∈ l, x < 256) (h : w.rangeAt b off (bts l)) : Bs w (.slice (some ⟨b, off, none⟩) l.length c) l :=
 ⟨_, c, rfl, hc, by omega, hx, fun _ => ⟨b, off, rfl, fun k hk => h k _ (by unfold bts; rw [List.getElem?_map, List.getElem?_eq_getElem hk, List.getD_eq_getElem?_getD, List.getElem?_eq_getElem hk]; rfl)⟩⟩
theorem range_take (s : Nat) (h : w.rangeAt b off (bts l)) : w.rangeAt b off (bts (l.take s)) := fun j v hv => by
 unfold bts at hv
 rw [List.map_take, List.getElem?_take] at hv
 split at hv
 · exact h j v hv
 · cases hv
theorem range_drop (s : Nat) (h : w.rangeAt b off (bts l)) : w.rangeAt b (off + s) (bts (l.drop s)) := fun j v hv => by
 unfold bts at hv
 rw [List.map_drop, List.getElem?_drop] at hv
 rw [Nat.add_assoc]
 exact h (s + j) v hv
theorem take_any (q b off c s : Nat) (l : List Nat) (w : World) (hq : w.heap[q]? = some (.cells #[.slice (some ⟨b, off, none⟩) l.length c] 31 (0, 0))) (h0 : c ≤ 1000) (hx : ∀ x ∈ l, x < 256) (hr : w.rangeAt b off (bts l)) (hs : s ≤ l.length) (h1 : s < c) :
 Calls Tryz.prog 197 #[.int .i64 s, .pointer (some ⟨q, 0, none⟩)] w fun e w' => e = .returned (.int .u64 (ofB (l.take s) : Nat)) ∧ w' = w.setCell ⟨q, 0, none⟩ (.slice (some ⟨b, off + s, none⟩) (l.length - s) (c - s)) := by
 have hb : Bs w (.slice (some ⟨b, off, none⟩) (l.take s).length c) (l.take s) := Bs.mid (by rw [List.length_take]; omega) (by rw [List.length_take]; omega) (fun x h => hx x (List.mem_of_mem_take h)) (range_take s hr)
 rw [List.length_take, Nat.min_eq_left hs] at hb
 have c0 : w.cell? ⟨q, 0, none⟩ = some (.slice (some ⟨b, off, none⟩) l.length c) := by simp [World.cell?, hq]
 have fz : w.frozen? ⟨q, 0, none⟩ = false := by simp [World.frozen?, hq]
 go_enter Tryz.func197, Tryz.ntmps197
 go_wp2_with fail
 refine (of_num _ (l.take s) w hb).mono ?_
 rintro e w' ⟨rfl, rfl⟩
 have h2 : ¬ c = s := by omega
 clear hb hr hx
 go_wp2
 go_ret
 exact ⟨rfl, rfl⟩
structure RtS (w0 w : World) (q b off c : Nat) (l : List Nat) (vals : Array Value) : Prop where
 box : w.heap[q]? = some (.cells #[.slice (some ⟨b, off, none⟩) l.length c] 31 (0, 0))
 res : w.heap[q + 1]? = some (.cells #[.int .i64 0, .int .i64 0, .int .i64 0, .int .u64 0, .int .i64 0, .int .i64 0] 107 (0, 0))
 rv : w.heap[q + 1 + 1]? = some (.cells vals 107 (0, 0))
 below : Below q w0 w
 rng : w.rangeAt b off (bts l)
 lt : b < q
theorem heap_setCell_at {j : Nat} {cs : Array Value} {t : TypeId} (h : w.heap[b]? = some (.cells cs t (0, 0))) (v : Value) : (w.setCell ⟨b, j, none⟩ v).heap[b]? = some (.cells (cs.setIfInBounds j v) t (0, 0)) := by
 simp [World.setCell, Array.getElem?_modify, h]
theorem range_set {l : List Value} (h : w.rangeAt b off l) {a : Addr} (ha : b ≠ a.block) (v : Value) : (w.setCell a v).rangeAt b off l := fun j u hu => by
 have := h j u hu
 rw [← this]
 exact World.cell?_of_block (blk_setCell_other _ _ _ _ ha)
theorem RtS.step (h : RtS w0 w q b off c l vals) (s j : Nat) (v : Value) :
 RtS w0 ((w.setCell ⟨q, 0, none⟩ (.slice (some ⟨b, off + s, none⟩) (l.length - s) (c - s))).setCell ⟨q + 1 + 1, j, none⟩ v) q b (off + s) (c - s) (l.drop s) (vals.setIfInBounds j v) := by
 obtain ⟨h1, h2, h3, h4, h5, h6⟩ := h
 refine ⟨?_, ?_, ?_, ?_, ?_, h6⟩
 · rw [blk_setCell_other _ _ _ _ (by show q ≠ q + 1 + 1; omega), heap_setCell_at h1, List.length_drop]; rfl
 · rw [blk_setCell_other _ _ _ _ (by show q + 1 ≠ q + 1 + 1; omega), blk_setCell_other _ _ _ _ (by show q + 1 ≠ q; omega)]; exact h2
 · exact heap_setCell_at ((blk_setCell_other _ _ _ _ (by show q + 1 + 1 ≠ q; omega)).trans h3) v
 · exact (h4.setCell (p := ⟨q, 0, none⟩) (Nat.le_refl _) _).setCell (p := ⟨q + 1 + 1, j, none⟩) (by show q ≤ q + 1 + 1; omega) _
 · exact range_set (range_set (range_drop s h5) (by show b ≠ q; omega) _) (by show b ≠ q + 1 + 1; omega) _
theorem RtS.cells (h : RtS w0 w q b off c l vals) (s j : Nat) (u : Value) (hj : vals[j]? = some u) :
 (w.setCell ⟨q, 0, none⟩ (.slice (some ⟨b, off + s, none⟩) (l.length - s) (c - s))).cell? ⟨q + 1 + 1, j, none⟩ = some u ∧ (w.setCell ⟨q, 0, none⟩ (.slice (some ⟨b, off + s, none⟩) (l.length - s) (c - s))).frozen? ⟨q + 1 + 1, j, none⟩ = false := by
 have e : (w.setCell ⟨q, 0, none⟩ (.slice (some ⟨b, off + s, none⟩) (l.length - s) (c - s))).heap[q + 1 + 1]? = _ := (blk_setCell_other _ _ _ _ (by show q + 1 + 1 ≠ q; omega)).trans h.rv
 exact ⟨by simp [World.cell?, e, hj], by simp [World.frozen?, e]⟩
theorem ofB_small : ∀ (l : List Nat), l.length ≤ 7 → (∀ x ∈ l, x < 256) → ofB l < 256 ^ l.length := by
 intro l hl hx
 induction hn : l.length generalizing l with
 | zero =>
  have : l = [] := List.eq_nil_of_length_eq_zero hn
  subst this; decide
 | succ n ih =>
  rcases List.eq_nil_or_concat l with rfl | ⟨l', x, rfl⟩
  · simp at hn
  · rw [List.concat_eq_append] at *
    simp at hn
    have h0 : l'.length ≤ 7 := by simp at hl; omega
    have h1 := ih l' h0 (fun y hy => hx y (by simp [hy])) hn
    have h2 := hx x (by simp)
    rw [ofB_snoc, Nat.pow_succ]
    exact Nat.lt_of_le_of_lt (Nat.mod_le _ _) (by omega)
theorem rootOf_any (b off : Nat) (l : List Nat) (w : World) (hl : l.length = 59) (hx : ∀ x ∈ l, x < 256) (hr : w.rangeAt b off (bts l)) (hb : b < w.heap.size) :
 Calls Tryz.prog 185 #[.slice (some ⟨b, off, none⟩) l.length 59] w fun e w' => e = .returned (.agg (rootA (ofB (l.take 1)) (ofB ((l.drop 1).take 1)) (ofB ((l.drop 2).take 1)) (ofB ((l.drop 3).take 8)) (ofB ((l.drop 11).take 4)) (ofB ((l.drop 15).take 4)))) ∧ Below w.heap.size w w' := by
 have kn : ∀ (fn : Fn) (first cap : Array Value) (w : World), (Instr.makeFunc fn first cap).run Tryz.prog w = .ok (.func fn first cap) w := fun _ _ _ _ => rfl
 have hf : ∀ s, ∀ x ∈ l.drop s, x < 256 := fun s x h => hx x (List.mem_of_mem_drop h)
 have hq : ∀ s k, k ≤ 7 → ofB ((l.drop s).take k) < 256 ^ k := fun s k hk => by
  have hg : ((l.drop s).take k).length ≤ k := by rw [List.length_take]; omega
  exact Nat.lt_of_lt_of_le (ofB_small _ (by omega) (fun x h => hf s x (List.mem_of_mem_take h))) (Nat.pow_le_pow_right (by decide) hg)
 have h0 : RtS w (((w.alloc (.cells #[.slice (some ⟨b, off, none⟩) l.length 59] 31)).alloc (.cells #[.int .i64 0, .int .i64 0, .int .i64 0, .int .u64 0, .int .i64 0, .int .i64 0] 107)).alloc (.cells #[.int .i64 0, .int .i64 0, .int .i64 0, .int .u64 0, .int .i64 0, .int .i64 0] 107)) w.heap.size b off 59 l #[.int .i64 0, .int .i64 0, .int .i64 0, .int .u64 0, .int .i64 0, .int .i64 0] := by
  refine ⟨?_, ?_, ?_, (((Below.refl _ w).alloc (Nat.le_refl _) _).alloc (by simp) _).alloc (by simp; omega) _, World.rangeAt_alloc (World.rangeAt_alloc (World.rangeAt_alloc hr _) _) _, hb⟩
  · rw [blk_alloc_lt _ _ _ (by simp; omega), blk_alloc_lt _ _ _ (by simp)]; exact blk_alloc_new _ _
  · rw [blk_alloc_lt _ _ _ (by simp)]
    have := blk_alloc_new (w.alloc (.cells #[.slice (some ⟨b, off, none⟩) l.length 59] 31)) (.cells #[.int .i64 0, .int .i64 0, .int .i64 0, .int .u64 0, .int .i64 0, .int .i64 0] 107)
    simpa using this
  · have := blk_alloc_new ((w.alloc (.cells #[.slice (some ⟨b, off, none⟩) l.length 59] 31)).alloc (.cells #[.int .i64 0, .int .i64 0, .int .i64 0, .int .u64 0, .int .i64 0, .int .i64 0] 107)) (.cells #[.int .i64 0, .int .i64 0, .int .i64 0, .int .u64 0, .int .i64 0, .int .i64 0] 107)
    simpa using this
 obtain ⟨w1, hs⟩ : ∃ w1, ((w.alloc (.cells #[.slice (some ⟨b, off, none⟩) l.length 59] 31)).alloc (.cells #[.int .i64 0, .int .i64 0, .int .i64 0, .int .u64 0, .int .i64 0, .int .i64 0] 107)).alloc (.cells #[.int .i64 0, .int .i64 0, .int .i64 0, .int .u64 0, .int .i64 0, .int .i64 0] 107) = w1 := ⟨_, rfl⟩
 rw [hs] at h0
 have HX := hide3 hf hq hl
 have H0 : Hid (RtS w w1 w.heap.size b (off + 0) 59 (l.drop 0) #[.int .i64 0, .int .i64 0, .int .i64 0, .int .u64 0, .int .i64 0, .int .i64 0]) := h0
 clear h0 hr hx hf hq hl hb
 go_enter Tryz.func185, Tryz.ntmps185
 go_wp2_with fail
 obtain ⟨x0, hi⟩ : ∃ x, ofB ((l.drop 0).take 1) = x := ⟨_, rfl⟩
 have b0 : x0 < 4294967296 := Nat.lt_of_lt_of_le (hi ▸ HX.out.2.1 0 1 (by decide)) (by decide)
 have h1 := H0.out
 refine (take_any w.heap.size b (off + 0) 59 1 (l.drop 0) w1 h1.box (by decide) (HX.out.1 0) h1.rng (by rw [List.length_drop, HX.out.2.2]; decide) (by decide)).mono ?_
 rintro e y0 ⟨rfl, hy⟩
 rw [hi]
 have h2 := h1.step 1 0 (.int .i64 (x0 : Nat))
 obtain ⟨cc0, ff0⟩ := h1.cells 1 0 _ rfl
 rw [← hy] at h2 cc0 ff0
 clear hy
 obtain ⟨w2, hz⟩ : ∃ z, y0.setCell ⟨w.heap.size + 1 + 1, 0, none⟩ (.int .i64 (x0 : Nat)) = z := ⟨_, rfl⟩
 rw [hz] at h2
 have k0 : RtS w w2 w.heap.size b (off + 1) 58 (l.drop 1) #[.int .i64 (x0 : Nat), .int .i64 0, .int .i64 0, .int .u64 0, .int .i64 0, .int .i64 0] := by
  rw [List.drop_drop, Nat.add_assoc off] at h2; exact h2
 have H1 := hide k0
 clear h1 h2 k0
 go_wp2_with fail
 obtain ⟨x1, hj⟩ : ∃ x, ofB ((l.drop 1).take 1) = x := ⟨_, rfl⟩
 have b1 : x1 < 4294967296 := Nat.lt_of_lt_of_le (hj ▸ HX.out.2.1 1 1 (by decide)) (by decide)
 have h3 := H1.out
 refine (take_any w.heap.size b (off + 1) 58 1 (l.drop 1) w2 h3.box (by decide) (HX.out.1 1) h3.rng (by rw [List.length_drop, HX.out.2.2]; decide) (by decide)).mono ?_
 rintro e y1 ⟨rfl, k5⟩
 rw [hj]
 have h4 := h3.step 1 1 (.int .i64 (x1 : Nat))
 obtain ⟨cc1, ff1⟩ := h3.cells 1 1 _ rfl
 rw [← k5] at h4 cc1 ff1
 clear k5
 obtain ⟨w3, k6⟩ : ∃ z, y1.setCell ⟨w.heap.size + 1 + 1, 1, none⟩ (.int .i64 (x1 : Nat)) = z := ⟨_, rfl⟩
 rw [k6] at h4
 have k7 : RtS w w3 w.heap.size b (off + 2) 57 (l.drop 2) #[.int .i64 (x0 : Nat), .int .i64 (x1 : Nat), .int .i64 0, .int .u64 0, .int .i64 0, .int .i64 0] := by
  rw [List.drop_drop, Nat.add_assoc off] at h4; exact h4
 have H2 := hide k7
 clear h3 h4 k7
 go_wp2_with fail
 obtain ⟨x2, hm⟩ : ∃ x, ofB ((l.drop 2).take 1) = x := ⟨_, rfl⟩
 have b2 : x2 < 4294967296 := Nat.lt_of_lt_of_le (hm ▸ HX.out.2.1 2 1 (by decide)) (by decide)
 have h5 := H2.out
 refine (take_any w.heap.size b (off + 2) 57 1 (l.drop 2) w3 h5.box (by decide) (HX.out.1 2) h5.rng (by rw [List.length_drop, HX.out.2.2]; decide) (by decide)).mono ?_
 rintro e y2 ⟨rfl, k8⟩
 rw [hm]
 have h6 := h5.step 1 2 (.int .i64 (x2 : Nat))
 obtain ⟨cc2, ff2⟩ := h5.cells 1 2 _ rfl
 rw [← k8] at h6 cc2 ff2
 clear k8
 obtain ⟨w4, k9⟩ : ∃ z, y2.setCell ⟨w.heap.size + 1 + 1, 2, none⟩ (.int .i64 (x2 : Nat)) = z := ⟨_, rfl⟩
 rw [k9] at h6
 have ka : RtS w w4 w.heap.size b (off + 3) 56 (l.drop 3) #[.int .i64 (x0 : Nat), .int .i64 (x1 : Nat), .int .i64 (x2 : Nat), .int .u64 0, .int .i64 0, .int .i64 0] := by
  rw [List.drop_drop, Nat.add_assoc off] at h6; exact h6
 have H3 := hide ka
 clear h5 h6 ka
 go_wp2_with fail
 obtain ⟨x3, kb⟩ : ∃ x, ofB ((l.drop 3).take 8) = x := ⟨_, rfl⟩
 have h7 := H3.out
 refine (take_any w.heap.size b (off + 3) 56 8 (l.drop 3) w4 h7.box (by decide) (HX.out.1 3) h7.rng (by rw [List.length_drop, HX.out.2.2]; decide) (by decide)).mono ?_
 rintro e y3 ⟨rfl, kc⟩
 rw [kb]
 have h8 := h7.step 8 3 (.int .u64 (x3 : Nat))
 obtain ⟨cc3, ff3⟩ := h7.cells 8 3 _ rfl
 rw [← kc] at h8 cc3 ff3
 clear kc
 obtain ⟨w5, kd⟩ : ∃ z, y3.setCell ⟨w.heap.size + 1 + 1, 3, none⟩ (.int .u64 (x3 : Nat)) = z := ⟨_, rfl⟩
 rw [kd] at h8
 have ke : RtS w w5 w.heap.size b (off + 11) 48 (l.drop 11) #[.int .i64 (x0 : Nat), .int .i64 (x1 : Nat), .int .i64 (x2 : Nat), .int .u64 (x3 : Nat), .int .i64 0, .int .i64 0] := by
  rw [List.drop_drop, Nat.add_assoc off] at h8; exact h8
 have H4 := hide ke
 clear h7 h8 ke
 go_wp2_with fail
 obtain ⟨x4, hn⟩ : ∃ x, ofB ((l.drop 11).take 4) = x := ⟨_, rfl⟩
 have b4 : x4 < 4294967296 := Nat.lt_of_lt_of_le (hn ▸ HX.out.2.1 11 4 (by decide)) (by decide)
 have h9 := H4.out
 refine (take_any w.heap.size b (off + 11) 48 4 (l.drop 11) w5 h9.box (by decide) (HX.out.1 11) h9.rng (by rw [List.length_drop, HX.out.2.2]; decide) (by decide)).mono ?_
 rintro e y4 ⟨rfl, kf⟩
 rw [hn]
 have ha := h9.step 4 4 (.int .i64 (x4 : Nat))
 obtain ⟨cc4, ff4⟩ := h9.cells 4 4 _ rfl
 rw [← kf] at ha cc4 ff4
 clear kf
 obtain ⟨w6, kg⟩ : ∃ z, y4.setCell ⟨w.heap.size + 1 + 1, 4, none⟩ (.int .i64 (x4 : Nat)) = z := ⟨_, rfl⟩
 rw [kg] at ha
 have kh : RtS w w6 w.heap.size b (off + 15) 44 (l.drop 15) #[.int .i64 (x0 : Nat), .int .i64 (x1 : Nat), .int .i64 (x2 : Nat), .int .u64 (x3 : Nat), .int .i64 (x4 : Nat), .int .i64 0] := by
  rw [List.drop_drop, Nat.add_assoc off] at ha; exact ha
 have H5 := hide kh
 clear h9 ha kh
 go_wp2_with fail
 obtain ⟨x5, hp⟩ : ∃ x, ofB ((l.drop 15).take 4) = x := ⟨_, rfl⟩
 have b5 : x5 < 4294967296 := Nat.lt_of_lt_of_le (hp ▸ HX.out.2.1 15 4 (by decide)) (by decide)
 have hc := H5.out
 refine (take_any w.heap.size b (off + 15) 44 4 (l.drop 15) w6 hc.box (by decide) (HX.out.1 15) hc.rng (by rw [List.length_drop, HX.out.2.2]; decide) (by decide)).mono ?_
 rintro e y5 ⟨rfl, ki⟩
 rw [hp]
 have he := hc.step 4 5 (.int .i64 (x5 : Nat))
 obtain ⟨cc5, ff5⟩ := hc.cells 4 5 _ rfl
 rw [← ki] at he cc5 ff5
 clear ki
 obtain ⟨w7, kk⟩ : ∃ z, y5.setCell ⟨w.heap.size + 1 + 1, 5, none⟩ (.int .i64 (x5 : Nat)) = z := ⟨_, rfl⟩
 rw [kk] at he
 have kj : RtS w w7 w.heap.size b (off + 19) 40 (l.drop 19) #[.int .i64 (x0 : Nat), .int .i64 (x1 : Nat), .int .i64 (x2 : Nat), .int .u64 (x3 : Nat), .int .i64 (x4 : Nat), .int .i64 (x5 : Nat)] := by
  rw [List.drop_drop, Nat.add_assoc off] at he; exact he
 have H6 := hide kj
 clear hc he kj
 have g0 : w7.cell? ⟨w.heap.size + 1 + 1, 0, none⟩ = some (.int .i64 (x0 : Nat)) := by simp [World.cell?, H6.out.rv]
 have g1 : w7.cell? ⟨w.heap.size + 1 + 1, 1, none⟩ = some (.int .i64 (x1 : Nat)) := by simp [World.cell?, H6.out.rv]
 have g2 : w7.cell? ⟨w.heap.size + 1 + 1, 2, none⟩ = some (.int .i64 (x2 : Nat)) := by simp [World.cell?, H6.out.rv]
 have g3 : w7.cell? ⟨w.heap.size + 1 + 1, 3, none⟩ = some (.int .u64 (x3 : Nat)) := by simp [World.cell?, H6.out.rv]
 have g4 : w7.cell? ⟨w.heap.size + 1 + 1, 4, none⟩ = some (.int .i64 (x4 : Nat)) := by simp [World.cell?, H6.out.rv]
 have g5 : w7.cell? ⟨w.heap.size + 1 + 1, 5, none⟩ = some (.int .i64 (x5 : Nat)) := by simp [World.cell?, H6.out.rv]
 have r0 : w7.cell? ⟨w.heap.size + 1, 0, none⟩ = some (.int .i64 0) := by simp [World.cell?, H6.out.res]
 have r1 : w7.cell? ⟨w.heap.size + 1, 1, none⟩ = some (.int .i64 0) := by simp [World.cell?, H6.out.res]
 have r2 : w7.cell? ⟨w.heap.size + 1, 2, none⟩ = some (.int .i64 0) := by simp [World.cell?, H6.out.res]
 have r3 : w7.cell? ⟨w.heap.size + 1, 3, none⟩ = some (.int .u64 0) := by simp [World.cell?, H6.out.res]
 have r4 : w7.cell? ⟨w.heap.size + 1, 4, none⟩ = some (.int .i64 0) := by simp [World.cell?, H6.out.res]
 have r5 : w7.cell? ⟨w.heap.size + 1, 5, none⟩ = some (.int .i64 0) := by simp [World.cell?, H6.out.res]
 have rf : ∀ k, w7.frozen? ⟨w.heap.size + 1, k, none⟩ = false := fun k => by simp [World.frozen?, H6.out.res]
 have f0 := rf 0
 have f1 := rf 1
 have f2 := rf 2
 have f3 := rf 3
 have f4 := rf 4
 have f5 := rf 5
 clear rf hs hz k6 k9 kd kg cc0 cc1 cc2 cc3 cc4 ff0 ff1 ff2 ff3 ff4 H0 H1 H2 H3 H4 H5
 go_wp2
 have hh := heap_setCell_at (j := 5) (heap_setCell_at (j := 4) (heap_setCell_at (j := 3) (heap_setCell_at (j := 2) (heap_setCell_at (j := 1) (heap_setCell_at (j := 0) H6.out.res (.int .i64 (x0 : Nat))) (.int .i64 (x1 : Nat))) (.int .i64 (x2 : Nat))) (.int .u64 (x3 : Nat))) (.int .i64 (x4 : Nat))) (.int .i64 (x5 : Nat))
 refine bodyPost_ret (v := .agg (rootA x0 x1 x2 x3 x4 x5)) (results_cell_row Tryz.results185 _ _ (w.heap.size + 1) 107 (rootA x0 x1 x2 x3 x4 x5) (0, 0) _ rfl hh Tryz.underlying107 rfl (by kernel_rfl)) rfl ?_
 have km := H6.out.below
 refine ⟨?_, (((((km.setCell (p := ⟨w.heap.size + 1, 0, none⟩) (by show w.heap.size ≤ w.heap.size + 1; omega) _).setCell (p := ⟨w.heap.size + 1, 1, none⟩) (by show w.heap.size ≤ w.heap.size + 1; omega) _).setCell (p := ⟨w.heap.size + 1, 2, none⟩) (by show w.heap.size ≤ w.heap.size + 1; omega) _).setCell (p := ⟨w.heap.size + 1, 3, none⟩) (by show w.heap.size ≤ w.heap.size + 1; omega) _).setCell (p := ⟨w.heap.size + 1, 4, none⟩) (by show w.heap.size ≤ w.heap.size + 1; omega) _).setCell (p := ⟨w.heap.size + 1, 5, none⟩) (by show w.heap.size ≤ w.heap.size + 1; omega) _⟩
 rw [← hi, ← hj, ← hm, ← kb, ← hn, ← hp, List.drop_zero]
end Go.Proofs.YtpaemkanfnddoaaGreatDoor
